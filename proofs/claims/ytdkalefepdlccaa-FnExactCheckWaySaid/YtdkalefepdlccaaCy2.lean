/-
  CheckWay: the program's answer.
-/
import Derived.Test.YtdkalefepdlccaaCy1
import Derived.Test.YtdkalefepdlccaaSt4
import Derived.Deep.CutRange
namespace Go.Proofs.Ytdkalefepdlccaa
open Go.RowKit

theorem ret_biC {a c : Bool} {b d : Int} (h : a = c) (k : b = d) : Ending.returned (.tuple #[.bool a, .int .i64 b]) = .returned (.tuple #[.bool c, .int .i64 d]) := by rw [h, k]
def wayGo (r : WData) (s : ByteArray) : List (Int × Int) → Bool → List (Int × Int) → Bool
  | _, takes, [] => takes
  | cand, _, p :: ps => if hasPl cand p = true then wayGo r s (nextOf p.2 (moveList r s p.1.toNat p.2.toNat)) (takeOf (moveList r s p.1.toNat p.2.toNat)) ps else false
def wayRes (r : WData) (s : ByteArray) (l : List (Int × Int)) : Bool × Int :=
  if givenW r s = 0 then (if l.all (placeInW r s) = true then (wayGo r s (firstsOf r.st) false l, 0) else (false, 2)) else (false, 1)
theorem drop_at {α : Type} {l : List α} {k : Nat} {x : α} (h : l[k]? = some x) : l.drop k = x :: l.drop (k + 1) := by
  obtain ⟨hk, rfl⟩ := List.getElem?_eq_some_iff.1 h
  exact List.drop_eq_getElem_cons hk
theorem wayGo_step {r : WData} {s : ByteArray} {cand : List (Int × Int)} {tk : Bool} {l : List (Int × Int)} {k q a : Nat} (h : l[k]? = some ((q : Int), (a : Int))) (hc : hasPl cand ((q : Int), (a : Int)) = true) :
    wayGo r s cand tk (l.drop k) = wayGo r s (nextOf (a : Int) (moveList r s q a)) (takeOf (moveList r s q a)) (l.drop (k + 1)) := by
  rw [drop_at h, wayGo, if_pos hc]; rfl
theorem wayGo_no {r : WData} {s : ByteArray} {cand : List (Int × Int)} {tk : Bool} {l : List (Int × Int)} {k : Nat} {p : Int × Int} (h : l[k]? = some p) (hc : hasPl cand p = false) : wayGo r s cand tk (l.drop k) = false := by
  rw [drop_at h, wayGo, if_neg (by simp [hc])]
theorem wayGo_end {r : WData} {s : ByteArray} {cand : List (Int × Int)} {tk : Bool} {l : List (Int × Int)} {k : Nat} (h : ¬ k < l.length) : wayGo r s cand tk (l.drop k) = tk := by
  rw [List.drop_of_length_le (by omega)]; rfl
theorem rises_ge {n : Int} {l : List Int} (h : rises n l = true) : ∀ k, k < l.length → (k : Int) ≤ l.getD k 0 := by
  intro k
  induction k with
  | zero =>
    intro hk
    have := List.all_eq_true.1 h 0 (List.mem_range.2 hk)
    simp only [riseAt, Bool.and_eq_true, within, decide_eq_true_eq] at this
    exact this.1.1
  | succ k ih =>
    intro hk
    have h1 := List.all_eq_true.1 h (k + 1) (List.mem_range.2 hk)
    have h2 := ih (by omega)
    simp only [riseAt, Bool.and_eq_true, Bool.or_eq_true, decide_eq_true_eq, Nat.add_sub_cancel] at h1
    rcases h1.2 with h3 | h3
    · omega
    · omega
theorem rises_len {n : Int} {l : List Int} (h : rises n l = true) : (l.length : Int) ≤ n ∨ l.length = 0 := by
  by_cases h0 : l.length = 0
  · exact .inr h0
  · left
    have h1 := rises_ge h (l.length - 1) (by omega)
    have h2 := List.all_eq_true.1 h (l.length - 1) (List.mem_range.2 (by omega))
    simp only [riseAt, Bool.and_eq_true, within, decide_eq_true_eq] at h2
    omega
theorem pl_all_take {p : Int × Int → Bool} {l : List (Int × Int)} {k : Nat} {c : Int × Int} (h : (l.take k).all p = true) (hc : l[k]? = some c) (hp : p c = true) : (l.take (k + 1)).all p = true := by
  rw [take_succ_of hc, List.all_append, h]; simp [hp]
theorem pl_all_not {p : Int × Int → Bool} {l : List (Int × Int)} {k : Nat} {c : Int × Int} (hc : l[k]? = some c) (hp : p c = false) : l.all p = false := by
  rw [List.all_eq_false]; exact ⟨c, List.mem_of_getElem? hc, by simp [hp]⟩

set_option maxRecDepth 100000 in
set_option maxHeartbeats 3200000 in
theorem implCheckWay_any (v v2 : Value) (r : WData) (s : ByteArray) (l : List (Int × Int)) (w : World) (h : RdW w v r) (h2 : RdP w v2 l) (hs : s.size ≤ 140737488351232) :
    Calls Try.prog 58 #[v, .string s, v2] w fun e w' => e = .returned (.tuple #[.bool (wayRes r s l).1, .int .i64 (wayRes r s l).2]) ∧ Below w.heap.size w w' := by
  obtain ⟨A, ka, B, kb, rfl⟩ := h.shape
  have hbox := Row.new w [.int .i64 r.L, .slice A r.st.length ka, .slice B r.mv.length kb] 68
  have HB0 := Lib.hid (below_alloc w (.cells #[.int .i64 r.L, .slice A r.st.length ka, .slice B r.mv.length kb] 68))
  have HR0 := Lib.hid hbox
  have HK := Lib.hid (fun W (hb : Below w.heap.size w W) => keepsW _ _ _ _ h hb)
  have HG := Lib.hid (fun W (hb : Below w.heap.size w W) => wanderCode_any _ r s W (keepsW _ _ _ _ h hb) (by unfold maxLen; omega))
  obtain ⟨A2, k2, rfl, b1, b2, b3⟩ := RdP.open h2
  unfold maxLen at b2
  clear hbox h h2
  go_enter Try.func58, Try.ntmps58
  go_wp2_with fail
  refine (HG.out _ HB0.out).mono ?_
  generalize w.alloc (.cells #[.int .i64 r.L, .slice A r.st.length ka, .slice B r.mv.length kb] 68) = w0 at *
  rintro e w1 ⟨rfl, hb⟩
  have HB1 := Lib.hid (below_step HB0.out hb)
  have HR1 := Lib.hid (HR0.out.below hb HR0.out.lt)
  clear hb HR0
  by_cases hg : givenW r s = 0
  · obtain ⟨okw, oks⟩ := givenW_zero hg
    have ok := okW_out okw
    have hsp := okWord_parts oks
    have hs60 : s.size ≤ 60 := hsp.1
    have HOK := Lib.hid (show _ ∧ _ ∧ _ from ⟨ok, hsp.2, hg⟩)
    have hmv5 : (r.mv.length : Int) ≤ 5 := by have := okw; unfold okW at this; simp only [Bool.and_eq_true, decide_eq_true_eq] at this; omega
    rw [hg]
    clear okw oks ok hsp hg
    go_wp2
    go_loopw [23] (fun i wr => ∃ k : Nat, k ≤ l.length ∧ i = .int .i64 k ∧ Below w1.heap.size w1 wr ∧ (l.take k).all (placeInW r s) = true) (fun i _ => l.length - (intOf i).toNat)
    case atStart => exact ⟨0, Nat.zero_le _, rfl, Below.refl _ _, by simp⟩
    case round =>
      obtain ⟨k, hk, rfl, hb, hp⟩ := hrel
      have HP := Lib.hid hp; clear hp
      have HQ := Lib.hid hb
      by_cases hlt : k < l.length
      · obtain ⟨b, off, px, py, rfl, hq, hc0, hc1⟩ := b3 k hlt
        have hc0' := below_keep (below_step HB1.out hb) hc0
        have hc1' := below_keep (below_step HB1.out hb) hc1
        have HX := Lib.hid hq
        have i1 : (0 : Int) ≤ k := by omega
        have i2 : (k : Int) < l.length := by omega
        have hrow := HR1.out.below hb HR1.out.lt
        have HRW := Lib.hid (hrow.alloc (.cells #[.int .i64 px, .int .i64 py] 70))
        have HPB := Lib.hid (show _ ∧ _ from ⟨Row.new wr [.int .i64 px, .int .i64 py] 70, below_step HQ.out (below_alloc wr (.cells #[.int .i64 px, .int .i64 py] 70))⟩)
        have HPL := Lib.hid (fun W => isPlace_any px py r.mv.length s W hs60)
        have HSN := Lib.hid (fun W (hb : Below w1.heap.size w1 W) => statesW_any _ r W (HK.out W (below_step HB1.out hb)))
        clear hc0 hc1 b3 hb hq hrow
        go_upto_region 7 with fail
        generalize wr.alloc (.cells #[.int .i64 px, .int .i64 py] 70) = w2 at *
        obtain ⟨⟨c0, c1, c2⟩, -⟩ := HRW.out.three
        obtain ⟨⟨d0, d1⟩, -⟩ := HPB.out.1.two
        generalize wr.heap.size = pb at *
        obtain ⟨y, hy⟩ : ∃ y, (within px 0 ((r.mv.length : Int) - 1) && within py 0 ((s.size : Int) + 1)) = y := ⟨_, rfl⟩
        rw [hy] at HPL
        have HY := Lib.hid (show placeInW r s (px, py) = y from hy); clear hy
        go_region_held3 (fun W => W.cell? ⟨w.heap.size, 0, none⟩ = some (.int .i64 r.L) ∧ W.cell? ⟨w.heap.size, 1, none⟩ = some (.slice A r.st.length ka) ∧ W.cell? ⟨w.heap.size, 2, none⟩ = some (.slice B r.mv.length kb) ∧ W.cell? ⟨pb, 0, none⟩ = some (.int .i64 px) ∧ W.cell? ⟨pb, 1, none⟩ = some (.int .i64 py))
          (first | go_keep | (go_split_ands; refine ⟨?_, ?_, ?_, ?_, ?_⟩ <;> (first | assumption | exact below_keep hbk (by assumption))))
          (first
            | (go_at_call 89; (with_reducible refine (HSN.out _ ?_).mono ?_); (first | exact HPB.out.2 | exact HPB.out.2.drew | exact below_drewN HPB.out.2 _); rintro e wy ⟨rfl, hbk⟩; have HCy := Lib.hid (show Below w2.heap.size w2 wy from below_step (by first | exact Below.refl _ _ | exact below_drew _ | exact below_drewN' _ _) hbk))
            | (go_at_call 88; refine (HPL.out _).mono ?_; rintro e wz ⟨rfl, hbk⟩; have HCz := Lib.hid (show Below w2.heap.size w2 wz from below_step (by first | exact HCy.out | exact HCy.out.drew | exact below_drewN HCy.out _) hbk)))
        have HW := Lib.hid (below_step HPB.out.2 HCz.out)
        cases y
        · have HE := Lib.hid (show wayRes r s l = (false, 2) by rw [wayRes, if_pos HOK.out.2.2, if_neg (by rw [pl_all_not HX.out HY.out]; decide)])
          go_wp2
          go_ret2
          exact ⟨ret_biC (by rw [HE.out]) (by rw [HE.out]), below_step HB1.out HW.out⟩
        · go_wp2
          go_roundw
          case rel => exact ⟨k + 1, by omega, by go_num, HW.out, pl_all_take HP.out HX.out HY.out⟩
          case measure => simp [intOf]; omega
      · have HE0 := Lib.hid (show l.all (placeInW r s) = true by have := HP.out; rwa [List.take_of_length_le (by omega)] at this)
        have HE := Lib.hid (show wayRes r s l = (wayGo r s (firstsOf r.st) false l, 0) by rw [wayRes, if_pos HOK.out.2.2, if_pos HE0.out])
        have HFP := Lib.hid (firstPlaces_own _ r wr (HK.out wr (below_step HB1.out hb)) (by have a := rises_len HOK.out.1.rs; have b := HOK.out.1.n2; omega))
        have hrow := HR1.out.below hb HR1.out.lt
        obtain ⟨⟨c0, c1, c2⟩, -⟩ := hrow.three
        clear hb
        go_wp2_with fail
        refine HFP.out.mono ?_
        rintro e w3 ⟨u, bu, rfl, hu, hb3⟩
        have HRW3 := Lib.hid (hrow.below hb3 hrow.lt)
        have HB3 := Lib.hid (below_step (below_step HB1.out HQ.out) hb3)
        have HU := Lib.hid hu.rd
        obtain ⟨Bu, ku, rfl⟩ := hu.rd.shape
        clear hu hb3 hrow c0 c1 c2 HFP
        go_wp2
        go_loopw [11, 12, 38] (fun u t i wr => ∃ k : Nat, ∃ cand : List (Int × Int), ∃ tk : Bool, ∃ Bu ku, k ≤ l.length ∧ i = .int .i64 k ∧ u = .slice Bu cand.length ku ∧ t = .bool tk ∧ RdP wr (.slice Bu cand.length ku) cand ∧ Below w3.heap.size w3 wr ∧ wayGo r s (firstsOf r.st) false l = wayGo r s cand tk (l.drop k)) (fun _ _ i _ => l.length - (intOf i).toNat)
        case atStart => exact ⟨0, _, false, Bu, ku, Nat.zero_le _, rfl, rfl, rfl, HU.out, Below.refl _ _, by simp⟩
        case round =>
          obtain ⟨k, cand, tk, Bu2, ku2, hk2, rfl, rfl, rfl, hrd, hb4, hgo⟩ := hrel
          have HQ4 := Lib.hid hb4
          have HRD := Lib.hid hrd
          have HGO := Lib.hid hgo
          clear hgo
          by_cases hlt2 : k < l.length
          · obtain ⟨b, off, px, py, rfl, hq, hc0, hc1⟩ := b3 k hlt2
            have hc0' := below_keep (below_step HB3.out hb4) hc0
            have hc1' := below_keep (below_step HB3.out hb4) hc1
            have hpl := placeInW_parts (List.all_eq_true.1 HE0.out _ (List.mem_of_getElem? hq))
            simp only at hpl
            obtain ⟨q, rfl⟩ := Int.eq_ofNat_of_zero_le hpl.1.1
            obtain ⟨a, rfl⟩ := Int.eq_ofNat_of_zero_le hpl.2.1
            have hq2 : q < r.mv.length := by have := hpl.1.2; have := HOK.out.1.n1; omega
            have ha2 : a ≤ s.size + 1 := by have := hpl.2.2; omega
            have HX := Lib.hid hq
            have i1 : (0 : Int) ≤ k := by omega
            have i2 : (k : Int) < l.length := by omega
            have hrow := HRW3.out.below hb4 HRW3.out.lt
            have HRW4 := Lib.hid (hrow.alloc (.cells #[.int .i64 (q : Int), .int .i64 (a : Int)] 70))
            have HPB := Lib.hid (show _ ∧ _ from ⟨Row.new wr [.int .i64 (q : Int), .int .i64 (a : Int)] 70, below_step HQ4.out (below_alloc wr (.cells #[.int .i64 (q : Int), .int .i64 (a : Int)] 70))⟩)
            have HCT := Lib.hid (containsPl_any _ cand (q : Int) (a : Int) _ (keepsP _ _ _ _ hrd (below_alloc wr (.cells #[.int .i64 (q : Int), .int .i64 (a : Int)] 70))))
            have HNX := Lib.hid (fun W (hb : Below w3.heap.size w3 W) => next_own _ r s q a W (HK.out W (below_step HB3.out hb)) HOK.out.1 HOK.out.2.1 hs60 hq2 ha2)
            have HCP := Lib.hid (wayGo_step (r := r) (s := s) (cand := cand) (tk := tk) hq)
            have HCN := Lib.hid (wayGo_no (r := r) (s := s) (cand := cand) (tk := tk) hq)
            obtain ⟨y, hy⟩ : ∃ y, hasPl cand ((q : Int), (a : Int)) = y := ⟨_, rfl⟩
            rw [hy] at HCT HCP HCN
            clear hc0 hc1 b3 hb4 hq hrow hy hpl hrd
            go_upto_region 14 with fail
            generalize wr.alloc (.cells #[.int .i64 (q : Int), .int .i64 (a : Int)] 70) = w4 at *
            obtain ⟨⟨d0, d1⟩, -⟩ := HPB.out.1.two
            generalize wr.heap.size = pb at *
            cases y
            · go_wp2_with (go_at_call 95; refine HCT.out.mono ?_; rintro e w5 ⟨rfl, hb5⟩; have HB5 := Lib.hid (below_step HPB.out.2 hb5))
              go_ret2
              exact ⟨ret_biC (by rw [HE.out, HGO.out, HCN.out (by first | rfl | trivial)]) (by rw [HE.out]), below_step HB3.out HB5.out⟩
            · go_wp2_with fail
              refine HCT.out.mono ?_
              rintro e w5 ⟨rfl, hb5⟩
              have HB5 := Lib.hid (below_step HPB.out.2 hb5)
              obtain ⟨⟨c0, c1, c2⟩, -⟩ := (HRW4.out.below hb5 HRW4.out.lt).three
              have e0 := below_keep hb5 d0
              have e1 := below_keep hb5 d1
              clear hb5 d0 d1 hc0' hc1'
              go_wp2_with fail
              refine (HNX.out _ HB5.out).mono ?_
              rintro e w6 ⟨u6, bu6, rfl, hu6, hb6⟩
              have HU6 := Lib.hid (show _ ∧ _ from ⟨hu6.rd, below_step HB5.out hb6⟩)
              obtain ⟨Bu6, ku6, rfl⟩ := hu6.rd.shape
              clear hu6 hb6 c0 c1 c2 e0 e1
              go_wp2
              go_roundw
              case rel => exact ⟨k + 1, _, _, _, _, by omega, by go_num, rfl, rfl, HU6.out.1, HU6.out.2, by rw [HGO.out, HCP.out (by first | rfl | trivial)]⟩
              case measure => simp [intOf]; omega
          · clear hb4 b3 hrd
            go_wp2
            go_ret2
            exact ⟨ret_biC (by rw [HE.out, HGO.out, wayGo_end hlt2]) (by rw [HE.out]), below_step HB3.out HQ4.out⟩
  · have HE := Lib.hid (show wayRes r s l = (false, 1) by rw [wayRes, if_neg hg])
    have hg1 : givenW r s = 1 := by rcases givenW_or r s with h | h; exact absurd h hg; exact h
    rw [hg1]
    clear hg hg1
    go_wp2
    go_ret2
    exact ⟨ret_biC (by rw [HE.out]) (by rw [HE.out]), HB1.out⟩
end Go.Proofs.Ytdkalefepdlccaa
