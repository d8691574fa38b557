/-
  The model's test of a turner: true just for what 'okT' says.
-/
import Derived.Test.YtdkalefepdlccaaV1
namespace Go.Proofs.Ytdkalefepdlccaa
open Go.RowKit

def okMsTo (n L : Int) (row : List (Int × Int)) (k : Nat) : Bool := (List.range k).all fun (j : Nat) => okMove n L (j : Int) (row.getD j (0, 0))
def okMRow (n L : Int) (row : List (Int × Int)) : Bool := decide ((row.length : Int) = L + 2) && okMsTo n L row row.length
def okT (t : TData) : Bool := decide (1 ≤ t.L ∧ t.L ≤ 3) && (decide (1 ≤ (t.mv.length : Int) ∧ (t.mv.length : Int) ≤ 12) && (decide (0 ≤ t.S ∧ t.S ≤ (t.mv.length : Int) - 1) && t.mv.all (okMRow t.mv.length t.L)))

theorem okMsTo_succ {n L : Int} {row : List (Int × Int)} {k : Nat} {m : Int × Int} (hm : row[k]? = some m) (h : okMsTo n L row k = true) (hk : okMove n L (k : Int) m = true) : okMsTo n L row (k + 1) = true := by
  unfold okMsTo at h ⊢
  rw [List.range_succ, List.all_append, h]
  simp [List.getD, hm, hk]
theorem okMsTo_not {n L : Int} {row : List (Int × Int)} {k : Nat} {m : Int × Int} (hm : row[k]? = some m) (hk : okMove n L (k : Int) m = false) : okMsTo n L row row.length = false := by
  have hl := (List.getElem?_eq_some_iff.1 hm).1
  unfold okMsTo
  rw [List.all_eq_false]
  exact ⟨k, by simpa using hl, by simp [List.getD, hm, hk]⟩
theorem okT_row {t : TData} {s : Nat} {x : List (Int × Int)} (h : t.mv[s]? = some x) (d : okMRow t.mv.length t.L x = false) : okT t = false := by
  have : t.mv.all (okMRow t.mv.length t.L) = false := by
    rw [List.all_eq_false]
    exact ⟨x, List.mem_of_getElem? h, by simp [d]⟩
  simp only [okT, this, Bool.and_false]
theorem okT_all {t : TData} (d1 : decide (1 ≤ t.L ∧ t.L ≤ 3) = true) (d2 : decide (1 ≤ (t.mv.length : Int) ∧ (t.mv.length : Int) ≤ 12) = true) (d3 : decide (0 ≤ t.S ∧ t.S ≤ (t.mv.length : Int) - 1) = true)
    (d5 : t.mv.all (okMRow t.mv.length t.L) = true) : okT t = true := by
  simp only [okT, d1, d2, d3, d5, Bool.and_true]
theorem okRow_of {n L : Int} {x : List (Int × Int)} (h1 : (x.length : Int) = L + 2) (h2 : okMsTo n L x x.length = true) : okMRow n L x = true := by simp [okMRow, h1, h2]
theorem all_snoc {α : Type} {f : α → Bool} {l : List α} {i : Nat} {x : α} (hx : l[i]? = some x) (h : (l.take i).all f = true) (k : f x = true) : (l.take (i + 1)).all f = true := by
  rw [take_succ_of hx, List.all_append, h]; simp [k]

/-- A turner behind a pointer. -/
def AtT (w : World) (p : Nat) (t : TData) : Prop :=
  ∃ m, w.cell? ⟨p, 0, none⟩ = some (.int .i64 t.L) ∧ w.cell? ⟨p, 1, none⟩ = some (.int .i64 t.S) ∧ w.cell? ⟨p, 2, none⟩ = some m ∧ RdPP w m t.mv
theorem AtT.below {w w' : World} {p : Nat} {t : TData} (h : AtT w p t) (hb : Below w.heap.size w w') : AtT w' p t := by
  obtain ⟨m, c0, c1, c2, hm⟩ := h
  exact ⟨m, below_keep hb c0, below_keep hb c1, below_keep hb c2, keepsPP _ _ _ _ hm hb⟩

set_option maxHeartbeats 1600000 in
theorem l02Ok_any (p : Nat) (t : TData) (w : World) (h : AtT w p t) :
    Calls Try.prog 97 #[.pointer (some ⟨p, 0, none⟩)] w fun e w' => e = .returned (.bool (okT t)) ∧ Below w.heap.size w w' := by
  obtain ⟨L, S, mv⟩ := t
  obtain ⟨m, c0, c1, c2, hm⟩ := h
  obtain ⟨A, cap, rfl, a1, a2, a3⟩ := RdL.open hm
  unfold maxLen at a2
  simp only at *
  by_cases h1 : 1 ≤ L ∧ L ≤ 3
  · have d1 : decide (1 ≤ L ∧ L ≤ 3) = true := by simpa using h1
    by_cases h2 : 1 ≤ (mv.length : Int) ∧ (mv.length : Int) ≤ 12
    · have d2 : decide (1 ≤ (mv.length : Int) ∧ (mv.length : Int) ≤ 12) = true := by simpa using h2
      by_cases h3 : 0 ≤ S ∧ S ≤ (mv.length : Int) - 1
      · have d3 : decide (0 ≤ S ∧ S ≤ (mv.length : Int) - 1) = true := by simpa using h3
        obtain ⟨h1a, h1b⟩ := h1
        obtain ⟨h2a, h2b⟩ := h2
        have wL : IntKind.i64.wrap (L + 2) = L + 2 := IntWalk.i64_in _ (by omega)
        have WL := Lib.hid wL
        clear wL
        go_enter Try.func97, Try.ntmps97
        go_wp2_with (go_at_call 118; refine (l00In_any _ _ _ _).mono ?_; rintro e w' ⟨rfl, rfl⟩)
        go_loopw [4] (fun i wr => ∃ s : Nat, s ≤ mv.length ∧ i = .int .i64 s ∧ Below w.heap.size w wr ∧ (mv.take s).all (okMRow mv.length L) = true) (fun i _ => mv.length - (intOf i).toNat)
        case atStart => exact ⟨0, Nat.zero_le _, rfl, Below.refl _ _, by simp⟩
        case round =>
          obtain ⟨s, hs, rfl, hb, hp⟩ := hrel
          have HP := Lib.hid hp; clear hp
          have HB := Lib.hid hb
          by_cases hlt : s < mv.length
          · obtain ⟨b, off, u, x, rfl, hx, hc, hR⟩ := a3 s hlt
            obtain ⟨C, capx, rfl, x1, x2, x3⟩ := RdP.open hR
            unfold maxLen at x2
            have g0 := below_keep hb c0
            have g2 := below_keep hb c2
            have gc := below_keep hb hc
            have HX := Lib.hid hx
            have HC := Lib.hid (show _ ∧ _ ∧ _ from ⟨c0, c2, hc⟩)
            clear c0 c1 c2 hc hx hR hb a3
            have i1 : (0 : Int) ≤ s := by omega
            have i2 : (s : Int) < mv.length := by omega
            by_cases hxl : (x.length : Int) = L + 2
            · have d5 : ((x.length : Int) != L + 2) = false := by simpa using hxl
              have HXL := Lib.hid hxl
              have hle1 : (x.length : Int) ≤ L + 2 := by omega
              have hle2 : L + 2 ≤ (x.length : Int) := by omega
              clear hxl
              have wL := WL.out
              go_wp2
              go_quiet (fail)
              clear wL
              go_wp2
              go_loopw [5] (fun i wi => ∃ k : Nat, k ≤ x.length ∧ i = .int .i64 k ∧ Below w.heap.size w wi ∧ okMsTo mv.length L x k = true) (fun i _ => x.length - (intOf i).toNat)
              case atStart => exact ⟨0, Nat.zero_le _, rfl, by first | exact HB.out | exact HB.out.drew | exact below_drewN HB.out _, by simp [okMsTo]⟩
              case round =>
                clear g0 g2 gc
                obtain ⟨k, hk, rfl, hq, hp⟩ := hrel
                have HP2 := Lib.hid hp; clear hp
                have HQ := Lib.hid hq
                clear hq
                obtain ⟨c0, c2, hc⟩ := HC.out
                have g0 := below_keep HQ.out c0
                have g2 := below_keep HQ.out c2
                have gc := below_keep HQ.out hc
                clear c0 c2 hc
                by_cases hklt : k < x.length
                · obtain ⟨bx, offx, tx, ty, rfl, ht, hct, hdt⟩ := x3 k hklt
                  have gt := below_keep HQ.out hct
                  have gd := below_keep HQ.out hdt
                  have HT := Lib.hid ht
                  clear hct hdt ht x3
                  have j1 : (0 : Int) ≤ k := by omega
                  have j2 : (k : Int) < x.length := by omega
                  have j3 : (k : Int) < L + 2 := by omega
                  have HM := Lib.hid (fun W => l02Move_any tx ty mv.length L k W h2a h2b h1a h1b)
                  by_cases hin : okMove mv.length L k (tx, ty) = true
                  · go_wp2_with fail
                    go_region_held3 (fun W => W.cell? ⟨p, 0, none⟩ = some (.int .i64 L) ∧ W.cell? ⟨p, 2, none⟩ = some (.slice (some ⟨b, off, none⟩) mv.length cap) ∧ W.cell? ⟨b, off + s, none⟩ = some (.slice (some ⟨bx, offx, none⟩) x.length capx) ∧ W.cell? ⟨bx, offx + k * 2, none⟩ = some (.int .i64 tx) ∧ W.cell? ⟨bx, offx + k * 2 + 1, none⟩ = some (.int .i64 ty))
                      (first | go_keep | (go_split_ands; refine ⟨?_, ?_, ?_, ?_, ?_⟩ <;> exact below_keep hbk (by assumption)))
                      (first
                        | (go_at_call 127; (with_reducible refine (HM.out _).mono ?_); rintro e wz ⟨rfl, hbk⟩; have HCz := Lib.hid (show Below wr.heap.size wr wz from below_step (by first | exact Below.refl _ _ | exact below_drew _ | exact below_drewN' _ _) hbk)))
                    go_wp2
                    go_roundw
                    case rel => exact ⟨k + 1, by omega, by go_num, below_step HQ.out HCz.out, okMsTo_succ HT.out HP2.out hin⟩
                    case measure => simp [intOf]; omega
                  · have hin' : okMove mv.length L k (tx, ty) = false := by simpa using hin
                    clear hin
                    go_wp2_with fail
                    go_region_held3 (fun W => W.cell? ⟨p, 0, none⟩ = some (.int .i64 L) ∧ W.cell? ⟨p, 2, none⟩ = some (.slice (some ⟨b, off, none⟩) mv.length cap) ∧ W.cell? ⟨b, off + s, none⟩ = some (.slice (some ⟨bx, offx, none⟩) x.length capx) ∧ W.cell? ⟨bx, offx + k * 2, none⟩ = some (.int .i64 tx) ∧ W.cell? ⟨bx, offx + k * 2 + 1, none⟩ = some (.int .i64 ty))
                      (first | go_keep | (go_split_ands; refine ⟨?_, ?_, ?_, ?_, ?_⟩ <;> exact below_keep hbk (by assumption)))
                      (first
                        | (go_at_call 127; (with_reducible refine (HM.out _).mono ?_); rintro e wz ⟨rfl, hbk⟩; have HCz := Lib.hid (show Below wr.heap.size wr wz from below_step (by first | exact Below.refl _ _ | exact below_drew _ | exact below_drewN' _ _) hbk)))
                    go_wp2
                    go_ret
                    exact ⟨ret_bool (okT_row (t := ⟨L, S, mv⟩) HX.out (by unfold okMRow; rw [okMsTo_not HT.out hin', Bool.and_false])).symm, below_step HQ.out HCz.out⟩
                · clear x3
                  have hkL : ¬ (k : Int) < L + 2 := by omega
                  go_wp2
                  go_roundw
                  case rel => exact ⟨s + 1, by omega, by go_num, HQ.out, all_snoc HX.out HP.out (okRow_of HXL.out (by have := HP2.out; rwa [show k = x.length by omega] at this))⟩
                  case measure => simp [intOf]; omega
            · have d5 : ((x.length : Int) != L + 2) = true := by simpa using hxl
              have HXL := Lib.hid hxl
              clear hxl
              have wL := WL.out
              go_wp2
              go_quiet (fail)
              clear wL
              go_wp2
              go_ret
              exact ⟨ret_bool (okT_row (t := ⟨L, S, mv⟩) HX.out (by simp [okMRow, HXL.out])).symm, below_drewN HB.out _⟩
          · have g0 := below_keep hb c0
            have g2 := below_keep hb c2
            clear hb a3 c0 c1 c2
            go_wp2
            go_ret
            exact ⟨ret_bool (okT_all (t := ⟨L, S, mv⟩) d1 d2 d3 (by have := HP.out; rwa [List.take_of_length_le (by omega)] at this)).symm, HB.out⟩
      · have d3 : decide (0 ≤ S ∧ S ≤ (mv.length : Int) - 1) = false := by simpa using h3
        have H3 := Lib.hid h3; clear h3
        go_enter Try.func97, Try.ntmps97
        go_wp2_with (go_at_call 118; refine (l00In_any _ _ _ _).mono ?_; rintro e w' ⟨rfl, rfl⟩)
        go_ret
        exact ⟨ret_bool (by simp [okT, d3]), Below.refl _ _⟩
    · have d2 : decide (1 ≤ (mv.length : Int) ∧ (mv.length : Int) ≤ 12) = false := by simpa using h2
      have H2 := Lib.hid h2; clear h2
      go_enter Try.func97, Try.ntmps97
      go_wp2_with (go_at_call 118; refine (l00In_any _ _ _ _).mono ?_; rintro e w' ⟨rfl, rfl⟩)
      go_ret
      exact ⟨ret_bool (by simp [okT, d2]), Below.refl _ _⟩
  · have d1 : decide (1 ≤ L ∧ L ≤ 3) = false := by simpa using h1
    have H1 := Lib.hid h1; clear h1
    go_enter Try.func97, Try.ntmps97
    go_wp2_with (go_at_call 118; refine (l00In_any _ _ _ _).mono ?_; rintro e w' ⟨rfl, rfl⟩)
    go_ret
    exact ⟨ret_bool (by simp [okT, d1]), Below.refl _ _⟩
end Go.Proofs.Ytdkalefepdlccaa
