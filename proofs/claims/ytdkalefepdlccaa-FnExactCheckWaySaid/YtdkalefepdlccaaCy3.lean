/-
  CheckWay: the model's answer.
-/
import Derived.Test.YtdkalefepdlccaaCy2
import Derived.Test.YtdkalefepdlccaaWn3
namespace Go.Proofs.Ytdkalefepdlccaa
open Go.RowKit

def hasI (xs : List Int) (x : Int) : Bool := xs.any fun y => decide (y = x)
theorem hasI_take {xs : List Int} {x y : Int} {k : Nat} (h : hasI (xs.take k) x = false) (hq : xs[k]? = some y) (hn : ¬ y = x) : hasI (xs.take (k + 1)) x = false := by
  unfold hasI at *
  rw [take_succ_of hq, List.any_append, h]; simp [hn]
theorem hasI_yes {xs : List Int} {x y : Int} {k : Nat} (hq : xs[k]? = some y) (h1 : y = x) : hasI xs x = true := by
  unfold hasI
  rw [List.any_eq_true]
  exact ⟨y, List.mem_of_getElem? hq, by simp [h1]⟩
theorem hasPl_firsts (st : List Int) (q a : Int) : hasPl (firstsOf st) (q, a) = (decide (a = 0) && hasI st q) := by
  unfold hasPl firstsOf hasI
  induction st with
  | nil => simp
  | cons x r ih =>
    simp only [List.map_cons, List.any_cons] at ih ⊢
    rw [ih]
    by_cases h : a = 0
    · subst h; simp
    · have h' : ¬ (0 : Int) = a := fun e => h e.symm
      simp [h, h']

set_option maxHeartbeats 800000 in
theorem l00Has_any (v : Value) (xs : List Int) (x : Int) (w : World) (h : RdI w v xs) :
    Calls Try.prog 125 #[v, .int .i64 x] w fun e w' => e = .returned (.bool (hasI xs x)) ∧ Qt w w' := by
  obtain ⟨A, cap, rfl, h1, h2, h3⟩ := RdI.open h
  unfold maxLen at h2
  clear h
  go_enter Try.func125, Try.ntmps125
  go_wp2
  go_loopw [5] (fun i wr => ∃ k : Nat, k ≤ xs.length ∧ i = .int .i64 k ∧ Qt w wr ∧ hasI (xs.take k) x = false) (fun i _ => xs.length - (intOf i).toNat)
  case atStart => exact ⟨0, Nat.zero_le _, rfl, Qt.refl _, by simp [hasI]⟩
  case round =>
    obtain ⟨k, hk, rfl, hb, hp⟩ := hrel
    have HP := Lib.hid hp; clear hp
    have HQ := Lib.hid hb
    by_cases hlt : k < xs.length
    · obtain ⟨b, off, y, rfl, hq, hc0⟩ := h3 k hlt
      have hc0' := (hb.cell _).trans hc0
      have HX := Lib.hid hq
      have i1 : (0 : Int) ≤ k := by omega
      have i2 : (k : Int) < xs.length := by omega
      clear hc0 h3 hb hq
      by_cases g1 : y = x
      · have g3 : (y == x) = true := by simpa using g1
        have HN := Lib.hid g1
        clear g1
        go_wp2
        go_ret
        exact ⟨ret_bool (hasI_yes HX.out HN.out).symm, HQ.out⟩
      · have g3 : (y == x) = false := by simpa using g1
        have HN := Lib.hid g1
        clear g1
        go_wp2
        go_roundw
        case rel => exact ⟨k + 1, by omega, by go_num, HQ.out, hasI_take HP.out HX.out HN.out⟩
        case measure => simp [intOf]; omega
    · clear hb h3
      go_wp2
      go_ret
      exact ⟨ret_bool (by have := HP.out; rw [List.take_of_length_le (by omega)] at this; exact this.symm), HQ.out⟩

/-- A way whose place k is one of its candidates. -/
def WayAt (r : WData) (s : ByteArray) (l : List (Int × Int)) (k q a : Nat) : Prop :=
  l[k]? = some ((q : Int), (a : Int)) ∧ q < r.mv.length ∧ a ≤ s.size + 1 ∧ wayGo r s (firstsOf r.st) false l = wayGo r s (nextOf (a : Int) (moveList r s q a)) (takeOf (moveList r s q a)) (l.drop (k + 1))

set_option maxRecDepth 100000 in
set_option maxHeartbeats 3200000 in
theorem l04Way_any (p0 : Nat) (v2 : Value) (r : WData) (s : ByteArray) (l : List (Int × Int)) (w : World) (h : AtW w p0 r) (h2 : RdP w v2 l) (ok : OkW r) (hl : lettersOk r.L s = true) (hs : s.size ≤ 60) (hpl : l.all (placeInW r s) = true) :
    Calls Try.prog 93 #[.pointer (some ⟨p0, 0, none⟩), .string s, v2] w fun e w' => e = .returned (.bool (wayGo r s (firstsOf r.st) false l)) ∧ Below w.heap.size w w' := by
  have HNX := Lib.hid (fun (W : World) (hb : Below w.heap.size w W) (q a : Nat) hq ha => l04Next_own p0 r s q a W (h.below hb) ok hl hs hq ha)
  have HPL := Lib.hid hpl
  have hpo : ∀ (k : Nat) (x y : Int), l[k]? = some (x, y) → ∃ q a : Nat, x = q ∧ y = a ∧ q < r.mv.length ∧ a ≤ s.size + 1 := fun k x y hk => by
    have h1 : (0 ≤ x ∧ x ≤ (r.mv.length : Int) - 1) ∧ (0 ≤ y ∧ y ≤ (s.size : Int) + 1) := placeInW_parts (List.all_eq_true.1 hpl _ (List.mem_of_getElem? hk))
    exact ⟨x.toNat, y.toNat, by omega, by omega, by omega, by omega⟩
  have HPO := Lib.hid hpo
  obtain ⟨va, vb, c0, c1, c2, hst, hmv⟩ := h
  obtain ⟨A, ka, rfl⟩ := rdI_shape hst
  obtain ⟨A2, k2, rfl, b1, b2, b3⟩ := RdP.open h2
  unfold maxLen at b2
  have HHAS := Lib.hid (fun (W : World) (hq : Qt w W) (x : Int) => l00Has_any _ r.st x W (keepsI _ _ _ _ hst hq.below))
  clear h2 hpl hpo hmv hst c0 c2
  by_cases h0 : l.length = 0
  · have e0 : ((l.length : Int) == 0) = true := by rw [beq_iff_eq]; omega
    have HE := Lib.hid (show wayGo r s (firstsOf r.st) false l = false by rw [List.length_eq_zero_iff.1 h0]; rfl)
    clear h0 b3
    go_enter Try.func93, Try.ntmps93
    go_wp2_with fail
    go_quiet (fail)
    go_wp2
    go_ret
    exact ⟨ret_bool HE.out.symm, ((Qt.refl _).drewN _).below⟩
  · have e0 : ((l.length : Int) == 0) = false := by rw [beq_eq_false_iff_ne]; omega
    obtain ⟨b, off, px, py, rfl, hx, hc0, hc1⟩ := b3 0 (by omega)
    have i2 : (0 : Int) < l.length := by omega
    obtain ⟨q0, a0, rfl, rfl, hq0, ha0⟩ := HPO.out 0 px py hx
    have hcons : l = ((q0 : Int), (a0 : Int)) :: l.drop 1 := by have := drop_at hx; simpa using this
    have HC := Lib.hid (show wayGo r s (firstsOf r.st) false l = if hasPl (firstsOf r.st) ((q0 : Int), (a0 : Int)) = true then wayGo r s (nextOf (a0 : Int) (moveList r s q0 a0)) (takeOf (moveList r s q0 a0)) (l.drop 1) else false by
      conv => lhs; rw [hcons]
      rw [wayGo]; rfl)
    have HF := Lib.hid (hasPl_firsts r.st (q0 : Int) (a0 : Int))
    have hz0 : off + 0 * 2 = off := by omega
    rw [hz0] at hc0 hc1
    by_cases ha : a0 = 0
    · subst ha
      have e1 : (((0 : Nat) : Int) != 0) = false := by simp
      obtain ⟨y, hy⟩ : ∃ y, hasI r.st (q0 : Int) = y := ⟨_, rfl⟩
      have HHS := Lib.hid (fun m => HHAS.out (w.drewN m) ((Qt.refl _).drewN m) (q0 : Int))
      rw [hy] at HHS HF
      clear hy
      cases y
      · have HE := Lib.hid (show wayGo r s (firstsOf r.st) false l = false by rw [HC.out, HF.out]; rfl)
        clear h0 b3 hx hcons
        go_enter Try.func93, Try.ntmps93
        go_wp2_with fail
        go_quiet ((go_at_call 125; exact Calls.quiet_of (HHS.out _)))
        go_wp2
        go_ret
        exact ⟨ret_bool HE.out.symm, ((Qt.refl _).drewN _).below⟩
      · have HW0 := Lib.hid (show WayAt r s l 0 q0 0 from ⟨hx, hq0, ha0, by rw [HC.out, HF.out]; rfl⟩)
        clear h0 hx hcons
        go_enter Try.func93, Try.ntmps93
        go_wp2_with fail
        go_quiet ((go_at_call 125; exact Calls.quiet_of (HHS.out _)))
        go_wp2
        clear hc0 hc1
        go_loopw [7] (fun i wr => ∃ k q a : Nat, k < l.length ∧ i = .int .i64 k ∧ Below w.heap.size w wr ∧ WayAt r s l k q a) (fun i _ => l.length - (intOf i).toNat)
        case atStart => exact ⟨0, q0, 0, by omega, rfl, ((Qt.refl _).drewN _).below, HW0.out⟩
        case round =>
          obtain ⟨k, q, a, hk, rfl, hb, hw⟩ := hrel
          have HQ := Lib.hid hb
          have HWA := Lib.hid hw
          obtain ⟨b, off, px, py, hA, hx, hc0, hc1⟩ := b3 k hk
          cases hA
          obtain ⟨e1, e2⟩ : px = (q : Int) ∧ py = (a : Int) := by have := Option.some.inj (hx.symm.trans hw.1); simpa using this
          subst e1; subst e2
          have hc0' := below_keep hb hc0
          have hc1' := below_keep hb hc1
          have HC1 := Lib.hid (HNX.out wr hb q a hw.2.1 hw.2.2.1)
          have i1 : (0 : Int) ≤ k := by omega
          have i2 : (k : Int) < l.length := by omega
          clear hb hw hc0 hc1 hx
          go_wp2_with fail
          refine HC1.out.mono ?_
          rintro e w1 ⟨u, bu, rfl, hu, hb1⟩
          have HB1 := Lib.hid (below_step HQ.out hb1)
          have HU := Lib.hid hu.rd
          obtain ⟨Bu, ku, rfl, u1, u2, u3⟩ := RdP.open hu.rd
          unfold maxLen at u2
          clear hc0' hc1' hu hb1 HC1
          obtain ⟨cand, hcd⟩ : ∃ cand, nextOf (a : Int) (moveList r s q a) = cand := ⟨_, rfl⟩
          obtain ⟨tk, htk⟩ : ∃ tk, takeOf (moveList r s q a) = tk := ⟨_, rfl⟩
          rw [hcd] at u1 u3
          have HG := Lib.hid (show wayGo r s (firstsOf r.st) false l = wayGo r s cand tk (l.drop (k + 1)) by rw [HWA.out.2.2.2, hcd, htk])
          rw [hcd, htk]
          clear hcd htk HU
          by_cases hlast : k + 1 = l.length
          · have de : ((k : Int) + 1 == (l.length : Int)) = true := by simp; omega
            have HE := Lib.hid (show wayGo r s (firstsOf r.st) false l = tk by rw [HG.out, wayGo_end (by omega)])
            clear hlast u3 b3
            go_wp2
            go_ret
            exact ⟨ret_bool HE.out.symm, HB1.out⟩
          · have de : ((k : Int) + 1 == (l.length : Int)) = false := by simp; omega
            obtain ⟨b', off', px, py, hA, hx, hd0, hd1⟩ := b3 (k + 1) (by omega)
            cases hA
            obtain ⟨q', a', e1, e2, hq', ha'⟩ := HPO.out (k + 1) px py hx
            subst e1; subst e2
            have HX := Lib.hid hx
            have hd0' := below_keep HB1.out hd0
            have hd1' := below_keep HB1.out hd1
            have j1 : (k : Int) + 1 < l.length := by omega
            have j0 : (0 : Int) ≤ (k : Int) + 1 := by omega
            clear hd0 hd1 hx hlast
            go_wp2
            obtain ⟨wo, hwo⟩ : ∃ wo, wo = w1 := ⟨w1, rfl⟩
            subst hwo
            go_loopw [10, 11] (fun f i wr => ∃ j : Nat, ∃ y : Bool, j ≤ cand.length ∧ i = .int .i64 j ∧ f = .bool y ∧ hasPl (cand.take j) ((q' : Int), (a' : Int)) = y ∧ Qt wo wr) (fun _ i _ => cand.length - (intOf i).toNat)
            case atStart => exact ⟨0, false, Nat.zero_le _, rfl, rfl, by simp [hasPl], Qt.refl _⟩
            case round =>
              obtain ⟨j, y, hj, rfl, rfl, hp, hq2⟩ := hrel
              have HP := Lib.hid hp; clear hp
              have HQ2 := Lib.hid hq2
              by_cases hjl : j < cand.length
              · obtain ⟨b2', off2, cx, cy, hA, hcx, hu0, hu1⟩ := u3 j hjl
                have hu0' := (hq2.cell _).trans hu0
                have hu1' := (hq2.cell _).trans hu1
                have hd0'' := (hq2.cell _).trans hd0'
                have hd1'' := (hq2.cell _).trans hd1'
                subst hA
                have HCX := Lib.hid hcx
                have k1 : (0 : Int) ≤ j := by omega
                have k2 : (j : Int) < cand.length := by omega
                clear hu0 hu1 hd0' hd1' u3 hq2 hcx
                cases y
                · by_cases g1 : cx = (q' : Int)
                  · subst g1
                    by_cases g2 : cy = (a' : Int)
                    · subst g2
                      go_wp2
                      go_quiet (fail)
                      go_wp2
                      go_roundw
                      case rel => exact ⟨j + 1, true, by omega, by go_num, rfl, hasPl_yes (k := j) (by rw [List.getElem?_take_of_lt (by omega)]; exact HCX.out) rfl rfl, HQ2.out.drewN _⟩
                      case measure => simp [intOf]; omega
                    · have g3 : (cy == (a' : Int)) = false := by simpa using g2
                      have HN := Lib.hid g2
                      clear g2
                      go_wp2
                      go_quiet (fail)
                      go_wp2
                      go_roundw
                      case rel => exact ⟨j + 1, false, by omega, by go_num, rfl, hasPl_take HP.out HCX.out (fun e => HN.out e.2), HQ2.out.drewN _⟩
                      case measure => simp [intOf]; omega
                  · have g3 : (cx == (q' : Int)) = false := by simpa using g1
                    have HN := Lib.hid g1
                    clear g1
                    go_wp2
                    go_quiet (fail)
                    go_wp2
                    go_roundw
                    case rel => exact ⟨j + 1, false, by omega, by go_num, rfl, hasPl_take HP.out HCX.out (fun e => HN.out e.1), HQ2.out.drewN _⟩
                    case measure => simp [intOf]; omega
                · go_wp2
                  go_quiet (fail)
                  go_wp2
                  go_roundw
                  case rel => exact ⟨j + 1, true, by omega, by go_num, rfl, by unfold hasPl; rw [take_succ_of HCX.out, List.any_append]; have := HP.out; unfold hasPl at this; rw [this]; rfl, HQ2.out.drewN _⟩
                  case measure => simp [intOf]; omega
              · have HF2 := Lib.hid (show hasPl cand ((q' : Int), (a' : Int)) = y by have := HP.out; rwa [List.take_of_length_le (by omega)] at this)
                clear hq2 u3 hd0' hd1'
                cases y
                · have HE := Lib.hid (show wayGo r s (firstsOf r.st) false l = false by rw [HG.out, wayGo_no HX.out HF2.out])
                  clear b3
                  go_wp2
                  go_ret
                  exact ⟨ret_bool HE.out.symm, below_step HB1.out HQ2.out.below⟩
                · have HW1 := Lib.hid (show WayAt r s l (k + 1) q' a' from ⟨HX.out, hq', ha', by rw [HG.out, wayGo_step HX.out HF2.out]⟩)
                  go_wp2
                  go_roundw
                  case rel => exact ⟨k + 1, q', a', by omega, by go_num, below_step HB1.out HQ2.out.below, HW1.out⟩
                  case measure => simp [intOf]; omega
    · have e1 : ((a0 : Int) != 0) = true := by simp; omega
      have HE := Lib.hid (show wayGo r s (firstsOf r.st) false l = false by rw [HC.out, HF.out, decide_eq_false (by omega)]; rfl)
      clear h0 b3 hx hcons ha
      go_enter Try.func93, Try.ntmps93
      go_wp2_with fail
      go_quiet (fail)
      go_wp2
      go_ret
      exact ⟨ret_bool HE.out.symm, ((Qt.refl _).drewN _).below⟩
end Go.Proofs.Ytdkalefepdlccaa
