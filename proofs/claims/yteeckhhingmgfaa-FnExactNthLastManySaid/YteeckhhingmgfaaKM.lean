/-
  Many: what it reads as, its copies, sizes and comparisons.
-/
import Derived.Test.YteeckhhingmgfaaO2
namespace Go.Proofs.Yteeckhhingmgfaa
open Go.RowKit

/-- What a Many reads as. -/
structure MData where
  L : Int
  st : List Int
  acc : List Bool
  next : List (List (List Int))

def RdM (w : World) (v : Value) (r : MData) : Prop := ∃ vst vacc vnext, v = .agg #[.int .i64 r.L, vst, vacc, vnext] ∧ RdI w vst r.st ∧ RdB w vacc r.acc ∧ RdIII w vnext r.next
theorem keepsM : Keeps RdM := fun _ _ _ _ ⟨vst, vacc, vnext, hv, hst, hacc, hnext⟩ hb => ⟨vst, vacc, vnext, hv, keepsI _ _ _ _ hst hb, keepsB _ _ _ _ hacc hb, keepsIII _ _ _ _ hnext hb⟩
def OwM (w : World) (lo : Nat) (v : Value) (r : MData) (bs : List Nat) : Prop := ∃ vst vacc vnext bst bacc bnext, v = .agg #[.int .i64 r.L, vst, vacc, vnext] ∧ OwV ints 2 w lo vst r.st bst ∧ OwV bools 4 w lo vacc r.acc bacc ∧ OwL (OwL (OwV ints 2) 23) 22 w lo vnext r.next bnext ∧ bs = bst ++ bacc ++ bnext ∧ bs.Nodup
theorem OwM.rd {w : World} {lo : Nat} {v : Value} {r : MData} {bs : List Nat} (h : OwM w lo v r bs) : RdM w v r := by
  obtain ⟨vst, vacc, vnext, bst, bacc, bnext, hv, hst, hacc, hnext, hbs, hnd⟩ := h
  exact ⟨_, _, _, hv, hst.1.rd, hacc.1.rd, OwL.rd (fun h => OwL.rd (fun h => h.1.rd) h) hnext⟩
theorem RdM.shape {w : World} {v : Value} {r : MData} (h : RdM w v r) : ∃ A0 k0 A1 k1 A2 k2, v = .agg #[.int .i64 r.L, .slice A0 r.st.length k0, .slice A1 r.acc.length k1, .slice A2 r.next.length k2] := by
  obtain ⟨vst, vacc, vnext, hv, hst, hacc, hnext⟩ := h
  obtain ⟨A0, k0, rfl⟩ := rdI_shape hst
  obtain ⟨A1, k1, rfl⟩ := rdB_shape hacc
  obtain ⟨A2, k2, rfl⟩ := RdL.shape hnext
  exact ⟨A0, k0, A1, k1, A2, k2, hv⟩

/-- What an argument of this kind is bounded by. -/
def MSmall (r : MData) : Prop := (8 * r.st.length ≤ 281474976710656) ∧ (r.acc.length ≤ 281474976710656) ∧ (24 * r.next.length ≤ 281474976710656 ∧ ∀ y ∈ r.next, 24 * y.length ≤ 281474976710656 ∧ ∀ x ∈ y, 8 * x.length ≤ 281474976710656)

set_option maxHeartbeats 800000 in
theorem eqM_same (v u : Value) (r : MData) (w : World) (h : RdM w v r) (k : RdM w u r) :
    Calls Try.prog 26 #[v, u] w fun e w' => e = .returned (.bool true) ∧ Below w.heap.size w w' := by
  obtain ⟨vst, vacc, vnext, hv, hst, hacc, hnext⟩ := h
  subst hv
  obtain ⟨ust, uacc, unext, hu, kst, kacc, knext⟩ := k
  subst hu
  have eL : (r.L != r.L) = false := by simp
  have est : decide (r.st = r.st) = true := by simp
  have Hst := Lib.hid (fun W (hb : Below w.heap.size w W) => eqInt64S_any vst ust r.st r.st W (keepsI _ _ _ _ hst hb) (keepsI _ _ _ _ kst hb))
  have eacc : decide (r.acc = r.acc) = true := by simp
  have Hacc := Lib.hid (fun W (hb : Below w.heap.size w W) => eqBoolS_any vacc uacc r.acc r.acc W (keepsB _ _ _ _ hacc hb) (keepsB _ _ _ _ kacc hb))
  have enext : decide (r.next = r.next) = true := by simp
  have Hnext := Lib.hid (fun W (hb : Below w.heap.size w W) => eqInt64SSS_any vnext unext r.next r.next W (keepsIII _ _ _ _ hnext hb) (keepsIII _ _ _ _ knext hb))
  have HB := Lib.hid (fun o o' m => below_drewN (((below_alloc w o).alloc (by simp) o')) m)
  clear hst hacc hnext kst kacc knext
  go_enter Try.func26, Try.ntmps26
  go_wp2_with (first | (go_at_call 41; refine (Hst.out _ (HB.out _ _ 0)).mono ?_; rintro e w' ⟨rfl, m, rfl⟩) | (go_at_call 65; refine (Hacc.out _ (HB.out _ _ _)).mono ?_; rintro e w' ⟨rfl, m, rfl⟩) | (go_at_call 66; refine (Hnext.out _ (HB.out _ _ _)).mono ?_; rintro e w' ⟨rfl, m, rfl⟩))
  all_goals go_ret
  all_goals exact ⟨rfl, HB.out _ _ _⟩


end Go.Proofs.Yteeckhhingmgfaa
