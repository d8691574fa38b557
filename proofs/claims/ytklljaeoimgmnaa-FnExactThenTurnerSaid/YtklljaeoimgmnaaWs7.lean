/-
  The turner that never stays: how many numbers it holds.
-/
import Derived.Test.YtklljaeoimgmnaaWs6
namespace Go.Proofs.Ytklljaeoimgmnaa
open Go.RowKit

theorem numT_tableW (L S : Int) (G : Nat → Nat → Int × Int) (c n : Nat) : numT ⟨L, S, tableOf G c n⟩ = n * (2 * c) := by
  induction n with
  | zero => simp [numT, numL, tableOf]
  | succ n ih =>
    have : numT ⟨L, S, tableOf G c (n + 1)⟩ = numT ⟨L, S, tableOf G c n⟩ + 2 * c := by
      simp only [numT, tableOf_succ, numL, List.map_append, List.sum_append, List.map_cons, List.map_nil, List.sum_cons, List.sum_nil, rowOf_len, Nat.add_zero]
    rw [this, ih]; exact (Nat.succ_mul n (2 * c)).symm
theorem ws_num (t : TData) : (numT (wsRes t).1 : Int) ≤ 2305843009213693952 := by
  unfold wsRes
  split
  · rename_i hok
    have ok := okT_out hok
    have l2 := ok.l2
    have n2 := ok.n2
    split
    · rw [numT_tableW]
      have h1 : (t.L + 2).toNat ≤ 5 := by omega
      have := Nat.mul_le_mul (show t.mv.length ≤ 12 by omega) (Nat.mul_le_mul (Nat.le_refl 2) h1)
      omega
    · simp [numT, numL]
  · simp [numT, numL]
end Go.Proofs.Ytklljaeoimgmnaa
