/-
  One turner after another: how many numbers the answer holds.
-/
import Derived.Test.YtklljaeoimgmnaaTh5
import Derived.Test.YtklljaeoimgmnaaWs7
namespace Go.Proofs.Ytklljaeoimgmnaa
open Go.RowKit

theorem th_num (t u : TData) : (numT (thRes t u).1 : Int) ≤ 2305843009213693952 := by
  unfold thRes
  split
  · rename_i hok
    have hk := okT_out (t := t) (by revert hok; cases okT t <;> simp)
    have l2 := hk.l2
    split
    · split
      · rename_i h12
        rw [numT_tableW]
        have h1 : (t.L + 2).toNat ≤ 5 := by omega
        have := Nat.mul_le_mul h12 (Nat.mul_le_mul (Nat.le_refl 2) h1)
        omega
      · simp [numT, numL]
    · simp [numT, numL]
  · simp [numT, numL]
end Go.Proofs.Ytklljaeoimgmnaa
