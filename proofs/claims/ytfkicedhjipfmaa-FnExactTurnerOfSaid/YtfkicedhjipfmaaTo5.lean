/-
  The turner of a reader: how many numbers it holds.
-/
import Derived.Test.YtfkicedhjipfmaaTo4
import Derived.Test.YtfkicedhjipfmaaZR
namespace Go.Proofs.Ytfkicedhjipfmaa
open Go.RowKit

theorem numT_table (L S : Int) (G : Nat → Nat → Int × Int) (c n : Nat) : numT ⟨L, S, tableOf G c n⟩ = n * (2 * c) := by
  induction n with
  | zero => simp [numT, numL, tableOf]
  | succ n ih =>
    have : numT ⟨L, S, tableOf G c (n + 1)⟩ = numT ⟨L, S, tableOf G c n⟩ + 2 * c := by
      simp only [numT, tableOf_succ, numL, List.map_append, List.sum_append, List.map_cons, List.map_nil, List.sum_cons, List.sum_nil, rowOf_len, Nat.add_zero]
    rw [this, ih]; exact (Nat.succ_mul n (2 * c)).symm
theorem tof_num (r : RData) : (numT (tofRes r).1 : Int) ≤ 2305843009213693952 := by
  unfold tofRes
  split
  · rename_i hok
    have ok := okR_out hok
    have l2 := ok.l2
    split
    · rename_i hn
      rw [numT_table]
      have h1 : (r.L + 2).toNat ≤ 5 := by omega
      have := Nat.mul_le_mul hn (Nat.mul_le_mul (Nat.le_refl 2) h1)
      omega
    · simp [numT, numL]
  · simp [numT, numL]
end Go.Proofs.Ytfkicedhjipfmaa
