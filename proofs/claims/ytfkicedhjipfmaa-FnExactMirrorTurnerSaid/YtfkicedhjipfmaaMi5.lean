/-
  The mirrored turner: how many numbers it holds.
-/
import Derived.Test.YtfkicedhjipfmaaMi4
import Derived.Test.YtfkicedhjipfmaaZT
namespace Go.Proofs.Ytfkicedhjipfmaa
open Go.RowKit

theorem numT_tableM (L S : Int) (G : Nat → Nat → Int × Int) (c n : Nat) : numT ⟨L, S, tableOf G c n⟩ = n * (2 * c) := by
  induction n with
  | zero => simp [numT, numL, tableOf]
  | succ n ih =>
    have : numT ⟨L, S, tableOf G c (n + 1)⟩ = numT ⟨L, S, tableOf G c n⟩ + 2 * c := by
      simp only [numT, tableOf_succ, numL, List.map_append, List.sum_append, List.map_cons, List.map_nil, List.sum_cons, List.sum_nil, rowOf_len, Nat.add_zero]
    rw [this, ih]; exact (Nat.succ_mul n (2 * c)).symm
theorem mir_num (t : TData) : (numT (mirRes t).1 : Int) ≤ 2305843009213693952 := by
  unfold mirRes
  split
  · rename_i hok
    have ok := okT_out hok
    have l2 := ok.l2
    split
    · rename_i hn
      rw [numT_tableM]
      have h1 : (t.L + 2).toNat ≤ 5 := by omega
      have := Nat.mul_le_mul hn (Nat.mul_le_mul (Nat.le_refl 2) h1)
      omega
    · simp [numT, numL]
  · simp [numT, numL]
end Go.Proofs.Ytfkicedhjipfmaa
