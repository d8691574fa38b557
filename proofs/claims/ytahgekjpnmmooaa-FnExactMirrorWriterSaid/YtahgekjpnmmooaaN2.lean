/-
  Marks of lists of lists.
-/
import Derived.Test.YtahgekjpnmmooaaN1
namespace Go.Proofs.Ytahgekjpnmmooaa
open Go.RowKit
theorem own_len {w : World} {e : TypeId} {lo : Nat} {v : Value} {xs : List Value} (h : Own w e lo v xs) : xs.length ≤ maxLen := by
  obtain ⟨A, cap, _, h1, h2, _⟩ := h.rd
  exact Nat.le_trans h1 h2

end Go.Proofs.Ytahgekjpnmmooaa
