/-
  Lists of integers and bools, and lists of these: their copies are owned.
-/
import Derived.Test.YtahgekjpnmmooaaT3
import Derived.Test.YtahgekjpnmmooaaOwn
namespace Go.Proofs.Ytahgekjpnmmooaa
open Go.RowKit
theorem RdL.shape {α : Type} {R : World → Value → α → Prop} {w : World} {v : Value} {xs : List α} (h : RdL R w v xs) : ∃ B c, v = .slice B xs.length c := by
  obtain ⟨vs, h, hl, _⟩ := h
  rw [← hl]; exact h.shape

end Go.Proofs.Ytahgekjpnmmooaa
