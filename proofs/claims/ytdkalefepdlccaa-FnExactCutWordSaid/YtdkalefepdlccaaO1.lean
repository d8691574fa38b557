/-
  Lists of integers and bools, and lists of these: their copies are owned.
-/
import Derived.Test.YtdkalefepdlccaaT3
import Derived.Test.YtdkalefepdlccaaOwn
namespace Go.Proofs.Ytdkalefepdlccaa
open Go.RowKit
theorem RdL.shape {α : Type} {R : World → Value → α → Prop} {w : World} {v : Value} {xs : List α} (h : RdL R w v xs) : ∃ B c, v = .slice B xs.length c := by
  obtain ⟨vs, h, hl, _⟩ := h
  rw [← hl]; exact h.shape

theorem toInt64S_own (v : Value) (xs : List Int) (w : World) (h : RdI w v xs) (hr : 8 * xs.length ≤ 281474976710656) :
    Calls Try.prog 85 #[v] w fun e w' => ∃ u bs, e = .returned u ∧ OwV ints 2 w' w.heap.size u xs bs ∧ Below w.heap.size w w' :=
  (toInt64S_any v xs w h hr).mono fun e w' ⟨g, he, hg, hl, hb⟩ => ⟨_, _, he, ⟨by have := hg.own hl (by rw [ints_len]; unfold maxLen; omega); rwa [ints_len] at this, rfl⟩, hb⟩

end Go.Proofs.Ytdkalefepdlccaa
