/-
  A copy of a reader, by the model.
-/
import Derived.Test.YtfkicedhjipfmaaOpp
import Derived.Deep.RegionHeld3
import Derived.Deep.CutRange
namespace Go.Proofs.Ytfkicedhjipfmaa
open Go.RowKit
attribute [local go_sem ↓] Go.wp_at_zero Go.wp_at_succ

/-- A call that makes a reader beside a box of zeros. -/
def MadeC (w : World) (po : Nat) (r : RData) (wr : World) : Prop :=
  Below w.heap.size w wr ∧ Row wr w.heap.size 32 [.int .i64 0, .int .i64 0, .slice none 0 0, .slice none 0 0] ∧ w.heap.size + 1 ≤ po ∧ BoxR wr (w.heap.size + 1) po r
theorem MadeC.drew {w : World} {po : Nat} {r : RData} {wr : World} (h : MadeC w po r wr) : MadeC w po r wr.drew := ⟨h.1.drew, h.2.1, h.2.2.1, h.2.2.2.drew⟩

theorem keep4 {w : World} {q p i : Nat} {a b c d v : Value} (hq : q ≠ p) (h : w.cell? ⟨p, i, none⟩ = some v) : ((((w.setCell ⟨q, 0, none⟩ a).setCell ⟨q, 1, none⟩ b).setCell ⟨q, 2, none⟩ c).setCell ⟨q, 3, none⟩ d).cell? ⟨p, i, none⟩ = some v := by
  rw [World.cell?_of_block (w := w) (w' := ((((w.setCell ⟨q, 0, none⟩ a).setCell ⟨q, 1, none⟩ b).setCell ⟨q, 2, none⟩ c).setCell ⟨q, 3, none⟩ d)) (a := ⟨p, i, none⟩) ?_]
  · exact h
  · have e : ∀ (W : World) (j : Nat) (u : Value), (W.setCell ⟨q, j, none⟩ u).heap[p]? = W.heap[p]? := fun W j u => Below.heap_setCell W ⟨q, j, none⟩ u p (fun e => hq e.symm)
    show ((((w.setCell ⟨q, 0, none⟩ a).setCell ⟨q, 1, none⟩ b).setCell ⟨q, 2, none⟩ c).setCell ⟨q, 3, none⟩ d).heap[p]? = w.heap[p]?
    rw [e, e, e, e]

/-- Where the reader that is made lies. -/
def AtMade (w : World) (r : RData) (s3 : Value) (wx : World) : Prop := ∃ po, s3 = .pointer (some ⟨po, 0, none⟩) ∧ MadeC w po r wx
theorem AtMade.drew {w : World} {r : RData} {s3 : Value} {wx : World} (h : AtMade w r s3 wx) : AtMade w r s3 wx.drew := by
  obtain ⟨po, h1, h2⟩ := h
  exact ⟨po, h1, h2.drew⟩

end Go.Proofs.Ytfkicedhjipfmaa
