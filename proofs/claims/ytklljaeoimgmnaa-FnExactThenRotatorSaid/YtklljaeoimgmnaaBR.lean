/-
  A reader that is being made in a box of the call's own: one state more, field by field.
-/
import Derived.Test.YtklljaeoimgmnaaKR
import Derived.Test.YtklljaeoimgmnaaApp
namespace Go.Proofs.Ytklljaeoimgmnaa
open Go.RowKit

/-- Draws do not matter for what an append has left. -/
theorem undrew {w w' : World} {r : Option Nat} (h : w.drew.grownBy w' r) : w.grownBy w' r := ⟨h.os, h.tape, h.output, h.size, h.block⟩

/-- Behind an append to v (its element in a block o of its own), and a store of it into a box p: another row. -/
theorem app_row {w w2 : World} {o : Obj} {v u : Value} {g p off : Nat} {e : TypeId} {xs : List Value} (hg : (w.alloc o).grownBy w2 v.ownBlock) (h : Row w g e xs) (h1 : g ∉ blks v) (h2 : p ≠ g) : Row (w2.setCell ⟨p, off, none⟩ u) g e xs :=
  (grown_row hg (h.alloc o) h1).other h2 u
theorem app_below {w0 w w2 : World} {o : Obj} {v u : Value} {p off : Nat} (hb : Below w0.heap.size w0 w) (hg : (w.alloc o).grownBy w2 v.ownBlock) (hv : ∀ b ∈ blks v, w0.heap.size ≤ b) (hp : w0.heap.size ≤ p) : Below w0.heap.size w0 (w2.setCell ⟨p, off, none⟩ u) :=
  ((below_step hb (below_alloc w o)).trans (grown_below hg (Nat.le_trans hb.size (below_alloc w o).size) hv)).setCell hp u
theorem app_own {α : Type} {R : World → Nat → Value → α → List Nat → Prop} (gd : Good R) {w w2 : World} {o : Obj} {v u y : Value} {p off lo : Nat} {x : α} {cs : List Nat} (hg : (w.alloc o).grownBy w2 v.ownBlock) (h : R w lo y x cs) (h1 : ∀ c ∈ cs, c ∉ blks v) (h2 : p < lo) : R (w2.setCell ⟨p, off, none⟩ u) lo y x cs :=
  gd.under (grown_keep gd hg (gd.below h (below_alloc w o)) h1) (a := ⟨p, off, none⟩) h2 u

theorem nodup_snoc {b c : List Nat} {g n : Nat} (h : (b ++ c).Nodup) (hat : g ∈ b ∨ g = n) (hc : ∀ x ∈ c, x < n) : ([g] ++ c).Nodup := by
  have hN := List.nodup_append.1 h
  rw [List.nodup_append]
  refine ⟨by simp, hN.2.1, ?_⟩
  intro x hx y hy e
  subst e
  simp at hx
  subst hx
  rcases hat with hm | rfl
  · exact hN.2.2 x hm x hy rfl
  · have := hc x hy; omega

end Go.Proofs.Ytklljaeoimgmnaa
