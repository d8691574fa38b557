/-
  A rotator with greater numbers of states and other endings, by the program.
-/
import Derived.Test.YtklljaeoimgmnaaRo7
import Derived.Test.YtklljaeoimgmnaaRo3
import Derived.Deep.RegionLaw
import Derived.Deep.CutRange
namespace Go.Proofs.Ytklljaeoimgmnaa
open Go.RowKit

def chgO (by0 : Int) (f : Int → Int) (r : OData) : OData := ⟨r.L, r.S + by0, addRows by0 r.next, r.fin.map f⟩

/-- What stands while a rotator is changed: the argument's box, the result's, and the one in which it is made. -/
def ChI (w : World) (cR : List Value) (r : OData) (wr : World) : Prop :=
  Below w.heap.size w wr ∧ Row wr w.heap.size 40 cR ∧ Row wr (w.heap.size + 1) 40 [.int .i64 0, .int .i64 0, .slice none 0 0, .slice none 0 0] ∧ BoxO wr (w.heap.size + 2) (w.heap.size + 2) r
theorem ChI.below {w : World} {cR : List Value} {r : OData} {wr w' : World} (h : ChI w cR r wr) (hb : Below wr.heap.size wr w') : ChI w cR r w' :=
  ⟨below_step h.1 hb, h.2.1.below hb h.2.1.lt, h.2.2.1.below hb h.2.2.1.lt, h.2.2.2.below hb⟩
theorem ChI.stored {w : World} {cR : List Value} {r : OData} {wr w2 : World} {r' : OData} {v u : Value} {i : Nat} {w1 : World} (h : ChI w cR r wr) (hb1 : Below wr.heap.size wr w1) (hg : w1.grownBy w2 v.ownBlock) (hv : ∀ b ∈ blks v, w.heap.size + 2 ≤ b) (hbox : BoxO (w2.setCell ⟨w.heap.size + 2, i, none⟩ u) (w.heap.size + 2) (w.heap.size + 2) r') :
    ChI w cR r' (w2.setCell ⟨w.heap.size + 2, i, none⟩ u) := by
  have h1 := below_step h.1 hb1
  refine ⟨(h1.trans (grown_below hg h1.size (fun b hb => by have := hv b hb; omega))).setCell (p := ⟨w.heap.size + 2, i, none⟩) (by show w.heap.size ≤ w.heap.size + 2; omega) _, (grown_row hg (h.2.1.below hb1 h.2.1.lt) (fun hm => by have := hv _ hm; omega)).other (by show w.heap.size + 2 ≠ w.heap.size; omega) _, (grown_row hg (h.2.2.1.below hb1 h.2.2.1.lt) (fun hm => by have := hv _ hm; omega)).other (by show w.heap.size + 2 ≠ w.heap.size + 1; omega) _, hbox⟩

end Go.Proofs.Ytklljaeoimgmnaa
