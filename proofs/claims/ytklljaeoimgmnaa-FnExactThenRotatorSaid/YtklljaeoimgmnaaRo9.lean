/-
  The rotator with the opposite verdicts: the model's answer and the program's.
-/
import Derived.Test.YtklljaeoimgmnaaRo8
import Derived.Deep.RegionHeld3
namespace Go.Proofs.Ytklljaeoimgmnaa
open Go.RowKit

def flipEnd (e : Int) : Int := if e = -1 then -2 else if e = -2 then -1 else e
def notRes (r : OData) : OData × Int := if okO r = true then (chgO 0 flipEnd r, 0) else (⟨0, 0, [], []⟩, 1)
theorem numRows_le (by0 : Int) (xs : List (List Int)) : numL (fun x : List Int => x.length) (addRows by0 xs) = numL (fun x : List Int => x.length) xs := by
  simp only [numL, addRows, List.map_map]
  congr 1
  exact List.map_congr_left (fun x _ => by simp [addRow])
theorem okO_cnt {r : OData} (h : okO r = true) : numL (fun x : List Int => x.length) r.next ≤ 18 ∧ r.fin.length ≤ 6 := by
  obtain ⟨l, n, s, m, rows, -⟩ := okO_parts h
  have hsum : ∀ l : List (List Int), (∀ x ∈ l, x.length ≤ 3) → numL (fun x : List Int => x.length) l ≤ 3 * l.length := by
    intro l
    induction l with
    | nil => intro _; simp [numL]
    | cons x r ih => intro h; simp only [numL, List.map_cons, List.sum_cons, List.length_cons] at ih ⊢; have := ih (fun y hy => h y (by simp [hy])); have := h x (by simp); omega
  have h3 := hsum r.next (fun x hx => by
    have := List.all_eq_true.1 rows x hx
    simp only [okRow, Bool.and_eq_true, decide_eq_true_eq] at this
    omega)
  omega
theorem not_num (r : OData) : (numO (notRes r).1 : Int) ≤ 2305843009213693952 := by
  unfold notRes
  split
  · rename_i h
    have := okO_cnt h
    simp only [numO, chgO, numRows_le, List.length_map]; omega
  · simp [numO, numL]

theorem keep_reallocO {w : World} {o o' : Obj} {b i : Nat} {v : Value} (hp : b < w.heap.size) (h : (w.alloc o).cell? ⟨b, i, none⟩ = some v) : (w.alloc o').cell? ⟨b, i, none⟩ = some v := by
  have e1 := (below_alloc w o).cell (p := ⟨b, i, none⟩) hp
  have e2 := (below_alloc w o').cell (p := ⟨b, i, none⟩) hp
  rw [e2, ← e1]; exact h
theorem keep4O {w : World} {q p i : Nat} {a b c d v : Value} (hq : p < q) (h : w.cell? ⟨p, i, none⟩ = some v) : ((((w.setCell ⟨q, 0, none⟩ a).setCell ⟨q, 1, none⟩ b).setCell ⟨q, 2, none⟩ c).setCell ⟨q, 3, none⟩ d).cell? ⟨p, i, none⟩ = some v := by
  rw [World.cell?_of_block (w := w) (w' := ((((w.setCell ⟨q, 0, none⟩ a).setCell ⟨q, 1, none⟩ b).setCell ⟨q, 2, none⟩ c).setCell ⟨q, 3, none⟩ d)) (a := ⟨p, i, none⟩) ?_]
  · exact h
  · have e : ∀ (W : World) (j : Nat) (u : Value), (W.setCell ⟨q, j, none⟩ u).heap[p]? = W.heap[p]? := fun W j u => Below.heap_setCell W ⟨q, j, none⟩ u p (fun e => by subst e; simp at hq)
    show ((((w.setCell ⟨q, 0, none⟩ a).setCell ⟨q, 1, none⟩ b).setCell ⟨q, 2, none⟩ c).setCell ⟨q, 3, none⟩ d).heap[p]? = w.heap[p]?
    rw [e, e, e, e]
theorem drew_cell (W : World) (a : Addr) : W.drew.cell? a = W.cell? a := rfl
theorem keep4O_drew {w : World} {q p i : Nat} {a b c d v : Value} (hq : p < q) (h : w.cell? ⟨p, i, none⟩ = some v) : ((((w.setCell ⟨q, 0, none⟩ a).setCell ⟨q, 1, none⟩ b).setCell ⟨q, 2, none⟩ c).setCell ⟨q, 3, none⟩ d).drew.cell? ⟨p, i, none⟩ = some v := (drew_cell _ _).trans (keep4O hq h)

/-- A rotator in a box that a region has made. -/
def AtBoxO (W : World) (r : OData) (s : Value) (wx : World) : Prop := ∃ po, s = .pointer (some ⟨po, 0, none⟩) ∧ W.heap.size ≤ po ∧ Below W.heap.size W wx ∧ BoxO wx W.heap.size po r
theorem AtBoxO.drew {W : World} {r : OData} {s : Value} {wx : World} (k : AtBoxO W r s wx) : AtBoxO W r s wx.drew := by
  obtain ⟨po, a, b, c, d⟩ := k
  exact ⟨po, a, b, c.drew, d.below (below_drew _)⟩
theorem atBoxO_new {W wb : World} {L S : Int} {u : Value} {rows : List (List Int)} {bs : List Nat} (hb : Below W.heap.size W wb) (hu : OwII wb W.heap.size u rows bs ∧ ∀ b ∈ bs, W.heap.size ≤ b) :
    AtBoxO W ⟨L, S, rows, []⟩ (.pointer (some ⟨wb.heap.size, 0, none⟩)) (wb.alloc (.cells #[.int .i64 L, .int .i64 S, u, .slice none 0 0] 40)) :=
  ⟨_, rfl, hb.size, below_step hb (below_alloc _ _), u, _, bs, [], Row.new wb [.int .i64 L, .int .i64 S, u, .slice none 0 0] _, goodII.below hu.1 (below_alloc _ _), owV_nil ints [] rfl _ _ _, by simpa using goodII.nodup hu.1, by
    intro hm
    simp only [List.append_nil] at hm
    have := (goodII.lt hu.1 hm).2
    omega⟩
theorem atBoxO_old {W wb : World} {po : Nat} {L S : Int} {u z0 z1 z2 z3 : Value} {rows : List (List Int)} {bs : List Nat} (hz : Row wb po 40 [z0, z1, z2, z3] ∧ ∀ b ∈ bs, po < b) (hp : W.heap.size ≤ po) (hb : Below W.heap.size W wb) (hu : OwII wb W.heap.size u rows bs ∧ ∀ b ∈ bs, W.heap.size ≤ b) :
    AtBoxO W ⟨L, S, rows, []⟩ (.pointer (some ⟨po, 0, none⟩)) ((((wb.setCell ⟨po, 0, none⟩ (.int .i64 L)).setCell ⟨po, 1, none⟩ (.int .i64 S)).setCell ⟨po, 2, none⟩ u).setCell ⟨po, 3, none⟩ (.slice none 0 0)) := by
  have hn : po ∉ bs := fun hm => by have := hz.2 _ hm; omega
  refine ⟨_, rfl, hp, (((hb.setCell (p := ⟨po, 0, none⟩) hp _).setCell (p := ⟨po, 1, none⟩) hp _).setCell (p := ⟨po, 2, none⟩) hp _).setCell (p := ⟨po, 3, none⟩) hp _, u, _, bs, [], (((hz.1.stored 0 (.int .i64 L)).stored 1 (.int .i64 S)).stored 2 u).stored 3 (.slice none 0 0), ?_, owV_nil ints [] rfl _ _ _, by simpa using goodII.nodup hu.1, by simpa using hn⟩
  exact goodII.other (a := ⟨po, 3, none⟩) _ (goodII.other (a := ⟨po, 2, none⟩) _ (goodII.other (a := ⟨po, 1, none⟩) _ (goodII.other (a := ⟨po, 0, none⟩) _ hu.1 hn) hn) hn) hn

/-- What stands while the model makes a rotator: the argument's box, the result's, and the one in which it is made. -/
def NoI (w : World) (po : Nat) (cR : List Value) (r : OData) (wr : World) : Prop :=
  Below w.heap.size w wr ∧ Row wr w.heap.size 40 cR ∧ Row wr (w.heap.size + 1) 40 [.int .i64 0, .int .i64 0, .slice none 0 0, .slice none 0 0] ∧ w.heap.size + 2 ≤ po ∧ BoxO wr (w.heap.size + 2) po r
theorem NoI.below {w : World} {po : Nat} {cR : List Value} {r : OData} {wr w' : World} (h : NoI w po cR r wr) (hb : Below wr.heap.size wr w') : NoI w po cR r w' :=
  ⟨below_step h.1 hb, h.2.1.below hb h.2.1.lt, h.2.2.1.below hb h.2.2.1.lt, h.2.2.2.1, h.2.2.2.2.below hb⟩
theorem NoI.stored {w : World} {po : Nat} {cR : List Value} {r : OData} {wr w2 : World} {r' : OData} {v u : Value} {i : Nat} {w1 : World} (h : NoI w po cR r wr) (hb1 : Below wr.heap.size wr w1) (hg : w1.grownBy w2 v.ownBlock) (hv : ∀ b ∈ blks v, w.heap.size + 2 ≤ b) (hbox : BoxO (w2.setCell ⟨po, i, none⟩ u) (w.heap.size + 2) po r') :
    NoI w po cR r' (w2.setCell ⟨po, i, none⟩ u) := by
  have h1 := below_step h.1 hb1
  have hpo := h.2.2.2.1
  refine ⟨(h1.trans (grown_below hg h1.size (fun b hb => by have := hv b hb; omega))).setCell (p := ⟨po, i, none⟩) (by show w.heap.size ≤ po; omega) _, (grown_row hg (h.2.1.below hb1 h.2.1.lt) (fun hm => by have := hv _ hm; omega)).other (by show po ≠ w.heap.size; omega) _, (grown_row hg (h.2.2.1.below hb1 h.2.2.1.lt) (fun hm => by have := hv _ hm; omega)).other (by show po ≠ w.heap.size + 1; omega) _, hpo, hbox⟩

theorem undrewB {w w' : World} (h : Below w.drew.heap.size w.drew w') : Below w.heap.size w w' := below_step (below_drew w) h
/-- A box of zeros that was made ahead of a call. -/
theorem oldZ {w wb : World} {o : TypeId} {z0 z1 z2 z3 u : Value} {lo : Nat} {rows : List (List Int)} {bs : List Nat} (h : Below (w.alloc (.cells #[z0, z1, z2, z3] o)).heap.size (w.alloc (.cells #[z0, z1, z2, z3] o)) wb) (hu : OwII wb lo u rows bs) (hlo : w.heap.size < lo := by simp) : Row wb w.heap.size o [z0, z1, z2, z3] ∧ ∀ b ∈ bs, w.heap.size < b :=
  ⟨(Row.new w [z0, z1, z2, z3] o).below h (Row.new w _ _).lt, fun b hb => Nat.lt_of_lt_of_le hlo (goodII.lt hu hb).1⟩
theorem rowsShape {P : Program} {f : FuncId} {args : Array Value} {W : World} {by0 : Int} {next : List (List Int)} (h : Calls P f args W fun e w' => ∃ u bs, e = .returned u ∧ OwL (OwV ints 2) 36 w' W.heap.size u (addRows by0 next) bs ∧ Below W.heap.size W w') :
    Calls P f args W fun e w' => ∃ Bu ku bs, e = .returned (.slice Bu next.length ku) ∧ OwII w' W.heap.size (.slice Bu next.length ku) (addRows by0 next) bs ∧ Below W.heap.size W w' :=
  h.mono fun e w' ⟨u, bs, he, hu, hb⟩ => by
    obtain ⟨Bu, ku, rfl⟩ := OwL.shape hu
    rw [addRows_len] at he hu
    exact ⟨Bu, ku, bs, he, hu, hb⟩
end Go.Proofs.Ytklljaeoimgmnaa
