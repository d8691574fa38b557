/-
  The next place: the model's answer.
-/
import Derived.Test.YtdkalefepdlccaaSt2
namespace Go.Proofs.Ytdkalefepdlccaa
open Go.RowKit

def placeIn (t : TData) (s : ByteArray) (p : Int × Int) : Bool := within p.1 0 ((t.mv.length : Int) - 1) && within p.2 0 ((s.size : Int) + 1)
def stepRes (t : TData) (s : ByteArray) (p : Int × Int) : (Int × Int) × Int :=
  if givenC t s = 1 then ((0, 0), 1) else if placeIn t s p then
    (if (moveOn t s p.1.toNat p.2.toNat).1 < 0 then ((0, 0), 4) else (((moveOn t s p.1.toNat p.2.toNat).1, p.2 + (moveOn t s p.1.toNat p.2.toNat).2), 0))
  else ((0, 0), 2)

theorem givenC_or (t : TData) (s : ByteArray) : givenC t s = 0 ∨ givenC t s = 1 := by unfold givenC; split <;> simp
theorem givenC_zero {t : TData} {s : ByteArray} (h : givenC t s = 0) : okT t = true ∧ okWord t.L s = true := by
  unfold givenC at h; split at h
  · assumption
  · cases h
theorem okWord_parts {L : Int} {s : ByteArray} (h : okWord L s = true) : s.size ≤ 60 ∧ lettersOk L s = true := by
  simp only [okWord, Bool.and_eq_true, decide_eq_true_eq] at h
  exact ⟨by omega, h.2.2⟩
theorem placeIn_parts {t : TData} {s : ByteArray} {p : Int × Int} (h : placeIn t s p = true) : (0 ≤ p.1 ∧ p.1 ≤ (t.mv.length : Int) - 1) ∧ (0 ≤ p.2 ∧ p.2 ≤ (s.size : Int) + 1) := by
  simpa [placeIn, within] using h

/-- Three boxes behind each other. -/
def Three (w W : World) (e1 : TypeId) (x1 : List Value) (e2 : TypeId) (x2 : List Value) (e3 : TypeId) (x3 : List Value) : Prop :=
  Below w.heap.size w W ∧ Row W w.heap.size e1 x1 ∧ Row W (w.heap.size + 1) e2 x2 ∧ Row W (w.heap.size + 1 + 1) e3 x3
theorem Three.below {w W W' : World} {e1 e2 e3 : TypeId} {x1 x2 x3 : List Value} (h : Three w W e1 x1 e2 x2 e3 x3) (hb : Below W.heap.size W W') : Three w W' e1 x1 e2 x2 e3 x3 :=
  ⟨below_step h.1 hb, h.2.1.below hb h.2.1.lt, h.2.2.1.below hb h.2.2.1.lt, h.2.2.2.below hb h.2.2.2.lt⟩
theorem Three.bel {w W : World} {e1 e2 e3 : TypeId} {x1 x2 x3 : List Value} (h : Three w W e1 x1 e2 x2 e3 x3) : Below w.heap.size w W := h.1
theorem Three.alloc {w W : World} {e1 e2 e3 : TypeId} {x1 x2 x3 : List Value} (h : Three w W e1 x1 e2 x2 e3 x3) (o : Obj) : Three w (W.alloc o) e1 x1 e2 x2 e3 x3 := h.below (below_alloc _ _)
theorem three_new (w : World) (e1 : TypeId) (x1 : List Value) (e2 : TypeId) (x2 : List Value) (e3 : TypeId) (x3 : List Value) : Three w (((w.alloc (.cells x1.toArray e1)).alloc (.cells x2.toArray e2)).alloc (.cells x3.toArray e3)) e1 x1 e2 x2 e3 x3 := by
  refine ⟨((below_alloc _ _).alloc (by simp) _).alloc (by simp; omega) _, ((Row.new w _ _).alloc _).alloc _, ?_, ?_⟩
  · have := (Row.new (w.alloc (.cells x1.toArray e1)) x2 e2).alloc (.cells x3.toArray e3); simpa using this
  · have := Row.new ((w.alloc (.cells x1.toArray e1)).alloc (.cells x2.toArray e2)) x3 e3; simpa using this

/-- A pair in a cell of the call's own. -/
def Stored (w W : World) (p : Nat) (a b : Value) : Prop := (W.cell? ⟨p, 0, none⟩ = some a ∧ W.cell? ⟨p, 1, none⟩ = some b) ∧ Below w.heap.size w W
theorem Stored.alloc {w W : World} {p : Nat} {a b : Value} (h : Stored w W p a b) (o : Obj) : Stored w (W.alloc o) p a b :=
  ⟨⟨below_keep (below_alloc W o) h.1.1, below_keep (below_alloc W o) h.1.2⟩, below_step h.2 (below_alloc W o)⟩
theorem Stored.below {w W W' : World} {p : Nat} {a b : Value} (h : Stored w W p a b) (hb : Below W.heap.size W W') : Stored w W' p a b :=
  ⟨⟨below_keep hb h.1.1, below_keep hb h.1.2⟩, below_step h.2 hb⟩
theorem Three.store {w W : World} {e1 e2 e3 : TypeId} {x1 x2 : List Value} {u0 u1 : Value} (h : Three w W e1 x1 e2 x2 e3 [u0, u1]) (a b : Value) :
    Stored w ((W.setCell ⟨w.heap.size + 1 + 1, 0, none⟩ a).setCell ⟨w.heap.size + 1 + 1, 1, none⟩ b) (w.heap.size + 1 + 1) a b :=
  ⟨(Row.two (a := a) (b := b) ((h.2.2.2.stored 0 a).stored 1 b)).1, (h.1.setCell (p := ⟨w.heap.size + 1 + 1, 0, none⟩) (by show w.heap.size ≤ w.heap.size + 1 + 1; omega) a).setCell (p := ⟨w.heap.size + 1 + 1, 1, none⟩) (by show w.heap.size ≤ w.heap.size + 1 + 1; omega) b⟩

end Go.Proofs.Ytdkalefepdlccaa
