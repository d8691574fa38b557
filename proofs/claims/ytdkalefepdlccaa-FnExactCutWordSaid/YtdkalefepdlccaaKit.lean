/-
  What a slice reads as: 'Rd w v xs': in the world w the slice value v has the one-cell elements xs (nil or not); its typed forms for integers, bools and lists of these; they stay as they are while nothing that was there is written.
-/
import Derived.WalkKit
import Derived.Deep.Grids
import Derived.Deep.Matrix
import Derived.Below
import Derived.WalkSmall
import Derived.OneCell
import Derived.Deep.OwnRows
import Derived.Lib.Hide
import Derived.Deep.QuietTactic
import Derived.BigQuiet
import Derived.RegionTactic
import Derived.Deep.RegionWith
import Derived.StillTailTactics
import Derived.Deep.RegionHeld3
import Derived.WalkSpells
namespace Go.Proofs.Ytdkalefepdlccaa
open Go.RowKit

/-- The slice v reads in w as the one-cell elements xs. -/
def Rd (w : World) (v : Value) (xs : List Value) : Prop :=
  ∃ A cap, v = .slice A xs.length cap ∧ xs.length ≤ cap ∧ cap ≤ maxLen ∧
    ∀ i u, xs[i]? = some u → ∃ b off, A = some ⟨b, off, none⟩ ∧ w.cell? ⟨b, off + i, none⟩ = some u

theorem Rd.below {w w' : World} {v : Value} {xs : List Value} (h : Rd w v xs) (hb : Below w.heap.size w w') : Rd w' v xs := by
  obtain ⟨A, cap, rfl, h1, h2, h3⟩ := h
  refine ⟨A, cap, rfl, h1, h2, fun i u hu => ?_⟩
  obtain ⟨b, off, hA, hc⟩ := h3 i u hu
  exact ⟨b, off, hA, (hb.cell (p := ⟨b, off + i, none⟩) (World.block_lt_of_cell? w _ hc)).trans hc⟩

def ints (zs : List Int) : List Value := zs.map (Value.int .i64)
def bools (bs : List Bool) : List Value := bs.map Value.bool
def RdI (w : World) (v : Value) (zs : List Int) : Prop := Rd w v (ints zs)
def RdB (w : World) (v : Value) (bs : List Bool) : Prop := Rd w v (bools bs)

/-- A slice of one-cell elements, each of which reads by R. -/
def RdL {α : Type} (R : World → Value → α → Prop) (w : World) (v : Value) (xs : List α) : Prop :=
  ∃ vs, Rd w v vs ∧ vs.length = xs.length ∧ ∀ (i : Nat) u x, vs[i]? = some u → xs[i]? = some x → R w u x
def RdII : World → Value → List (List Int) → Prop := RdL RdI
def RdIII : World → Value → List (List (List Int)) → Prop := RdL RdII

/-- R is kept where nothing that was there is written. -/
def Keeps {α : Type} (R : World → Value → α → Prop) : Prop := ∀ (w w' : World) (v : Value) (x : α), R w v x → Below w.heap.size w w' → R w' v x

theorem keepsI : Keeps RdI := fun _ _ _ _ h hb => Rd.below h hb
theorem keepsB : Keeps RdB := fun _ _ _ _ h hb => Rd.below h hb
theorem keepsL {α : Type} {R : World → Value → α → Prop} (k : Keeps R) : Keeps (RdL R) := fun _ _ _ _ ⟨vs, h, hl, hx⟩ hb => ⟨vs, h.below hb, hl, fun i u x hu hx' => k _ _ _ _ (hx i u x hu hx') hb⟩
theorem keepsII : Keeps RdII := keepsL keepsI
theorem keepsIII : Keeps RdIII := keepsL keepsII

theorem below_alloc (w : World) (o : Obj) : Below w.heap.size w (w.alloc o) := (Below.refl _ _).alloc (Nat.le_refl _) o
theorem below_drew (w : World) : Below w.heap.size w w.drew := (Below.refl _ _).drew
theorem below_drewN' (w : World) (n : Nat) : Below w.heap.size w (w.drewN n) := below_drewN (Below.refl _ _) n
/-- Two steps, each of which leaves what was there. -/
theorem below_step {a b c : World} (h : Below a.heap.size a b) (k : Below b.heap.size b c) : Below a.heap.size a c := h.trans (k.mono h.size)

/-- The world has only drawn. -/
def Qt (w w' : World) : Prop := ∃ m, w' = w.drewN m
theorem Qt.refl (w : World) : Qt w w := ⟨0, rfl⟩
theorem Qt.drewN {w w' : World} (h : Qt w w') (n : Nat) : Qt w (w'.drewN n) := by obtain ⟨m, rfl⟩ := h; exact ⟨m + n, by rw [World.drewN_drewN]⟩
theorem Qt.drew {w w' : World} (h : Qt w w') : Qt w w'.drew := h.drewN 1
theorem Qt.trans {a b c : World} (h : Qt a b) (k : Qt b c) : Qt a c := by obtain ⟨m, rfl⟩ := k; exact h.drewN m
theorem Qt.below {w w' : World} (h : Qt w w') : Below w.heap.size w w' := by obtain ⟨m, rfl⟩ := h; exact below_drewN' w m
theorem Qt.cell {w w' : World} (h : Qt w w') (a : Addr) : w'.cell? a = w.cell? a := by obtain ⟨m, rfl⟩ := h; rfl

theorem below_keep {w w' : World} {p : Addr} {v : Value} (hb : Below w.heap.size w w') (h : w.cell? p = some v) : w'.cell? p = some v := (hb.cell (World.block_lt_of_cell? _ _ h)).trans h

/-- What a walk takes of a call that leaves what was there. -/
theorem bcell {W w1 : World} (hb : Below W.heap.size W w1) : (∀ b o, b < W.heap.size → w1.cell? ⟨b, o, none⟩ = W.cell? ⟨b, o, none⟩) ∧ (∀ b o, b < W.heap.size → w1.frozen? ⟨b, o, none⟩ = W.frozen? ⟨b, o, none⟩) :=
  ⟨fun b o h => hb.cell (p := ⟨b, o, none⟩) h, fun b o h => hb.frozen (p := ⟨b, o, none⟩) h⟩

/-! ### What a slice that reads so gives a walk -/
theorem ints_len (zs : List Int) : (ints zs).length = zs.length := by simp [ints]
theorem bools_len (bs : List Bool) : (bools bs).length = bs.length := by simp [bools]

theorem RdI.open {w : World} {v : Value} {zs : List Int} (h : RdI w v zs) :
    ∃ A cap, v = .slice A zs.length cap ∧ zs.length ≤ cap ∧ cap ≤ maxLen ∧ ∀ i, i < zs.length → ∃ b off z, A = some ⟨b, off, none⟩ ∧ zs[i]? = some z ∧ w.cell? ⟨b, off + i, none⟩ = some (.int .i64 z) := by
  obtain ⟨A, cap, rfl, h1, h2, h3⟩ := h
  rw [ints_len] at h1
  refine ⟨A, cap, by rw [ints_len], h1, h2, fun i hi => ?_⟩
  obtain ⟨b, off, hA, hc⟩ := h3 i (.int .i64 zs[i]) (by simp [ints, hi])
  exact ⟨b, off, zs[i], hA, by simp [hi], hc⟩

theorem RdB.open {w : World} {v : Value} {bs : List Bool} (h : RdB w v bs) :
    ∃ A cap, v = .slice A bs.length cap ∧ bs.length ≤ cap ∧ cap ≤ maxLen ∧ ∀ i, i < bs.length → ∃ b off z, A = some ⟨b, off, none⟩ ∧ bs[i]? = some z ∧ w.cell? ⟨b, off + i, none⟩ = some (.bool z) := by
  obtain ⟨A, cap, rfl, h1, h2, h3⟩ := h
  rw [bools_len] at h1
  refine ⟨A, cap, by rw [bools_len], h1, h2, fun i hi => ?_⟩
  obtain ⟨b, off, hA, hc⟩ := h3 i (.bool bs[i]) (by simp [bools, hi])
  exact ⟨b, off, bs[i], hA, by simp [hi], hc⟩

theorem RdL.open {α : Type} {R : World → Value → α → Prop} {w : World} {v : Value} {xs : List α} (h : RdL R w v xs) :
    ∃ A cap, v = .slice A xs.length cap ∧ xs.length ≤ cap ∧ cap ≤ maxLen ∧ ∀ i, i < xs.length → ∃ b off u x, A = some ⟨b, off, none⟩ ∧ xs[i]? = some x ∧ w.cell? ⟨b, off + i, none⟩ = some u ∧ R w u x := by
  obtain ⟨vs, ⟨A, cap, rfl, h1, h2, h3⟩, hl, hx⟩ := h
  rw [hl] at h1
  refine ⟨A, cap, by rw [hl], h1, h2, fun i hi => ?_⟩
  have hi' : i < vs.length := by omega
  obtain ⟨b, off, hA, hc⟩ := h3 i vs[i] (by simp [hi'])
  exact ⟨b, off, vs[i], xs[i], hA, by simp [hi], hc, hx i _ _ (by simp [hi']) (by simp [hi])⟩

/-! ### A row that the call itself has made -/
/-- Block g holds just the cells xs, of the element type e; nothing in it is frozen. -/
def Row (w : World) (g : Nat) (e : TypeId) (xs : List Value) : Prop := w.heap[g]? = some (.cells xs.toArray e (0, 0))

theorem Row.rd {w : World} {g : Nat} {e : TypeId} {xs : List Value} (h : Row w g e xs) (hm : xs.length ≤ maxLen) : Rd w (.slice (some ⟨g, 0, none⟩) xs.length xs.length) xs :=
  ⟨_, _, rfl, Nat.le_refl _, hm, fun i u hu => ⟨g, 0, rfl, by simp [World.cell?, show w.heap[g]? = _ from h, hu]⟩⟩

theorem Row.cell {w : World} {g : Nat} {e : TypeId} {xs : List Value} (h : Row w g e xs) (i : Nat) : w.cell? ⟨g, i, none⟩ = xs[i]? := by
  simp [World.cell?, show w.heap[g]? = _ from h]

theorem Row.free {w : World} {g : Nat} {e : TypeId} {xs : List Value} (h : Row w g e xs) (i : Nat) : w.frozen? ⟨g, i, none⟩ = false := by
  simp [World.frozen?, show w.heap[g]? = _ from h]

theorem Row.lt {w : World} {g : Nat} {e : TypeId} {xs : List Value} (h : Row w g e xs) : g < w.heap.size := lt_of_block h

theorem Row.below {B : Nat} {w w' : World} {g : Nat} {e : TypeId} {xs : List Value} (h : Row w g e xs) (hb : Below B w w') (hg : g < B) : Row w' g e xs := (hb.block g hg).trans h

theorem Row.stored {w : World} {g : Nat} {e : TypeId} {xs : List Value} (h : Row w g e xs) (i : Nat) (u : Value) : Row (w.setCell ⟨g, i, none⟩ u) g e (xs.set i u) := by
  have h' : w.heap[g]? = some (.cells xs.toArray e (0, 0)) := h
  simp only [Row, World.setCell, Array.getElem?_modify, if_pos, h', Option.map_some]
  simp

theorem Row.other {w : World} {g : Nat} {e : TypeId} {xs : List Value} (h : Row w g e xs) {a : Addr} (ha : a.block ≠ g) (u : Value) : Row (w.setCell a u) g e xs :=
  (Below.heap_setCell w a u g (fun e => ha e.symm)).trans h

theorem Row.alloc {w : World} {g : Nat} {e : TypeId} {xs : List Value} (h : Row w g e xs) (o : Obj) : Row (w.alloc o) g e xs := (Below.heap_alloc w o g h.lt).trans h
theorem Row.drew {w : World} {g : Nat} {e : TypeId} {xs : List Value} (h : Row w g e xs) : Row w.drew g e xs := h

theorem Row.made (w : World) (z : Value) (n : Nat) (e : TypeId) : Row (w.alloc (.cells (madeCells #[z] n) e)) w.heap.size e (List.replicate n z) := by
  have e1 : madeCells #[z] n = (List.replicate n z).toArray := by
    apply Array.ext
    · simp [madeCells]
    · intro i h1 h2
      simp [madeCells, Nat.mod_one]
  rw [e1]
  exact heap_alloc_new w _

theorem Row.ownsRow {w : World} {g : Nat} {e : TypeId} {xs : List Value} (h : Row w g e xs) {base : Nat} (hb : base ≤ g) (hm : xs.length ≤ maxLen) :
    w.ownsRow base e 1 (.slice (some ⟨g, 0, none⟩) xs.length xs.length) xs.length xs :=
  ⟨by simp, .inr ⟨g, xs.length, xs.toArray, rfl, hb, h, Nat.le_refl _, hm, by simp, by simp⟩⟩

/-- What a call's own row reads as, from its law's word. -/
theorem rd_of_ownsRow {w : World} {base : Nat} {e : TypeId} {v : Value} {xs : List Value} (h : w.ownsRow base e 1 v xs.length xs) : Rd w v xs := by
  obtain ⟨_, ⟨rfl, h0⟩ | ⟨g, cap, cur, rfl, _, hg, hl, hm, hs, ht⟩⟩ := h
  · have : xs = [] := List.length_eq_zero_iff.1 h0
    subst this
    exact ⟨none, 0, rfl, Nat.le_refl _, by simp [maxLen], fun i u hu => by simp at hu⟩
  · refine ⟨_, cap, rfl, hl, hm, fun i u hu => ⟨g, 0, rfl, ?_⟩⟩
    rw [Nat.mul_one] at ht
    have : cur.toList[i]? = some u := by
      rw [← ht, List.getElem?_take] at hu
      split at hu
      · exact hu
      · cases hu
    simp [World.cell?, hg]
    simpa using this

theorem Row.new (w : World) (xs : List Value) (e : TypeId) : Row (w.alloc (.cells xs.toArray e)) w.heap.size e xs := heap_alloc_new w _
/-- A struct of four cells in a block of its own. -/
theorem Row.four {w : World} {g : Nat} {e : TypeId} {a b c d : Value} (h : Row w g e [a, b, c, d]) :
    (w.cell? ⟨g, 0, none⟩ = some a ∧ w.cell? ⟨g, 1, none⟩ = some b ∧ w.cell? ⟨g, 2, none⟩ = some c ∧ w.cell? ⟨g, 3, none⟩ = some d) ∧ (∀ i, w.frozen? ⟨g, i, none⟩ = false) :=
  ⟨⟨by simpa using h.cell 0, by simpa using h.cell 1, by simpa using h.cell 2, by simpa using h.cell 3⟩, fun i => h.free i⟩

theorem Row.one {w : World} {g : Nat} {e : TypeId} {a : Value} (h : Row w g e [a]) : (w.cell? ⟨g, 0, none⟩ = some a) ∧ (∀ i, w.frozen? ⟨g, i, none⟩ = false) :=
  ⟨by simpa using h.cell 0, fun i => h.free i⟩
theorem Row.two {w : World} {g : Nat} {e : TypeId} {a b : Value} (h : Row w g e [a, b]) : (w.cell? ⟨g, 0, none⟩ = some a ∧ w.cell? ⟨g, 1, none⟩ = some b) ∧ (∀ i, w.frozen? ⟨g, i, none⟩ = false) :=
  ⟨⟨by simpa using h.cell 0, by simpa using h.cell 1⟩, fun i => h.free i⟩
theorem Row.three {w : World} {g : Nat} {e : TypeId} {a b c : Value} (h : Row w g e [a, b, c]) : (w.cell? ⟨g, 0, none⟩ = some a ∧ w.cell? ⟨g, 1, none⟩ = some b ∧ w.cell? ⟨g, 2, none⟩ = some c) ∧ (∀ i, w.frozen? ⟨g, i, none⟩ = false) :=
  ⟨⟨by simpa using h.cell 0, by simpa using h.cell 1, by simpa using h.cell 2⟩, fun i => h.free i⟩
theorem Row.five {w : World} {g : Nat} {e : TypeId} {a b c d f : Value} (h : Row w g e [a, b, c, d, f]) :
    (w.cell? ⟨g, 0, none⟩ = some a ∧ w.cell? ⟨g, 1, none⟩ = some b ∧ w.cell? ⟨g, 2, none⟩ = some c ∧ w.cell? ⟨g, 3, none⟩ = some d ∧ w.cell? ⟨g, 4, none⟩ = some f) ∧ (∀ i, w.frozen? ⟨g, i, none⟩ = false) :=
  ⟨⟨by simpa using h.cell 0, by simpa using h.cell 1, by simpa using h.cell 2, by simpa using h.cell 3, by simpa using h.cell 4⟩, fun i => h.free i⟩

/-! ### What a call owns -/
/-- In w the slice v is nil, or leads to a row from block lo on that nothing else leads to so far; its elements are xs. -/
def Own (w : World) (e : TypeId) (lo : Nat) (v : Value) (xs : List Value) : Prop := w.ownsRow lo e 1 v xs.length xs
/-- The block behind a slice, if there is one. -/
def blks (v : Value) : List Nat := v.ownBlock.toList

theorem Own.below {w w' : World} {e : TypeId} {lo : Nat} {v : Value} {xs : List Value} (h : Own w e lo v xs) (hb : Below w.heap.size w w') : Own w' e lo v xs :=
  World.ownsRow.kept h (row := none) ⟨hb.os, hb.tape, hb.output, hb.size, fun k hk _ => hb.block k hk⟩ (by cases v.ownBlock <;> simp)
theorem Own.other {w : World} {e : TypeId} {lo : Nat} {v : Value} {xs : List Value} (h : Own w e lo v xs) {a : Addr} (ha : a.block ∉ blks v) (u : Value) : Own (w.setCell a u) e lo v xs :=
  ownsRow_setCell_other h (fun e => ha (by simp [blks, e])) u
theorem Own.lt {w : World} {e : TypeId} {lo : Nat} {v : Value} {xs : List Value} (h : Own w e lo v xs) {b : Nat} (hb : b ∈ blks v) : lo ≤ b ∧ b < w.heap.size :=
  World.ownsRow.lt h b (by simpa [blks] using hb)
theorem Own.shape {w : World} {e : TypeId} {lo : Nat} {v : Value} {xs : List Value} (h : Own w e lo v xs) : ∃ B c, v = .slice B xs.length c := by
  obtain ⟨_, ⟨rfl, h0⟩ | ⟨g, cap, cur, rfl, _⟩⟩ := h
  · exact ⟨none, 0, by rw [h0]⟩
  · exact ⟨_, _, rfl⟩
theorem Rd.shape {w : World} {v : Value} {xs : List Value} (h : Rd w v xs) : ∃ B c, v = .slice B xs.length c := by
  obtain ⟨A, cap, rfl, _⟩ := h; exact ⟨_, _, rfl⟩
theorem Own.rd {w : World} {e : TypeId} {lo : Nat} {v : Value} {xs : List Value} (h : Own w e lo v xs) : Rd w v xs := rd_of_ownsRow h
theorem Own.mono {w : World} {e : TypeId} {lo lo' : Nat} {v : Value} {xs : List Value} (h : Own w e lo v xs) (hl : lo' ≤ lo) : Own w e lo' v xs := by
  obtain ⟨h1, h2 | ⟨g, cap, cur, hv, hb, h3⟩⟩ := h
  · exact ⟨h1, .inl h2⟩
  · exact ⟨h1, .inr ⟨g, cap, cur, hv, Nat.le_trans hl hb, h3⟩⟩
theorem Row.own {w : World} {g : Nat} {e : TypeId} {xs : List Value} (h : Row w g e xs) {lo : Nat} (hb : lo ≤ g) (hm : xs.length ≤ maxLen) : Own w e lo (.slice (some ⟨g, 0, none⟩) xs.length xs.length) xs :=
  h.ownsRow hb hm

/-- A slice of slices, each of them its own. -/
def OwnL {α : Type} (R : World → Nat → Value → α → Prop) (fam : Value → List Nat) (e : TypeId) (w : World) (lo : Nat) (v : Value) (xs : List α) (vs : List Value) : Prop :=
  Own w e lo v vs ∧ vs.length = xs.length ∧ (∀ (i : Nat) u x, vs[i]? = some u → xs[i]? = some x → R w lo u x) ∧ (blks v ++ vs.flatMap fam).Nodup

/-- R is kept by stores below its bound, by calls that leave what was there, and for lesser bounds. -/
structure Stab {α : Type} (R : World → Nat → Value → α → Prop) : Prop where
  under : ∀ w lo u x (a : Addr) val, R w lo u x → a.block < lo → R (w.setCell a val) lo u x
  below : ∀ w w' lo u x, R w lo u x → Below w.heap.size w w' → R w' lo u x
  mono : ∀ w lo lo' u x, R w lo u x → lo' ≤ lo → R w lo' u x

theorem Own.under {w : World} {e : TypeId} {lo : Nat} {v : Value} {xs : List Value} (h : Own w e lo v xs) {a : Addr} (ha : a.block < lo) (u : Value) : Own (w.setCell a u) e lo v xs :=
  h.other (fun hm => by have := (h.lt hm).1; omega) u
theorem stabOwn {α : Type} (e : TypeId) (f : α → List Value) : Stab (fun w lo u x => Own w e lo u (f x)) :=
  ⟨fun _ _ _ _ _ val h ha => h.under ha val, fun _ _ _ _ _ h hb => h.below hb, fun _ _ _ _ _ h hl => h.mono hl⟩

section
variable {α : Type} {R : World → Nat → Value → α → Prop} {fam : Value → List Nat} {e : TypeId} {w w' : World} {lo lo' : Nat} {v : Value} {xs : List α} {vs : List Value}
theorem OwnL.under (s : Stab R) (h : OwnL R fam e w lo v xs vs) {a : Addr} (ha : a.block < lo) (u : Value) : OwnL R fam e (w.setCell a u) lo v xs vs :=
  ⟨h.1.under ha u, h.2.1, fun i p x hp hx => s.under _ _ _ _ _ _ (h.2.2.1 i p x hp hx) ha, h.2.2.2⟩
theorem OwnL.below (s : Stab R) (h : OwnL R fam e w lo v xs vs) (hb : Below w.heap.size w w') : OwnL R fam e w' lo v xs vs :=
  ⟨h.1.below hb, h.2.1, fun i p x hp hx => s.below _ _ _ _ _ (h.2.2.1 i p x hp hx) hb, h.2.2.2⟩
theorem OwnL.mono (s : Stab R) (h : OwnL R fam e w lo v xs vs) (hl : lo' ≤ lo) : OwnL R fam e w lo' v xs vs :=
  ⟨h.1.mono hl, h.2.1, fun i p x hp hx => s.mono _ _ _ _ _ (h.2.2.1 i p x hp hx) hl, h.2.2.2⟩
end

/-- A row that is being filled: the first k of xs, and z behind them. -/
def part (xs : List Value) (k : Nat) (z : Value) : List Value := xs.take k ++ List.replicate (xs.length - k) z
theorem part_zero (xs : List Value) (z : Value) : part xs 0 z = List.replicate xs.length z := by simp [part]
theorem part_full {xs : List Value} {k : Nat} {z : Value} (h : ¬ k < xs.length) : part xs k z = xs := by
  rw [part, List.take_of_length_le (by omega), show xs.length - k = 0 by omega]; simp
theorem part_get {xs : List Value} {k : Nat} {z : Value} (h : k < xs.length) : (part xs k z)[k]? = some z := by
  simp [part, List.getElem?_append, List.getElem?_replicate, Nat.min_eq_left (Nat.le_of_lt h)]; omega
theorem part_set {xs : List Value} {k : Nat} {z u : Value} (h : xs[k]? = some u) : (part xs k z).set k u = part xs (k + 1) z := by
  have hk : k < xs.length := (List.getElem?_eq_some_iff.1 h).1
  have e : xs.length - k = (xs.length - (k + 1)) + 1 := by omega
  rw [part, part, List.set_append, if_neg (by simp; omega), List.take_add_one, h, e, List.replicate_succ]
  simp [Nat.min_eq_left (Nat.le_of_lt hk)]

theorem replicate_snoc_set {us : List Value} {n : Nat} {z u : Value} (h : us.length < n) : (us ++ List.replicate (n - us.length) z).set us.length u = (us ++ [u]) ++ List.replicate (n - (us ++ [u]).length) z := by
  have e : n - us.length = (n - (us ++ [u]).length) + 1 := by simp; omega
  rw [List.set_append, if_neg (by omega), e, List.replicate_succ]
  simp
theorem replicate_snoc_get {us : List Value} {n : Nat} {z : Value} (h : us.length < n) : (us ++ List.replicate (n - us.length) z)[us.length]? = some z := by
  simp [List.getElem?_append, List.getElem?_replicate]; omega

/-- One member more of a family of rows, and then a store below them all. -/
theorem own_snoc {α : Type} {e : TypeId} {lo : Nat} {f : α → List Value} {wr w1 : World} {us : List Value} {xs : List α} {u0 : Value} {x0 : α}
    (hO : ∀ (i : Nat) u x, us[i]? = some u → xs[i]? = some x → Own wr e lo u (f x)) (hN : (us.flatMap blks).Nodup) (hlen : us.length ≤ xs.length) (hB : Below wr.heap.size wr w1) (hu : Own w1 e lo u0 (f x0)) (hb : ∀ b ∈ blks u0, wr.heap.size ≤ b)
    (hx : xs[us.length]? = some x0) {a : Addr} (ha : a.block < lo) (val : Value) :
    (∀ (i : Nat) u x, (us ++ [u0])[i]? = some u → xs[i]? = some x → Own (w1.setCell a val) e lo u (f x)) ∧ ((us ++ [u0]).flatMap blks).Nodup := by
  constructor
  · intro i u x hi hxi
    rw [List.getElem?_append] at hi
    split at hi
    · rename_i hlt
      have h := (hO i u x hi hxi).below hB
      exact h.other (fun hm => by have := (h.lt hm).1; omega) val
    · rename_i hge
      have e0 : i = us.length := by
        have := (List.getElem?_eq_some_iff.1 hi).1
        simp at this; omega
      subst e0
      simp at hi
      subst hi
      rw [hx] at hxi
      cases hxi
      exact hu.other (fun hm => by have := (hu.lt hm).1; omega) val
  · rw [List.flatMap_append, List.nodup_append]
    refine ⟨hN, ?_, ?_⟩
    · simp [blks]; cases u0.ownBlock <;> simp
    · intro b hb1 c hc1 e0
      subst e0
      obtain ⟨u, hu1, hu2⟩ := List.mem_flatMap.1 hb1
      obtain ⟨i, hi⟩ := List.mem_iff_getElem?.1 hu1
      have hi' := (List.getElem?_eq_some_iff.1 hi).1
      have hxl : i < xs.length := by omega
      have := ((hO i u xs[i] hi (by simp [hxl])).lt hu2).2
      have := hb b (by simpa using hc1)
      omega

/-- The family is whole: with the row that leads to it. -/
theorem own_family {α : Type} {e e' : TypeId} {lo : Nat} {f : α → List Value} {w : World} {us : List Value} {xs : List α} {g : Nat}
    (hR : Row w g e us) (hl : us.length = xs.length) (hm : us.length ≤ maxLen) (hO : ∀ (i : Nat) u x, us[i]? = some u → xs[i]? = some x → Own w e' (g + 1) u (f x)) (hN : (us.flatMap blks).Nodup) (hg : lo ≤ g) :
    OwnL (fun w lo u x => Own w e' lo u (f x)) blks e w lo (.slice (some ⟨g, 0, none⟩) xs.length xs.length) xs us := by
  refine ⟨by rw [← hl]; exact hR.own hg hm, hl, fun i u x hi hx => (hO i u x hi hx).mono (by omega), ?_⟩
  show ([g] ++ us.flatMap blks).Nodup
  rw [List.nodup_append]
  refine ⟨by simp, hN, ?_⟩
  intro b hb c hc e0
  subst e0
  obtain ⟨u, hu1, hu2⟩ := List.mem_flatMap.1 hc
  obtain ⟨i, hi⟩ := List.mem_iff_getElem?.1 hu1
  have hi' := (List.getElem?_eq_some_iff.1 hi).1
  have := ((hO i u xs[i] hi (by simp [hl ▸ hi'])).lt hu2).1
  simp at hb
  omega

/-- Rows before a family that begins behind them. -/
theorem nodup_before {α : Type} {e e' : TypeId} {lo : Nat} {f : α → List Value} {w : World} {v : Value} {vs : List Value} {xs : List α} {l : List Nat}
    (h : OwnL (fun w lo u x => Own w e' lo u (f x)) blks e w lo v xs vs) (hl : ∀ b ∈ l, b < lo) (hn : l.Nodup) : (l ++ (blks v ++ vs.flatMap blks)).Nodup := by
  rw [List.nodup_append]
  refine ⟨hn, h.2.2.2, ?_⟩
  intro b hb c hc e0
  subst e0
  have := hl b hb
  rcases List.mem_append.1 hc with hc | hc
  · have := (h.1.lt hc).1; omega
  · obtain ⟨u, hu1, hu2⟩ := List.mem_flatMap.1 hc
    obtain ⟨i, hi⟩ := List.mem_iff_getElem?.1 hu1
    have hi' : i < xs.length := by have := (List.getElem?_eq_some_iff.1 hi).1; have := h.2.1; omega
    have := ((h.2.2.1 i u xs[i] hi (by simp [hi'])).lt hu2).1
    omega

theorem blks_some (g n c : Nat) : blks (.slice (some ⟨g, 0, none⟩) n c) = [g] := rfl

/-- A call that changes nothing, or only draws, leaves what was there. -/
theorem ofSame {P : Program} {f : FuncId} {args : Array Value} {w : World} {r : Ending} (h : Calls P f args w fun e w' => e = r ∧ w = w') : Calls P f args w fun e w' => e = r ∧ Below w.heap.size w w' :=
  h.mono fun _ _ ⟨a, b⟩ => ⟨a, b ▸ Below.refl _ _⟩
theorem ofQt {P : Program} {f : FuncId} {args : Array Value} {w : World} {r : Ending} (h : Calls P f args w fun e w' => e = r ∧ Qt w w') : Calls P f args w fun e w' => e = r ∧ Below w.heap.size w w' :=
  h.mono fun _ _ ⟨a, b⟩ => ⟨a, b.below⟩

/-! ### Numbers of the walk -/
theorem ret_bool {a b : Bool} (h : a = b) : Ending.returned (.bool a) = .returned (.bool b) := by rw [h]
theorem ret_int {k : IntKind} {a b : Int} (h : a = b) : Ending.returned (.int k a) = .returned (.int k b) := by rw [h]

/-- A list's beginning, one element longer. -/
theorem take_succ_of {α : Type} {l : List α} {i : Nat} {x : α} (h : l[i]? = some x) : l.take (i + 1) = l.take i ++ [x] := by
  rw [List.take_add_one, h]; rfl

theorem takes_succ {α : Type} {xs ys : List α} {k : Nat} {x : α} (h : xs.take k = ys.take k) (hx : xs[k]? = some x) (hy : ys[k]? = some x) : xs.take (k + 1) = ys.take (k + 1) := by
  rw [take_succ_of hx, take_succ_of hy, h]
theorem ne_at {α : Type} {xs ys : List α} {k : Nat} {x y : α} (hx : xs[k]? = some x) (hy : ys[k]? = some y) (h : x ≠ y) : xs ≠ ys := by
  rintro rfl; rw [hx] at hy; exact h (by cases hy; rfl)
theorem eq_of_takes {α : Type} {xs ys : List α} {k : Nat} (hl : xs.length = ys.length) (hk : ¬ k < xs.length) (h : xs.take k = ys.take k) : xs = ys := by
  rwa [List.take_of_length_le (by omega), List.take_of_length_le (by omega)] at h

end Go.Proofs.Ytdkalefepdlccaa
