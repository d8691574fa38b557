/-
  Sizes of lists, with what they hold in all; worlds in which some blocks have turned.
-/
import Derived.Test.YtdkalefepdlccaaMk
import Derived.Test.YtdkalefepdlccaaO2
namespace Go.Proofs.Ytdkalefepdlccaa
open Go.RowKit

/-- Of what was there, only the blocks bs may have turned. -/
structure Turned (bs : List Nat) (w w' : World) : Prop where
  os : w'.os = w.os
  tape : w'.tape = w.tape
  output : w'.output = w.output
  size : w.heap.size ≤ w'.heap.size
  block : ∀ k, k < w.heap.size → k ∉ bs → w'.heap[k]? = w.heap[k]?
theorem Turned.alloc (w : World) (o : Obj) : Turned [] w (w.alloc o) :=
  have h := below_alloc w o
  ⟨h.os, h.tape, h.output, h.size, fun k hk _ => h.block k hk⟩
theorem Turned.only {bs cs : List Nat} {a b c : World} (h : Turned bs a b) (k : Only cs b c) : Turned (bs ++ cs) a c :=
  ⟨k.os.trans h.os, k.tape.trans h.tape, k.output.trans h.output, by rw [k.size]; exact h.size, fun i hi hn => by
    rw [List.mem_append, not_or] at hn
    exact (k.block i hn.2).trans (h.block i hi hn.1)⟩
theorem Turned.mono {bs cs : List Nat} {a b : World} (h : Turned bs a b) (hs : ∀ x ∈ bs, x ∈ cs) : Turned cs a b :=
  ⟨h.os, h.tape, h.output, h.size, fun i hi hn => h.block i hi (fun hm => hn (hs i hm))⟩
theorem Turned.below {bs : List Nat} {w w' : World} (h : Turned bs w w') {B : Nat} (hB : B ≤ w.heap.size) (hb : ∀ b ∈ bs, B ≤ b) : Below B w w' :=
  ⟨h.os, h.tape, h.output, h.size, fun k hk => h.block k (by omega) (fun hm => by have := hb k hm; omega)⟩
theorem Turned.keep {α : Type} {R : World → Nat → Value → α → List Nat → Prop} (g : Good R) {bs cs : List Nat} {w w' : World} (h : Turned bs w w') {lo : Nat} {v : Value} {x : α} (k : R w lo v x cs) (hd : ∀ c ∈ cs, c ∉ bs) : R w' lo v x cs :=
  g.same k (fun c hc => h.block c (g.lt k hc).2 (hd c hc))
theorem Only.turned {bs : List Nat} {w w' : World} (h : Only bs w w') : Turned bs w w' := ⟨h.os, h.tape, h.output, Nat.le_of_eq h.size.symm, fun k _ hn => h.block k hn⟩
theorem Below.turned {w w' : World} (h : Below w.heap.size w w') : Turned [] w w' := ⟨h.os, h.tape, h.output, h.size, fun k hk _ => h.block k hk⟩
theorem Row.same {w w' : World} {g : Nat} {e : TypeId} {xs : List Value} (h : Row w g e xs) (hb : w'.heap[g]? = w.heap[g]?) : Row w' g e xs := hb.trans h
theorem numL_mono {α : Type} {f g : α → Nat} (h : ∀ x, f x ≤ g x) (xs : List α) : numL f xs ≤ numL g xs := by
  induction xs with
  | nil => simp [numL]
  | cons x r ih => simp only [numL, List.map_cons, List.sum_cons] at ih ⊢; have := h x; omega
theorem numL_two {α : Type} (f : α → Nat) (xs : List α) : numL (fun x => 2 * f x) xs = 2 * numL f xs := by
  induction xs with
  | nil => simp [numL]
  | cons x r ih => simp only [numL, List.map_cons, List.sum_cons] at ih ⊢; omega

theorem szInt64S_tot (v : Value) (xs : List (Int)) (left : Int) (w : World) (h : RdI w v xs) (h0 : 0 ≤ left) (hb : left ≤ 4611686018427387904) :
    Calls Try.prog 80 #[v, .int .i64 left] w fun e w' => (∃ n : Int, e = .returned (.int .i64 n) ∧ (n < 0 ∨ n + (xs.length : Int) = left)) ∧ w = w' := by
  obtain ⟨A, cap, rfl, h1, h2, h3⟩ := h.open
  clear h3
  unfold maxLen at h2
  by_cases hl : left - (xs.length : Int) < 0
  · go_enter Try.func80, Try.ntmps80
    go_wp2
    go_ret
    exact ⟨⟨_, rfl, .inl (by decide)⟩, rfl⟩
  · go_enter Try.func80, Try.ntmps80
    go_wp2
    go_ret
    exact ⟨⟨_, rfl, .inr (by omega)⟩, rfl⟩

end Go.Proofs.Ytdkalefepdlccaa
