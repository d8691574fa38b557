/-
  ManyOfCycles: what it is, and a round of its making.
-/
import Derived.Test.YtjojmlaipcbmkaaBM
import Derived.Test.YtjojmlaipcbmkaaArgBB
import Derived.Test.YtjojmlaipcbmkaaCc1
namespace Go.Proofs.Ytjojmlaipcbmkaa
open Go.RowKit

def ringTo (first n k : Nat) : Int := if k + 1 = n then (first : Int) else (first : Int) + (k : Int) + 1
/-- The first k states of a cycle of n states. -/
def ringRows (first n k : Nat) : List (List (List Int)) := (List.range k).map fun i => [[ringTo first n i]]
theorem ringRows_succ (first n k : Nat) : ringRows first n (k + 1) = ringRows first n k ++ [[[ringTo first n k]]] := by simp [ringRows, List.range_succ]
theorem ringRows_len (first n k : Nat) : (ringRows first n k).length = k := by simp [ringRows]
def addCycle (m : MData) (c : List Bool) : MData := ⟨m.L, m.st ++ [(m.acc.length : Int)], m.acc ++ c, m.next ++ ringRows m.acc.length c.length c.length⟩
def manyC (cs : List (List Bool)) : MData := cs.foldl addCycle ⟨1, [], [], []⟩
theorem manyC_succ {cs : List (List Bool)} {k : Nat} {c : List Bool} (h : cs[k]? = some c) : manyC (cs.take (k + 1)) = addCycle (manyC (cs.take k)) c := by
  unfold manyC
  rw [take_succ_of h, List.foldl_append]; rfl
def okCyc (c : List Bool) : Bool := within (c.length : Int) 1 12
def okCycs (cs : List (List Bool)) : Bool := within (cs.length : Int) 1 4 && cs.all okCyc
def cycsRes (cs : List (List Bool)) : MData × Int :=
  if okCycs cs then (if 10 < (manyC cs).acc.length then (⟨0, [], [], []⟩, 3) else (manyC cs, 0)) else (⟨0, [], [], []⟩, 2)
theorem okCyc_parts {c : List Bool} (h : okCyc c = true) : 1 ≤ c.length ∧ c.length ≤ 12 := by
  simp only [okCyc, within, decide_eq_true_eq] at h; omega
theorem fold_inv (cs : List (List Bool)) : ∀ (m : MData) (a : Nat), (∀ c ∈ cs, okCyc c = true) → m.acc.length ≤ 12 * a → m.next.length = m.acc.length → m.st.length = a →
    (cs.foldl addCycle m).acc.length ≤ 12 * (a + cs.length) ∧ (cs.foldl addCycle m).next.length = (cs.foldl addCycle m).acc.length ∧ (cs.foldl addCycle m).st.length = a + cs.length ∧ (cs.foldl addCycle m).L = m.L := by
  induction cs with
  | nil => intro m a _ h1 h2 h3; exact ⟨by simpa using h1, h2, by simpa using h3, rfl⟩
  | cons c r ih =>
    intro m a hc h1 h2 h3
    have hcc := okCyc_parts (hc c (by simp))
    obtain ⟨k1, k2, k3, k4⟩ := ih (addCycle m c) (a + 1) (fun x hx => hc x (by simp [hx])) (by simp [addCycle]; omega) (by simp [addCycle, ringRows_len]; omega) (by simp [addCycle]; omega)
    simp only [List.foldl_cons, List.length_cons]
    exact ⟨by omega, k2, by omega, k4⟩
theorem manyC_inv {cs : List (List Bool)} (h : ∀ c ∈ cs, okCyc c = true) : (manyC cs).acc.length ≤ 12 * cs.length ∧ (manyC cs).next.length = (manyC cs).acc.length ∧ (manyC cs).st.length = cs.length ∧ (manyC cs).L = 1 := by
  have := fold_inv cs ⟨1, [], [], []⟩ 0 h (by simp) rfl rfl
  simpa [manyC] using this
theorem cycs_num (cs : List (List Bool)) : (numM (cycsRes cs).1 : Int) ≤ 2305843009213693952 := by
  unfold cycsRes
  split
  · rename_i h
    split
    · simp [numM, numL]
    · rename_i h2
      simp only [okCycs, within, Bool.and_eq_true, decide_eq_true_eq, List.all_eq_true] at h
      obtain ⟨k1, k2, k3, k4⟩ := manyC_inv h.2
      have hin : ∀ (cs : List (List Bool)) (m : MData), (∀ x ∈ m.next, numL (fun x : List Int => x.length) x = 1) → ∀ x ∈ (cs.foldl addCycle m).next, numL (fun x : List Int => x.length) x = 1 := by
        intro cs
        induction cs with
        | nil => intro m h; exact h
        | cons c r ih =>
          intro m h
          refine ih (addCycle m c) (fun x hx => ?_)
          rcases List.mem_append.1 hx with hx | hx
          · exact h x hx
          · obtain ⟨i, _, rfl⟩ := List.mem_map.1 hx; rfl
      have hall := hin cs ⟨1, [], [], []⟩ (by simp)
      have hsum : ∀ l : List (List (List Int)), (∀ x ∈ l, numL (fun x : List Int => x.length) x = 1) → numL (fun x : List (List Int) => numL (fun x : List Int => x.length) x) l = l.length := by
        intro l
        induction l with
        | nil => intro _; rfl
        | cons x r ih => intro h; simp only [numL, List.map_cons, List.sum_cons, List.length_cons] at ih ⊢; rw [ih (fun y hy => h y (by simp [hy]))]; have := h x (by simp); simp only [numL] at this; omega
      have h5 := hsum _ hall
      simp only [numM]
      have h6 : (manyC cs).next.length = (List.foldl addCycle ⟨1, [], [], []⟩ cs).next.length := rfl
      have h7 : numL (fun x : List (List Int) => numL (fun x : List Int => x.length) x) (manyC cs).next = numL (fun x : List (List Int) => numL (fun x : List Int => x.length) x) (List.foldl addCycle ⟨1, [], [], []⟩ cs).next := rfl
      omega
  · simp [numM, numL]

/-- What stands while the automaton is being made: the result's box, and the automaton in its box. -/
def McI (w : World) (lo po : Nat) (m : MData) (wr : World) : Prop :=
  Below w.heap.size w wr ∧ Row wr w.heap.size 60 [.int .i64 0, .slice none 0 0, .slice none 0 0, .slice none 0 0] ∧ BoxM wr lo po m
theorem McI.below {w : World} {lo po : Nat} {m : MData} {wr w' : World} (h : McI w lo po m wr) (hb : Below wr.heap.size wr w') : McI w lo po m w' := ⟨below_step h.1 hb, h.2.1.below hb h.2.1.lt, h.2.2.below hb⟩

/-- What a walk is told of the box: its cells, and what each append and store makes of it. -/
theorem McI.open {w : World} {lo po : Nat} {L : Int} {st : List Int} {acc : List Bool} {next : List (List (List Int))} {wr : World} (h : McI w lo po ⟨L, st, acc, next⟩ wr) (hlo : w.heap.size < lo) (hlp : lo ≤ po) :
    ∃ Bs ks Ba ka Bn kn, ∃ vs : List Value, Row wr po 60 [.int .i64 L, .slice Bs st.length ks, .slice Ba acc.length ka, .slice Bn next.length kn] ∧
      wr.ownsRow lo 2 1 (.slice Bs st.length ks) st.length (ints st) ∧ wr.ownsRow lo 4 1 (.slice Ba acc.length ka) acc.length (bools acc) ∧ wr.ownsRow lo 23 1 (.slice Bn next.length kn) next.length vs ∧
      (po ∉ blks (.slice Bs st.length ks) ∧ po ∉ blks (.slice Ba acc.length ka) ∧ po ∉ blks (.slice Bn next.length kn)) ∧
      (∀ (ys : List Int) (w1 w2 : World) (g cap H : Nat), Below wr.heap.size wr w1 → w1.grownBy w2 (Value.slice Bs st.length ks).ownBlock → w2.ownsRow lo 2 1 (.slice (some ⟨g, 0, none⟩) (st.length + ys.length) cap) (st.length + ys.length) (ints st ++ ints ys) →
        ((Value.slice Bs st.length ks).ownBlock = some g ∨ g = H) → w1.heap.size ≤ H → McI w lo po ⟨L, st ++ ys, acc, next⟩ (w2.setCell ⟨po, 1, none⟩ (.slice (some ⟨g, 0, none⟩) (st.length + ys.length) cap))) ∧
      (∀ (ys : List Bool) (w1 w2 : World) (g cap H : Nat), Below wr.heap.size wr w1 → w1.grownBy w2 (Value.slice Ba acc.length ka).ownBlock → w2.ownsRow lo 4 1 (.slice (some ⟨g, 0, none⟩) (acc.length + ys.length) cap) (acc.length + ys.length) (bools acc ++ bools ys) →
        ((Value.slice Ba acc.length ka).ownBlock = some g ∨ g = H) → w1.heap.size ≤ H → McI w lo po ⟨L, st, acc ++ ys, next⟩ (w2.setCell ⟨po, 2, none⟩ (.slice (some ⟨g, 0, none⟩) (acc.length + ys.length) cap))) ∧
      (∀ (to : Int) (w2 : World) (g cap : Nat), (((wr.alloc (.cells #[.int .i64 to] 2)).alloc (.cells #[.slice (some ⟨wr.heap.size, 0, none⟩) 1 1] 47)).alloc (.cells #[.slice (some ⟨wr.heap.size + 1, 0, none⟩) 1 1] 23)).grownBy w2 (Value.slice Bn next.length kn).ownBlock →
        w2.ownsRow lo 23 1 (.slice (some ⟨g, 0, none⟩) (next.length + 1) cap) (next.length + 1) (vs ++ [.slice (some ⟨wr.heap.size + 1, 0, none⟩) 1 1]) → ((Value.slice Bn next.length kn).ownBlock = some g ∨ g = wr.heap.size + 1 + 1 + 1) →
        McI w lo po ⟨L, st, acc, next ++ [[[to]]]⟩ (w2.setCell ⟨po, 3, none⟩ (.slice (some ⟨g, 0, none⟩) (next.length + 1) cap))) := by
  obtain ⟨hb, hz, Bs, ks, Ba, ka, Bn, kn, bs, ba, bn, ho, h1, h2, h3, hd, hp⟩ := h
  obtain ⟨vs, bss, hv, e1, e2, e3, e4, e5⟩ := h3
  have h3 : OwLL wr lo (.slice Bn next.length kn) next bn := ⟨vs, bss, hv, e1, e2, e3, e4, e5⟩
  have r1 : wr.ownsRow lo 2 1 (.slice Bs st.length ks) st.length (ints st) := by have := h1.1; unfold Own at this; rwa [ints_len] at this
  have r2 : wr.ownsRow lo 4 1 (.slice Ba acc.length ka) acc.length (bools acc) := by have := h2.1; unfold Own at this; rwa [bools_len] at this
  have r3 : wr.ownsRow lo 23 1 (.slice Bn next.length kn) next.length vs := by have := hv; unfold Own at this; rwa [e1] at this
  have hp' := hp
  simp only [List.mem_append, not_or] at hp'
  have hll : lo ≤ wr.heap.size := by have := ho.lt; omega
  have q1 : po ∉ blks (.slice Bs st.length ks) := by rw [← h1.2]; exact hp'.1
  have q2 : po ∉ blks (.slice Ba acc.length ka) := by rw [← h2.2]; exact hp'.2.1
  have q3 : po ∉ blks (.slice Bn next.length kn) := fun hm => hp'.2.2 (by rw [e4]; exact List.mem_append_left _ hm)
  have low : ∀ (e : TypeId) (v : Value) (n : Nat) (xs : List Value), wr.ownsRow lo e 1 v n xs → ∀ b ∈ blks v, lo ≤ b := fun e v n xs h b hb => (World.ownsRow.lt h b (mem_blks.1 hb)).1
  refine ⟨Bs, ks, Ba, ka, Bn, kn, vs, ho, r1, r2, r3, ⟨q1, q2, q3⟩, ?_, ?_, ?_⟩
  · intro ys w1 w2 g cap H hb1 hg hown hat hH
    refine ⟨((below_step hb hb1).trans (grown_below hg (below_step hb hb1).size (fun b hm => by have := low _ _ _ _ r1 b hm; omega))).setCell (p := ⟨po, 1, none⟩) (by show w.heap.size ≤ po; omega) _, (grown_row hg (hz.below hb1 hz.lt) (fun hm => by have := low _ _ _ _ r1 _ hm; omega)).other (by show po ≠ w.heap.size; omega) _, ?_⟩
    exact BoxM.appSt ho h1 h2 h3 hd hp hb1 hg hown rfl hat hH
  · intro ys w1 w2 g cap H hb1 hg hown hat hH
    refine ⟨((below_step hb hb1).trans (grown_below hg (below_step hb hb1).size (fun b hm => by have := low _ _ _ _ r2 b hm; omega))).setCell (p := ⟨po, 2, none⟩) (by show w.heap.size ≤ po; omega) _, (grown_row hg (hz.below hb1 hz.lt) (fun hm => by have := low _ _ _ _ r2 _ hm; omega)).other (by show po ≠ w.heap.size; omega) _, ?_⟩
    exact BoxM.appAcc ho h1 h2 h3 hd hp hb1 hg hown rfl hat hH
  · intro to w2 g cap hg hown hat
    have hb1 : Below wr.heap.size wr (((wr.alloc (.cells #[.int .i64 to] 2)).alloc (.cells #[.slice (some ⟨wr.heap.size, 0, none⟩) 1 1] 47)).alloc (.cells #[.slice (some ⟨wr.heap.size + 1, 0, none⟩) 1 1] 23)) := below_step (below_step (below_alloc _ _) (below_alloc _ _)) (below_alloc _ _)
    refine ⟨((below_step hb hb1).trans (grown_below hg (below_step hb hb1).size (fun b hm => by have := low _ _ _ _ r3 b hm; omega))).setCell (p := ⟨po, 3, none⟩) (by show w.heap.size ≤ po; omega) _, (grown_row hg (hz.below hb1 hz.lt) (fun hm => by have := low _ _ _ _ r3 _ hm; omega)).other (by show po ≠ w.heap.size; omega) _, ?_⟩
    exact BoxM.appNext ho h1 h2 h3 hd hp hll hv e1 e2 e3 e4 (by rw [← e4]; exact e5) hg hown hat
end Go.Proofs.Ytjojmlaipcbmkaa
