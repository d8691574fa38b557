/-
  Crossing sequences, as a function of a run's places: how many there are and how long they get.
-/
import Derived.Test.YtdkalefepdlccaaRu7
import Derived.Test.YtdkalefepdlccaaMem1
namespace Go.Proofs.Ytdkalefepdlccaa
open Go.RowKit

/-- The border that a move crosses. -/
def borderN (p q : Nat × Nat) : Nat := min p.2 q.2
def crossAdd (X : List (List Int)) (p q : Nat × Nat) : List (List Int) := if p.2 = q.2 then X else X.set (borderN p q) (X.getD (borderN p q) [] ++ [(q.1 : Int)])
def crossL (z : Nat) (ps : List (Nat × Nat)) : Nat → List (List Int)
  | 0 => List.replicate (z + 1) []
  | k + 1 => crossAdd (crossL z ps k) (ps.getD k (0, 0)) (ps.getD (k + 1) (0, 0))
theorem crossAdd_len (X : List (List Int)) (p q : Nat × Nat) : (crossAdd X p q).length = X.length := by unfold crossAdd; split <;> simp
theorem crossL_len (z : Nat) (ps : List (Nat × Nat)) (k : Nat) : (crossL z ps k).length = z + 1 := by
  induction k with
  | zero => simp [crossL]
  | succ k ih => rw [crossL, crossAdd_len, ih]
/-- No sequence is longer than the moves so far. -/
theorem crossL_le (z : Nat) (ps : List (Nat × Nat)) (k i : Nat) : ((crossL z ps k).getD i []).length ≤ k := by
  induction k generalizing i with
  | zero =>
    simp only [crossL, List.getD_eq_getElem?_getD, List.getElem?_replicate]
    split <;> simp
  | succ k ih =>
    rw [crossL]
    unfold crossAdd
    split
    · have := ih i; omega
    · simp only [List.getD_eq_getElem?_getD] at ih ⊢
      rw [List.getElem?_set]
      split
      · split
        · simp only [Option.getD_some, List.length_append, List.length_singleton]
          have := ih (borderN (ps[k]?.getD (0, 0)) (ps[k + 1]?.getD (0, 0)))
          omega
        · simp
      · have := ih i; omega
theorem cross_get {z : Nat} {ps : List (Nat × Nat)} {k b : Nat} (hb : b ≤ z) : (crossL z ps k)[b]? = some ((crossL z ps k).getD b []) := by
  have := crossL_len z ps k
  rw [List.getD_eq_getElem?_getD, List.getElem?_eq_getElem (by omega)]
  rfl
theorem crossL_same {z : Nat} {ps : List (Nat × Nat)} {k : Nat} {p q : Nat × Nat} (hp : ps[k]? = some p) (hq : ps[k + 1]? = some q) (e : p.2 = q.2) : crossL z ps (k + 1) = crossL z ps k := by
  rw [crossL, List.getD_eq_getElem?_getD, List.getD_eq_getElem?_getD, hp, hq]
  simp only [Option.getD_some]
  unfold crossAdd
  rw [if_pos e]
theorem crossL_step {z : Nat} {ps : List (Nat × Nat)} {k : Nat} {p q : Nat × Nat} (hp : ps[k]? = some p) (hq : ps[k + 1]? = some q) (e : p.2 ≠ q.2) : crossL z ps (k + 1) = (crossL z ps k).set (borderN p q) ((crossL z ps k).getD (borderN p q) [] ++ [(q.1 : Int)]) := by
  rw [crossL, List.getD_eq_getElem?_getD, List.getD_eq_getElem?_getD, hp, hq]
  simp only [Option.getD_some]
  unfold crossAdd
  rw [if_neg e]

def crossN (t : TData) (s : ByteArray) : List (List Int) := crossL s.size (runN t s).places ((runN t s).places.length - 1)
def crossRes (t : TData) (s : ByteArray) : List (List Int) × Int := if givenC t s = 0 then (if (runN t s).verdict = 3 then ([], 4) else (crossN t s, 0)) else ([], 1)
theorem numL_bound (xs : List (List Int)) (m : Nat) (h : ∀ i, (xs.getD i []).length ≤ m) : numL (fun x : List Int => x.length) xs ≤ xs.length * m := by
  induction xs with
  | nil => simp [numL]
  | cons x r ih =>
    have h0 := h 0
    have h1 := ih (fun i => by have := h (i + 1); simpa using this)
    simp only [List.getD_cons_zero] at h0
    simp only [numL, List.map_cons, List.sum_cons, List.length_cons] at h1 ⊢
    rw [Nat.succ_mul]
    omega
theorem crossN_len (t : TData) (s : ByteArray) : (crossN t s).length = s.size + 1 := crossL_len _ _ _
theorem crossN_le (t : TData) (s : ByteArray) (h : givenC t s = 0) (i : Nat) : ((crossN t s).getD i []).length ≤ 745 := by
  have h1 := run_len t s h
  have h2 := crossL_le s.size (runN t s).places ((runN t s).places.length - 1) i
  unfold crossN
  omega
theorem cross_num (t : TData) (s : ByteArray) : ((numL (fun x : List Int => x.length) (crossRes t s).1 : Nat) : Int) ≤ 2305843009213693952 := by
  unfold crossRes
  split
  · rename_i h
    split
    · simp [numL]
    · have h1 := numL_bound (crossN t s) 745 (crossN_le t s h)
      have h2 := (okWord_parts (givenC_zero h).2).1
      rw [crossN_len] at h1
      have h3 := Nat.mul_le_mul_right 745 (show s.size + 1 ≤ 61 by omega)
      simp only
      omega
  · simp [numL]

/-- A run has a place. -/
theorem runF_pos (t : TData) (s : ByteArray) : ∀ (f : Nat) (ps : List (Nat × Nat)) (p : Nat × Nat), 0 < ps.length → 0 < (runF t s f ps p).places.length
  | 0, ps, p => fun h => by simpa [runF] using h
  | f + 1, ps, p => fun h => by
    unfold runF
    split
    · exact h
    · split
      · simp
      · split
        · simp
        · exact runF_pos t s f (ps ++ [p]) (nextP t s p) (by simp)
theorem run_pos (t : TData) (s : ByteArray) : 0 < (runN t s).places.length := by
  unfold runN runF
  split
  · rename_i h; simp at h
  · split
    · simp
    · split
      · simp
      · exact runF_pos t s _ _ _ (by simp)
end Go.Proofs.Ytdkalefepdlccaa
