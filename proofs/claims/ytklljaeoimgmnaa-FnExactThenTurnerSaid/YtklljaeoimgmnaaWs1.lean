/-
  Moves that stay: where they end, if they do.
-/
import Derived.Test.YtklljaeoimgmnaaRu1
namespace Go.Proofs.Ytklljaeoimgmnaa
open Go.RowKit

def staysAt (t : TData) (k q : Nat) : Prop := 0 ≤ (moveAt t q k).1 ∧ (moveAt t q k).2 = 0
instance (t : TData) (k q : Nat) : Decidable (staysAt t k q) := inferInstanceAs (Decidable (_ ∧ _))
def nextS (t : TData) (k q : Nat) : Nat := (moveAt t q k).1.toNat
def leaveF (t : TData) (k : Nat) : Nat → Nat → Option (Int × Int)
  | 0, _ => none
  | f + 1, q => if staysAt t k q then leaveF t k f (nextS t k q) else some (moveAt t q k)
def orbS (t : TData) (k q : Nat) : Nat → Nat
  | 0 => q
  | j + 1 => orbS t k (nextS t k q) j
theorem orbS_add (t : TData) (k : Nat) : ∀ (i j q : Nat), orbS t k q (i + j) = orbS t k (orbS t k q i) j
  | 0, j, q => by simp [orbS]
  | i + 1, j, q => by rw [Nat.succ_add]; exact orbS_add t k i j (nextS t k q)
theorem leave_none_iff (t : TData) (k : Nat) : ∀ (f q : Nat), leaveF t k f q = none ↔ ∀ j, j < f → staysAt t k (orbS t k q j)
  | 0, q => by simp [leaveF]
  | f + 1, q => by
    unfold leaveF
    by_cases h : staysAt t k q
    · rw [if_pos h, leave_none_iff t k f]
      constructor
      · intro h1 j hj
        cases j with
        | zero => exact h
        | succ j => exact h1 j (by omega)
      · intro h1 j hj
        exact h1 (j + 1) (by omega)
    · rw [if_neg h]
      simp only [reduceCtorEq, false_iff]
      intro h1
      exact h (h1 0 (by omega))
theorem leave_more (t : TData) (k : Nat) : ∀ (f g q : Nat) (m : Int × Int), leaveF t k f q = some m → leaveF t k (f + g) q = some m
  | 0, g, q, m => by simp [leaveF]
  | f + 1, g, q, m => by
    rw [Nat.succ_add]
    unfold leaveF
    split
    · exact leave_more t k f g _ m
    · exact id
theorem stay_next {t : TData} (ok : OkT t) {k q : Nat} (hq : q < t.mv.length) (hk : (k : Int) < t.L + 2) (h : staysAt t k q) : nextS t k q < t.mv.length := by
  obtain ⟨x, m, -, -, hat, hmv, -⟩ := ok.at hq hk
  have hm := okMove_out hmv
  unfold staysAt at h
  unfold nextS
  rw [hat] at h ⊢
  omega
theorem orbS_lt {t : TData} (ok : OkT t) {k : Nat} (hk : (k : Int) < t.L + 2) : ∀ (j q : Nat), q < t.mv.length → (∀ i, i < j → staysAt t k (orbS t k q i)) → orbS t k q j < t.mv.length
  | 0, q => fun hq _ => hq
  | j + 1, q => fun hq h => orbS_lt ok hk j (nextS t k q) (stay_next ok hq hk (h 0 (by omega))) (fun i hi => h (i + 1) (by omega))
/-- Who stays as often as there are states stays for ever. -/
theorem leave_ever {t : TData} (ok : OkT t) {k q : Nat} (hk : (k : Int) < t.L + 2) (hq : q < t.mv.length) (h : leaveF t k t.mv.length q = none) (f : Nat) : leaveF t k f q = none := by
  rw [leave_none_iff] at h ⊢
  have hin : ∀ j, j ≤ t.mv.length → orbS t k q j < t.mv.length := fun j hj => orbS_lt ok hk j q hq (fun i hi => h i (by omega))
  have hrep : ∃ i j, i < j ∧ j ≤ t.mv.length ∧ orbS t k q i = orbS t k q j := by
    refine Classical.byContradiction fun hno => ?_
    have hnd : ((List.range (t.mv.length + 1)).map (orbS t k q)).Nodup := by
      rw [List.nodup_iff_pairwise_ne, List.pairwise_map]
      refine (List.pairwise_lt_range).imp_of_mem fun {a b} ha hb hab e => hno ⟨a, b, hab, ?_, e⟩
      have := List.mem_range.1 hb
      omega
    have := nodup_room t.mv.length _ hnd (fun x hx => by
      obtain ⟨j, hj, rfl⟩ := List.mem_map.1 hx
      exact hin j (by have := List.mem_range.1 hj; omega))
    simp at this
    omega
  obtain ⟨i, j, hij, hj, e⟩ := hrep
  have hall : ∀ m, ∃ l, l < t.mv.length ∧ orbS t k q m = orbS t k q l := by
    intro m
    induction m using Nat.strongRecOn with
    | _ m ih =>
      by_cases hm : m < t.mv.length
      · exact ⟨m, hm, rfl⟩
      · obtain ⟨l, hl, e2⟩ := ih (i + (m - j)) (by omega)
        refine ⟨l, hl, ?_⟩
        rw [← e2, orbS_add, e, ← orbS_add]
        congr 1
        omega
  intro m _
  obtain ⟨l, hl, e2⟩ := hall m
  rw [e2]
  exact h l hl
theorem leave_same {t : TData} (ok : OkT t) {k q : Nat} (hk : (k : Int) < t.L + 2) (hq : q < t.mv.length) (g : Nat) : leaveF t k (t.mv.length + g) q = leaveF t k t.mv.length q := by
  cases h : leaveF t k t.mv.length q with
  | none => exact leave_ever ok hk hq h _
  | some m => exact leave_more t k _ g q m h
/-- The move that ends it is one that a turner may make, and does not stay. -/
theorem leave_move {t : TData} (ok : OkT t) {k : Nat} (hk : (k : Int) < t.L + 2) : ∀ (f q : Nat) (m : Int × Int), q < t.mv.length → leaveF t k f q = some m → okMove t.mv.length t.L k m = true
  | 0, q, m => by simp [leaveF]
  | f + 1, q, m => by
    intro hq h
    unfold leaveF at h
    by_cases hs : staysAt t k q
    · rw [if_pos hs] at h
      exact leave_move ok hk f (nextS t k q) m (stay_next ok hq hk hs) h
    · rw [if_neg hs] at h
      obtain ⟨x, m', -, -, hat, hmv, -⟩ := ok.at hq hk
      rw [hat] at h
      obtain rfl := Option.some.inj h
      exact hmv
end Go.Proofs.Ytklljaeoimgmnaa
