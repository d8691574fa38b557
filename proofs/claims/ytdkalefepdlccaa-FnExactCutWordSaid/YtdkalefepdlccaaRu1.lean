/-
  A turner's run on a word, as a function: its places, its verdict, and where its loop begins.
-/
import Derived.Test.YtdkalefepdlccaaSt2
namespace Go.Proofs.Ytdkalefepdlccaa
open Go.RowKit

/-- A place of a turner with n states on a word of z letters. -/
def OkP (n z : Nat) (p : Nat × Nat) : Prop := p.1 < n ∧ p.2 ≤ z + 1
def nextP (t : TData) (s : ByteArray) (p : Nat × Nat) : Nat × Nat := ((moveOn t s p.1 p.2).1.toNat, ((p.2 : Int) + (moveOn t s p.1 p.2).2).toNat)
structure RunR where
  places : List (Nat × Nat)
  verdict : Int
  loop : Nat
def runF (t : TData) (s : ByteArray) : Nat → List (Nat × Nat) → Nat × Nat → RunR
  | 0, ps, _ => ⟨ps, 0, 0⟩
  | f + 1, ps, p =>
    if p ∈ ps then ⟨ps, 3, ps.idxOf p⟩
    else if (moveOn t s p.1 p.2).1 = -1 then ⟨ps ++ [p], 1, 0⟩
    else if (moveOn t s p.1 p.2).1 = -2 then ⟨ps ++ [p], 2, 0⟩
    else runF t s f (ps ++ [p]) (nextP t s p)
def roomP (t : TData) (s : ByteArray) : Nat := t.mv.length * (s.size + 2)
def runN (t : TData) (s : ByteArray) : RunR := runF t s (roomP t s + 1) [] (t.S.toNat, 0)
def pI (p : Nat × Nat) : Int × Int := ((p.1 : Int), (p.2 : Int))

/-- The number of a place. -/
def keyN (z : Nat) (p : Nat × Nat) : Nat := p.1 * (z + 2) + p.2
theorem keyN_lt {n z : Nat} {p : Nat × Nat} (h : OkP n z p) : keyN z p < n * (z + 2) := by
  unfold keyN
  have h1 := Nat.mul_le_mul_right (z + 2) (show p.1 + 1 ≤ n from h.1)
  have h2 := h.2
  rw [Nat.succ_mul] at h1
  omega
theorem keyN_inj {n z : Nat} {p q : Nat × Nat} (h : OkP n z p) (k : OkP n z q) (e : keyN z p = keyN z q) : p = q := by
  unfold keyN at e
  have hp := h.2
  have hq := k.2
  have e1 : p.1 = q.1 := by
    have a := congrArg (· / (z + 2)) e
    simp only [Nat.mul_comm _ (z + 2)] at a
    rw [Nat.mul_add_div (by omega), Nat.mul_add_div (by omega), Nat.div_eq_of_lt (by omega), Nat.div_eq_of_lt (by omega)] at a
    omega
  rw [e1] at e
  exact Prod.ext e1 (by omega)
theorem nodup_room : ∀ (n : Nat) (l : List Nat), l.Nodup → (∀ x ∈ l, x < n) → l.length ≤ n := by
  intro n
  induction n with
  | zero => intro l _ h; cases l with
    | nil => simp
    | cons x r => have := h x (by simp); omega
  | succ n ih =>
    intro l hd h
    by_cases hm : n ∈ l
    · have h1 := ih (l.erase n) (hd.erase n) (fun x hx => by
        have h2 := (hd.mem_erase_iff).1 hx
        have := h x h2.2
        have := h2.1
        omega)
      rw [List.length_erase_of_mem hm] at h1
      omega
    · have := ih l hd (fun x hx => by
        have := h x hx
        have : x ≠ n := fun e => hm (e ▸ hx)
        omega)
      omega
theorem places_room {n z : Nat} {ps : List (Nat × Nat)} (hd : ps.Nodup) (h : ∀ p ∈ ps, OkP n z p) : ps.length ≤ n * (z + 2) := by
  have h1 : (ps.map (keyN z)).Nodup := by
    rw [List.nodup_iff_pairwise_ne, List.pairwise_map]
    exact (List.nodup_iff_pairwise_ne.1 hd).imp_of_mem (fun {a b} ha hb hne e => hne (keyN_inj (h a ha) (h b hb) e))
  have h2 := nodup_room (n * (z + 2)) (ps.map (keyN z)) h1 (fun x hx => by
    obtain ⟨p, hp, rfl⟩ := List.mem_map.1 hx
    exact keyN_lt (h p hp))
  simpa using h2

theorem move_on {t : TData} {s : ByteArray} (ok : OkT t) (hl : lettersOk t.L s = true) {p : Nat × Nat} (h : OkP t.mv.length s.size p) :
    (((moveOn t s p.1 p.2).1 = -1 ∨ (moveOn t s p.1 p.2).1 = -2) ∧ (moveOn t s p.1 p.2).2 = 0) ∨
      (0 ≤ (moveOn t s p.1 p.2).1 ∧ (moveOn t s p.1 p.2).1 < t.mv.length ∧ -1 ≤ (moveOn t s p.1 p.2).2 ∧ (moveOn t s p.1 p.2).2 ≤ 1 ∧ 0 ≤ (p.2 : Int) + (moveOn t s p.1 p.2).2 ∧ (p.2 : Int) + (moveOn t s p.1 p.2).2 ≤ s.size + 1) := by
  obtain ⟨k, hk, hk2⟩ := signN_ok ok.l1 ok.l2 hl h.2
  obtain ⟨x, m, -, -, hat, hmv, -⟩ := ok.at h.1 hk2
  rw [moveOn_eq hk, hat]
  have hm := okMove_out hmv
  have hp2 := h.2
  have e0 : p.2 = 0 → (k : Int) = t.L := fun e => by rw [← hk]; simp [signN, e]
  have e1 : p.2 = s.size + 1 → (k : Int) = t.L + 1 := fun e => by rw [← hk]; unfold signN; rw [if_neg (by omega), if_pos e]
  rcases hm with hm | ⟨a1, a2, a3, a4, a5, a6, a7⟩
  · exact .inl hm
  · refine .inr ⟨a2, by omega, a4, a5, ?_, ?_⟩
    · by_cases e : p.2 = 0
      · have := e0 e; omega
      · omega
    · by_cases e : p.2 = s.size + 1
      · have := e1 e; omega
      · omega
theorem next_ok {t : TData} {s : ByteArray} (ok : OkT t) (hl : lettersOk t.L s = true) {p : Nat × Nat} (h : OkP t.mv.length s.size p) (h1 : (moveOn t s p.1 p.2).1 ≠ -1) (h2 : (moveOn t s p.1 p.2).1 ≠ -2) :
    OkP t.mv.length s.size (nextP t s p) ∧ pI (nextP t s p) = ((moveOn t s p.1 p.2).1, (p.2 : Int) + (moveOn t s p.1 p.2).2) := by
  have := move_on ok hl h
  unfold OkP nextP pI
  simp only
  refine ⟨by omega, ?_⟩
  rw [Int.toNat_of_nonneg (by omega), Int.toNat_of_nonneg (by omega)]

/-- Where a run stands: the places so far, each once, and the one that comes. -/
structure RunAt (t : TData) (s : ByteArray) (ps : List (Nat × Nat)) (p : Nat × Nat) : Prop where
  nodup : ps.Nodup
  all : ∀ q ∈ ps, OkP t.mv.length s.size q
  here : OkP t.mv.length s.size p
  rest : ∃ f, f + ps.length = roomP t s + 1 ∧ runF t s f ps p = runN t s
theorem RunAt.start {t : TData} (s : ByteArray) (ok : OkT t) : RunAt t s [] (t.S.toNat, 0) := by
  have := ok.s1
  have := ok.s2
  exact ⟨by simp, by simp, ⟨by show t.S.toNat < _; omega, by show 0 ≤ _; omega⟩, roomP t s + 1, by simp, rfl⟩
theorem RunAt.room {t : TData} {s : ByteArray} {ps : List (Nat × Nat)} {p : Nat × Nat} (h : RunAt t s ps p) : ps.length ≤ roomP t s := places_room h.nodup h.all
theorem RunAt.open {t : TData} {s : ByteArray} {ps : List (Nat × Nat)} {p : Nat × Nat} (h : RunAt t s ps p) : ∃ f, (f + 1) + ps.length = roomP t s + 1 ∧ runF t s (f + 1) ps p = runN t s := by
  obtain ⟨f, hf, hr⟩ := h.rest
  have := h.room
  obtain ⟨g, rfl⟩ : ∃ g, f = g + 1 := ⟨f - 1, by omega⟩
  exact ⟨g, hf, hr⟩
theorem RunAt.again {t : TData} {s : ByteArray} {ps : List (Nat × Nat)} {p : Nat × Nat} (h : RunAt t s ps p) (hm : p ∈ ps) : runN t s = ⟨ps, 3, ps.idxOf p⟩ := by
  obtain ⟨f, -, hr⟩ := h.open
  rw [← hr, runF, if_pos hm]
theorem RunAt.takes {t : TData} {s : ByteArray} {ps : List (Nat × Nat)} {p : Nat × Nat} (h : RunAt t s ps p) (hm : p ∉ ps) (h1 : (moveOn t s p.1 p.2).1 = -1) : runN t s = ⟨ps ++ [p], 1, 0⟩ := by
  obtain ⟨f, -, hr⟩ := h.open
  rw [← hr, runF, if_neg hm, if_pos h1]
theorem RunAt.refuses {t : TData} {s : ByteArray} {ps : List (Nat × Nat)} {p : Nat × Nat} (h : RunAt t s ps p) (hm : p ∉ ps) (h1 : (moveOn t s p.1 p.2).1 = -2) : runN t s = ⟨ps ++ [p], 2, 0⟩ := by
  obtain ⟨f, -, hr⟩ := h.open
  rw [← hr, runF, if_neg hm, if_neg (by omega), if_pos h1]
theorem RunAt.next {t : TData} {s : ByteArray} {ps : List (Nat × Nat)} {p : Nat × Nat} (h : RunAt t s ps p) (ok : OkT t) (hl : lettersOk t.L s = true) (hm : p ∉ ps) (h1 : (moveOn t s p.1 p.2).1 ≠ -1) (h2 : (moveOn t s p.1 p.2).1 ≠ -2) : RunAt t s (ps ++ [p]) (nextP t s p) := by
  obtain ⟨f, hf, hr⟩ := h.open
  refine ⟨?_, ?_, (next_ok ok hl h.here h1 h2).1, f, by simp; omega, ?_⟩
  · rw [List.nodup_append]
    exact ⟨h.nodup, by simp, fun a ha b hb e => by simp only [List.mem_singleton] at hb; subst hb; exact hm (e ▸ ha)⟩
  · intro q hq
    rcases List.mem_append.1 hq with hq | hq
    · exact h.all q hq
    · simp only [List.mem_singleton] at hq; subst hq; exact h.here
  · rw [← hr, runF, if_neg hm, if_neg h1, if_neg h2]
theorem room_le {t : TData} {s : ByteArray} (h1 : (t.mv.length : Int) ≤ 12) (h2 : s.size ≤ 60) : roomP t s ≤ 744 := by
  have := Nat.mul_le_mul (show t.mv.length ≤ 12 by omega) (show s.size + 2 ≤ 62 by omega)
  unfold roomP
  omega
theorem RunAt.room2 {t : TData} {s : ByteArray} {ps : List (Nat × Nat)} {p : Nat × Nat} (h : RunAt t s ps p) (hm : p ∉ ps) : ps.length < roomP t s := by
  have := places_room (n := t.mv.length) (z := s.size) (ps := ps ++ [p]) (by
    rw [List.nodup_append]
    exact ⟨h.nodup, by simp, fun a ha b hb e => by simp only [List.mem_singleton] at hb; subst hb; exact hm (e ▸ ha)⟩) (by
    intro q hq
    rcases List.mem_append.1 hq with hq | hq
    · exact h.all q hq
    · simp only [List.mem_singleton] at hq; subst hq; exact h.here)
  unfold roomP
  simp at this
  omega
end Go.Proofs.Ytdkalefepdlccaa
