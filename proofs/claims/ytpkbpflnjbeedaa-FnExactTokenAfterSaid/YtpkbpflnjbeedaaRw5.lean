/-
  Tokens: what a further step makes of one; the model's step.
-/
import Derived.Test.YtpkbpflnjbeedaaRw4
import Derived.Test.YtpkbpflnjbeedaaSt2
import Derived.Deep.RegionLaw
namespace Go.Proofs.Ytpkbpflnjbeedaa
open Go.RowKit

set_option maxHeartbeats 800000 in
theorem l04UnderR_any (L : Int) (s : ByteArray) (a : Nat) (w : World) (h1 : 1 ≤ L) (h2 : L ≤ 3) (hs : s.size ≤ 60) (ha : a ≤ s.size + 1) (hl : lettersOk L s = true) :
    Calls Try.prog 58 #[.int .i64 L, .string s, .int .i64 (a : Int)] w fun e w' => e = .returned (.int .i64 (signN L s a)) ∧ w = w' := by
  by_cases e0 : a = 0
  · subst e0
    clear hl
    go_enter Try.func58, Try.ntmps58
    go_wp2
    go_ret
    exact ⟨ret_int (by simp [signN]), rfl⟩
  · by_cases e1 : a = s.size + 1
    · subst e1
      have d0 : (((s.size : Nat) : Int) + 1 == 0) = false := by simp; omega
      clear hl
      go_enter Try.func58, Try.ntmps58
      go_wp2
      go_ret
      exact ⟨ret_int (by simp [signN]), rfl⟩
    · obtain ⟨j, rfl⟩ : ∃ j, a = j + 1 := ⟨a - 1, by omega⟩
      have d0 : ((j : Int) + 1 == 0) = false := by simp; omega
      have i1 : (0 : Int) ≤ j := by omega
      have i2 : (j : Int) < s.size := by omega
      have i3 : ¬ (s.size : Int) < (j : Int) + 1 := by omega
      have hb := bytes_at s j (by omega)
      have hok : okLetter L (s[j]'(by omega)) = true := List.all_eq_true.1 hl _ (List.mem_of_getElem? hb)
      have HS := Lib.hid (show signN L s (j + 1) = ((s[j]'(by omega)).toNat : Int) - 97 by
        unfold signN; rw [if_neg e0, if_neg e1, show j + 1 - 1 = j by omega, hb]; rfl)
      simp only [okLetter, decide_eq_true_eq] at hok
      have b1 : 97 ≤ ((s[j]'(by omega)).toNat : Int) := by omega
      have b2 : ((s[j]'(by omega)).toNat : Int) ≤ 255 := by have := (s[j]'(by omega)).toNat_lt; omega
      clear e0 e1 hb hl hok
      go_enter Try.func58, Try.ntmps58
      go_wp2
      go_ret
      exact ⟨ret_int HS.out.symm, rfl⟩

/-- A token: its steps, its state, its cell and its verdict. -/
structure Tok where
  k : Nat
  q : Nat
  a : Nat
  v : Int
def tkc (x : Tok) : List Value := [.int .i64 (x.k : Int), .int .i64 (x.q : Int), .int .i64 (x.a : Int), .int .i64 x.v]
abbrev tokV (x : Tok) : Value := .agg #[.int .i64 (x.k : Int), .int .i64 (x.q : Int), .int .i64 (x.a : Int), .int .i64 x.v]
def placesR (r : RwData) : Nat := r.mv.length * (r.wd.size + 2)
def stepTk (r : RwData) (x : Tok) : Tok :=
  if x.v = 0 then
    (if (moveOn r.t r.wd x.q x.a).1 = -1 then ⟨x.k, x.q, x.a, 1⟩
    else if (moveOn r.t r.wd x.q x.a).1 = -2 then ⟨x.k, x.q, x.a, 2⟩
    else ⟨x.k + 1, (moveOn r.t r.wd x.q x.a).1.toNat, ((x.a : Int) + (moveOn r.t r.wd x.q x.a).2).toNat, if x.k + 1 = placesR r then 3 else 0⟩)
  else x
structure OkTk (r : RwData) (x : Tok) : Prop where
  q : x.q < r.mv.length
  a : x.a ≤ r.wd.size + 1
  k : x.k ≤ placesR r
  v : x.v = 0 → x.k < placesR r

/-- What a row that is valid is known by. -/
structure OkRow (r : RwData) : Prop where
  t : OkT r.t
  l : lettersOk r.L r.wd = true
  s : r.wd.size ≤ 60
  c : r.cuts.length ≤ 3
theorem okRw_out {r : RwData} (h : okRw r = true) : OkRow r := by
  have p := okRw_parts h
  have q := okWord_parts8 p.2.1
  exact ⟨okT_out p.1, q.2, by have := q.1; omega, by have := p.2.2.1; omega⟩
theorem OkRow.n {r : RwData} (h : OkRow r) : 1 ≤ r.mv.length ∧ r.mv.length ≤ 12 := by
  have a := h.t.n2
  have b := h.t.s1
  have c := h.t.s2
  simp only [RwData.t] at a b c
  constructor <;> omega
theorem places_le {r : RwData} (h : OkRow r) : placesR r ≤ 744 ∧ 2 ≤ placesR r := by
  have h1 := h.n
  have h2 := h.s
  unfold placesR
  constructor
  · exact Nat.le_trans (Nat.mul_le_mul h1.2 (show r.wd.size + 2 ≤ 62 by omega)) (by omega)
  · exact Nat.le_trans (show 2 ≤ 1 * (r.wd.size + 2) by omega) (Nat.mul_le_mul_right _ h1.1)
theorem stepTk_done {r : RwData} {x : Tok} (h : x.v ≠ 0) : stepTk r x = x := by simp [stepTk, h]
theorem stepTk_takes {r : RwData} {x : Tok} (h : x.v = 0) (hm : (moveOn r.t r.wd x.q x.a).1 = -1) : stepTk r x = ⟨x.k, x.q, x.a, 1⟩ := by simp [stepTk, h, hm]
theorem stepTk_refuses {r : RwData} {x : Tok} (h : x.v = 0) (hm : (moveOn r.t r.wd x.q x.a).1 = -2) : stepTk r x = ⟨x.k, x.q, x.a, 2⟩ := by simp [stepTk, h, hm]
theorem stepTk_on {r : RwData} {x : Tok} (h : x.v = 0) (hm : 0 ≤ (moveOn r.t r.wd x.q x.a).1) : stepTk r x = ⟨x.k + 1, (moveOn r.t r.wd x.q x.a).1.toNat, ((x.a : Int) + (moveOn r.t r.wd x.q x.a).2).toNat, if x.k + 1 = placesR r then 3 else 0⟩ := by
  unfold stepTk
  rw [if_pos h, if_neg (by omega), if_neg (by omega)]
theorem move_onR {t : TData} {s : ByteArray} (ok : OkT t) (hl : lettersOk t.L s = true) {q a : Nat} (hq : q < t.mv.length) (ha : a ≤ s.size + 1) :
    (((moveOn t s q a).1 = -1 ∨ (moveOn t s q a).1 = -2) ∧ (moveOn t s q a).2 = 0) ∨
      (0 ≤ (moveOn t s q a).1 ∧ (moveOn t s q a).1 < t.mv.length ∧ -1 ≤ (moveOn t s q a).2 ∧ (moveOn t s q a).2 ≤ 1 ∧ 0 ≤ (a : Int) + (moveOn t s q a).2 ∧ (a : Int) + (moveOn t s q a).2 ≤ s.size + 1) := by
  obtain ⟨k, hk, hk2⟩ := signN_ok ok.l1 ok.l2 hl ha
  obtain ⟨x, m, -, -, hat, hmv, -⟩ := ok.at hq hk2
  rw [moveOn_eq hk, hat]
  have hm := okMove_out hmv
  have hp2 := ha
  have e0 : a = 0 → (k : Int) = t.L := fun e => by rw [← hk]; simp [signN, e]
  have e1 : a = s.size + 1 → (k : Int) = t.L + 1 := fun e => by rw [← hk]; unfold signN; rw [if_neg (by omega), if_pos e]
  rcases hm with hm | ⟨a1, a2, a3, a4, a5, a6, a7⟩
  · exact .inl hm
  · refine .inr ⟨a2, by omega, a4, a5, ?_, ?_⟩
    · by_cases e : a = 0
      · have := e0 e; omega
      · omega
    · by_cases e : a = s.size + 1
      · have := e1 e; omega
      · omega
theorem okTk_step {r : RwData} (h : OkRow r) {x : Tok} (hx : OkTk r x) : OkTk r (stepTk r x) := by
  by_cases hv : x.v = 0
  · rcases move_onR (t := r.t) (s := r.wd) h.t h.l hx.q hx.a with ⟨hm | hm, -⟩ | ⟨h0, h1, -, -, h4, h5⟩
    · rw [stepTk_takes hv hm]; exact ⟨hx.q, hx.a, hx.k, fun e => by simp at e⟩
    · rw [stepTk_refuses hv hm]; exact ⟨hx.q, hx.a, hx.k, fun e => by simp at e⟩
    · rw [stepTk_on hv h0]
      have hk := hx.v hv
      refine ⟨?_, ?_, ?_, ?_⟩
      · show (moveOn r.t r.wd x.q x.a).1.toNat < r.mv.length
        have h1' : (moveOn r.t r.wd x.q x.a).1 < (r.mv.length : Int) := h1
        omega
      · show ((x.a : Int) + (moveOn r.t r.wd x.q x.a).2).toNat ≤ _; omega
      · show x.k + 1 ≤ _; omega
      · show (if x.k + 1 = placesR r then (3 : Int) else 0) = 0 → x.k + 1 < placesR r
        intro e
        by_cases e2 : x.k + 1 = placesR r
        · rw [if_pos e2] at e; simp at e
        · omega
  · rw [stepTk_done hv]; exact hx

def firstTk (r : RwData) : Tok := ⟨0, r.S.toNat, 0, 0⟩
theorem firstTk_ok {r : RwData} (h : OkRow r) : OkTk r (firstTk r) ∧ ((r.S.toNat : Nat) : Int) = r.S := by
  have a := h.t.s1
  have b := h.t.s2
  simp only [RwData.t] at a b
  exact ⟨⟨by show r.S.toNat < _; omega, by show 0 ≤ _; omega, by show 0 ≤ _; omega, fun _ => by have := (places_le h).2; show 0 < _; omega⟩, by omega⟩
/-- The token behind n steps. -/
def tkN (r : RwData) : Nat → Tok
  | 0 => firstTk r
  | n + 1 => stepTk r (tkN r n)
theorem tkN_ok {r : RwData} (h : OkRow r) : ∀ n, OkTk r (tkN r n)
  | 0 => (firstTk_ok h).1
  | n + 1 => okTk_step h (tkN_ok h n)
theorem tkN_stop {r : RwData} {n : Nat} (h : (tkN r n).v ≠ 0) : ∀ j, tkN r (n + j) = tkN r n
  | 0 => rfl
  | j + 1 => by
    show stepTk r (tkN r (n + j)) = _
    rw [tkN_stop h j, stepTk_done h]
end Go.Proofs.Ytpkbpflnjbeedaa
