/-
  Signs, and the move from a place: the model's.
-/
import Derived.Test.YtahgekjpnmmooaaV5
import Derived.Test.YtahgekjpnmmooaaW1
namespace Go.Proofs.Ytahgekjpnmmooaa
open Go.RowKit

/-- The number of the sign in the cell a. -/
def signN (L : Int) (s : ByteArray) (a : Nat) : Int := if a = 0 then L else if a = s.size + 1 then L + 1 else ((s.data.toList[a - 1]?.getD 97).toNat : Int) - 97
def moveAt (t : TData) (q k : Nat) : Int × Int := (t.mv.getD q []).getD k (0, 0)
/-- The move above the sign of a cell. -/
def moveOn (t : TData) (s : ByteArray) (q a : Nat) : Int × Int := moveAt t q (signN t.L s a).toNat

theorem signN_ok {L : Int} {s : ByteArray} {a : Nat} (h1 : 1 ≤ L) (h2 : L ≤ 3) (hl : lettersOk L s = true) (ha : a ≤ s.size + 1) : ∃ k : Nat, signN L s a = k ∧ (k : Int) < L + 2 := by
  unfold signN
  by_cases e0 : a = 0
  · obtain ⟨k, rfl⟩ := Int.eq_ofNat_of_zero_le (show 0 ≤ L by omega)
    exact ⟨k, by simp [e0], by omega⟩
  · by_cases e1 : a = s.size + 1
    · obtain ⟨k, rfl⟩ := Int.eq_ofNat_of_zero_le (show 0 ≤ L by omega)
      exact ⟨k + 1, by simp [e1], by omega⟩
    · have hlt : a - 1 < s.size := by omega
      have hb := bytes_at s (a - 1) hlt
      have hok : okLetter L s[a - 1] = true := List.all_eq_true.1 hl _ (List.mem_of_getElem? hb)
      simp only [okLetter, decide_eq_true_eq] at hok
      refine ⟨(s[a - 1].toNat - 97), ?_, by omega⟩
      rw [if_neg e0, if_neg e1, hb]
      simp only [Option.getD_some]
      omega

theorem OkT.at {t : TData} (h : OkT t) {q k : Nat} (hq : q < t.mv.length) (hk : (k : Int) < t.L + 2) :
    ∃ x m, t.mv[q]? = some x ∧ x[k]? = some m ∧ moveAt t q k = m ∧ okMove t.mv.length t.L k m = true ∧ (x.length : Int) = t.L + 2 := by
  have hx : t.mv[q]? = some t.mv[q] := List.getElem?_eq_getElem hq
  have hl := h.len q _ hx
  have hkl : k < t.mv[q].length := by omega
  have hm : t.mv[q][k]? = some t.mv[q][k] := List.getElem?_eq_getElem hkl
  exact ⟨_, _, hx, hm, by simp [moveAt, List.getD, hx, hm], h.move q _ k _ hx hm, hl⟩

theorem keep_two {w : World} {q p i : Nat} {a b v : Value} (hq : p < q) (h : w.cell? ⟨p, i, none⟩ = some v) : ((w.setCell ⟨q, 0, none⟩ a).setCell ⟨q, 1, none⟩ b).cell? ⟨p, i, none⟩ = some v := by
  rw [World.cell?_of_block (w := w) (w' := ((w.setCell ⟨q, 0, none⟩ a).setCell ⟨q, 1, none⟩ b)) (a := ⟨p, i, none⟩) ?_]
  · exact h
  · have e : ∀ (W : World) (j : Nat) (u : Value), (W.setCell ⟨q, j, none⟩ u).heap[p]? = W.heap[p]? := fun W j u => Below.heap_setCell W ⟨q, j, none⟩ u p (fun e => by subst e; simp at hq)
    show ((w.setCell ⟨q, 0, none⟩ a).setCell ⟨q, 1, none⟩ b).heap[p]? = w.heap[p]?
    rw [e, e]
theorem keep_two_drew {w : World} {q p i : Nat} {a b v : Value} (hq : p < q) (h : w.cell? ⟨p, i, none⟩ = some v) : ((w.setCell ⟨q, 0, none⟩ a).setCell ⟨q, 1, none⟩ b).drew.cell? ⟨p, i, none⟩ = some v := keep_two hq h
theorem moveOn_eq {t : TData} {s : ByteArray} {q a k : Nat} (h : signN t.L s a = k) : moveOn t s q a = moveAt t q k := by rw [moveOn, h]; simp

end Go.Proofs.Ytahgekjpnmmooaa
