/-
  Signs, and the move from a place: the model's.
-/
import Derived.Test.YtdkalefepdlccaaV5
import Derived.Test.YtdkalefepdlccaaW1
namespace Go.Proofs.Ytdkalefepdlccaa
open Go.RowKit

/-- The number of the sign in the cell a. -/
def signN (L : Int) (s : ByteArray) (a : Nat) : Int := if a = 0 then L else if a = s.size + 1 then L + 1 else ((s.data.toList[a - 1]?.getD 97).toNat : Int) - 97
def moveAt (t : TData) (q k : Nat) : Int × Int := (t.mv.getD q []).getD k (0, 0)
/-- The move above the sign of a cell. -/
def moveOn (t : TData) (s : ByteArray) (q a : Nat) : Int × Int := moveAt t q (signN t.L s a).toNat

theorem signN_ok {L : Int} {s : ByteArray} {a : Nat} (h1 : 1 ≤ L) (h2 : L ≤ 3) (hl : lettersOk L s = true) (ha : a ≤ s.size + 1) : ∃ k : Nat, signN L s a = k ∧ (k : Int) < L + 2 := by
  unfold signN
  by_cases e0 : a = 0
  · obtain ⟨k, rfl⟩ := Int.eq_ofNat_of_zero_le (show 0 ≤ L by omega)
    exact ⟨k, by simp [e0], by omega⟩
  · by_cases e1 : a = s.size + 1
    · obtain ⟨k, rfl⟩ := Int.eq_ofNat_of_zero_le (show 0 ≤ L by omega)
      exact ⟨k + 1, by simp [e1], by omega⟩
    · have hlt : a - 1 < s.size := by omega
      have hb := bytes_at s (a - 1) hlt
      have hok : okLetter L s[a - 1] = true := List.all_eq_true.1 hl _ (List.mem_of_getElem? hb)
      simp only [okLetter, decide_eq_true_eq] at hok
      refine ⟨(s[a - 1].toNat - 97), ?_, by omega⟩
      rw [if_neg e0, if_neg e1, hb]
      simp only [Option.getD_some]
      omega

theorem OkT.at {t : TData} (h : OkT t) {q k : Nat} (hq : q < t.mv.length) (hk : (k : Int) < t.L + 2) :
    ∃ x m, t.mv[q]? = some x ∧ x[k]? = some m ∧ moveAt t q k = m ∧ okMove t.mv.length t.L k m = true ∧ (x.length : Int) = t.L + 2 := by
  have hx : t.mv[q]? = some t.mv[q] := List.getElem?_eq_getElem hq
  have hl := h.len q _ hx
  have hkl : k < t.mv[q].length := by omega
  have hm : t.mv[q][k]? = some t.mv[q][k] := List.getElem?_eq_getElem hkl
  exact ⟨_, _, hx, hm, by simp [moveAt, List.getD, hx, hm], h.move q _ k _ hx hm, hl⟩

set_option maxHeartbeats 800000 in
theorem l02Below_any (p : Nat) (t : TData) (s : ByteArray) (a : Nat) (w : World) (h : AtT w p t) (h1 : 1 ≤ t.L) (h2 : t.L ≤ 3) (hs : s.size ≤ 60) (ha : a ≤ s.size + 1) :
    Calls Try.prog 106 #[.pointer (some ⟨p, 0, none⟩), .string s, .int .i64 (a : Int)] w fun e w' => e = .returned (.int .i64 (signN t.L s a)) ∧ w = w' := by
  obtain ⟨m, c0, c1, c2, -⟩ := h
  by_cases e0 : a = 0
  · subst e0
    go_enter Try.func106, Try.ntmps106
    go_wp2
    go_ret
    exact ⟨ret_int (by simp [signN]), rfl⟩
  · by_cases e1 : a = s.size + 1
    · subst e1
      have d0 : (((s.size : Nat) : Int) + 1 == 0) = false := by simp; omega
      go_enter Try.func106, Try.ntmps106
      go_wp2
      go_ret
      exact ⟨ret_int (by simp [signN]), rfl⟩
    · obtain ⟨j, rfl⟩ : ∃ j, a = j + 1 := ⟨a - 1, by omega⟩
      have d0 : ((j : Int) + 1 == 0) = false := by simp; omega
      have d1 : ((j : Int) + 1 == (s.size : Int) + 1) = false := by simp; omega
      have i1 : (0 : Int) ≤ j := by omega
      have i2 : (j : Int) < s.size := by omega
      have b1 : 0 ≤ ((s[j]'(by omega)).toNat : Int) := by omega
      have b2 : ((s[j]'(by omega)).toNat : Int) ≤ 255 := by have := (s[j]'(by omega)).toNat_lt; omega
      have hb := bytes_at s j (by omega)
      have HS := Lib.hid (show signN t.L s (j + 1) = ((s[j]'(by omega)).toNat : Int) - 97 by
        unfold signN; rw [if_neg e0, if_neg e1, show j + 1 - 1 = j by omega, hb]; rfl)
      clear e0 e1 hb
      go_enter Try.func106, Try.ntmps106
      go_wp2
      go_ret
      exact ⟨ret_int HS.out.symm, rfl⟩

theorem keep_two {w : World} {q p i : Nat} {a b v : Value} (hq : p < q) (h : w.cell? ⟨p, i, none⟩ = some v) : ((w.setCell ⟨q, 0, none⟩ a).setCell ⟨q, 1, none⟩ b).cell? ⟨p, i, none⟩ = some v := by
  rw [World.cell?_of_block (w := w) (w' := ((w.setCell ⟨q, 0, none⟩ a).setCell ⟨q, 1, none⟩ b)) (a := ⟨p, i, none⟩) ?_]
  · exact h
  · have e : ∀ (W : World) (j : Nat) (u : Value), (W.setCell ⟨q, j, none⟩ u).heap[p]? = W.heap[p]? := fun W j u => Below.heap_setCell W ⟨q, j, none⟩ u p (fun e => by subst e; simp at hq)
    show ((w.setCell ⟨q, 0, none⟩ a).setCell ⟨q, 1, none⟩ b).heap[p]? = w.heap[p]?
    rw [e, e]
theorem keep_two_drew {w : World} {q p i : Nat} {a b v : Value} (hq : p < q) (h : w.cell? ⟨p, i, none⟩ = some v) : ((w.setCell ⟨q, 0, none⟩ a).setCell ⟨q, 1, none⟩ b).drew.cell? ⟨p, i, none⟩ = some v := keep_two hq h
theorem moveOn_eq {t : TData} {s : ByteArray} {q a k : Nat} (h : signN t.L s a = k) : moveOn t s q a = moveAt t q k := by rw [moveOn, h]; simp

set_option maxRecDepth 100000 in
set_option maxHeartbeats 1600000 in
theorem l02At_any (p : Nat) (t : TData) (s : ByteArray) (q a : Nat) (w : World) (h : AtT w p t) (hok : OkT t) (hl : lettersOk t.L s = true) (hs : s.size ≤ 60) (hq : q < t.mv.length) (ha : a ≤ s.size + 1) :
    Calls Try.prog 70 #[.pointer (some ⟨p, 0, none⟩), .string s, .agg #[.int .i64 (q : Int), .int .i64 (a : Int)]] w fun e w' => e = .returned (.agg #[.int .i64 (moveOn t s q a).1, .int .i64 (moveOn t s q a).2]) ∧ Below w.heap.size w w' := by
  have HB := Lib.hid (fun W (hb : Below w.heap.size w W) => l02Below_any p t s a W (h.below hb) hok.l1 hok.l2 hs ha)
  obtain ⟨k, hk, hk2⟩ := signN_ok hok.l1 hok.l2 hl ha
  obtain ⟨x, m, hx, hm, hat, -, hxl⟩ := hok.at hq hk2
  rw [hk] at HB
  rw [moveOn_eq hk, hat]
  obtain ⟨mx, my⟩ := m
  obtain ⟨vm, c0, c1, c2, hR⟩ := h
  obtain ⟨A, cap, rfl, a1, a2, a3⟩ := RdL.open hR
  obtain ⟨b, off, u, x', rfl, hx', hc, hP⟩ := a3 q hq
  obtain rfl := Option.some.inj (hx.symm.trans hx')
  obtain ⟨C, capx, rfl, x1, x2, x3⟩ := RdP.open hP
  obtain ⟨bx, offx, tx, ty, rfl, ht, hct, hdt⟩ := x3 k (by omega)
  obtain ⟨rfl, rfl⟩ := Prod.mk.inj (Option.some.inj (hm.symm.trans ht))
  unfold maxLen at a2 x2
  have ltp : p < w.heap.size := World.block_lt_of_cell? _ _ c0
  have ltb := World.block_lt_of_cell? _ _ hc
  have ltx := World.block_lt_of_cell? _ _ hct
  have q1 : (0 : Int) ≤ q := by omega
  have q2 : (q : Int) < t.mv.length := by omega
  have k1 : (0 : Int) ≤ k := by omega
  have k2 : (k : Int) < x.length := by omega
  clear hx hm hat hk hk2 hx' hR hP a3 x3 ht hxl hok hl
  have hz := (Row.new w [.int .i64 (q : Int), .int .i64 (a : Int)] 70).alloc (.cells #[.int .i64 0, .int .i64 0] 96)
  have HD := Lib.hid (show Below w.heap.size w ((w.alloc (.cells #[.int .i64 (q : Int), .int .i64 (a : Int)] 70)).alloc (.cells #[.int .i64 0, .int .i64 0] 96)) from (below_alloc _ _).alloc (by simp) _)
  have hy : Row ((w.alloc (.cells #[.int .i64 (q : Int), .int .i64 (a : Int)] 70)).alloc (.cells #[.int .i64 0, .int .i64 0] 96)) (w.heap.size + 1) 96 [.int .i64 0, .int .i64 0] := by simpa using Row.new (w.alloc (.cells #[.int .i64 (q : Int), .int .i64 (a : Int)] 70)) [.int .i64 0, .int .i64 0] 96
  have HY := Lib.hid hy
  go_enter Try.func70, Try.ntmps70
  go_wp2
  generalize (w.alloc (.cells #[.int .i64 (q : Int), .int .i64 (a : Int)] 70)).alloc (.cells #[.int .i64 0, .int .i64 0] 96) = W0 at *
  obtain ⟨⟨e0, e1⟩, -⟩ := hz.two
  obtain ⟨⟨y0, y1⟩, yf⟩ := hy.two
  have g2 := below_keep HD.out c2
  have gc := below_keep HD.out hc
  have gt := below_keep HD.out hct
  have gd := below_keep HD.out hdt
  have lty := hy.lt
  have n1 : p ≠ w.heap.size + 1 := by omega
  have n2 : b ≠ w.heap.size + 1 := by omega
  have n3 : bx ≠ w.heap.size + 1 := by omega
  clear hz hy c0 c1 c2 hc hct hdt
  go_region_held3 (fun W => W.cell? ⟨p, 2, none⟩ = some (.slice (some ⟨b, off, none⟩) t.mv.length cap) ∧ W.cell? ⟨w.heap.size, 0, none⟩ = some (.int .i64 (q : Int)) ∧ W.cell? ⟨w.heap.size, 1, none⟩ = some (.int .i64 (a : Int)) ∧ W.cell? ⟨b, off + q, none⟩ = some (.slice (some ⟨bx, offx, none⟩) x.length capx) ∧ W.cell? ⟨bx, offx + k * 2, none⟩ = some (.int .i64 mx) ∧ W.cell? ⟨bx, offx + k * 2 + 1, none⟩ = some (.int .i64 my))
    (first | ((try dsimp only); (try go_split_ands); refine ⟨?_, ?_, ?_, ?_, ?_, ?_⟩ <;> (first | assumption | exact keep_two_drew (by omega) (by assumption) | exact keep_two (by omega) (by assumption))) | go_keep)
    (first
      | (go_at_call 106; (with_reducible refine (HB.out _ (by first | exact HD.out | exact HD.out.drew | exact below_drewN HD.out _)).mono ?_); rintro e wy ⟨rfl, rfl⟩))
  have rF := (HY.out.stored 0 (.int .i64 mx)).stored 1 (.int .i64 my)
  have rB := (HD.out.setCell (p := ⟨w.heap.size + 1, 0, none⟩) (by show w.heap.size ≤ w.heap.size + 1; omega) (.int .i64 mx)).setCell (p := ⟨w.heap.size + 1, 1, none⟩) (by show w.heap.size ≤ w.heap.size + 1; omega) (.int .i64 my)
  generalize ((W0.setCell ⟨w.heap.size + 1, 0, none⟩ (.int .i64 mx)).setCell ⟨w.heap.size + 1, 1, none⟩ (.int .i64 my)) = W2 at *
  obtain ⟨⟨z0, z1⟩, -⟩ := Row.two (a := .int .i64 mx) (b := .int .i64 my) rF
  clear g2 gc gt gd e0 e1 y0 y1 yf
  go_wp2
  exact bodyPost_ret (v := .agg #[.int .i64 mx, .int .i64 my]) (by simp [results, Try.results70, go_sem, z0, z1]) rfl ⟨rfl, rB.drew⟩
end Go.Proofs.Ytdkalefepdlccaa
