/-
  The turner that never stays: the model's verdict on what it made, and the rows half made.
-/
import Derived.Test.YtklljaeoimgmnaaWs3
import Derived.Test.YtklljaeoimgmnaaWs4
namespace Go.Proofs.Ytklljaeoimgmnaa
open Go.RowKit


theorem rd_at {W : World} {t : TData} {b off ca : Nat} (hR : RdPP W (.slice (some ⟨b, off, none⟩) t.mv.length ca) t.mv) (ok : OkT t) {q k : Nat} (hq : q < t.mv.length) (hk : (k : Int) < t.L + 2) :
    ∃ bx offx c cd, W.cell? ⟨b, off + q, none⟩ = some (.slice (some ⟨bx, offx, none⟩) c cd) ∧ (c : Int) = t.L + 2 ∧ c ≤ cd ∧ cd ≤ maxLen ∧ W.cell? ⟨bx, offx + k * 2, none⟩ = some (.int .i64 (moveAt t q k).1) ∧ W.cell? ⟨bx, offx + k * 2 + 1, none⟩ = some (.int .i64 (moveAt t q k).2) := by
  obtain ⟨x, m, hx, hm, hat, -, hxl⟩ := ok.at hq hk
  rw [hat]
  obtain ⟨A, cap, e, a1, a2, a3⟩ := RdL.open hR
  obtain ⟨b', off', u, x', rfl, hx', hc, hP⟩ := a3 q hq
  cases e
  obtain rfl := Option.some.inj (hx.symm.trans hx')
  obtain ⟨C, capx, rfl, x1, x2, x3⟩ := RdP.open hP
  obtain ⟨bx, offx, tx, ty, rfl, ht, hct, hdt⟩ := x3 k (by omega)
  obtain rfl := Option.some.inj (hm.symm.trans ht)
  exact ⟨bx, offx, x.length, capx, hc, hxl, x1, x2, hct, hdt⟩
theorem rd_box {W : World} {t : TData} {A : Option Addr} {ca : Nat} (hR : RdPP W (.slice A t.mv.length ca) t.mv) (ok : OkT t) : ∃ b off, A = some ⟨b, off, none⟩ := by
  obtain ⟨A', cap, e, a1, a2, a3⟩ := RdL.open hR
  have n1 := ok.n1
  obtain ⟨b', off', u, x', rfl, hx', hc, hP⟩ := a3 0 (by omega)
  cases e
  exact ⟨_, _, rfl⟩

def wRows (t : TData) (c s : Nat) : List (List (Int × Int)) := (tableOf (wsG t) c t.mv.length).take s ++ t.mv.drop s
def wRow (t : TData) (c s : Nat) (x : List (Int × Int)) (k : Nat) : List (Int × Int) := (rowOf (wsG t) c s).take k ++ x.drop k
theorem wRows_len (t : TData) (c : Nat) {s : Nat} (h : s ≤ t.mv.length) : (wRows t c s).length = t.mv.length := part_len (tableOf_len _ _ _) h
theorem wRow_len {t : TData} {c s : Nat} {x : List (Int × Int)} (hx : x.length = c) {k : Nat} (h : k ≤ c) : (wRow t c s x k).length = c := by
  have := part_len (ms := rowOf (wsG t) c s) (xs := x) (i := k) (by rw [rowOf_len, hx]) (by omega)
  unfold wRow
  omega
theorem wRow_zero (t : TData) (c s : Nat) (x : List (Int × Int)) : wRow t c s x 0 = x := by simp [wRow]
theorem wRow_full {t : TData} {c s : Nat} {x : List (Int × Int)} (hx : x.length = c) : wRow t c s x c = rowOf (wsG t) c s := by
  unfold wRow
  exact part_done (by rw [rowOf_len, hx]) (by omega)
theorem wRow_step {t : TData} {c s : Nat} {x : List (Int × Int)} (hx : x.length = c) {k : Nat} (h : k < c) : (wRow t c s x k).set k (wsG t s k) = wRow t c s x (k + 1) :=
  part_step (by rw [rowOf_len, hx]) (by omega) (rowOf_get _ h)
theorem wRows_at {t : TData} {c s : Nat} {x : List (Int × Int)} (h : t.mv[s]? = some x) : (wRows t c s)[s]? = some x := by
  have hk := (List.getElem?_eq_some_iff.1 h).1
  unfold wRows
  rw [List.getElem?_append_right (by simp [tableOf_len]; omega)]
  simp [tableOf_len, Nat.min_eq_left (Nat.le_of_lt hk), h]
theorem wRows_step {t : TData} {c s : Nat} (h : s < t.mv.length) : (wRows t c s).set s (rowOf (wsG t) c s) = wRows t c (s + 1) :=
  part_step (tableOf_len _ _ _) h (by simp [tableOf, h])
theorem wRows_full (t : TData) (c : Nat) : wRows t c t.mv.length = tableOf (wsG t) c t.mv.length := part_done (tableOf_len _ _ _) (by omega)
theorem set_sameW {α : Type} {l : List α} {i : Nat} {x : α} (h : l[i]? = some x) : l.set i x = l := by
  apply List.ext_getElem?
  intro j
  by_cases hj : i = j
  · subst hj; rw [h, List.getElem?_set_self (List.getElem?_eq_some_iff.1 h).1]
  · rw [List.getElem?_set_ne hj]

def toldResW (t : TData) : TData × Int := if okT t then (t, 0) else (⟨0, 0, []⟩, 3)
set_option maxRecDepth 100000 in
set_option maxHeartbeats 1600000 in
theorem l02Told_anyW (v : Value) (t : TData) (w : World) (h : RdT w v t) :
    Calls Try.prog 23 #[v] w fun e w' => e = .returned (.tuple #[if okT t then v else .agg #[.int .i64 0, .int .i64 0, .slice none 0 0], .int .i64 (toldResW t).2]) ∧ Below w.heap.size w w' := by
  obtain ⟨m, rfl, hA⟩ := atT_box h 28
  obtain ⟨A, k, rfl⟩ := RdL.shape (show RdPP _ m t.mv from by obtain ⟨_, e, hm⟩ := h; cases e; exact hm)
  have hA0 := hA.below (below_alloc _ (.cells #[.int .i64 0, .int .i64 0, .slice none 0 0] 28))
  have HV := Lib.hid (l02Ok_any _ _ _ hA0)
  have HT := Lib.hid h
  have hr := (Row.new w [.int .i64 t.L, .int .i64 t.S, .slice A t.mv.length k] 28).alloc (.cells #[.int .i64 0, .int .i64 0, .slice none 0 0] 28)
  have hz := Row.new (w.alloc (.cells #[.int .i64 t.L, .int .i64 t.S, .slice A t.mv.length k] 28)) [.int .i64 0, .int .i64 0, .slice none 0 0] 28
  have HZ := Lib.hid (show Row _ (w.heap.size + 1) _ _ by simpa using hz)
  have HR := Lib.hid hr
  have HB := Lib.hid ((below_alloc w (.cells #[.int .i64 t.L, .int .i64 t.S, .slice A t.mv.length k] 28)).alloc (by simp) (.cells #[.int .i64 0, .int .i64 0, .slice none 0 0] 28))
  clear h hA hA0 hr hz
  by_cases hok : okT t = true
  · rw [if_pos hok]
    have HOK := Lib.hid hok
    go_enter Try.func23, Try.ntmps23
    go_wp2_with fail
    refine HV.out.mono ?_
    generalize (w.alloc (.cells #[.int .i64 t.L, .int .i64 t.S, .slice A t.mv.length k] 28)).alloc (.cells #[.int .i64 0, .int .i64 0, .slice none 0 0] 28) = W0 at *
    rintro e w1 ⟨rfl, hb1⟩
    have hz1 := HZ.out.below hb1 HZ.out.lt
    have hr1 := HR.out.below hb1 HR.out.lt
    have hbw := below_step HB.out hb1
    obtain ⟨⟨b0, b1, b2⟩, -⟩ := hr1.three
    obtain ⟨⟨z0, z1, z2⟩, zf⟩ := hz1.three
    have lz := hz1.lt
    have rF := (((hz1.stored 0 (.int .i64 t.L)).stored 1 (.int .i64 t.S)).stored 2 (.slice A t.mv.length k))
    have eB := (((hbw.setCell (p := ⟨w.heap.size + 1, 0, none⟩) (by show w.heap.size ≤ w.heap.size + 1; omega) (.int .i64 t.L)).setCell (p := ⟨w.heap.size + 1, 1, none⟩) (by show w.heap.size ≤ w.heap.size + 1; omega) (.int .i64 t.S)).setCell (p := ⟨w.heap.size + 1, 2, none⟩) (by show w.heap.size ≤ w.heap.size + 1; omega) (.slice A t.mv.length k))
    have HH := Lib.hid (show _ ∧ _ from ⟨rF, eB⟩)
    clear hb1 hz1 hr1 hbw rF eB
    go_wp2
    obtain ⟨rF, eB⟩ := HH.out
    generalize (((w1.setCell ⟨w.heap.size + 1, 0, none⟩ (.int .i64 t.L)).setCell ⟨w.heap.size + 1, 1, none⟩ (.int .i64 t.S)).setCell ⟨w.heap.size + 1, 2, none⟩ (.slice A t.mv.length k)) = W2 at *
    obtain ⟨⟨y0, y1, y2⟩, -⟩ := Row.three (a := .int .i64 t.L) (b := .int .i64 t.S) (c := .slice A t.mv.length k) rF
    have hres : toldResW t = (t, 0) := by simp [toldResW, HOK.out]
    rw [hres]
    refine bodyPost_ret (v := .tuple #[.agg #[.int .i64 t.L, .int .i64 t.S, .slice A t.mv.length k], .int .i64 0]) (by simp [results, Try.results23, go_sem, y0, y1, y2]) rfl ?_
    exact ⟨rfl, eB⟩
  · rw [if_neg hok]
    have hok' : okT t = false := by simpa using hok
    clear hok
    have HOK := Lib.hid hok'
    go_enter Try.func23, Try.ntmps23
    go_wp2_with fail
    refine HV.out.mono ?_
    generalize (w.alloc (.cells #[.int .i64 t.L, .int .i64 t.S, .slice A t.mv.length k] 28)).alloc (.cells #[.int .i64 0, .int .i64 0, .slice none 0 0] 28) = W0 at *
    rintro e w1 ⟨rfl, hb1⟩
    have hz1 := HZ.out.below hb1 HZ.out.lt
    have HH := Lib.hid (own_storedW (w := w) (A := none) (n := 0) (k := 0) (L := 0) (S := 0) hz1 (below_step HB.out hb1) (by omega) hz1.lt (t := ⟨0, 0, []⟩) ⟨_, [], rfl, owL_nil _ _ _ _, rfl, by simp⟩)
    obtain ⟨⟨z0, z1, z2⟩, zf⟩ := hz1.three
    have lz := hz1.lt
    clear hb1 hz1
    go_wp2
    obtain ⟨⟨y0, y1, y2⟩, eO, eB⟩ := HH.out
    have hres : toldResW t = (⟨0, 0, []⟩, 3) := by simp [toldResW, HOK.out]
    rw [hres]
    generalize (((w1.setCell ⟨w.heap.size + 1, 0, none⟩ (.int .i64 0)).setCell ⟨w.heap.size + 1, 1, none⟩ (.int .i64 0)).setCell ⟨w.heap.size + 1, 2, none⟩ (.slice none 0 0)) = W2 at *
    refine bodyPost_ret (v := .tuple #[.agg #[.int .i64 0, .int .i64 0, .slice none 0 0], .int .i64 3]) (by simp [results, Try.results23, go_sem, y0, y1, y2]) rfl ?_
    exact ⟨rfl, eB⟩
end Go.Proofs.Ytklljaeoimgmnaa
