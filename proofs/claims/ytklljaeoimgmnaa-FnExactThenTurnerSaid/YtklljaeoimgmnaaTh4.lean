/-
  One turner after another: the model's raising, its store in place, and the rows half made.
-/
import Derived.Test.YtklljaeoimgmnaaTh3
import Derived.Test.YtklljaeoimgmnaaWs6
namespace Go.Proofs.Ytklljaeoimgmnaa
open Go.RowKit

set_option maxRecDepth 100000 in
set_option maxHeartbeats 1600000 in
theorem l02Raised_any (x y : Int) (n : Nat) (w : World) (h0 : -2 ≤ x) (h1 : x ≤ 12) (hn : n ≤ 12) :
    Calls Try.prog 21 #[.agg #[.int .i64 x, .int .i64 y], .int .i64 (n : Int)] w fun e w' => e = .returned (.agg #[.int .i64 (raiseM n (x, y)).1, .int .i64 (raiseM n (x, y)).2]) ∧ Below w.heap.size w w' := by
  by_cases hx : 0 ≤ x
  · have hG : raiseM n (x, y) = (x + n, y) := by unfold raiseM; rw [if_pos hx]
    rw [hG]
    clear hG
    go_enter Try.func21, Try.ntmps21
    go_wp2
    have hz := Row.new (w.alloc (.cells #[.int .i64 (x + n), .int .i64 y] 51)) [.int .i64 (x + n), .int .i64 y] 51
    rw [show (w.alloc (.cells #[.int .i64 (x + n), .int .i64 y] 51)).heap.size = w.heap.size + 1 by simp] at hz
    have hb := (below_alloc w (.cells #[.int .i64 (x + n), .int .i64 y] 51)).alloc (by simp) (.cells #[.int .i64 (x + n), .int .i64 y] 51)
    obtain ⟨⟨y0, y1⟩, -⟩ := hz.two
    clear hz
    refine bodyPost_ret (v := .agg #[.int .i64 (x + n), .int .i64 y]) ?_ rfl ⟨rfl, hb⟩
    generalize (w.alloc (.cells #[.int .i64 (x + n), .int .i64 y] 51)).alloc (.cells #[.int .i64 (x + n), .int .i64 y] 51) = W2 at *
    simp [results, Try.results21, go_sem, y0, y1]
  · have hG : raiseM n (x, y) = (x, y) := by unfold raiseM; rw [if_neg hx]
    rw [hG]
    clear hG
    go_enter Try.func21, Try.ntmps21
    go_wp2
    have hz := Row.new (w.alloc (.cells #[.int .i64 (x), .int .i64 y] 51)) [.int .i64 (x), .int .i64 y] 51
    rw [show (w.alloc (.cells #[.int .i64 (x), .int .i64 y] 51)).heap.size = w.heap.size + 1 by simp] at hz
    have hb := (below_alloc w (.cells #[.int .i64 (x), .int .i64 y] 51)).alloc (by simp) (.cells #[.int .i64 (x), .int .i64 y] 51)
    obtain ⟨⟨y0, y1⟩, -⟩ := hz.two
    clear hz
    refine bodyPost_ret (v := .agg #[.int .i64 (x), .int .i64 y]) ?_ rfl ⟨rfl, hb⟩
    generalize (w.alloc (.cells #[.int .i64 (x), .int .i64 y] 51)).alloc (.cells #[.int .i64 (x), .int .i64 y] 51) = W2 at *
    simp [results, Try.results21, go_sem, y0, y1]
/-- Rows that are turned in place, mark by mark: to be G's. -/
def gRows (G : Nat → Nat → Int × Int) (mv : List (List (Int × Int))) (c s : Nat) : List (List (Int × Int)) := (tableOf G c mv.length).take s ++ mv.drop s
def gRow (G : Nat → Nat → Int × Int) (c s : Nat) (x : List (Int × Int)) (k : Nat) : List (Int × Int) := (rowOf G c s).take k ++ x.drop k
theorem gRows_zero (G : Nat → Nat → Int × Int) (mv : List (List (Int × Int))) (c : Nat) : gRows G mv c 0 = mv := by simp [gRows]
theorem gRows_len (G : Nat → Nat → Int × Int) (mv : List (List (Int × Int))) (c : Nat) {s : Nat} (h : s ≤ mv.length) : (gRows G mv c s).length = mv.length := part_len (tableOf_len _ _ _) h
theorem gRow_len {G : Nat → Nat → Int × Int} {c s : Nat} {x : List (Int × Int)} (hx : x.length = c) {k : Nat} (h : k ≤ c) : (gRow G c s x k).length = c := by
  have := part_len (ms := rowOf G c s) (xs := x) (i := k) (by rw [rowOf_len, hx]) (by omega)
  unfold gRow
  omega
theorem gRow_zero (G : Nat → Nat → Int × Int) (c s : Nat) (x : List (Int × Int)) : gRow G c s x 0 = x := by simp [gRow]
theorem gRow_full {G : Nat → Nat → Int × Int} {c s : Nat} {x : List (Int × Int)} (hx : x.length = c) : gRow G c s x c = rowOf G c s := by
  unfold gRow
  exact part_done (by rw [rowOf_len, hx]) (by omega)
theorem gRow_step {G : Nat → Nat → Int × Int} {c s : Nat} {x : List (Int × Int)} (hx : x.length = c) {k : Nat} (h : k < c) : (gRow G c s x k).set k (G s k) = gRow G c s x (k + 1) :=
  part_step (by rw [rowOf_len, hx]) (by omega) (rowOf_get _ h)
theorem gRow_at {G : Nat → Nat → Int × Int} {c s : Nat} {x : List (Int × Int)} (hx : x.length = c) {k : Nat} {m : Int × Int} (h : x[k]? = some m) : (gRow G c s x k)[k]? = some m := by
  have hk := (List.getElem?_eq_some_iff.1 h).1
  unfold gRow
  rw [List.getElem?_append_right (by simp [rowOf_len]; omega)]
  simp [rowOf_len, Nat.min_eq_left (show k ≤ c by omega), h]
theorem gRow_same {G : Nat → Nat → Int × Int} {c s : Nat} {x : List (Int × Int)} (hx : x.length = c) {k : Nat} (h : x[k]? = some (G s k)) : gRow G c s x k = gRow G c s x (k + 1) := by
  have hk := (List.getElem?_eq_some_iff.1 h).1
  rw [← gRow_step hx (by omega), set_sameW (gRow_at hx h)]
theorem gRows_at {G : Nat → Nat → Int × Int} {mv : List (List (Int × Int))} {c s : Nat} {x : List (Int × Int)} (h : mv[s]? = some x) : (gRows G mv c s)[s]? = some x := by
  have hk := (List.getElem?_eq_some_iff.1 h).1
  unfold gRows
  rw [List.getElem?_append_right (by simp [tableOf_len]; omega)]
  simp [tableOf_len, Nat.min_eq_left (Nat.le_of_lt hk), h]
theorem gRows_step {G : Nat → Nat → Int × Int} {mv : List (List (Int × Int))} {c s : Nat} (h : s < mv.length) : (gRows G mv c s).set s (rowOf G c s) = gRows G mv c (s + 1) :=
  part_step (tableOf_len _ _ _) h (by simp [tableOf, h])
theorem gRows_full (G : Nat → Nat → Int × Int) (mv : List (List (Int × Int))) (c : Nat) : gRows G mv c mv.length = tableOf G c mv.length := part_done (tableOf_len _ _ _) (by omega)
end Go.Proofs.Ytklljaeoimgmnaa
