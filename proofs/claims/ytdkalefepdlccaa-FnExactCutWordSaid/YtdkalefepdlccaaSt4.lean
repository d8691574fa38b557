/-
  The next place: the program's answer.
-/
import Derived.Test.YtdkalefepdlccaaSt3
namespace Go.Proofs.Ytdkalefepdlccaa
open Go.RowKit

theorem from_any (x y px : Int) (a : Nat) (w : World) (ha : a ≤ 61) (h1 : -1 ≤ y) (h2 : y ≤ 1) :
    Calls Try.prog 124 #[.agg #[.int .i64 x, .int .i64 y], .agg #[.int .i64 px, .int .i64 (a : Int)]] w fun e w' => e = .returned (.agg #[.int .i64 x, .int .i64 ((a : Int) + y)]) ∧ Below w.heap.size w w' := by
  have HB := Lib.hid ((three_new w 99 [.int .i64 x, .int .i64 y] 70 [.int .i64 px, .int .i64 (a : Int)] 70 [.int .i64 0, .int .i64 0]).store (.int .i64 x) (.int .i64 ((a : Int) + y)))
  go_enter Try.func124, Try.ntmps124
  go_wp2
  refine bodyPost_ret (v := .agg #[.int .i64 x, .int .i64 ((a : Int) + y)]) (by simp [results, Try.results124, go_sem]) rfl ⟨rfl, ?_⟩
  exact ((below_alloc _ _).alloc (by simp) _).alloc (by simp; omega) _

theorem cellOk_eq (a : Int) (s : ByteArray) : cellOk a s = within a 0 ((s.size : Int) + 1) := by
  unfold cellOk within; rw [Bool.eq_iff_iff]; simp only [decide_eq_true_eq]; omega

theorem isPlace_any (px py : Int) (n : Nat) (s : ByteArray) (w : World) (hs : s.size ≤ 60) :
    Calls Try.prog 88 #[.agg #[.int .i64 px, .int .i64 py], .int .i64 (n : Int), .string s] w fun e w' => e = .returned (.bool (within px 0 ((n : Int) - 1) && within py 0 ((s.size : Int) + 1))) ∧ Below w.heap.size w w' := by
  have HB := Lib.hid (below_alloc w (.cells #[.int .i64 px, .int .i64 py] 70))
  cases hw1 : within px 0 ((n : Int) - 1)
  · have HS := Lib.hid (fun W => hw1 ▸ isState_w px (n : Int) W)
    clear hw1
    go_enter Try.func88, Try.ntmps88
    go_wp2_with (go_at_call 121; (with_reducible refine (HS.out _).mono ?_); rintro e wy ⟨rfl, rfl⟩)
    go_ret
    exact ⟨rfl, HB.out⟩
  · have HS := Lib.hid (fun W => hw1 ▸ isState_w px (n : Int) W)
    have HC := Lib.hid (fun W => cellOk_eq py s ▸ isCell_any py s W hs)
    clear hw1
    go_enter Try.func88, Try.ntmps88
    go_wp2_with (first | (go_at_call 121; (with_reducible refine (HS.out _).mono ?_); rintro e wy ⟨rfl, rfl⟩) | (go_at_call 122; (with_reducible refine (HC.out _).mono ?_); rintro e wy ⟨rfl, rfl⟩))
    go_ret
    exact ⟨by simp, HB.out⟩

theorem isPlace_w {px py : Int} {n : Nat} {s : ByteArray} {b : Bool} (h : (within px 0 ((n : Int) - 1) && within py 0 ((s.size : Int) + 1)) = b) (w : World) (hs : s.size ≤ 60) :
    Calls Try.prog 88 #[.agg #[.int .i64 px, .int .i64 py], .int .i64 (n : Int), .string s] w fun e w' => e = .returned (.bool b) ∧ Below w.heap.size w w' := by
  subst h
  exact isPlace_any px py n s w hs

end Go.Proofs.Ytdkalefepdlccaa
