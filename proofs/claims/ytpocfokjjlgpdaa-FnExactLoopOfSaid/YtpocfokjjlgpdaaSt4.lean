/-
  The next place: the program's answer.
-/
import Derived.Test.YtpocfokjjlgpdaaSt3
namespace Go.Proofs.Ytpocfokjjlgpdaa
open Go.RowKit

theorem from_any (x y px : Int) (a : Nat) (w : World) (ha : a ≤ 61) (h1 : -1 ≤ y) (h2 : y ≤ 1) :
    Calls Try.prog 76 #[.agg #[.int .i64 x, .int .i64 y], .agg #[.int .i64 px, .int .i64 (a : Int)]] w fun e w' => e = .returned (.agg #[.int .i64 x, .int .i64 ((a : Int) + y)]) ∧ Below w.heap.size w w' := by
  have HB := Lib.hid ((three_new w 69 [.int .i64 x, .int .i64 y] 61 [.int .i64 px, .int .i64 (a : Int)] 61 [.int .i64 0, .int .i64 0]).store (.int .i64 x) (.int .i64 ((a : Int) + y)))
  go_enter Try.func76, Try.ntmps76
  go_wp2
  refine bodyPost_ret (v := .agg #[.int .i64 x, .int .i64 ((a : Int) + y)]) (by simp [results, Try.results76, go_sem]) rfl ⟨rfl, ?_⟩
  exact ((below_alloc _ _).alloc (by simp) _).alloc (by simp; omega) _

theorem cellOk_eq (a : Int) (s : ByteArray) : cellOk a s = within a 0 ((s.size : Int) + 1) := by
  unfold cellOk within; rw [Bool.eq_iff_iff]; simp only [decide_eq_true_eq]; omega

end Go.Proofs.Ytpocfokjjlgpdaa
