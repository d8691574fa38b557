/-
  A move of a turner: the model's test and the program's are one.
-/
import Derived.Test.YtdkalefepdlccaaKT
import Derived.Test.YtdkalefepdlccaaT7
namespace Go.Proofs.Ytdkalefepdlccaa
open Go.RowKit

/-- A move that is right above the sign k, of a turner with n states and L letters. -/
def okMove (n L k : Int) (m : Int × Int) : Bool :=
  decide (((m.1 = -1 ∨ m.1 = -2) ∧ m.2 = 0) ∨ (¬ (m.1 = -1 ∨ m.1 = -2) ∧ 0 ≤ m.1 ∧ m.1 ≤ n - 1 ∧ -1 ≤ m.2 ∧ m.2 ≤ 1 ∧ ¬ (k = L ∧ m.2 = -1) ∧ ¬ (k = L + 1 ∧ m.2 = 1)))

set_option maxHeartbeats 1600000 in
theorem l02Move_any (x y n L k : Int) (w : World) (hn1 : 1 ≤ n) (hn2 : n ≤ 12) (hL1 : 1 ≤ L) (hL2 : L ≤ 3) :
    Calls Try.prog 127 #[.agg #[.int .i64 x, .int .i64 y], .int .i64 n, .int .i64 L, .int .i64 k] w fun e w' => e = .returned (.bool (okMove n L k (x, y))) ∧ Below w.heap.size w w' := by
  go_enter Try.func127, Try.ntmps127
  go_wp2_with (go_at_call 118; refine (l00In_w _ _ _ _).mono ?_; rintro e w' ⟨rfl, rfl⟩)
  all_goals go_ret
  all_goals refine ⟨ret_bool ?_, below_alloc _ _⟩
  all_goals rw [Bool.eq_iff_iff]
  all_goals simp_all [okMove, within]
  all_goals omega

theorem leftMark_any (L : Int) (w : World) : Calls Try.prog 138 #[.int .i64 L] w fun e w' => e = .returned (.int .i64 L) ∧ w = w' := by
  go_enter Try.func138, Try.ntmps138
  go_wp2
  go_ret
  exact ⟨rfl, rfl⟩
theorem rightMark_any (L : Int) (w : World) (h0 : 0 ≤ L) (h1 : L ≤ 9) : Calls Try.prog 139 #[.int .i64 L] w fun e w' => e = .returned (.int .i64 (L + 1)) ∧ w = w' := by
  go_enter Try.func139, Try.ntmps139
  go_wp2
  go_ret
  exact ⟨rfl, rfl⟩
theorem countSigns_any (L : Int) (w : World) (h0 : 0 ≤ L) (h1 : L ≤ 9) : Calls Try.prog 132 #[.int .i64 L] w fun e w' => e = .returned (.int .i64 (L + 2)) ∧ w = w' := by
  go_enter Try.func132, Try.ntmps132
  go_wp2
  go_ret
  exact ⟨rfl, rfl⟩

set_option maxHeartbeats 1600000 in
theorem isMove_any (x y n L k : Int) (w : World) (_hn1 : 1 ≤ n) (_hn2 : n ≤ 12) (hL1 : 1 ≤ L) (hL2 : L ≤ 3) :
    Calls Try.prog 133 #[.agg #[.int .i64 x, .int .i64 y], .int .i64 n, .int .i64 L, .int .i64 k] w fun e w' => e = .returned (.bool (okMove n L k (x, y))) ∧ Below w.heap.size w w' := by
  go_enter Try.func133, Try.ntmps133
  go_wp2_with (first | (go_at_call 121; refine (isState_w _ _ _).mono ?_; rintro e w' ⟨rfl, rfl⟩) | (go_at_call 138; refine (leftMark_any _ _).mono ?_; rintro e w' ⟨rfl, rfl⟩) | (go_at_call 139; refine (rightMark_any _ _ (by omega) (by omega)).mono ?_; rintro e w' ⟨rfl, rfl⟩))
  all_goals go_ret
  all_goals refine ⟨ret_bool ?_, below_alloc _ _⟩
  all_goals rw [Bool.eq_iff_iff]
  all_goals simp_all [okMove, within]
  all_goals omega
end Go.Proofs.Ytdkalefepdlccaa
