/-
  The program's test of a reader: true just for what 'okR' says.
-/
import Derived.Test.YtdkalefepdlccaaT6
namespace Go.Proofs.Ytdkalefepdlccaa
open Go.RowKit

theorem validLetters_any (n : Int) (w : World) :
    Calls Try.prog 130 #[.int .i64 n] w fun e w' => e = .returned (.bool (decide (1 ≤ n ∧ n ≤ 3))) ∧ w = w' := by
  by_cases h1 : 1 ≤ n
  · by_cases h2 : n ≤ 3
    · go_enter Try.func130, Try.ntmps130
      go_wp2
      go_ret
      exact ⟨ret_bool (by simp [h1, h2]), rfl⟩
    · go_enter Try.func130, Try.ntmps130
      go_wp2
      go_ret
      exact ⟨ret_bool (by simp [h2]), rfl⟩
  · go_enter Try.func130, Try.ntmps130
    go_wp2
    go_ret
    exact ⟨ret_bool (by simp; omega), rfl⟩

theorem isState_any (s n : Int) (w : World) :
    Calls Try.prog 121 #[.int .i64 s, .int .i64 n] w fun e w' => e = .returned (.bool (decide (0 ≤ s ∧ s < n))) ∧ w = w' := by
  by_cases h1 : 0 ≤ s
  · by_cases h2 : s < n
    · go_enter Try.func121, Try.ntmps121
      go_wp2
      go_ret
      exact ⟨ret_bool (by simp [h1, h2]), rfl⟩
    · go_enter Try.func121, Try.ntmps121
      go_wp2
      go_ret
      exact ⟨ret_bool (by simp [h2]), rfl⟩
  · go_enter Try.func121, Try.ntmps121
    go_wp2
    go_ret
    exact ⟨ret_bool (by simp; omega), rfl⟩

/-- The same, in a word that the walk leaves alone. -/
theorem isState_w (s n : Int) (w : World) :
    Calls Try.prog 121 #[.int .i64 s, .int .i64 n] w fun e w' => e = .returned (.bool (within s 0 (n - 1))) ∧ w = w' :=
  (isState_any s n w).mono fun e w' ⟨h1, h2⟩ => ⟨h1.trans (ret_bool (by unfold within; congr 1; exact propext (by omega))), h2⟩

end Go.Proofs.Ytdkalefepdlccaa
