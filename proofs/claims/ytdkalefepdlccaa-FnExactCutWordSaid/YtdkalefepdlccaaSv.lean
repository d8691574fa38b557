/-
  The verdict of a move that stops.
-/
import Derived.Test.YtdkalefepdlccaaV5
namespace Go.Proofs.Ytdkalefepdlccaa
open Go.RowKit

theorem taStopYes (W : World) (v : Value) : (Instr.typeAssert (.iface 143 v) 102 143 true).run Try.prog W = .ok (.tuple #[v, .bool true]) W := by kernel_rfl
theorem taStopNo (W : World) (v : Value) : (Instr.typeAssert (.iface 99 v) 102 143 true).run Try.prog W = .ok (.tuple #[.agg #[.bool false], .bool false]) W := by kernel_rfl

theorem stopEnding_any (z : Bool) (w : World) :
    Calls Try.prog 135 #[.agg #[.bool z]] w fun e w' => e = .returned (.int .i64 (if z then -1 else -2)) ∧ Below w.heap.size w w' := by
  cases z
  all_goals
    go_enter Try.func135, Try.ntmps135
    go_wp2
    go_ret
    exact ⟨rfl, below_alloc _ _⟩
theorem endingVerdict_any (z : Bool) (w : World) :
    Calls Try.prog 136 #[.int .i64 (if z then -1 else -2)] w fun e w' => e = .returned (.int .i64 (if z then 1 else 2)) ∧ w = w' := by
  cases z
  all_goals
    go_enter Try.func136, Try.ntmps136
    go_wp2
    go_ret
    exact ⟨rfl, rfl⟩
theorem stopVerdict_any (z : Bool) (w : World) :
    Calls Try.prog 103 #[.agg #[.bool z]] w fun e w' => e = .returned (.int .i64 (if z then 1 else 2)) ∧ Below w.heap.size w w' := by
  cases z
  · have HB := Lib.hid (below_alloc w (.cells #[.bool false] 143))
    have HE := Lib.hid (fun W => show Calls Try.prog 135 #[.agg #[.bool false]] W (fun e w' => e = .returned (.int .i64 (-2)) ∧ Below W.heap.size W w') from stopEnding_any false W)
    have HV := Lib.hid (fun W => show Calls Try.prog 136 #[.int .i64 (-2)] W (fun e w' => e = .returned (.int .i64 2) ∧ W = w') from endingVerdict_any false W)
    go_enter Try.func103, Try.ntmps103
    go_wp2_with fail
    refine (HE.out _).mono ?_
    rintro e w1 ⟨rfl, hb⟩
    have HB1 := Lib.hid (below_step HB.out hb)
    clear hb
    go_wp2_with fail
    refine (HV.out _).mono ?_
    rintro e w2 ⟨rfl, rfl⟩
    go_wp2
    go_ret
    exact ⟨rfl, HB1.out⟩
  · have HB := Lib.hid (below_alloc w (.cells #[.bool true] 143))
    have HE := Lib.hid (fun W => show Calls Try.prog 135 #[.agg #[.bool true]] W (fun e w' => e = .returned (.int .i64 (-1)) ∧ Below W.heap.size W w') from stopEnding_any true W)
    have HV := Lib.hid (fun W => show Calls Try.prog 136 #[.int .i64 (-1)] W (fun e w' => e = .returned (.int .i64 1) ∧ W = w') from endingVerdict_any true W)
    go_enter Try.func103, Try.ntmps103
    go_wp2_with fail
    refine (HE.out _).mono ?_
    rintro e w1 ⟨rfl, hb⟩
    have HB1 := Lib.hid (below_step HB.out hb)
    clear hb
    go_wp2_with fail
    refine (HV.out _).mono ?_
    rintro e w2 ⟨rfl, rfl⟩
    go_wp2
    go_ret
    exact ⟨rfl, HB1.out⟩
end Go.Proofs.Ytdkalefepdlccaa
