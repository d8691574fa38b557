/-
  The opposite turner: how many numbers it holds.
-/
import Derived.Test.YtfkicedhjipfmaaOt4
namespace Go.Proofs.Ytfkicedhjipfmaa
open Go.RowKit

theorem numT_opp (L S : Int) (mv : List (List (Int × Int))) : numT ⟨L, S, oppMv mv⟩ = numT ⟨L, S, mv⟩ := by
  simp [numT, numL, oppMv, List.map_map, Function.comp_def]
theorem oppT_num (t : TData) (h : (cntT t : Int) ≤ 1048576) : (numT (oppTRes t).1 : Int) ≤ 2305843009213693952 := by
  have := numT_le t
  unfold oppTRes
  split
  · have e := numT_opp t.L t.S t.mv
    simp only
    rw [e]
    have e2 : numT ⟨t.L, t.S, t.mv⟩ = numT t := rfl
    omega
  · simp [numT, numL]
end Go.Proofs.Ytfkicedhjipfmaa
