/-
  Sizes of slices of exits.
-/
import Derived.Test.YtnpbfafcfghmcabZ
import Derived.Test.YtnpbfafcfghmcabQExit
namespace Go.Proofs.Ytnpbfafcfghmcab
open Go.RowKit

theorem szExitS_tot (v : Value) (xs : List (Int × Int)) (left : Int) (w : World) (h : RdP w v xs) (h0 : 0 ≤ left) (hb : left ≤ 4611686018427387904) :
    Calls Try.prog 20 #[v, .int .i64 left] w fun e w' => (∃ n : Int, e = .returned (.int .i64 n) ∧ (n < 0 ∨ n + (xs.length : Int) = left)) ∧ w = w' := by
  obtain ⟨A, cap, rfl, h1, h2, h3⟩ := h.open
  clear h3
  unfold maxLen at h2
  by_cases hl : left - (xs.length : Int) < 0
  · go_enter Try.func20, Try.ntmps20
    go_wp2
    go_ret
    exact ⟨⟨_, rfl, .inl (by decide)⟩, rfl⟩
  · go_enter Try.func20, Try.ntmps20
    go_wp2
    go_ret
    exact ⟨⟨_, rfl, .inr (by omega)⟩, rfl⟩

end Go.Proofs.Ytnpbfafcfghmcab
