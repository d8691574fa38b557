/-
  Structs of two integers and slices of these: copies, sizes, comparisons.
-/
import Derived.Test.YtpkbpflnjbeedaaPr
import Derived.Test.YtpkbpflnjbeedaaO1
namespace Go.Proofs.Ytpkbpflnjbeedaa
open Go.RowKit

theorem infoPlace : (Try.prog.info? 55).map (fun i => (i.zero, i.size, i.bytes)) = some (some (.agg #[.int .i64 0, .int .i64 0]), 2, 16) := by kernel_rfl

set_option maxHeartbeats 400000 in
theorem toPlace_any (x y : Int) (w : World) :
    Calls Try.prog 24 #[.agg #[.int .i64 x, .int .i64 y]] w fun e w' => e = .returned (.agg #[.int .i64 x, .int .i64 y]) ∧ Below w.heap.size w w' := by
  go_enter Try.func24, Try.ntmps24
  go_wp2
  refine bodyPost_ret (v := .agg #[.int .i64 x, .int .i64 y]) (by simp [results, Try.results24, go_sem]) rfl ⟨rfl, ?_⟩
  exact ((below_alloc w _).alloc (by simp) _).alloc (by simp; omega) _

set_option maxHeartbeats 400000 in
theorem eqPlace_any (x y x' y' : Int) (w : World) :
    Calls Try.prog 26 #[.agg #[.int .i64 x, .int .i64 y], .agg #[.int .i64 x', .int .i64 y']] w fun e w' => e = .returned (.bool (eqPair (x, y) (x', y'))) ∧ Below w.heap.size w w' := by
  have hb : ∀ a b, Below w.heap.size w ((w.alloc a).alloc b) := fun a b => (below_alloc w a).alloc (by simp) b
  by_cases h1 : x = x'
  · subst h1
    by_cases h2 : y = y'
    · subst h2
      have n1 : (x != x) = false := by simp
      have n2 : (y != y) = false := by simp
      go_enter Try.func26, Try.ntmps26
      go_wp2
      go_ret
      exact ⟨ret_bool (by simp [eqPair]), hb _ _⟩
    · have n1 : (x != x) = false := by simp
      have n2 : (y != y') = true := by simpa using h2
      have H2 := Lib.hid h2; clear h2
      go_enter Try.func26, Try.ntmps26
      go_wp2
      go_ret
      exact ⟨ret_bool (by simp [eqPair, H2.out]), hb _ _⟩
  · have n1 : (x != x') = true := by simpa using h1
    have H1 := Lib.hid h1; clear h1
    go_enter Try.func26, Try.ntmps26
    go_wp2
    go_ret
    exact ⟨ret_bool (by simp [eqPair, H1.out]), hb _ _⟩

end Go.Proofs.Ytpkbpflnjbeedaa
