/-
  Readers: the model's test by its own call; what a copy reads as; an argument opened.
-/
import Derived.Test.YtfkicedhjipfmaaT7
import Derived.Test.YtfkicedhjipfmaaOpen
namespace Go.Proofs.Ytfkicedhjipfmaa
open Go.RowKit

theorem atR_box {w : World} {v : Value} {r : RData} (h : RdR w v r) (e : TypeId) : ∃ a n, v = .agg #[.int .i64 r.L, .int .i64 r.S, a, n] ∧ AtR (w.alloc (.cells #[.int .i64 r.L, .int .i64 r.S, a, n] e)) w.heap.size r := by
  obtain ⟨a, n, rfl, ha, hn⟩ := h
  obtain ⟨⟨q0, q1, q2, q3⟩, -⟩ := (Row.new w [.int .i64 r.L, .int .i64 r.S, a, n] e).four
  exact ⟨a, n, rfl, a, n, q0, q1, q2, q3, keepsB _ _ _ _ ha (below_alloc _ _), keepsII _ _ _ _ hn (below_alloc _ _)⟩

open Go.ChangeShapes Go.WideShapes Go.ChangeAt Go.Joins

set_option maxRecDepth 100000 in
theorem open_reader {H : Type} {enc : TypeId × Value → H} {W : World} {base : Nat} {v : Value} {d : DataW H} {p : List MemPlace} (hv : Value.okWide Try.prog W .any base 25 v) (h : DataW.Trod enc Try.prog W 0 (fun _ => true) true 25 v d p)
    (hf : Fit Try.prog 25 d) : ∃ r, RdR W v r ∧ RSmall r := by
  obtain ⟨v0, v1, v2, v3, y0, y1, y2, y3, n, rfl, rfl, _, g0, g1, g2, g3⟩ := open_agg4 Try.underlying25 (by kernel_rfl) (by kernel_rfl) hv h
  obtain ⟨L, rfl, -⟩ := opens_int Try.underlying2 n v0 y0 g0 (hf.part Try.underlying25 (j := 0) rfl rfl)
  obtain ⟨S, rfl, -⟩ := opens_int Try.underlying2 n v1 y1 g1 (hf.part Try.underlying25 (j := 1) rfl rfl)
  obtain ⟨acc, ha, qa⟩ := opens_bools Try.underlying22 Try.underlying4 (by kernel_rfl) (by kernel_rfl) n v2 y2 g2 (hf.part Try.underlying25 (j := 2) rfl rfl)
  obtain ⟨next, hn, qn1, qn2⟩ := opens_slice Try.underlying23 (by kernel_rfl) (opens_ints Try.underlying48 Try.underlying2 (by kernel_rfl) (by kernel_rfl)) n v3 y3 g3 (hf.part Try.underlying25 (j := 3) rfl rfl)
  have eb : Try.prog.bytesOf 48 = 24 := by kernel_rfl
  rw [eb] at qn1
  refine ⟨⟨L, S, acc, next⟩, ⟨v2, v3, rfl, ha, hn⟩, ?_, ?_, ?_⟩
  · simp only [reachBytes] at qa; show acc.length ≤ _; omega
  · simp only [reachBytes] at qn1; show 24 * next.length ≤ _; omega
  · intro x hx; have := qn2 x hx; simp only [reachBytes] at this; omega


end Go.Proofs.Ytfkicedhjipfmaa
