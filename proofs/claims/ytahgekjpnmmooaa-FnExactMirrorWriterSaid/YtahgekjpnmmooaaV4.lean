/-
  Turners: the model's test by its own call; an argument opened.
-/
import Derived.Test.YtahgekjpnmmooaaV2
import Derived.Test.YtahgekjpnmmooaaOpen
namespace Go.Proofs.Ytahgekjpnmmooaa
open Go.RowKit

theorem atT_box {w : World} {v : Value} {t : TData} (h : RdT w v t) (e : TypeId) : ∃ m, v = .agg #[.int .i64 t.L, .int .i64 t.S, m] ∧ AtT (w.alloc (.cells #[.int .i64 t.L, .int .i64 t.S, m] e)) w.heap.size t := by
  obtain ⟨m, rfl, hm⟩ := h
  obtain ⟨⟨q0, q1, q2⟩, -⟩ := (Row.new w [.int .i64 t.L, .int .i64 t.S, m] e).three
  exact ⟨m, rfl, m, q0, q1, q2, keepsPP _ _ _ _ hm (below_alloc _ _)⟩

open Go.ChangeShapes Go.WideShapes Go.ChangeAt Go.Joins

set_option maxRecDepth 100000 in
theorem open_turner {H : Type} {enc : TypeId × Value → H} {W : World} {base : Nat} {v : Value} {d : DataW H} {p : List MemPlace} (hv : Value.okWide Try.prog W .any base 37 v) (h : DataW.Trod enc Try.prog W 0 (fun _ => true) true 37 v d p)
    (hf : Fit Try.prog 37 d) : ∃ r, RdT W v r ∧ TSmall r := by
  obtain ⟨v0, v1, v2, y0, y1, y2, n, rfl, rfl, _, g0, g1, g2⟩ := open_agg3 Try.underlying37 (by kernel_rfl) (by kernel_rfl) hv h
  obtain ⟨L, rfl, -⟩ := opens_int Try.underlying2 n v0 y0 g0 (hf.part Try.underlying37 (j := 0) rfl rfl)
  obtain ⟨S, rfl, -⟩ := opens_int Try.underlying2 n v1 y1 g1 (hf.part Try.underlying37 (j := 1) rfl rfl)
  obtain ⟨mv, hn, qn1, qn2⟩ := opens_slice Try.underlying35 (by kernel_rfl) (opens_pairs Try.underlying114 Try.underlying123 (by kernel_rfl) rfl rfl (by kernel_rfl) (by kernel_rfl) Try.underlying2 Try.underlying2 (by kernel_rfl)) n v2 y2 g2 (hf.part Try.underlying37 (j := 2) rfl rfl)
  have eb : Try.prog.bytesOf 114 = 24 := by kernel_rfl
  rw [eb] at qn1
  refine ⟨⟨L, S, mv⟩, ⟨v2, rfl, hn⟩, ?_, ?_⟩
  · simp only [reachBytes] at qn1; show 24 * mv.length ≤ _; omega
  · intro x hx; have := (qn2 x hx).1; simp only [reachBytes] at this; omega
end Go.Proofs.Ytahgekjpnmmooaa
