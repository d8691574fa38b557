/-
  Pebblers: an argument opened.
-/
import Derived.Test.YtidnohgjbbnadaaKB
namespace Go.Proofs.Ytidnohgjbbnadaa
open Go.RowKit
open Go.ChangeShapes Go.WideShapes Go.ChangeAt Go.Joins

set_option maxRecDepth 100000 in
theorem open_pebbler {H : Type} {enc : TypeId × Value → H} {W : World} {base : Nat} {v : Value} {d : DataW H} {p : List MemPlace} (hv : Value.okWide Try.prog W .any base 43 v) (h : DataW.Trod enc Try.prog W 0 (fun _ => true) true 43 v d p)
    (hf : Fit Try.prog 43 d) : ∃ r, RdPb W v r ∧ PbSmall r := by
  obtain ⟨v0, v1, v2, y0, y1, y2, n, rfl, rfl, _, g0, g1, g2⟩ := open_agg3 Try.underlying43 (by kernel_rfl) (by kernel_rfl) hv h
  obtain ⟨L, rfl, -⟩ := opens_int Try.underlying2 n v0 y0 g0 (hf.part Try.underlying43 (j := 0) rfl rfl)
  obtain ⟨S, rfl, -⟩ := opens_int Try.underlying2 n v1 y1 g1 (hf.part Try.underlying43 (j := 1) rfl rfl)
  obtain ⟨mv, hm, q1, q2⟩ := opens_slice Try.underlying41 (by kernel_rfl) (opens_triples Try.underlying129 Try.underlying150 (by kernel_rfl) rfl rfl rfl (by kernel_rfl) (by kernel_rfl) (by kernel_rfl) Try.underlying2 Try.underlying2 Try.underlying2 (by kernel_rfl)) n v2 y2 g2 (hf.part Try.underlying43 (j := 2) rfl rfl)
  have eb : Try.prog.bytesOf 129 = 24 := by kernel_rfl
  rw [eb] at q1
  refine ⟨⟨L, S, mv⟩, ⟨v2, rfl, hm⟩, ?_, ?_⟩
  · simp only [reachBytes] at q1; show 24 * mv.length ≤ _; omega
  · intro x hx; have := q2 x hx; simp only [reachBytes] at this; omega
end Go.Proofs.Ytidnohgjbbnadaa
