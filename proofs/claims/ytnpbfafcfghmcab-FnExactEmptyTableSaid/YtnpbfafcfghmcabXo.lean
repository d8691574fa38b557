/-
  Tables: an argument opened.
-/
import Derived.Test.YtnpbfafcfghmcabKX
import Derived.Test.YtnpbfafcfghmcabOpen
namespace Go.Proofs.Ytnpbfafcfghmcab
open Go.RowKit
open Go.ChangeShapes Go.WideShapes Go.ChangeAt Go.Joins

set_option maxRecDepth 100000 in
theorem open_table {H : Type} {enc : TypeId × Value → H} {W : World} {base : Nat} {v : Value} {d : DataW H} {p : List MemPlace} (hv : Value.okWide Try.prog W .any base 24 v) (h : DataW.Trod enc Try.prog W 0 (fun _ => true) true 24 v d p)
    (hf : Fit Try.prog 24 d) : ∃ r, RdX W v r ∧ XSmall r := by
  obtain ⟨v0, v1, y0, y1, n, rfl, rfl, _, g0, g1⟩ := open_agg2 Try.underlying24 (by kernel_rfl) (by kernel_rfl) hv h
  obtain ⟨fl, h0, q0⟩ := opens_pairs Try.underlying22 Try.underlying58 (by kernel_rfl) rfl rfl (by kernel_rfl) (by kernel_rfl) Try.underlying2 Try.underlying2 (by kernel_rfl) n v0 y0 g0 (hf.part Try.underlying24 (j := 0) rfl rfl)
  obtain ⟨fr, h1, q1⟩ := opens_pairs Try.underlying22 Try.underlying58 (by kernel_rfl) rfl rfl (by kernel_rfl) (by kernel_rfl) Try.underlying2 Try.underlying2 (by kernel_rfl) n v1 y1 g1 (hf.part Try.underlying24 (j := 1) rfl rfl)
  refine ⟨⟨fl, fr⟩, ⟨v0, v1, rfl, h0, h1⟩, ?_, ?_⟩
  · simp only [reachBytes] at q0; show 16 * fl.length ≤ _; omega
  · simp only [reachBytes] at q1; show 16 * fr.length ≤ _; omega
end Go.Proofs.Ytnpbfafcfghmcab
