/-
  Rotators: an argument opened.
-/
import Derived.Test.YtklljaeoimgmnaaKO
import Derived.Test.YtklljaeoimgmnaaOpen
namespace Go.Proofs.Ytklljaeoimgmnaa
open Go.RowKit
open Go.ChangeShapes Go.WideShapes Go.ChangeAt Go.Joins

set_option maxRecDepth 100000 in
theorem open_rotator {H : Type} {enc : TypeId × Value → H} {W : World} {base : Nat} {v : Value} {d : DataW H} {p : List MemPlace} (hv : Value.okWide Try.prog W .any base 38 v) (h : DataW.Trod enc Try.prog W 0 (fun _ => true) true 38 v d p)
    (hf : Fit Try.prog 38 d) : ∃ r, RdO W v r ∧ OSmall r := by
  obtain ⟨v0, v1, v2, v3, y0, y1, y2, y3, n, rfl, rfl, _, g0, g1, g2, g3⟩ := open_agg4 Try.underlying38 (by kernel_rfl) (by kernel_rfl) hv h
  obtain ⟨L, rfl, -⟩ := opens_int Try.underlying2 n v0 y0 g0 (hf.part Try.underlying38 (j := 0) rfl rfl)
  obtain ⟨S, rfl, -⟩ := opens_int Try.underlying2 n v1 y1 g1 (hf.part Try.underlying38 (j := 1) rfl rfl)
  obtain ⟨next, hn, qn1, qn2⟩ := opens_slice Try.underlying35 (by kernel_rfl) (opens_ints Try.underlying36 Try.underlying2 (by kernel_rfl) (by kernel_rfl)) n v2 y2 g2 (hf.part Try.underlying38 (j := 2) rfl rfl)
  obtain ⟨fin, ha, qa⟩ := opens_ints Try.underlying36 Try.underlying2 (by kernel_rfl) (by kernel_rfl) n v3 y3 g3 (hf.part Try.underlying38 (j := 3) rfl rfl)
  have eb : Try.prog.bytesOf 36 = 24 := by kernel_rfl
  rw [eb] at qn1
  refine ⟨⟨L, S, next, fin⟩, ⟨v2, v3, rfl, hn, ha⟩, ⟨?_, ?_⟩, ?_⟩
  · simp only [reachBytes] at qn1; show 24 * next.length ≤ _; omega
  · intro x hx; have := qn2 x hx; simp only [reachBytes] at this; omega
  · simp only [reachBytes] at qa; show 8 * fin.length ≤ _; omega
end Go.Proofs.Ytklljaeoimgmnaa
