/-
  Wanderers: an argument opened; one that lies in memory behind a pointer.
-/
import Derived.Test.YtdkalefepdlccaaKW
import Derived.Test.YtdkalefepdlccaaOpen
namespace Go.Proofs.Ytdkalefepdlccaa
open Go.RowKit
open Go.ChangeShapes Go.WideShapes Go.ChangeAt Go.Joins

def AtW (w : World) (p : Nat) (r : WData) : Prop :=
  ∃ a b, w.cell? ⟨p, 0, none⟩ = some (.int .i64 r.L) ∧ w.cell? ⟨p, 1, none⟩ = some a ∧ w.cell? ⟨p, 2, none⟩ = some b ∧ RdI w a r.st ∧ RdPPP w b r.mv
theorem AtW.below {w w' : World} {p : Nat} {r : WData} (h : AtW w p r) (hb : Below w.heap.size w w') : AtW w' p r := by
  obtain ⟨a, b, h0, h1, h2, h3, h4⟩ := h
  exact ⟨a, b, below_keep hb h0, below_keep hb h1, below_keep hb h2, keepsI _ _ _ _ h3 hb, keepsPPP _ _ _ _ h4 hb⟩
theorem atW_box {w : World} {v : Value} {r : WData} (h : RdW w v r) (e : TypeId) : ∃ a b, v = .agg #[.int .i64 r.L, a, b] ∧ AtW (w.alloc (.cells #[.int .i64 r.L, a, b] e)) w.heap.size r := by
  obtain ⟨a, b, rfl, h1, h2⟩ := h
  obtain ⟨⟨q0, q1, q2⟩, -⟩ := (Row.new w [.int .i64 r.L, a, b] e).three
  exact ⟨a, b, rfl, a, b, q0, q1, q2, keepsI _ _ _ _ h1 (below_alloc _ _), keepsPPP _ _ _ _ h2 (below_alloc _ _)⟩

set_option maxRecDepth 100000 in
theorem open_wanderer {H : Type} {enc : TypeId × Value → H} {W : World} {base : Nat} {v : Value} {d : DataW H} {p : List MemPlace} (hv : Value.okWide Try.prog W .any base 60 v) (h : DataW.Trod enc Try.prog W 0 (fun _ => true) true 60 v d p)
    (hf : Fit Try.prog 60 d) : ∃ r, RdW W v r ∧ WSmall r := by
  obtain ⟨v0, v1, v2, y0, y1, y2, n, rfl, rfl, _, g0, g1, g2⟩ := open_agg3 Try.underlying60 (by kernel_rfl) (by kernel_rfl) hv h
  obtain ⟨L, rfl, -⟩ := opens_int Try.underlying2 n v0 y0 g0 (hf.part Try.underlying60 (j := 0) rfl rfl)
  obtain ⟨st, hs, qs⟩ := opens_ints Try.underlying42 Try.underlying2 (by kernel_rfl) (by kernel_rfl) n v1 y1 g1 (hf.part Try.underlying60 (j := 1) rfl rfl)
  obtain ⟨mv, hn, qn1, qn2⟩ := opens_slice Try.underlying58 (by kernel_rfl) (opens_slice Try.underlying22 (by kernel_rfl) (opens_pairs Try.underlying128 Try.underlying175 (by kernel_rfl) rfl rfl (by kernel_rfl) (by kernel_rfl) Try.underlying2 Try.underlying2 (by kernel_rfl))) n v2 y2 g2 (hf.part Try.underlying60 (j := 2) rfl rfl)
  have eb : Try.prog.bytesOf 128 = 24 := by kernel_rfl
  have eb2 : Try.prog.bytesOf 22 = 24 := by kernel_rfl
  rw [eb2] at qn1
  rw [eb] at qn2
  simp only [reachBytes] at qs qn1 qn2
  refine ⟨⟨L, st, mv⟩, ⟨v1, v2, rfl, hs, hn⟩, ?_, ?_, ?_⟩
  · show 8 * st.length ≤ _; omega
  · show 24 * mv.length ≤ _; omega
  · intro y hy
    have := qn2 y hy
    exact ⟨by omega, fun x hx => by have := this.2 x hx; omega⟩
end Go.Proofs.Ytdkalefepdlccaa
