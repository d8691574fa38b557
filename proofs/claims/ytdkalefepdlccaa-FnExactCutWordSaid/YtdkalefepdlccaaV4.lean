/-
  Turners: the model's test by its own call; an argument opened.
-/
import Derived.Test.YtdkalefepdlccaaV2
import Derived.Test.YtdkalefepdlccaaOpen
namespace Go.Proofs.Ytdkalefepdlccaa
open Go.RowKit

theorem atT_box {w : World} {v : Value} {t : TData} (h : RdT w v t) (e : TypeId) : ∃ m, v = .agg #[.int .i64 t.L, .int .i64 t.S, m] ∧ AtT (w.alloc (.cells #[.int .i64 t.L, .int .i64 t.S, m] e)) w.heap.size t := by
  obtain ⟨m, rfl, hm⟩ := h
  obtain ⟨⟨q0, q1, q2⟩, -⟩ := (Row.new w [.int .i64 t.L, .int .i64 t.S, m] e).three
  exact ⟨m, rfl, m, q0, q1, q2, keepsPP _ _ _ _ hm (below_alloc _ _)⟩

theorem specValidTurner_any (v : Value) (t : TData) (w : World) (h : RdT w v t) :
    Calls Try.prog 110 #[v] w fun e w' => e = .returned (.bool (okT t)) ∧ Below w.heap.size w w' := by
  obtain ⟨m, rfl, hA⟩ := atT_box h 31
  have H := Lib.hid (l02Ok_any _ _ _ hA)
  clear h hA
  go_enter Try.func110, Try.ntmps110
  go_wp2_with (go_at_call 97; refine H.out.mono ?_; rintro e w' ⟨rfl, hb⟩)
  go_ret
  exact ⟨rfl, below_step (below_alloc _ _) hb⟩

open Go.ChangeShapes Go.WideShapes Go.ChangeAt Go.Joins

set_option maxRecDepth 100000 in
theorem open_turner {H : Type} {enc : TypeId × Value → H} {W : World} {base : Nat} {v : Value} {d : DataW H} {p : List MemPlace} (hv : Value.okWide Try.prog W .any base 24 v) (h : DataW.Trod enc Try.prog W 0 (fun _ => true) true 24 v d p)
    (hf : Fit Try.prog 24 d) : ∃ r, RdT W v r ∧ TSmall r := by
  obtain ⟨v0, v1, v2, y0, y1, y2, n, rfl, rfl, _, g0, g1, g2⟩ := open_agg3 Try.underlying24 (by kernel_rfl) (by kernel_rfl) hv h
  obtain ⟨L, rfl, -⟩ := opens_int Try.underlying2 n v0 y0 g0 (hf.part Try.underlying24 (j := 0) rfl rfl)
  obtain ⟨S, rfl, -⟩ := opens_int Try.underlying2 n v1 y1 g1 (hf.part Try.underlying24 (j := 1) rfl rfl)
  obtain ⟨mv, hn, qn1, qn2⟩ := opens_slice Try.underlying22 (by kernel_rfl) (opens_pairs Try.underlying128 Try.underlying175 (by kernel_rfl) rfl rfl (by kernel_rfl) (by kernel_rfl) Try.underlying2 Try.underlying2 (by kernel_rfl)) n v2 y2 g2 (hf.part Try.underlying24 (j := 2) rfl rfl)
  have eb : Try.prog.bytesOf 128 = 24 := by kernel_rfl
  rw [eb] at qn1
  refine ⟨⟨L, S, mv⟩, ⟨v2, rfl, hn⟩, ?_, ?_⟩
  · simp only [reachBytes] at qn1; show 24 * mv.length ≤ _; omega
  · intro x hx; have := (qn2 x hx).1; simp only [reachBytes] at this; omega
end Go.Proofs.Ytdkalefepdlccaa
