/-
  For every reader that can be read as data, FnExactValidReader returns true, and its argument reads behind the call as before: the program's ValidReader answers as its model.
-/
import Derived.Test.YtgeopkjohijegaaRows
import Derived.Test.YtgeopkjohijegaaOpen
import Derived.Test.YtgeopkjohijegaaT8
namespace Go.Proofs.Ytgeopkjohijegaa.validReader
open Go.ChangeShapes Go.WideShapes Go.ChangeAt Go.RowKit Go.Joins
set_option linter.unusedVariables false

theorem own : ownKnob Try.prog.godebug = none := by kernel_rfl
theorem laidOut : laidOutB Try.prog = true := by kernel_rfl

set_option maxRecDepth 100000 in
theorem open_reader {H : Type} {enc : TypeId × Value → H} {W : World} {base : Nat} {v : Value} {d : DataW H} {p : List MemPlace} (hv : Value.okWide Try.prog W .any base 47 v) (h : DataW.Trod enc Try.prog W 0 (fun _ => true) true 47 v d p)
    (hf : Fit Try.prog 47 d) : ∃ r, RdR W v r ∧ RSmall r := by
  obtain ⟨v0, v1, v2, v3, y0, y1, y2, y3, n, rfl, rfl, _, g0, g1, g2, g3⟩ := open_agg4 Try.underlying47 (by kernel_rfl) (by kernel_rfl) hv h
  have e : (1 : Nat) = 1 := rfl
  obtain ⟨L, rfl, -⟩ := opens_int Try.underlying2 n v0 y0 g0 (hf.part Try.underlying47 (j := 0) rfl rfl)
  obtain ⟨S, rfl, -⟩ := opens_int Try.underlying2 n v1 y1 g1 (hf.part Try.underlying47 (j := 1) rfl rfl)
  obtain ⟨acc, ha, qa⟩ := opens_bools Try.underlying25 Try.underlying4 (by kernel_rfl) (by kernel_rfl) n v2 y2 g2 (hf.part Try.underlying47 (j := 2) rfl rfl)
  obtain ⟨next, hn, qn1, qn2⟩ := opens_slice Try.underlying26 (by kernel_rfl) (opens_ints Try.underlying58 Try.underlying2 (by kernel_rfl) (by kernel_rfl)) n v3 y3 g3 (hf.part Try.underlying47 (j := 3) rfl rfl)
  have eb : Try.prog.bytesOf 58 = 24 := by kernel_rfl
  rw [eb] at qn1
  refine ⟨⟨L, S, acc, next⟩, ⟨v2, v3, rfl, ha, hn⟩, ?_, ?_, ?_⟩
  · simp only [reachBytes] at qa; show acc.length ≤ _; omega
  · simp only [reachBytes] at qn1; show 24 * next.length ≤ _; omega
  · intro x hx; have := qn2 x hx; simp only [reachBytes] at this; omega

set_option maxRecDepth 100000 in
theorem lifted (os : Os) (started : os.Started) (H : Type) (enc : TypeId × Value → H) :
    ReturnsInHanded {} Try.checked os 8 .any (Rows.fnExactValidReaderSpec.pre6 enc Try.prog Try.f8 Rows.fnExactValidReaderRow.domain false) (Rows.fnExactValidReaderSpec.post enc Try.prog Try.f8 false true false false) := by
  refine returnsInHanded_of_change_sized (C := Try.checked) own started (by kernel_rfl) Try.func8
    (ChangeSpec.witness6 (enc := enc) (C := Try.checked) false ⟨#[], #[.agg #[.int .i64 0, .int .i64 0, .slice none 0 0, .slice none 0 0]], []⟩ 8 (by kernel_rfl) (by kernel_rfl) (by kernel_rfl) (by kernel_rfl)) ?_
  intro W base args ds gs before hval0 hW _ hsz0 _
  have hsz : (DataW.weightsEach Try.prog (Try.f8.params.toList ++ Rows.fnExactValidReaderSpec.plain.varTypes Try.prog) (ds ++ gs)).all (· ≤ reachBytes) = true := hsz0
  clear hsz0
  have hval : ∀ (j : Nat) t v, Try.f8.params[j]? = some t → args[j]? = some v → Value.okWide Try.prog W .any base t v := hval0
  have hW' := hW
  obtain ⟨p, q, hA0, hV, rfl, hfz, hnd⟩ := hW
  have hA : DataW.TrodAll enc Try.prog W 0 (fun _ => true) true Try.f8.params.toList args.toList ds p := hA0
  have hK := fun W' hb => args_kept (W' := W') laidOut (by decide +kernel) hA hb
  rw [Try.params8] at hA hval hsz
  obtain ⟨v0, vs0, d0, ds0, p0, q0, hargs, rfl, rfl, h0, r0⟩ := trodAll_cons hA
  obtain ⟨rfl, rfl, rfl⟩ := trodAll_nil r0
  obtain rfl : args = #[v0] := by cases args; simp_all
  obtain ⟨rfl, rfl⟩ := trodVars_none hV
  obtain ⟨r, hr, hs⟩ := open_reader (hval 0 _ v0 rfl rfl) h0 (fit_arg hsz (j := 0) rfl rfl)
  clear hA0 hval0
  refine (walkValidReader v0 r W hr hs).mono fun e W' ⟨he, bel⟩ => ?_
  subst he
  exact ⟨_, rfl, _, _, _, [], _, [], hW', trodAll_mk1 (shut_bool Try.underlying4 _), hK W' bel, rfl, bel.frame _, fun h => by cases h⟩

theorem over : Rows.fnExactValidReaderRow.holds Try.pinned (OpenSpec.ofChange Rows.fnExactValidReaderSpec) :=
  OpenClaim.holds_of_wide 8 Try.f8 rfl rfl rfl rfl rfl rfl rfl ⟨rfl, rfl, rfl, rfl, rfl⟩ rfl rfl rfl rfl rfl (by kernel_rfl) Try.func8 (by kernel_rfl)
    (of_decide_eq_true (by kernel_rfl)) (by unfold Func.isWrapper; first | (rw [if_pos (by decide +kernel)]; kernel_rfl) | (rw [if_neg (by decide +kernel)]; exact ⟨rfl, rfl⟩))
    (fun os started H enc _ => lifted os started H enc)

theorem holds : Rows.FnExactValidReaderSaid := over
#print axioms holds
end Go.Proofs.Ytgeopkjohijegaa.validReader
