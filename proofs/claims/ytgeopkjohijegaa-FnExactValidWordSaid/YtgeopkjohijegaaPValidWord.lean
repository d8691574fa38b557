/-
  For every input that can be read as data, FnExactValidWord returns true, and its arguments read behind the call as before: the program's ValidWord answers as its model.
-/
import Derived.Test.YtgeopkjohijegaaRows
import Derived.Test.YtgeopkjohijegaaOpen
import Derived.Test.YtgeopkjohijegaaW1
namespace Go.Proofs.Ytgeopkjohijegaa.validWord
open Go.ChangeShapes Go.WideShapes Go.ChangeAt Go.RowKit Go.Joins
open Go.ChangeMaps (open_string shut_string)
set_option linter.unusedVariables false


set_option maxRecDepth 100000 in
set_option maxHeartbeats 1600000 in
theorem walk (l : Int) (t : ByteArray) (w : World) (s0 : (Lit.int .i64 l).wf = true) (s1 : t.size ≤ 140737488351232) :
    Calls Try.prog 7 #[.int .i64 l, .string t] w fun e w' => e = .returned (.bool true) ∧ Below w.heap.size w w' := by
  have HB := Lib.hid (show Below w.heap.size w w from Below.refl _ _)
  have HR := Lib.hid (show True from trivial)
  by_cases hm1 : 1048576 < (t.size : Int)
  · go_enter Try.func7, Try.ntmps7
    go_wp2_with fail
    go_ret
    exact ⟨rfl, HB.out⟩
  go_enter Try.func7, Try.ntmps7
  go_wp2_with fail
  refine (ofSame (specValidWord_any l t _ (by unfold maxLen; omega))).mono ?_
  rintro e w1 ⟨rfl, hb⟩
  have HB1 := Lib.hid (below_step HB.out hb)
  have HR1 := Lib.hid (show True from trivial)
  clear HR HB hb
  go_wp2_with fail
  refine (ofSame (implValidWord_any l t _ (by unfold maxLen; omega))).mono ?_
  rintro e w2 ⟨rfl, hb⟩
  have HB2 := Lib.hid (below_step HB1.out hb)
  have HR2 := Lib.hid (show True from trivial)
  clear HR1 HB1 hb
  have hne : (!(okWord l t == okWord l t)) = false := by simp
  go_wp2_with fail
  go_wp2
  go_ret
  exact ⟨rfl, HB2.out⟩

theorem own : ownKnob Try.prog.godebug = none := by kernel_rfl
theorem laidOut : laidOutB Try.prog = true := by kernel_rfl

set_option maxRecDepth 100000 in
theorem lifted (os : Os) (started : os.Started) (H : Type) (enc : TypeId × Value → H) :
    ReturnsInHanded {} Try.checked os 7 .any (Rows.fnExactValidWordSpec.pre6 enc Try.prog Try.f7 Rows.fnExactValidWordRow.domain false) (Rows.fnExactValidWordSpec.post enc Try.prog Try.f7 false true false false) := by
  refine returnsInHanded_of_change_sized (C := Try.checked) own started (by kernel_rfl) Try.func7
    (ChangeSpec.witness6 (enc := enc) (C := Try.checked) false ⟨#[], #[.int .i64 0, .string (ByteArray.mk #[])], []⟩ 8 (by kernel_rfl) (by kernel_rfl) (by kernel_rfl) (by kernel_rfl)) ?_
  intro W base args ds gs before hval0 hW _ hsz0 _
  have hsz : (DataW.weightsEach Try.prog (Try.f7.params.toList ++ Rows.fnExactValidWordSpec.plain.varTypes Try.prog) (ds ++ gs)).all (· ≤ reachBytes) = true := hsz0
  clear hsz0
  have hval : ∀ (j : Nat) t v, Try.f7.params[j]? = some t → args[j]? = some v → Value.okWide Try.prog W .any base t v := hval0
  have hW' := hW
  obtain ⟨p, q, hA0, hV, rfl, hfz, hnd⟩ := hW
  have hA : DataW.TrodAll enc Try.prog W 0 (fun _ => true) true Try.f7.params.toList args.toList ds p := hA0
  have hK := fun W' hb => args_kept (W' := W') laidOut (by decide +kernel) hA hb
  rw [Try.params7] at hA hval hsz
  obtain ⟨v0, vs0, d0, ds0, p0, q0, hargs, rfl, rfl, h0, r0⟩ := trodAll_cons hA
  obtain ⟨v1, vs1, d1, ds1, p1, q1, rfl, rfl, rfl, h1, r1⟩ := trodAll_cons r0
  obtain ⟨rfl, rfl, rfl⟩ := trodAll_nil r1
  obtain rfl : args = #[v0, v1] := by cases args; simp_all
  obtain ⟨rfl, rfl⟩ := trodVars_none hV
  obtain ⟨l, rfl, rfl, rfl, hw0⟩ := open_int Try.underlying2 (hval 0 _ v0 rfl rfl) h0
  have hf1 := fit_arg hsz (j := 1) rfl rfl
  obtain ⟨t, rfl, rfl, rfl, hl1⟩ := open_string Try.underlying9 (hval 1 _ v1 rfl rfl) h1
  clear hA0 hval0
  refine (walk l t W hw0 (fit_string hf1)).mono fun e W' ⟨he, bel⟩ => ?_
  subst he
  exact ⟨_, rfl, _, _, _, [], _, [], hW', trodAll_mk1 (shut_bool Try.underlying4 _), hK W' bel, rfl, bel.frame _, fun h => by cases h⟩

theorem over : Rows.fnExactValidWordRow.holds Try.pinned (OpenSpec.ofChange Rows.fnExactValidWordSpec) :=
  OpenClaim.holds_of_wide 7 Try.f7 rfl rfl rfl rfl rfl rfl rfl ⟨rfl, rfl, rfl, rfl, rfl⟩ rfl rfl rfl rfl rfl (by kernel_rfl) Try.func7 (by kernel_rfl)
    (of_decide_eq_true (by kernel_rfl)) (by unfold Func.isWrapper; first | (rw [if_pos (by decide +kernel)]; kernel_rfl) | (rw [if_neg (by decide +kernel)]; exact ⟨rfl, rfl⟩))
    (fun os started H enc _ => lifted os started H enc)

theorem holds : Rows.FnExactValidWordSaid := over
#print axioms holds
end Go.Proofs.Ytgeopkjohijegaa.validWord
