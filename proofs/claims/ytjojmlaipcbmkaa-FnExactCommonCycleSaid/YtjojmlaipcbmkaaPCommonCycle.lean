/-
  For every input that can be read as data, FnExactCommonCycle returns true, and its arguments read behind the call as before: the program's CommonCycle answers as its model.
-/
import Derived.Test.YtjojmlaipcbmkaaRows
import Derived.Test.YtjojmlaipcbmkaaOpen
import Derived.Test.YtjojmlaipcbmkaaCc2
import Derived.Test.YtjojmlaipcbmkaaArg
namespace Go.Proofs.Ytjojmlaipcbmkaa.commonCycle
open Go.ChangeShapes Go.WideShapes Go.ChangeAt Go.RowKit Go.Joins Go.Deep
open Go.ChangeMaps (open_string shut_string)
set_option linter.unusedVariables false

set_option maxRecDepth 100000 in
set_option maxHeartbeats 6400000 in
theorem walk (v0 : Value) (xs : List Int) (w : World) (h0 : RdI w v0 xs) (s0 : ISmall xs) :
    Calls Try.prog 7 #[v0] w fun e w' => e = .returned (.bool true) ∧ Below w.heap.size w w' := by
  have hs0 := rdI_shape h0
  obtain ⟨A0, c0, rfl⟩ := hs0
  have HK0 := Lib.hid (fun W (hb : Below w.heap.size w W) => keepsI _ _ _ _ h0 hb)
  have HS0 := Lib.hid s0
  have hln0 : (xs.length : Int) ≤ 140737488355328 := by have := s0; unfold ISmall at this; omega
  clear h0 s0
  have HB := Lib.hid (show Below w.heap.size w w from Below.refl _ _)
  have HZ := Lib.hid (show w.heap.size + 0 ≤ w.heap.size by simp)
  have HR := Lib.hid True.intro
  by_cases hm0 : 1048576 < (xs.length : Int)
  · go_enter Try.func7, Try.ntmps7
    go_wp2_with fail
    go_ret
    exact ⟨rfl, HB.out⟩
  go_enter Try.func7, Try.ntmps7
  go_wp2_with fail
  refine (toI_arg _ xs _ (HK0.out _ HB.out) HS0.out).mono ?_
  rintro e w1 ⟨u0, bu, rfl, hu, hb⟩
  have HU0 := Lib.hid (show RdI _ _ _ from hu.1.rd)
  clear hu
  have HZ1 := Lib.hid hb.size
  have HB_1 := Lib.hid (below_step HB.out hb)
  clear HB
  clear HR
  have HR1 := Lib.hid True.intro
  clear hb 
  go_wp2_with fail
  refine (specCommonCycle_any _ xs _ HU0.out).mono ?_
  rintro e w2 ⟨rfl, hb⟩
  clear HU0
  have HZ2 := Lib.hid hb.size
  have HB_2 := Lib.hid (below_step HB_1.out hb)
  clear HB_1
  clear HR1
  have HR2 := Lib.hid True.intro
  clear hb 
  go_wp2_with fail
  refine (toI_arg _ xs _ (HK0.out _ HB_2.out) HS0.out).mono ?_
  rintro e w3 ⟨x0, bx0, rfl, hx, hb⟩
  have hxr : RdI _ _ _ := hx.1.rd
  have hsx := rdI_shape hxr
  obtain ⟨Bx0, kx0, rfl⟩ := hsx
  have HX0 := Lib.hid hx
  have HXB0 := Lib.hid (fun (x : Nat) hm => (goodV ints 2).lt hx (b := x) hm)
  clear hx hxr
  have HZ3 := Lib.hid hb.size
  have HB_3 := Lib.hid (below_step HB_2.out hb)
  clear HB_2
  clear HR2
  have HR3 := Lib.hid True.intro
  clear hb 
  have AX0 := Lib.hid (Below.refl w3.heap.size w3)
  go_wp2_with fail
  refine (implCommonCycle_any _ xs _ (keepsI _ _ _ _ HX0.out.1.rd AX0.out)).mono ?_
  rintro e w4 ⟨rfl, hb⟩
  have HZ4 := Lib.hid hb.size
  have HB_4 := Lib.hid (below_step HB_3.out hb)
  clear HB_3
  have X0_4 := Lib.hid (below_step AX0.out hb)
  clear AX0
  clear HR3
  have HR4 := Lib.hid True.intro
  clear hb 
  have hne0 : ((cycleRes xs).1 != (cycleRes xs).1) = false := by simp
  have hne1 : ((cycleRes xs).2 != (cycleRes xs).2) = false := by simp
  go_wp2_with fail
  refine (toI_arg _ xs _ (HK0.out _ HB_4.out) HS0.out).mono ?_
  rintro e w5 ⟨y0, by0, rfl, hy, hb⟩
  have HY := Lib.hid (show RdI _ _ _ from hy.1.rd)
  clear hy
  have HZ5 := Lib.hid hb.size
  have HB_5 := Lib.hid (below_step HB_4.out hb)
  clear HB_4
  have X0_5 := Lib.hid (below_step X0_4.out hb)
  clear X0_4
  clear HR4
  have HR5 := Lib.hid True.intro
  clear hb 
  go_wp2_with fail
  refine (eqI_arg _ _ xs _ (keepsI _ _ _ _ HX0.out.1.rd X0_5.out) HY.out).mono ?_
  rintro e w6 ⟨rfl, hb⟩
  clear HY
  have HZ6 := Lib.hid hb.size
  have HB_6 := Lib.hid (below_step HB_5.out hb)
  clear HB_5
  have X0_6 := Lib.hid (below_step X0_5.out hb)
  clear X0_5
  clear HR5
  have HR6 := Lib.hid True.intro
  clear hb 
  go_wp2
  go_ret
  exact ⟨rfl, HB_6.out⟩

theorem own : ownKnob Try.prog.godebug = none := by kernel_rfl
theorem laidOut : laidOutB Try.prog = true := by kernel_rfl

set_option maxRecDepth 100000 in
theorem lifted (os : Os) (started : os.Started) (H : Type) (enc : TypeId × Value → H) :
    ReturnsInHanded {} Try.checked os 7 .any (Rows.fnExactCommonCycleSpec.pre6 enc Try.prog Try.f7 Rows.fnExactCommonCycleRow.domain false) (Rows.fnExactCommonCycleSpec.post enc Try.prog Try.f7 false true false false) := by
  refine returnsInHanded_of_change_sized (C := Try.checked) own started (by kernel_rfl) Try.func7
    (ChangeSpec.witness6 (enc := enc) (C := Try.checked) false ⟨#[], #[.slice none 0 0], []⟩ 8 (by kernel_rfl) (by kernel_rfl) (by kernel_rfl) (by kernel_rfl)) ?_
  intro W base args ds gs before hval0 hW _ hsz0 _
  have hsz : (DataW.weightsEach Try.prog (Try.f7.params.toList ++ Rows.fnExactCommonCycleSpec.plain.varTypes Try.prog) (ds ++ gs)).all (· ≤ reachBytes) = true := hsz0
  clear hsz0
  have hval : ∀ (j : Nat) t v, Try.f7.params[j]? = some t → args[j]? = some v → Value.okWide Try.prog W .any base t v := hval0
  have hW' := hW
  obtain ⟨p, q, hA0, hV, rfl, hfz, hnd⟩ := hW
  have hA : DataW.TrodAll enc Try.prog W 0 (fun _ => true) true Try.f7.params.toList args.toList ds p := hA0
  have hK := fun W' hb => args_kept (W' := W') laidOut (by decide +kernel) hA hb
  rw [Try.params7] at hA hval hsz
  obtain ⟨v0, vs0, d0, ds0, p0, q0, hargs, rfl, rfl, h0, r0⟩ := trodAll_cons hA
  obtain ⟨rfl, rfl, rfl⟩ := trodAll_nil r0
  obtain rfl : args = #[v0] := by cases args; simp_all
  obtain ⟨rfl, rfl⟩ := trodVars_none hV
  obtain ⟨sa0, sl0, sc0, rfl⟩ := Go.WideShapes.okWide_slice Try.underlying47 (hval 0 _ v0 rfl rfl)
  obtain ⟨n0, hn0⟩ := h0
  obtain ⟨xs, hr0, hs0⟩ := (show Opens enc Try.prog W 0 true _ RdI ISmall from opens_mono (opens_ints Try.underlying47 Try.underlying2 (by kernel_rfl) (by kernel_rfl)) (fun _ _ h => h) (fun ys h => by unfold ISmall; unfold reachBytes at h; omega)) n0 (.slice sa0 sl0 sc0) (d0, p0) hn0 (fit_arg hsz (j := 0) rfl rfl)
  clear hA0 hval0
  refine (walk (.slice sa0 sl0 sc0) xs W hr0 hs0).mono fun e W' ⟨he, bel⟩ => ?_
  subst he
  exact ⟨_, rfl, _, _, _, [], _, [], hW', trodAll_mk1 (shut_bool Try.underlying4 _), hK W' bel, rfl, bel.frame _, fun h => by cases h⟩

theorem over : Rows.fnExactCommonCycleRow.holds Try.pinned (OpenSpec.ofChange Rows.fnExactCommonCycleSpec) :=
  OpenClaim.holds_of_wide 7 Try.f7 rfl rfl rfl rfl rfl rfl rfl ⟨rfl, rfl, rfl, rfl, rfl⟩ rfl rfl rfl rfl rfl (by kernel_rfl) Try.func7 (by kernel_rfl)
    (of_decide_eq_true (by kernel_rfl)) (by unfold Func.isWrapper; first | (rw [if_pos (by decide +kernel)]; kernel_rfl) | (rw [if_neg (by decide +kernel)]; exact ⟨rfl, rfl⟩))
    (fun os started H enc _ => lifted os started H enc)

theorem holds : Rows.FnExactCommonCycleSaid := over
#print axioms holds
end Go.Proofs.Ytjojmlaipcbmkaa.commonCycle
