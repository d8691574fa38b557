/-
  For every input that can be read as data, FnExactCutWord returns true, and its arguments read behind the call as before: the program's CutWord answers as its model.
-/
import Derived.Test.YtdkalefepdlccaaRows
import Derived.Test.YtdkalefepdlccaaOpen
import Derived.Test.YtdkalefepdlccaaCw3
namespace Go.Proofs.Ytdkalefepdlccaa.cutWord
open Go.ChangeShapes Go.WideShapes Go.ChangeAt Go.RowKit Go.Joins
open Go.ChangeMaps (open_string shut_string)
set_option linter.unusedVariables false


set_option maxRecDepth 100000 in
set_option maxHeartbeats 1600000 in
theorem walk (v0 : Value) (r : TData) (t : ByteArray) (i : Int) (j : Int) (w : World) (h0 : RdT w v0 r) (s0 : TSmall r) (s1 : t.size ≤ 140737488351232) (s2 : (Lit.int .i64 i).wf = true) (s3 : (Lit.int .i64 j).wf = true) :
    Calls Try.prog 10 #[v0, .string t, .int .i64 i, .int .i64 j] w fun e w' => e = .returned (.bool true) ∧ Below w.heap.size w w' := by
  have hs0 := h0.shape
  obtain ⟨A0, c0, rfl⟩ := hs0
  have HK0 := Lib.hid (fun W (hb : Below w.heap.size w W) => keepsT _ _ _ _ h0 hb)
  have HS0 := Lib.hid s0
  clear h0 s0
  have HB := Lib.hid (show Below w.heap.size w (w.alloc (.cells #[.int .i64 r.L, .int .i64 r.S, .slice A0 r.mv.length c0] 24)) from below_alloc w _)
  have hx0 : Row (w.alloc (.cells #[.int .i64 r.L, .int .i64 r.S, .slice A0 r.mv.length c0] 24)) (w.heap.size) 24 [.int .i64 r.L, .int .i64 r.S, .slice A0 r.mv.length c0] := by
    have := (Row.new w [.int .i64 r.L, .int .i64 r.S, .slice A0 r.mv.length c0] 24)
    simpa using this
  have HR := Lib.hid (show _ from hx0)
  clear hx0
  by_cases hm1 : 1048576 < (t.size : Int)
  · go_enter Try.func10, Try.ntmps10
    go_wp2_with fail
    go_ret
    exact ⟨rfl, HB.out⟩
  go_enter Try.func10, Try.ntmps10
  go_wp2_with fail
  refine (szT_any _ r _ _ (HK0.out _ HB.out)).mono ?_
  rintro e w1 ⟨⟨m0, rfl⟩, hb⟩
  have HB1 := Lib.hid (below_step HB.out hb)
  have hx0 := (HR.out).below hb (HR.out).lt
  obtain ⟨⟨q1_0_0, q1_0_1, q1_0_2⟩, -⟩ := Row.three hx0
  have lt1_0 := hx0.lt
  have HR1 := Lib.hid (show _ from hx0)
  clear HR HB hx0 hb
  by_cases hm0 : m0 < 0
  · go_wp2_with fail
    go_ret
    exact ⟨rfl, HB1.out⟩
  · go_wp2_with fail
    refine (toT_own _ r _ (HK0.out _ HB1.out) HS0.out).mono ?_
    rintro e w2 ⟨u0, bu, rfl, hu, hb⟩
    have HB2 := Lib.hid (below_step HB1.out hb)
    have hx0 := (HR1.out).below hb (HR1.out).lt
    obtain ⟨⟨q2_0_0, q2_0_1, q2_0_2⟩, -⟩ := Row.three hx0
    have lt2_0 := hx0.lt
    have HR2 := Lib.hid (show _ from hx0)
    have HU0 := Lib.hid hu.rd
    clear hu HR1 HB1 hx0 hb q1_0_0 q1_0_1 q1_0_2 lt1_0
    go_wp2_with fail
    refine (specCut_any _ r t i j _ HU0.out (by unfold maxLen; omega) s2 s3).mono ?_
    rintro e w3 ⟨rfl, hb⟩
    have HB3 := Lib.hid (below_step HB2.out hb)
    have hx0 := (HR2.out).below hb (HR2.out).lt
    obtain ⟨⟨q3_0_0, q3_0_1, q3_0_2⟩, -⟩ := Row.three hx0
    have lt3_0 := hx0.lt
    have HR3 := Lib.hid (show _ from hx0)
    clear HR2 HB2 hx0 hb q2_0_0 q2_0_1 q2_0_2 lt2_0 HU0
    go_wp2_with fail
    refine (toT_own _ r _ (HK0.out _ HB3.out) HS0.out).mono ?_
    rintro e w4 ⟨x0, bx0, rfl, hx, hb⟩
    have HB4 := Lib.hid (below_step HB3.out hb)
    have hx0 := (HR3.out).below hb (HR3.out).lt
    obtain ⟨⟨q4_0_0, q4_0_1, q4_0_2⟩, -⟩ := Row.three hx0
    have lt4_0 := hx0.lt
    have HR4 := Lib.hid (show _ from hx0)
    have HX0 := Lib.hid hx.rd
    have hsx := hx.rd.shape
    obtain ⟨Ax0, cx0, rfl⟩ := hsx
    clear hx HR3 HB3 hx0 hb q3_0_0 q3_0_1 q3_0_2 lt3_0
    go_wp2_with fail
    refine (implCut_any _ r t i j _ (keepsT _ _ _ _ HX0.out (below_alloc _ _)) (by unfold maxLen; omega) s2 s3).mono ?_
    rintro e w5 ⟨rfl, hb⟩
    have hst := below_step (below_alloc w4 (.cells #[.int .i64 r.L, .int .i64 r.S, .slice Ax0 r.mv.length cx0] 31)) hb
    have HB5 := Lib.hid (below_step HB4.out hst)
    have hx0 := (HR4.out).below hst (HR4.out).lt
    have hx1 := (Row.new w4 [.int .i64 r.L, .int .i64 r.S, .slice Ax0 r.mv.length cx0] 31).below hb (Row.new w4 [.int .i64 r.L, .int .i64 r.S, .slice Ax0 r.mv.length cx0] 31).lt
    obtain ⟨⟨q5_0_0, q5_0_1, q5_0_2⟩, -⟩ := Row.three hx0
    have lt5_0 := hx0.lt
    obtain ⟨⟨q5_1_0, q5_1_1, q5_1_2⟩, -⟩ := Row.three hx1
    have lt5_1 := hx1.lt
    have HR5 := Lib.hid (show _ ∧ _ from ⟨hx0, hx1⟩)
    have HX0' := Lib.hid (keepsT _ _ _ _ HX0.out hst)
    clear HX0
    have HX0 := HX0'
    clear HX0'
    clear HR4 HB4 hx0 hx1 hb hst q4_0_0 q4_0_1 q4_0_2 lt4_0
    have hne1 : (!((pumpRes r t i j 0).1.toList == (pumpRes r t i j 0).1.toList)) = false := by simp
    have hne2 : ((pumpRes r t i j 0).2 != (pumpRes r t i j 0).2) = false := by simp
    go_wp2_with fail
    go_region_held3 (fun W => W.cell? ⟨w.heap.size, 0, none⟩ = some (.int .i64 r.L) ∧ W.cell? ⟨w.heap.size, 1, none⟩ = some (.int .i64 r.S) ∧ W.cell? ⟨w.heap.size, 2, none⟩ = some (.slice A0 r.mv.length c0) ∧ W.cell? ⟨w4.heap.size, 0, none⟩ = some (.int .i64 r.L) ∧ W.cell? ⟨w4.heap.size, 1, none⟩ = some (.int .i64 r.S) ∧ W.cell? ⟨w4.heap.size, 2, none⟩ = some (.slice Ax0 r.mv.length cx0))
      (first | go_keep | (go_split_ands; refine ⟨?_, ?_, ?_, ?_, ?_, ?_⟩ <;> exact below_keep hbk (by assumption)))
      (first
        | (go_at_call 17; (with_reducible refine (toT_own _ r _ (HK0.out _ ?_) HS0.out).mono ?_); (exact below_step HB5.out (by first | exact Below.refl _ _ | exact below_drew _ | exact below_drewN (Below.refl _ _) _ | exact (below_drewN (Below.refl _ _) _).drew)); rintro e wy0 ⟨y0, by0, rfl, hy, hbk⟩; have HCy := Lib.hid (show Below w5.heap.size w5 wy0 from below_step (by first | exact Below.refl _ _ | exact below_drew _ | exact below_drewN (Below.refl _ _) _ | exact (below_drewN (Below.refl _ _) _).drew) hbk); have HY := Lib.hid hy.rd; clear hy)
        | (go_at_call 20; refine (eqT_same _ _ r _ (keepsT _ _ _ _ HX0.out HCy.out) HY.out).mono ?_; rintro e wz0 ⟨rfl, hbk⟩; have HCz := Lib.hid (below_step HCy.out hbk)))
    have hb := HCz.out
    have HB6 := Lib.hid (below_step HB5.out hb)
    go_wp2
    go_ret
    exact ⟨rfl, HB6.out⟩

theorem own : ownKnob Try.prog.godebug = none := by kernel_rfl
theorem laidOut : laidOutB Try.prog = true := by kernel_rfl

set_option maxRecDepth 100000 in
theorem lifted (os : Os) (started : os.Started) (H : Type) (enc : TypeId × Value → H) :
    ReturnsInHanded {} Try.checked os 10 .any (Rows.fnExactCutWordSpec.pre6 enc Try.prog Try.f10 Rows.fnExactCutWordRow.domain false) (Rows.fnExactCutWordSpec.post enc Try.prog Try.f10 false true false false) := by
  refine returnsInHanded_of_change_sized (C := Try.checked) own started (by kernel_rfl) Try.func10
    (ChangeSpec.witness6 (enc := enc) (C := Try.checked) false ⟨#[], #[.agg #[.int .i64 0, .int .i64 0, .slice none 0 0], .string (ByteArray.mk #[]), .int .i64 0, .int .i64 0], []⟩ 8 (by kernel_rfl) (by kernel_rfl) (by kernel_rfl) (by kernel_rfl)) ?_
  intro W base args ds gs before hval0 hW _ hsz0 _
  have hsz : (DataW.weightsEach Try.prog (Try.f10.params.toList ++ Rows.fnExactCutWordSpec.plain.varTypes Try.prog) (ds ++ gs)).all (· ≤ reachBytes) = true := hsz0
  clear hsz0
  have hval : ∀ (j : Nat) t v, Try.f10.params[j]? = some t → args[j]? = some v → Value.okWide Try.prog W .any base t v := hval0
  have hW' := hW
  obtain ⟨p, q, hA0, hV, rfl, hfz, hnd⟩ := hW
  have hA : DataW.TrodAll enc Try.prog W 0 (fun _ => true) true Try.f10.params.toList args.toList ds p := hA0
  have hK := fun W' hb => args_kept (W' := W') laidOut (by decide +kernel) hA hb
  rw [Try.params10] at hA hval hsz
  obtain ⟨v0, vs0, d0, ds0, p0, q0, hargs, rfl, rfl, h0, r0⟩ := trodAll_cons hA
  obtain ⟨v1, vs1, d1, ds1, p1, q1, rfl, rfl, rfl, h1, r1⟩ := trodAll_cons r0
  obtain ⟨v2, vs2, d2, ds2, p2, q2, rfl, rfl, rfl, h2, r2⟩ := trodAll_cons r1
  obtain ⟨v3, vs3, d3, ds3, p3, q3, rfl, rfl, rfl, h3, r3⟩ := trodAll_cons r2
  obtain ⟨rfl, rfl, rfl⟩ := trodAll_nil r3
  obtain rfl : args = #[v0, v1, v2, v3] := by cases args; simp_all
  obtain ⟨rfl, rfl⟩ := trodVars_none hV
  obtain ⟨r, hr0, hs0⟩ := open_turner (hval 0 _ v0 rfl rfl) h0 (fit_arg hsz (j := 0) rfl rfl)
  have hf1 := fit_arg hsz (j := 1) rfl rfl
  obtain ⟨t, rfl, rfl, rfl, hl1⟩ := open_string Try.underlying9 (hval 1 _ v1 rfl rfl) h1
  obtain ⟨i, rfl, rfl, rfl, hw2⟩ := open_int Try.underlying2 (hval 2 _ v2 rfl rfl) h2
  obtain ⟨j, rfl, rfl, rfl, hw3⟩ := open_int Try.underlying2 (hval 3 _ v3 rfl rfl) h3
  clear hA0 hval0
  refine (walk v0 r t i j W hr0 hs0 (fit_string hf1) hw2 hw3).mono fun e W' ⟨he, bel⟩ => ?_
  subst he
  exact ⟨_, rfl, _, _, _, [], _, [], hW', trodAll_mk1 (shut_bool Try.underlying4 _), hK W' bel, rfl, bel.frame _, fun h => by cases h⟩

theorem over : Rows.fnExactCutWordRow.holds Try.pinned (OpenSpec.ofChange Rows.fnExactCutWordSpec) :=
  OpenClaim.holds_of_wide 10 Try.f10 rfl rfl rfl rfl rfl rfl rfl ⟨rfl, rfl, rfl, rfl, rfl⟩ rfl rfl rfl rfl rfl (by kernel_rfl) Try.func10 (by kernel_rfl)
    (of_decide_eq_true (by kernel_rfl)) (by unfold Func.isWrapper; first | (rw [if_pos (by decide +kernel)]; kernel_rfl) | (rw [if_neg (by decide +kernel)]; exact ⟨rfl, rfl⟩))
    (fun os started H enc _ => lifted os started H enc)

theorem holds : Rows.FnExactCutWordSaid := over
#print axioms holds
end Go.Proofs.Ytdkalefepdlccaa.cutWord
