/-
  For every input that can be read as data, FnExactTokenAfter returns true, and its arguments read behind the call as before: the program's TokenAfter answers as its model.
-/
import Derived.Test.YtpkbpflnjbeedaaRows
import Derived.Test.YtpkbpflnjbeedaaOpen
import Derived.Test.YtpkbpflnjbeedaaRw9
import Derived.Test.YtpkbpflnjbeedaaKRw
import Derived.Test.YtpkbpflnjbeedaaGRw
namespace Go.Proofs.Ytpkbpflnjbeedaa.tokenAfter
open Go.ChangeShapes Go.WideShapes Go.ChangeAt Go.RowKit Go.Joins Go.Deep
open Go.ChangeMaps (open_string shut_string)
set_option linter.unusedVariables false

set_option maxRecDepth 100000 in
set_option maxHeartbeats 6400000 in
theorem walk (v0 : Value) (r : RwData) (n : Int) (w : World) (h0 : RdRw w v0 r) (s0 : RwSmall r) (s1 : (Lit.int .i64 n).wf = true) :
    Calls Try.prog 5 #[v0, .int .i64 n] w fun e w' => e = .returned (.bool true) ∧ Below w.heap.size w w' := by
  have hs0 := h0.shape
  obtain ⟨A0, ka0, B0, kb0, rfl⟩ := hs0
  have HK0 := Lib.hid (fun W (hb : Below w.heap.size w W) => keepsRw _ _ _ _ h0 hb)
  have HS0 := Lib.hid s0
  clear h0 s0
  have HB := Lib.hid (show Below w.heap.size w (w.alloc (.cells #[.int .i64 r.L, .int .i64 r.S, .slice A0 r.mv.length ka0, .string r.wd, .slice B0 r.cuts.length kb0] 27)) from below_alloc w _)
  have HZ := Lib.hid (show w.heap.size + 1 ≤ (w.alloc (.cells #[.int .i64 r.L, .int .i64 r.S, .slice A0 r.mv.length ka0, .string r.wd, .slice B0 r.cuts.length kb0] 27)).heap.size by simp)
  have hx0 : Row (w.alloc (.cells #[.int .i64 r.L, .int .i64 r.S, .slice A0 r.mv.length ka0, .string r.wd, .slice B0 r.cuts.length kb0] 27)) (w.heap.size) 27 [.int .i64 r.L, .int .i64 r.S, .slice A0 r.mv.length ka0, .string r.wd, .slice B0 r.cuts.length kb0] := by
    have := (Row.new w [.int .i64 r.L, .int .i64 r.S, .slice A0 r.mv.length ka0, .string r.wd, .slice B0 r.cuts.length kb0] 27)
    simpa using this
  have HR := Lib.hid (show _ from hx0)
  clear hx0
  go_enter Try.func5, Try.ntmps5
  go_wp2_with fail
  refine (szRw_tot _ r _ _ (HK0.out _ HB.out) HS0.out (by omega) (by omega)).mono ?_
  generalize (w.alloc (.cells #[.int .i64 r.L, .int .i64 r.S, .slice A0 r.mv.length ka0, .string r.wd, .slice B0 r.cuts.length kb0] 27)) = W0 at *
  rintro e w1 ⟨⟨m0, rfl, hm0⟩, hb⟩
  have HM0 := Lib.hid hm0
  clear hm0
  have hx0 := (HR.out).below hb (HR.out).lt
  have HZ1 := Lib.hid hb.size
  have HB_1 := Lib.hid (below_step HB.out hb)
  clear HB
  clear HR
  have HR1 := Lib.hid (show _ from hx0)
  clear hb hx0
  obtain ⟨⟨q1_0_0, q1_0_1, q1_0_2, q1_0_3, q1_0_4⟩, -⟩ := (HR1.out).five
  have lt1_0 := (HR1.out).lt
  by_cases hm0 : m0 < 0
  · go_wp2_with fail
    go_ret
    exact ⟨rfl, HB_1.out⟩
  have hl0 : m0 ≤ 1048576 := by have := HM0.out; omega
  go_wp2_with fail
  have HCN0 := Lib.hid (show (cntRw r : Int) ≤ 1048576 from by have := HM0.out; omega)
  clear HM0 hm0 hl0
  refine (toRw_own _ r _ (HK0.out _ HB_1.out) HS0.out).mono ?_
  rintro e w2 ⟨u0, bu, rfl, hu, hb⟩
  have HU0 := Lib.hid (show RdRw _ _ _ from hu.rd)
  clear hu
  have hx0 := (HR1.out).below hb (HR1.out).lt
  have HZ2 := Lib.hid hb.size
  have HB_2 := Lib.hid (below_step HB_1.out hb)
  clear HB_1
  clear HR1
  have HR2 := Lib.hid (show _ from hx0)
  clear hb hx0
  clear q1_0_0 q1_0_1 q1_0_2 q1_0_3 q1_0_4 lt1_0
  obtain ⟨⟨q2_0_0, q2_0_1, q2_0_2, q2_0_3, q2_0_4⟩, -⟩ := (HR2.out).five
  have lt2_0 := (HR2.out).lt
  go_wp2_with fail
  refine (specTokenAfter_any _ r n _ HU0.out (rwMax HS0.out) (wfMax s1)).mono ?_
  rintro e w3 ⟨rfl, hb⟩
  clear HU0
  have hx0 := (HR2.out).below hb (HR2.out).lt
  have HZ3 := Lib.hid hb.size
  have HB_3 := Lib.hid (below_step HB_2.out hb)
  clear HB_2
  clear HR2
  have HR3 := Lib.hid (show _ from hx0)
  clear hb hx0
  clear q2_0_0 q2_0_1 q2_0_2 q2_0_3 q2_0_4 lt2_0
  obtain ⟨⟨q3_0_0, q3_0_1, q3_0_2, q3_0_3, q3_0_4⟩, -⟩ := (HR3.out).five
  have lt3_0 := (HR3.out).lt
  go_wp2_with fail
  refine (toRw_own _ r _ (HK0.out _ (HB_3.out.alloc HB_3.out.size _)) HS0.out).mono ?_
  rintro e w4 ⟨x0, bx0, rfl, hx, hb⟩
  have hxr : RdRw _ _ _ := hx.rd
  have hsx := hxr.shape
  obtain ⟨Ax0, kax0, Bx0, kbx0, rfl⟩ := hsx
  have HX0 := Lib.hid hx
  have HXB0 := Lib.hid (fun (x : Nat) hm => goodRw.lt hx (b := x) hm)
  clear hx hxr
  have hst := below_step (below_alloc w3 (.cells #[.int .i64 ((((tokRes r n).1).k : Nat) : Int), .int .i64 ((((tokRes r n).1).q : Nat) : Int), .int .i64 ((((tokRes r n).1).a : Nat) : Int), .int .i64 ((tokRes r n).1).v] 42)) hb
  have hx0 := (HR3.out).below hst (HR3.out).lt
  have hx1 := (Row.new w3 [.int .i64 ((((tokRes r n).1).k : Nat) : Int), .int .i64 ((((tokRes r n).1).q : Nat) : Int), .int .i64 ((((tokRes r n).1).a : Nat) : Int), .int .i64 ((tokRes r n).1).v] 42).below hb (Row.new w3 [.int .i64 ((((tokRes r n).1).k : Nat) : Int), .int .i64 ((((tokRes r n).1).q : Nat) : Int), .int .i64 ((((tokRes r n).1).a : Nat) : Int), .int .i64 ((tokRes r n).1).v] 42).lt
  have HZ4 := Lib.hid (show w3.heap.size + 1 ≤ w4.heap.size by have := hb.size; simpa using this)
  have HB_4 := Lib.hid (below_step HB_3.out hst)
  clear HB_3
  clear HR3
  have HR4 := Lib.hid (show _ ∧ _ from ⟨hx0, hx1⟩)
  clear hb hx0 hx1 hst
  clear q3_0_0 q3_0_1 q3_0_2 q3_0_3 q3_0_4 lt3_0
  obtain ⟨⟨q4_0_0, q4_0_1, q4_0_2, q4_0_3, q4_0_4⟩, -⟩ := (HR4.out.1).five
  have lt4_0 := (HR4.out.1).lt
  obtain ⟨⟨q4_1_0, q4_1_1, q4_1_2, q4_1_3⟩, -⟩ := (HR4.out.2).four
  have lt4_1 := (HR4.out.2).lt
  have AX0 := Lib.hid (Below.refl w4.heap.size w4)
  go_wp2_with fail
  refine (implTokenAfter_any _ r n _ (keepsRw _ _ _ _ HX0.out.rd (below_step AX0.out (below_alloc _ _))) (rwMax HS0.out) (wfMax s1)).mono ?_
  rintro e w5 ⟨rfl, hb⟩
  have hst := below_step (below_alloc w4 (.cells #[.int .i64 r.L, .int .i64 r.S, .slice Ax0 r.mv.length kax0, .string r.wd, .slice Bx0 r.cuts.length kbx0] 34)) hb
  have hx0 := (HR4.out.1).below hst (HR4.out.1).lt
  have hx1 := (HR4.out.2).below hst (HR4.out.2).lt
  have hx2 := (Row.new w4 [.int .i64 r.L, .int .i64 r.S, .slice Ax0 r.mv.length kax0, .string r.wd, .slice Bx0 r.cuts.length kbx0] 34).below hb (Row.new w4 [.int .i64 r.L, .int .i64 r.S, .slice Ax0 r.mv.length kax0, .string r.wd, .slice Bx0 r.cuts.length kbx0] 34).lt
  have HZ5 := Lib.hid (show w4.heap.size + 1 ≤ w5.heap.size by have := hb.size; simpa using this)
  have HB_5 := Lib.hid (below_step HB_4.out hst)
  clear HB_4
  have X0_5 := Lib.hid (below_step AX0.out hst)
  clear AX0
  clear HR4
  have HR5 := Lib.hid (show _ ∧ _ ∧ _ from ⟨hx0, hx1, hx2⟩)
  clear hb hx0 hx1 hx2 hst
  clear q4_0_0 q4_0_1 q4_0_2 q4_0_3 q4_0_4 lt4_0 q4_1_0 q4_1_1 q4_1_2 q4_1_3 lt4_1
  obtain ⟨⟨q5_0_0, q5_0_1, q5_0_2, q5_0_3, q5_0_4⟩, -⟩ := (HR5.out.1).five
  have lt5_0 := (HR5.out.1).lt
  obtain ⟨⟨q5_1_0, q5_1_1, q5_1_2, q5_1_3⟩, -⟩ := (HR5.out.2.1).four
  have lt5_1 := (HR5.out.2.1).lt
  obtain ⟨⟨q5_2_0, q5_2_1, q5_2_2, q5_2_3, q5_2_4⟩, -⟩ := (HR5.out.2.2).five
  have lt5_2 := (HR5.out.2.2).lt
  have hne1 : ((tokRes r n).2 != (tokRes r n).2) = false := by simp
  go_wp2_with fail
  refine (eqTok_same ((tokRes r n).1) _).mono ?_
  rintro e w6 ⟨rfl, hb⟩
  have hst := below_step (below_alloc w5 (.cells #[.int .i64 ((((tokRes r n).1).k : Nat) : Int), .int .i64 ((((tokRes r n).1).q : Nat) : Int), .int .i64 ((((tokRes r n).1).a : Nat) : Int), .int .i64 ((tokRes r n).1).v] 42)) hb
  have hx0 := (HR5.out.1).below hst (HR5.out.1).lt
  have hx1 := (HR5.out.2.1).below hst (HR5.out.2.1).lt
  have hx2 := (HR5.out.2.2).below hst (HR5.out.2.2).lt
  have hx3 := (Row.new w5 [.int .i64 ((((tokRes r n).1).k : Nat) : Int), .int .i64 ((((tokRes r n).1).q : Nat) : Int), .int .i64 ((((tokRes r n).1).a : Nat) : Int), .int .i64 ((tokRes r n).1).v] 42).below hb (Row.new w5 [.int .i64 ((((tokRes r n).1).k : Nat) : Int), .int .i64 ((((tokRes r n).1).q : Nat) : Int), .int .i64 ((((tokRes r n).1).a : Nat) : Int), .int .i64 ((tokRes r n).1).v] 42).lt
  have HZ6 := Lib.hid (show w5.heap.size + 1 ≤ w6.heap.size by have := hb.size; simpa using this)
  have HB_6 := Lib.hid (below_step HB_5.out hst)
  clear HB_5
  have X0_6 := Lib.hid (below_step X0_5.out hst)
  clear X0_5
  clear HR5
  have HR6 := Lib.hid (show _ ∧ _ ∧ _ ∧ _ from ⟨hx0, hx1, hx2, hx3⟩)
  clear hb hx0 hx1 hx2 hx3 hst
  clear q5_0_0 q5_0_1 q5_0_2 q5_0_3 q5_0_4 lt5_0 q5_1_0 q5_1_1 q5_1_2 q5_1_3 lt5_1 q5_2_0 q5_2_1 q5_2_2 q5_2_3 q5_2_4 lt5_2
  obtain ⟨⟨q6_0_0, q6_0_1, q6_0_2, q6_0_3, q6_0_4⟩, -⟩ := (HR6.out.1).five
  have lt6_0 := (HR6.out.1).lt
  obtain ⟨⟨q6_1_0, q6_1_1, q6_1_2, q6_1_3⟩, -⟩ := (HR6.out.2.1).four
  have lt6_1 := (HR6.out.2.1).lt
  obtain ⟨⟨q6_2_0, q6_2_1, q6_2_2, q6_2_3, q6_2_4⟩, -⟩ := (HR6.out.2.2.1).five
  have lt6_2 := (HR6.out.2.2.1).lt
  obtain ⟨⟨q6_3_0, q6_3_1, q6_3_2, q6_3_3⟩, -⟩ := (HR6.out.2.2.2).four
  have lt6_3 := (HR6.out.2.2.2).lt
  go_wp2_with fail
  go_region_held3 (fun W => W.cell? ⟨w.heap.size, 0, none⟩ = some (.int .i64 r.L) ∧ W.cell? ⟨w.heap.size, 1, none⟩ = some (.int .i64 r.S) ∧ W.cell? ⟨w.heap.size, 2, none⟩ = some (.slice A0 r.mv.length ka0) ∧ W.cell? ⟨w.heap.size, 3, none⟩ = some (.string r.wd) ∧ W.cell? ⟨w.heap.size, 4, none⟩ = some (.slice B0 r.cuts.length kb0) ∧ W.cell? ⟨w3.heap.size, 0, none⟩ = some (.int .i64 ((((tokRes r n).1).k : Nat) : Int)) ∧ W.cell? ⟨w3.heap.size, 1, none⟩ = some (.int .i64 ((((tokRes r n).1).q : Nat) : Int)) ∧ W.cell? ⟨w3.heap.size, 2, none⟩ = some (.int .i64 ((((tokRes r n).1).a : Nat) : Int)) ∧ W.cell? ⟨w3.heap.size, 3, none⟩ = some (.int .i64 ((tokRes r n).1).v) ∧ W.cell? ⟨w4.heap.size, 0, none⟩ = some (.int .i64 r.L) ∧ W.cell? ⟨w4.heap.size, 1, none⟩ = some (.int .i64 r.S) ∧ W.cell? ⟨w4.heap.size, 2, none⟩ = some (.slice Ax0 r.mv.length kax0) ∧ W.cell? ⟨w4.heap.size, 3, none⟩ = some (.string r.wd) ∧ W.cell? ⟨w4.heap.size, 4, none⟩ = some (.slice Bx0 r.cuts.length kbx0) ∧ W.cell? ⟨w5.heap.size, 0, none⟩ = some (.int .i64 ((((tokRes r n).1).k : Nat) : Int)) ∧ W.cell? ⟨w5.heap.size, 1, none⟩ = some (.int .i64 ((((tokRes r n).1).q : Nat) : Int)) ∧ W.cell? ⟨w5.heap.size, 2, none⟩ = some (.int .i64 ((((tokRes r n).1).a : Nat) : Int)) ∧ W.cell? ⟨w5.heap.size, 3, none⟩ = some (.int .i64 ((tokRes r n).1).v))
    (first | go_keep | (go_split_ands; refine ⟨?_, ?_, ?_, ?_, ?_, ?_, ?_, ?_, ?_, ?_, ?_, ?_, ?_, ?_, ?_, ?_, ?_, ?_⟩ <;> exact below_keep hbk (by assumption)))
    (first
      | (go_at_call 10; (with_reducible refine (toRw_own _ r _ (HK0.out _ ?_) HS0.out).mono ?_); (exact below_step HB_6.out (by first | exact Below.refl _ _ | exact below_drew _ | exact below_drewN' _ _)); rintro e wy0 ⟨y0, by0, rfl, hy, hbk⟩; have HCy := Lib.hid (show Below w6.heap.size w6 wy0 from below_step (by first | exact Below.refl _ _ | exact below_drew _ | exact below_drewN' _ _) hbk); have HY := Lib.hid hy.rd; clear hy)
      | (go_at_call 12; refine (eqRw_same _ _ r _ (keepsRw _ _ _ _ HX0.out.rd (below_step X0_6.out HCy.out)) HY.out).mono ?_; rintro e wz0 ⟨rfl, hbk⟩; have HCz := Lib.hid (below_step HCy.out hbk)))
  have hb := HCz.out
  clear HCz HCy HY hbk
  have hx0 := (HR6.out.1).below hb (HR6.out.1).lt
  have hx1 := (HR6.out.2.1).below hb (HR6.out.2.1).lt
  have hx2 := (HR6.out.2.2.1).below hb (HR6.out.2.2.1).lt
  have hx3 := (HR6.out.2.2.2).below hb (HR6.out.2.2.2).lt
  have HZ7 := Lib.hid hb.size
  have HB_7 := Lib.hid (below_step HB_6.out hb)
  clear HB_6
  have X0_7 := Lib.hid (below_step X0_6.out hb)
  clear X0_6
  clear HR6
  have HR7 := Lib.hid (show _ ∧ _ ∧ _ ∧ _ from ⟨hx0, hx1, hx2, hx3⟩)
  clear hb hx0 hx1 hx2 hx3
  clear q6_0_0 q6_0_1 q6_0_2 q6_0_3 q6_0_4 lt6_0 q6_1_0 q6_1_1 q6_1_2 q6_1_3 lt6_1 q6_2_0 q6_2_1 q6_2_2 q6_2_3 q6_2_4 lt6_2 q6_3_0 q6_3_1 q6_3_2 q6_3_3 lt6_3
  obtain ⟨⟨q7_0_0, q7_0_1, q7_0_2, q7_0_3, q7_0_4⟩, -⟩ := (HR7.out.1).five
  have lt7_0 := (HR7.out.1).lt
  obtain ⟨⟨q7_1_0, q7_1_1, q7_1_2, q7_1_3⟩, -⟩ := (HR7.out.2.1).four
  have lt7_1 := (HR7.out.2.1).lt
  obtain ⟨⟨q7_2_0, q7_2_1, q7_2_2, q7_2_3, q7_2_4⟩, -⟩ := (HR7.out.2.2.1).five
  have lt7_2 := (HR7.out.2.2.1).lt
  obtain ⟨⟨q7_3_0, q7_3_1, q7_3_2, q7_3_3⟩, -⟩ := (HR7.out.2.2.2).four
  have lt7_3 := (HR7.out.2.2.2).lt
  go_wp2
  go_ret
  exact ⟨rfl, HB_7.out⟩

theorem own : ownKnob Try.prog.godebug = none := by kernel_rfl
theorem laidOut : laidOutB Try.prog = true := by kernel_rfl

set_option maxRecDepth 100000 in
theorem lifted (os : Os) (started : os.Started) (H : Type) (enc : TypeId × Value → H) :
    ReturnsInHanded {} Try.checked os 5 .any (Rows.fnExactTokenAfterSpec.pre6 enc Try.prog Try.f5 Rows.fnExactTokenAfterRow.domain false) (Rows.fnExactTokenAfterSpec.post enc Try.prog Try.f5 false true false false) := by
  refine returnsInHanded_of_change_sized (C := Try.checked) own started (by kernel_rfl) Try.func5
    (ChangeSpec.witness6 (enc := enc) (C := Try.checked) false ⟨#[], #[.agg #[.int .i64 0, .int .i64 0, .slice none 0 0, .string (ByteArray.mk #[]), .slice none 0 0], .int .i64 0], []⟩ 8 (by kernel_rfl) (by kernel_rfl) (by kernel_rfl) (by kernel_rfl)) ?_
  intro W base args ds gs before hval0 hW _ hsz0 _
  have hsz : (DataW.weightsEach Try.prog (Try.f5.params.toList ++ Rows.fnExactTokenAfterSpec.plain.varTypes Try.prog) (ds ++ gs)).all (· ≤ reachBytes) = true := hsz0
  clear hsz0
  have hval : ∀ (j : Nat) t v, Try.f5.params[j]? = some t → args[j]? = some v → Value.okWide Try.prog W .any base t v := hval0
  have hW' := hW
  obtain ⟨p, q, hA0, hV, rfl, hfz, hnd⟩ := hW
  have hA : DataW.TrodAll enc Try.prog W 0 (fun _ => true) true Try.f5.params.toList args.toList ds p := hA0
  have hK := fun W' hb => args_kept (W' := W') laidOut (by decide +kernel) hA hb
  rw [Try.params5] at hA hval hsz
  obtain ⟨v0, vs0, d0, ds0, p0, q0, hargs, rfl, rfl, h0, r0⟩ := trodAll_cons hA
  obtain ⟨v1, vs1, d1, ds1, p1, q1, rfl, rfl, rfl, h1, r1⟩ := trodAll_cons r0
  obtain ⟨rfl, rfl, rfl⟩ := trodAll_nil r1
  obtain rfl : args = #[v0, v1] := by cases args; simp_all
  obtain ⟨rfl, rfl⟩ := trodVars_none hV
  obtain ⟨r, hr0, hs0⟩ := open_row (hval 0 _ v0 rfl rfl) h0 (fit_arg hsz (j := 0) rfl rfl)
  obtain ⟨n, rfl, rfl, rfl, hw1⟩ := open_int Try.underlying2 (hval 1 _ v1 rfl rfl) h1
  clear hA0 hval0
  refine (walk v0 r n W hr0 hs0 hw1).mono fun e W' ⟨he, bel⟩ => ?_
  subst he
  exact ⟨_, rfl, _, _, _, [], _, [], hW', trodAll_mk1 (shut_bool Try.underlying4 _), hK W' bel, rfl, bel.frame _, fun h => by cases h⟩

theorem over : Rows.fnExactTokenAfterRow.holds Try.pinned (OpenSpec.ofChange Rows.fnExactTokenAfterSpec) :=
  OpenClaim.holds_of_wide 5 Try.f5 rfl rfl rfl rfl rfl rfl rfl ⟨rfl, rfl, rfl, rfl, rfl⟩ rfl rfl rfl rfl rfl (by kernel_rfl) Try.func5 (by kernel_rfl)
    (of_decide_eq_true (by kernel_rfl)) (by unfold Func.isWrapper; first | (rw [if_pos (by decide +kernel)]; kernel_rfl) | (rw [if_neg (by decide +kernel)]; exact ⟨rfl, rfl⟩))
    (fun os started H enc _ => lifted os started H enc)

theorem holds : Rows.FnExactTokenAfterSaid := over
#print axioms holds
end Go.Proofs.Ytpkbpflnjbeedaa.tokenAfter
