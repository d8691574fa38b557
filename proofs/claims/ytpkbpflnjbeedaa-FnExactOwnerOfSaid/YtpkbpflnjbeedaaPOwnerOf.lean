/-
  For every input that can be read as data, FnExactOwnerOf returns true, and its arguments read behind the call as before: the program's OwnerOf answers as its model.
-/
import Derived.Test.YtpkbpflnjbeedaaRows
import Derived.Test.YtpkbpflnjbeedaaOpen
import Derived.Test.YtpkbpflnjbeedaaRw4
import Derived.Test.YtpkbpflnjbeedaaKRw
import Derived.Test.YtpkbpflnjbeedaaGRw
namespace Go.Proofs.Ytpkbpflnjbeedaa.ownerOf
open Go.ChangeShapes Go.WideShapes Go.ChangeAt Go.RowKit Go.Joins Go.Deep
open Go.ChangeMaps (open_string shut_string)
set_option linter.unusedVariables false

set_option maxRecDepth 100000 in
set_option maxHeartbeats 6400000 in
theorem walk (v0 : Value) (r : RwData) (c : Int) (w : World) (h0 : RdRw w v0 r) (s0 : RwSmall r) (s1 : (Lit.int .i64 c).wf = true) :
    Calls Try.prog 4 #[v0, .int .i64 c] w fun e w' => e = .returned (.bool true) ∧ Below w.heap.size w w' := by
  have hs0 := h0.shape
  obtain ⟨A0, ka0, B0, kb0, rfl⟩ := hs0
  have HK0 := Lib.hid (fun W (hb : Below w.heap.size w W) => keepsRw _ _ _ _ h0 hb)
  have HS0 := Lib.hid s0
  clear h0 s0
  have HB := Lib.hid (show Below w.heap.size w (w.alloc (.cells #[.int .i64 r.L, .int .i64 r.S, .slice A0 r.mv.length ka0, .string r.wd, .slice B0 r.cuts.length kb0] 27)) from below_alloc w _)
  have HZ := Lib.hid (show w.heap.size + 1 ≤ (w.alloc (.cells #[.int .i64 r.L, .int .i64 r.S, .slice A0 r.mv.length ka0, .string r.wd, .slice B0 r.cuts.length kb0] 27)).heap.size by simp)
  have hx0 : Row (w.alloc (.cells #[.int .i64 r.L, .int .i64 r.S, .slice A0 r.mv.length ka0, .string r.wd, .slice B0 r.cuts.length kb0] 27)) (w.heap.size) 27 [.int .i64 r.L, .int .i64 r.S, .slice A0 r.mv.length ka0, .string r.wd, .slice B0 r.cuts.length kb0] := by
    have := (Row.new w [.int .i64 r.L, .int .i64 r.S, .slice A0 r.mv.length ka0, .string r.wd, .slice B0 r.cuts.length kb0] 27)
    simpa using this
  have HR := Lib.hid (show _ from hx0)
  clear hx0
  go_enter Try.func4, Try.ntmps4
  go_wp2_with fail
  refine (szRw_tot _ r _ _ (HK0.out _ HB.out) HS0.out (by omega) (by omega)).mono ?_
  generalize (w.alloc (.cells #[.int .i64 r.L, .int .i64 r.S, .slice A0 r.mv.length ka0, .string r.wd, .slice B0 r.cuts.length kb0] 27)) = W0 at *
  rintro e w1 ⟨⟨m0, rfl, hm0⟩, hb⟩
  have HM0 := Lib.hid hm0
  clear hm0
  have hx0 := (HR.out).below hb (HR.out).lt
  have HZ1 := Lib.hid hb.size
  have HB_1 := Lib.hid (below_step HB.out hb)
  clear HB
  clear HR
  have HR1 := Lib.hid (show _ from hx0)
  clear hb hx0
  obtain ⟨⟨q1_0_0, q1_0_1, q1_0_2, q1_0_3, q1_0_4⟩, -⟩ := (HR1.out).five
  have lt1_0 := (HR1.out).lt
  by_cases hm0 : m0 < 0
  · go_wp2_with fail
    go_ret
    exact ⟨rfl, HB_1.out⟩
  have hl0 : m0 ≤ 1048576 := by have := HM0.out; omega
  go_wp2_with fail
  have HCN0 := Lib.hid (show (cntRw r : Int) ≤ 1048576 from by have := HM0.out; omega)
  clear HM0 hm0 hl0
  refine (toRw_own _ r _ (HK0.out _ HB_1.out) HS0.out).mono ?_
  rintro e w2 ⟨u0, bu, rfl, hu, hb⟩
  have HU0 := Lib.hid (show RdRw _ _ _ from hu.rd)
  clear hu
  have hx0 := (HR1.out).below hb (HR1.out).lt
  have HZ2 := Lib.hid hb.size
  have HB_2 := Lib.hid (below_step HB_1.out hb)
  clear HB_1
  clear HR1
  have HR2 := Lib.hid (show _ from hx0)
  clear hb hx0
  clear q1_0_0 q1_0_1 q1_0_2 q1_0_3 q1_0_4 lt1_0
  obtain ⟨⟨q2_0_0, q2_0_1, q2_0_2, q2_0_3, q2_0_4⟩, -⟩ := (HR2.out).five
  have lt2_0 := (HR2.out).lt
  go_wp2_with fail
  refine (specOwnerOf_any _ r c _ HU0.out (rwMax HS0.out)).mono ?_
  rintro e w3 ⟨rfl, hb⟩
  clear HU0
  have hx0 := (HR2.out).below hb (HR2.out).lt
  have HZ3 := Lib.hid hb.size
  have HB_3 := Lib.hid (below_step HB_2.out hb)
  clear HB_2
  clear HR2
  have HR3 := Lib.hid (show _ from hx0)
  clear hb hx0
  clear q2_0_0 q2_0_1 q2_0_2 q2_0_3 q2_0_4 lt2_0
  obtain ⟨⟨q3_0_0, q3_0_1, q3_0_2, q3_0_3, q3_0_4⟩, -⟩ := (HR3.out).five
  have lt3_0 := (HR3.out).lt
  go_wp2_with fail
  refine (toRw_own _ r _ (HK0.out _ HB_3.out) HS0.out).mono ?_
  rintro e w4 ⟨x0, bx0, rfl, hx, hb⟩
  have hxr : RdRw _ _ _ := hx.rd
  have hsx := hxr.shape
  obtain ⟨Ax0, kax0, Bx0, kbx0, rfl⟩ := hsx
  have HX0 := Lib.hid hx
  have HXB0 := Lib.hid (fun (x : Nat) hm => goodRw.lt hx (b := x) hm)
  clear hx hxr
  have hx0 := (HR3.out).below hb (HR3.out).lt
  have HZ4 := Lib.hid hb.size
  have HB_4 := Lib.hid (below_step HB_3.out hb)
  clear HB_3
  clear HR3
  have HR4 := Lib.hid (show _ from hx0)
  clear hb hx0
  clear q3_0_0 q3_0_1 q3_0_2 q3_0_3 q3_0_4 lt3_0
  obtain ⟨⟨q4_0_0, q4_0_1, q4_0_2, q4_0_3, q4_0_4⟩, -⟩ := (HR4.out).five
  have lt4_0 := (HR4.out).lt
  have AX0 := Lib.hid (Below.refl w4.heap.size w4)
  go_wp2_with fail
  refine (implOwnerOf_any _ r c _ (keepsRw _ _ _ _ HX0.out.rd (below_step AX0.out (below_alloc _ _))) (rwMax HS0.out)).mono ?_
  rintro e w5 ⟨rfl, hb⟩
  have hst := below_step (below_alloc w4 (.cells #[.int .i64 r.L, .int .i64 r.S, .slice Ax0 r.mv.length kax0, .string r.wd, .slice Bx0 r.cuts.length kbx0] 34)) hb
  have hx0 := (HR4.out).below hst (HR4.out).lt
  have hx1 := (Row.new w4 [.int .i64 r.L, .int .i64 r.S, .slice Ax0 r.mv.length kax0, .string r.wd, .slice Bx0 r.cuts.length kbx0] 34).below hb (Row.new w4 [.int .i64 r.L, .int .i64 r.S, .slice Ax0 r.mv.length kax0, .string r.wd, .slice Bx0 r.cuts.length kbx0] 34).lt
  have HZ5 := Lib.hid (show w4.heap.size + 1 ≤ w5.heap.size by have := hb.size; simpa using this)
  have HB_5 := Lib.hid (below_step HB_4.out hst)
  clear HB_4
  have X0_5 := Lib.hid (below_step AX0.out hst)
  clear AX0
  clear HR4
  have HR5 := Lib.hid (show _ ∧ _ from ⟨hx0, hx1⟩)
  clear hb hx0 hx1 hst
  clear q4_0_0 q4_0_1 q4_0_2 q4_0_3 q4_0_4 lt4_0
  obtain ⟨⟨q5_0_0, q5_0_1, q5_0_2, q5_0_3, q5_0_4⟩, -⟩ := (HR5.out.1).five
  have lt5_0 := (HR5.out.1).lt
  obtain ⟨⟨q5_1_0, q5_1_1, q5_1_2, q5_1_3, q5_1_4⟩, -⟩ := (HR5.out.2).five
  have lt5_1 := (HR5.out.2).lt
  have hne0 : ((ownRes r c).1 != (ownRes r c).1) = false := by simp
  have hne1 : ((ownRes r c).2 != (ownRes r c).2) = false := by simp
  go_wp2_with fail
  go_region_held3 (fun W => W.cell? ⟨w.heap.size, 0, none⟩ = some (.int .i64 r.L) ∧ W.cell? ⟨w.heap.size, 1, none⟩ = some (.int .i64 r.S) ∧ W.cell? ⟨w.heap.size, 2, none⟩ = some (.slice A0 r.mv.length ka0) ∧ W.cell? ⟨w.heap.size, 3, none⟩ = some (.string r.wd) ∧ W.cell? ⟨w.heap.size, 4, none⟩ = some (.slice B0 r.cuts.length kb0) ∧ W.cell? ⟨w4.heap.size, 0, none⟩ = some (.int .i64 r.L) ∧ W.cell? ⟨w4.heap.size, 1, none⟩ = some (.int .i64 r.S) ∧ W.cell? ⟨w4.heap.size, 2, none⟩ = some (.slice Ax0 r.mv.length kax0) ∧ W.cell? ⟨w4.heap.size, 3, none⟩ = some (.string r.wd) ∧ W.cell? ⟨w4.heap.size, 4, none⟩ = some (.slice Bx0 r.cuts.length kbx0))
    (first | go_keep | (go_split_ands; refine ⟨?_, ?_, ?_, ?_, ?_, ?_, ?_, ?_, ?_, ?_⟩ <;> exact below_keep hbk (by assumption)))
    (first
      | (go_at_call 10; (with_reducible refine (toRw_own _ r _ (HK0.out _ ?_) HS0.out).mono ?_); (exact below_step HB_5.out (by first | exact Below.refl _ _ | exact below_drew _ | exact below_drewN' _ _)); rintro e wy0 ⟨y0, by0, rfl, hy, hbk⟩; have HCy := Lib.hid (show Below w5.heap.size w5 wy0 from below_step (by first | exact Below.refl _ _ | exact below_drew _ | exact below_drewN' _ _) hbk); have HY := Lib.hid hy.rd; clear hy)
      | (go_at_call 12; refine (eqRw_same _ _ r _ (keepsRw _ _ _ _ HX0.out.rd (below_step X0_5.out HCy.out)) HY.out).mono ?_; rintro e wz0 ⟨rfl, hbk⟩; have HCz := Lib.hid (below_step HCy.out hbk)))
  have hb := HCz.out
  clear HCz HCy HY hbk
  have hx0 := (HR5.out.1).below hb (HR5.out.1).lt
  have hx1 := (HR5.out.2).below hb (HR5.out.2).lt
  have HZ6 := Lib.hid hb.size
  have HB_6 := Lib.hid (below_step HB_5.out hb)
  clear HB_5
  have X0_6 := Lib.hid (below_step X0_5.out hb)
  clear X0_5
  clear HR5
  have HR6 := Lib.hid (show _ ∧ _ from ⟨hx0, hx1⟩)
  clear hb hx0 hx1
  clear q5_0_0 q5_0_1 q5_0_2 q5_0_3 q5_0_4 lt5_0 q5_1_0 q5_1_1 q5_1_2 q5_1_3 q5_1_4 lt5_1
  obtain ⟨⟨q6_0_0, q6_0_1, q6_0_2, q6_0_3, q6_0_4⟩, -⟩ := (HR6.out.1).five
  have lt6_0 := (HR6.out.1).lt
  obtain ⟨⟨q6_1_0, q6_1_1, q6_1_2, q6_1_3, q6_1_4⟩, -⟩ := (HR6.out.2).five
  have lt6_1 := (HR6.out.2).lt
  go_wp2
  go_ret
  exact ⟨rfl, HB_6.out⟩

theorem own : ownKnob Try.prog.godebug = none := by kernel_rfl
theorem laidOut : laidOutB Try.prog = true := by kernel_rfl

set_option maxRecDepth 100000 in
theorem lifted (os : Os) (started : os.Started) (H : Type) (enc : TypeId × Value → H) :
    ReturnsInHanded {} Try.checked os 4 .any (Rows.fnExactOwnerOfSpec.pre6 enc Try.prog Try.f4 Rows.fnExactOwnerOfRow.domain false) (Rows.fnExactOwnerOfSpec.post enc Try.prog Try.f4 false true false false) := by
  refine returnsInHanded_of_change_sized (C := Try.checked) own started (by kernel_rfl) Try.func4
    (ChangeSpec.witness6 (enc := enc) (C := Try.checked) false ⟨#[], #[.agg #[.int .i64 0, .int .i64 0, .slice none 0 0, .string (ByteArray.mk #[]), .slice none 0 0], .int .i64 0], []⟩ 8 (by kernel_rfl) (by kernel_rfl) (by kernel_rfl) (by kernel_rfl)) ?_
  intro W base args ds gs before hval0 hW _ hsz0 _
  have hsz : (DataW.weightsEach Try.prog (Try.f4.params.toList ++ Rows.fnExactOwnerOfSpec.plain.varTypes Try.prog) (ds ++ gs)).all (· ≤ reachBytes) = true := hsz0
  clear hsz0
  have hval : ∀ (j : Nat) t v, Try.f4.params[j]? = some t → args[j]? = some v → Value.okWide Try.prog W .any base t v := hval0
  have hW' := hW
  obtain ⟨p, q, hA0, hV, rfl, hfz, hnd⟩ := hW
  have hA : DataW.TrodAll enc Try.prog W 0 (fun _ => true) true Try.f4.params.toList args.toList ds p := hA0
  have hK := fun W' hb => args_kept (W' := W') laidOut (by decide +kernel) hA hb
  rw [Try.params4] at hA hval hsz
  obtain ⟨v0, vs0, d0, ds0, p0, q0, hargs, rfl, rfl, h0, r0⟩ := trodAll_cons hA
  obtain ⟨v1, vs1, d1, ds1, p1, q1, rfl, rfl, rfl, h1, r1⟩ := trodAll_cons r0
  obtain ⟨rfl, rfl, rfl⟩ := trodAll_nil r1
  obtain rfl : args = #[v0, v1] := by cases args; simp_all
  obtain ⟨rfl, rfl⟩ := trodVars_none hV
  obtain ⟨r, hr0, hs0⟩ := open_row (hval 0 _ v0 rfl rfl) h0 (fit_arg hsz (j := 0) rfl rfl)
  obtain ⟨c, rfl, rfl, rfl, hw1⟩ := open_int Try.underlying2 (hval 1 _ v1 rfl rfl) h1
  clear hA0 hval0
  refine (walk v0 r c W hr0 hs0 hw1).mono fun e W' ⟨he, bel⟩ => ?_
  subst he
  exact ⟨_, rfl, _, _, _, [], _, [], hW', trodAll_mk1 (shut_bool Try.underlying4 _), hK W' bel, rfl, bel.frame _, fun h => by cases h⟩

theorem over : Rows.fnExactOwnerOfRow.holds Try.pinned (OpenSpec.ofChange Rows.fnExactOwnerOfSpec) :=
  OpenClaim.holds_of_wide 4 Try.f4 rfl rfl rfl rfl rfl rfl rfl ⟨rfl, rfl, rfl, rfl, rfl⟩ rfl rfl rfl rfl rfl (by kernel_rfl) Try.func4 (by kernel_rfl)
    (of_decide_eq_true (by kernel_rfl)) (by unfold Func.isWrapper; first | (rw [if_pos (by decide +kernel)]; kernel_rfl) | (rw [if_neg (by decide +kernel)]; exact ⟨rfl, rfl⟩))
    (fun os started H enc _ => lifted os started H enc)

theorem holds : Rows.FnExactOwnerOfSaid := over
#print axioms holds
end Go.Proofs.Ytpkbpflnjbeedaa.ownerOf
