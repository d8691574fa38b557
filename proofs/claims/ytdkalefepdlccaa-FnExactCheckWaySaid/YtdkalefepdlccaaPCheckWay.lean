/-
  For every input that can be read as data, FnExactCheckWay returns true, and its arguments read behind the call as before: the program's CheckWay answers as its model.
-/
import Derived.Test.YtdkalefepdlccaaRows
import Derived.Test.YtdkalefepdlccaaOpen
import Derived.Test.YtdkalefepdlccaaCy4
import Derived.Test.YtdkalefepdlccaaZW
import Derived.Test.YtdkalefepdlccaaWo
import Derived.Test.YtdkalefepdlccaaArgP
namespace Go.Proofs.Ytdkalefepdlccaa.checkWay
open Go.ChangeShapes Go.WideShapes Go.ChangeAt Go.RowKit Go.Joins Go.Deep
open Go.ChangeMaps (open_string shut_string)
set_option linter.unusedVariables false

set_option maxRecDepth 100000 in
set_option maxHeartbeats 6400000 in
theorem walk (v0 : Value) (r : WData) (s : ByteArray) (v2 : Value) (l : List (Int × Int)) (w : World) (h0 : RdW w v0 r) (s0 : WSmall r) (s1 : s.size ≤ 140737488351232) (h2 : RdP w v2 l) (s2 : PSmall l) :
    Calls Try.prog 14 #[v0, .string s, v2] w fun e w' => e = .returned (.bool true) ∧ Below w.heap.size w w' := by
  have hs0 := h0.shape
  obtain ⟨A0, ka0, B0, kb0, rfl⟩ := hs0
  have HK0 := Lib.hid (fun W (hb : Below w.heap.size w W) => keepsW _ _ _ _ h0 hb)
  have HS0 := Lib.hid s0
  clear h0 s0
  have hs2 := RdP.shape h2
  obtain ⟨A2, c2, rfl⟩ := hs2
  have HK2 := Lib.hid (fun W (hb : Below w.heap.size w W) => keepsP _ _ _ _ h2 hb)
  have HS2 := Lib.hid s2
  have hln2 : (l.length : Int) ≤ 281474976710656 := by have := s2; unfold PSmall at this; omega
  clear h2 s2
  have HB := Lib.hid (show Below w.heap.size w (w.alloc (.cells #[.int .i64 r.L, .slice A0 r.st.length ka0, .slice B0 r.mv.length kb0] 60)) from below_alloc w _)
  have HZ := Lib.hid (show w.heap.size + 1 ≤ (w.alloc (.cells #[.int .i64 r.L, .slice A0 r.st.length ka0, .slice B0 r.mv.length kb0] 60)).heap.size by simp)
  have hx0 : Row (w.alloc (.cells #[.int .i64 r.L, .slice A0 r.st.length ka0, .slice B0 r.mv.length kb0] 60)) (w.heap.size) 60 [.int .i64 r.L, .slice A0 r.st.length ka0, .slice B0 r.mv.length kb0] := by
    have := (Row.new w [.int .i64 r.L, .slice A0 r.st.length ka0, .slice B0 r.mv.length kb0] 60)
    simpa using this
  have HR := Lib.hid (show _ from hx0)
  clear hx0
  by_cases hm1 : 1048576 < (s.size : Int)
  · go_enter Try.func14, Try.ntmps14
    go_wp2_with fail
    go_ret
    exact ⟨rfl, HB.out⟩
  go_enter Try.func14, Try.ntmps14
  go_wp2_with fail
  refine (szW_tot _ r _ _ (HK0.out _ HB.out) (by omega) (by omega)).mono ?_
  generalize (w.alloc (.cells #[.int .i64 r.L, .slice A0 r.st.length ka0, .slice B0 r.mv.length kb0] 60)) = W0 at *
  rintro e w1 ⟨⟨m0, rfl, hm0⟩, hb⟩
  have HM0 := Lib.hid hm0
  clear hm0
  have hx0 := (HR.out).below hb (HR.out).lt
  have HZ1 := Lib.hid hb.size
  have HB_1 := Lib.hid (below_step HB.out hb)
  clear HB
  clear HR
  have HR1 := Lib.hid (show _ from hx0)
  clear hb hx0
  obtain ⟨⟨q1_0_0, q1_0_1, q1_0_2⟩, -⟩ := (HR1.out).three
  have lt1_0 := (HR1.out).lt
  by_cases hm0 : m0 < 0
  · go_wp2_with fail
    go_ret
    exact ⟨rfl, HB_1.out⟩
  have hl0 : m0 ≤ 1048576 := by have := HM0.out; omega
  go_wp2_with fail
  refine (szPl_arg _ l _ _ (HK2.out _ HB_1.out) HS2.out (by omega) (by omega)).mono ?_
  rintro e w2 ⟨⟨m2, rfl, hm2⟩, hb⟩
  have HM2 := Lib.hid hm2
  clear hm2
  have hx0 := (HR1.out).below hb (HR1.out).lt
  have HZ2 := Lib.hid hb.size
  have HB_2 := Lib.hid (below_step HB_1.out hb)
  clear HB_1
  clear HR1
  have HR2 := Lib.hid (show _ from hx0)
  clear hb hx0
  clear q1_0_0 q1_0_1 q1_0_2 lt1_0
  obtain ⟨⟨q2_0_0, q2_0_1, q2_0_2⟩, -⟩ := (HR2.out).three
  have lt2_0 := (HR2.out).lt
  by_cases hm2 : m2 < 0
  · go_wp2_with fail
    go_ret
    exact ⟨rfl, HB_2.out⟩
  have hl2 : m2 ≤ 1048576 := by have := HM2.out; omega
  go_wp2_with fail
  have HCN0 := Lib.hid (show (cntW r : Int) ≤ 1048576 from by have := HM0.out; have := HM2.out; omega)
  have HCN2 := Lib.hid (show ((l.length : Nat) : Int) ≤ 1048576 from by have := HM0.out; have := HM2.out; omega)
  clear HM0 hm0 hl0 HM2 hm2 hl2
  refine (toW_own _ r _ (HK0.out _ HB_2.out) HS0.out).mono ?_
  rintro e w3 ⟨u0, bu, rfl, hu, hb⟩
  have HU0 := Lib.hid (show RdW _ _ _ from hu.rd)
  clear hu
  have hx0 := (HR2.out).below hb (HR2.out).lt
  have HZ3 := Lib.hid hb.size
  have HB_3 := Lib.hid (below_step HB_2.out hb)
  clear HB_2
  clear HR2
  have HR3 := Lib.hid (show _ from hx0)
  clear hb hx0
  clear q2_0_0 q2_0_1 q2_0_2 lt2_0
  obtain ⟨⟨q3_0_0, q3_0_1, q3_0_2⟩, -⟩ := (HR3.out).three
  have lt3_0 := (HR3.out).lt
  go_wp2_with fail
  refine (toPl_arg _ l _ (HK2.out _ HB_3.out) HS2.out).mono ?_
  rintro e w4 ⟨u2, bu, rfl, hu, hb⟩
  have HU2 := Lib.hid (show RdP _ _ _ from hu.rd)
  clear hu
  have HU0' := Lib.hid (keepsW _ _ _ _ HU0.out hb)
  clear HU0
  have HU0 := HU0'
  clear HU0'
  have hx0 := (HR3.out).below hb (HR3.out).lt
  have HZ4 := Lib.hid hb.size
  have HB_4 := Lib.hid (below_step HB_3.out hb)
  clear HB_3
  clear HR3
  have HR4 := Lib.hid (show _ from hx0)
  clear hb hx0
  clear q3_0_0 q3_0_1 q3_0_2 lt3_0
  obtain ⟨⟨q4_0_0, q4_0_1, q4_0_2⟩, -⟩ := (HR4.out).three
  have lt4_0 := (HR4.out).lt
  go_wp2_with fail
  refine (specCheckWay_any _ _ r s l _ HU0.out HU2.out s1).mono ?_
  rintro e w5 ⟨rfl, hb⟩
  clear HU0 HU2
  have hx0 := (HR4.out).below hb (HR4.out).lt
  have HZ5 := Lib.hid hb.size
  have HB_5 := Lib.hid (below_step HB_4.out hb)
  clear HB_4
  clear HR4
  have HR5 := Lib.hid (show _ from hx0)
  clear hb hx0
  clear q4_0_0 q4_0_1 q4_0_2 lt4_0
  obtain ⟨⟨q5_0_0, q5_0_1, q5_0_2⟩, -⟩ := (HR5.out).three
  have lt5_0 := (HR5.out).lt
  go_wp2_with fail
  refine (toW_own _ r _ (HK0.out _ HB_5.out) HS0.out).mono ?_
  rintro e w6 ⟨x0, bx0, rfl, hx, hb⟩
  have hxr : RdW _ _ _ := hx.rd
  have hsx := hxr.shape
  obtain ⟨Ax0, kax0, Bx0, kbx0, rfl⟩ := hsx
  have HX0 := Lib.hid hx
  have HXB0 := Lib.hid (fun (x : Nat) hm => goodW.lt hx (b := x) hm)
  clear hx hxr
  have hx0 := (HR5.out).below hb (HR5.out).lt
  have HZ6 := Lib.hid hb.size
  have HB_6 := Lib.hid (below_step HB_5.out hb)
  clear HB_5
  clear HR5
  have HR6 := Lib.hid (show _ from hx0)
  clear hb hx0
  clear q5_0_0 q5_0_1 q5_0_2 lt5_0
  obtain ⟨⟨q6_0_0, q6_0_1, q6_0_2⟩, -⟩ := (HR6.out).three
  have lt6_0 := (HR6.out).lt
  have AX0 := Lib.hid (Below.refl w6.heap.size w6)
  go_wp2_with fail
  refine (toPl_arg _ l _ (HK2.out _ (HB_6.out.alloc HB_6.out.size _)) HS2.out).mono ?_
  rintro e w7 ⟨x2, bx2, rfl, hx, hb⟩
  have hxr : RdP _ _ _ := hx.rd
  have hsx := RdP.shape hxr
  obtain ⟨Bx2, kx2, rfl⟩ := hsx
  have HX2 := Lib.hid hx
  have HXB2 := Lib.hid (fun (x : Nat) hm => (goodP 70).lt hx (b := x) hm)
  clear hx hxr
  have hst := below_step (below_alloc w6 (.cells #[.int .i64 r.L, .slice Ax0 r.st.length kax0, .slice Bx0 r.mv.length kbx0] 68)) hb
  have hx0 := (HR6.out).below hst (HR6.out).lt
  have hx1 := (Row.new w6 [.int .i64 r.L, .slice Ax0 r.st.length kax0, .slice Bx0 r.mv.length kbx0] 68).below hb (Row.new w6 [.int .i64 r.L, .slice Ax0 r.st.length kax0, .slice Bx0 r.mv.length kbx0] 68).lt
  have HZ7 := Lib.hid (show w6.heap.size + 1 ≤ w7.heap.size by have := hb.size; simpa using this)
  have HB_7 := Lib.hid (below_step HB_6.out hst)
  clear HB_6
  have X0_7 := Lib.hid (below_step AX0.out hst)
  clear AX0
  clear HR6
  have HR7 := Lib.hid (show _ ∧ _ from ⟨hx0, hx1⟩)
  clear hb hx0 hx1 hst
  clear q6_0_0 q6_0_1 q6_0_2 lt6_0
  obtain ⟨⟨q7_0_0, q7_0_1, q7_0_2⟩, -⟩ := (HR7.out.1).three
  have lt7_0 := (HR7.out.1).lt
  obtain ⟨⟨q7_1_0, q7_1_1, q7_1_2⟩, -⟩ := (HR7.out.2).three
  have lt7_1 := (HR7.out.2).lt
  have AX2 := Lib.hid (Below.refl w7.heap.size w7)
  go_wp2_with fail
  refine (implCheckWay_any _ _ r s l _ (keepsW _ _ _ _ HX0.out.rd X0_7.out) (keepsP _ _ _ _ HX2.out.rd AX2.out) s1).mono ?_
  rintro e w8 ⟨rfl, hb⟩
  have hx0 := (HR7.out.1).below hb (HR7.out.1).lt
  have hx1 := (HR7.out.2).below hb (HR7.out.2).lt
  have HZ8 := Lib.hid hb.size
  have HB_8 := Lib.hid (below_step HB_7.out hb)
  clear HB_7
  have X0_8 := Lib.hid (below_step X0_7.out hb)
  clear X0_7
  have X2_8 := Lib.hid (below_step AX2.out hb)
  clear AX2
  clear HR7
  have HR8 := Lib.hid (show _ ∧ _ from ⟨hx0, hx1⟩)
  clear hb hx0 hx1
  clear q7_0_0 q7_0_1 q7_0_2 lt7_0 q7_1_0 q7_1_1 q7_1_2 lt7_1
  obtain ⟨⟨q8_0_0, q8_0_1, q8_0_2⟩, -⟩ := (HR8.out.1).three
  have lt8_0 := (HR8.out.1).lt
  obtain ⟨⟨q8_1_0, q8_1_1, q8_1_2⟩, -⟩ := (HR8.out.2).three
  have lt8_1 := (HR8.out.2).lt
  have hne0 : (!((wayRes r s l).1 == (wayRes r s l).1)) = false := by simp
  have hne1 : ((wayRes r s l).2 != (wayRes r s l).2) = false := by simp
  go_wp2_with fail
  go_region_held3 (fun W => W.cell? ⟨w.heap.size, 0, none⟩ = some (.int .i64 r.L) ∧ W.cell? ⟨w.heap.size, 1, none⟩ = some (.slice A0 r.st.length ka0) ∧ W.cell? ⟨w.heap.size, 2, none⟩ = some (.slice B0 r.mv.length kb0) ∧ W.cell? ⟨w6.heap.size, 0, none⟩ = some (.int .i64 r.L) ∧ W.cell? ⟨w6.heap.size, 1, none⟩ = some (.slice Ax0 r.st.length kax0) ∧ W.cell? ⟨w6.heap.size, 2, none⟩ = some (.slice Bx0 r.mv.length kbx0))
    (first | go_keep | (go_split_ands; refine ⟨?_, ?_, ?_, ?_, ?_, ?_⟩ <;> exact below_keep hbk (by assumption)))
    (first
      | (go_at_call 50; (with_reducible refine (toW_own _ r _ (HK0.out _ ?_) HS0.out).mono ?_); (exact below_step HB_8.out (by first | exact Below.refl _ _ | exact below_drew _ | exact below_drewN' _ _)); rintro e wy0 ⟨y0, by0, rfl, hy, hbk⟩; have HCy := Lib.hid (show Below w8.heap.size w8 wy0 from below_step (by first | exact Below.refl _ _ | exact below_drew _ | exact below_drewN' _ _) hbk); have HY := Lib.hid hy.rd; clear hy)
      | (go_at_call 53; refine (eqW_same _ _ r _ (keepsW _ _ _ _ HX0.out.rd (below_step X0_8.out HCy.out)) HY.out).mono ?_; rintro e wz0 ⟨rfl, hbk⟩; have HCz := Lib.hid (below_step HCy.out hbk)))
  have hb := HCz.out
  clear HCz HCy HY hbk
  have hx0 := (HR8.out.1).below hb (HR8.out.1).lt
  have hx1 := (HR8.out.2).below hb (HR8.out.2).lt
  have HZ9 := Lib.hid hb.size
  have HB_9 := Lib.hid (below_step HB_8.out hb)
  clear HB_8
  have X0_9 := Lib.hid (below_step X0_8.out hb)
  clear X0_8
  have X2_9 := Lib.hid (below_step X2_8.out hb)
  clear X2_8
  clear HR8
  have HR9 := Lib.hid (show _ ∧ _ from ⟨hx0, hx1⟩)
  clear hb hx0 hx1
  clear q8_0_0 q8_0_1 q8_0_2 lt8_0 q8_1_0 q8_1_1 q8_1_2 lt8_1
  obtain ⟨⟨q9_0_0, q9_0_1, q9_0_2⟩, -⟩ := (HR9.out.1).three
  have lt9_0 := (HR9.out.1).lt
  obtain ⟨⟨q9_1_0, q9_1_1, q9_1_2⟩, -⟩ := (HR9.out.2).three
  have lt9_1 := (HR9.out.2).lt
  go_wp2_with fail
  refine (toPl_arg _ l _ (HK2.out _ HB_9.out) HS2.out).mono ?_
  rintro e w10 ⟨y2, by0, rfl, hy, hb⟩
  have HY := Lib.hid (show RdP _ _ _ from hy.rd)
  clear hy
  have hx0 := (HR9.out.1).below hb (HR9.out.1).lt
  have hx1 := (HR9.out.2).below hb (HR9.out.2).lt
  have HZ10 := Lib.hid hb.size
  have HB_10 := Lib.hid (below_step HB_9.out hb)
  clear HB_9
  have X0_10 := Lib.hid (below_step X0_9.out hb)
  clear X0_9
  have X2_10 := Lib.hid (below_step X2_9.out hb)
  clear X2_9
  clear HR9
  have HR10 := Lib.hid (show _ ∧ _ from ⟨hx0, hx1⟩)
  clear hb hx0 hx1
  clear q9_0_0 q9_0_1 q9_0_2 lt9_0 q9_1_0 q9_1_1 q9_1_2 lt9_1
  obtain ⟨⟨q10_0_0, q10_0_1, q10_0_2⟩, -⟩ := (HR10.out.1).three
  have lt10_0 := (HR10.out.1).lt
  obtain ⟨⟨q10_1_0, q10_1_1, q10_1_2⟩, -⟩ := (HR10.out.2).three
  have lt10_1 := (HR10.out.2).lt
  go_wp2_with fail
  refine (eqPl_arg _ _ l _ (keepsP _ _ _ _ HX2.out.rd X2_10.out) HY.out).mono ?_
  rintro e w11 ⟨rfl, hb⟩
  clear HY
  have hx0 := (HR10.out.1).below hb (HR10.out.1).lt
  have hx1 := (HR10.out.2).below hb (HR10.out.2).lt
  have HZ11 := Lib.hid hb.size
  have HB_11 := Lib.hid (below_step HB_10.out hb)
  clear HB_10
  have X0_11 := Lib.hid (below_step X0_10.out hb)
  clear X0_10
  have X2_11 := Lib.hid (below_step X2_10.out hb)
  clear X2_10
  clear HR10
  have HR11 := Lib.hid (show _ ∧ _ from ⟨hx0, hx1⟩)
  clear hb hx0 hx1
  clear q10_0_0 q10_0_1 q10_0_2 lt10_0 q10_1_0 q10_1_1 q10_1_2 lt10_1
  obtain ⟨⟨q11_0_0, q11_0_1, q11_0_2⟩, -⟩ := (HR11.out.1).three
  have lt11_0 := (HR11.out.1).lt
  obtain ⟨⟨q11_1_0, q11_1_1, q11_1_2⟩, -⟩ := (HR11.out.2).three
  have lt11_1 := (HR11.out.2).lt
  go_wp2
  go_ret
  exact ⟨rfl, HB_11.out⟩

theorem own : ownKnob Try.prog.godebug = none := by kernel_rfl
theorem laidOut : laidOutB Try.prog = true := by kernel_rfl

set_option maxRecDepth 100000 in
theorem lifted (os : Os) (started : os.Started) (H : Type) (enc : TypeId × Value → H) :
    ReturnsInHanded {} Try.checked os 14 .any (Rows.fnExactCheckWaySpec.pre6 enc Try.prog Try.f14 Rows.fnExactCheckWayRow.domain false) (Rows.fnExactCheckWaySpec.post enc Try.prog Try.f14 false true false false) := by
  refine returnsInHanded_of_change_sized (C := Try.checked) own started (by kernel_rfl) Try.func14
    (ChangeSpec.witness6 (enc := enc) (C := Try.checked) false ⟨#[], #[.agg #[.int .i64 0, .slice none 0 0, .slice none 0 0], .string (ByteArray.mk #[]), .slice none 0 0], []⟩ 8 (by kernel_rfl) (by kernel_rfl) (by kernel_rfl) (by kernel_rfl)) ?_
  intro W base args ds gs before hval0 hW _ hsz0 _
  have hsz : (DataW.weightsEach Try.prog (Try.f14.params.toList ++ Rows.fnExactCheckWaySpec.plain.varTypes Try.prog) (ds ++ gs)).all (· ≤ reachBytes) = true := hsz0
  clear hsz0
  have hval : ∀ (j : Nat) t v, Try.f14.params[j]? = some t → args[j]? = some v → Value.okWide Try.prog W .any base t v := hval0
  have hW' := hW
  obtain ⟨p, q, hA0, hV, rfl, hfz, hnd⟩ := hW
  have hA : DataW.TrodAll enc Try.prog W 0 (fun _ => true) true Try.f14.params.toList args.toList ds p := hA0
  have hK := fun W' hb => args_kept (W' := W') laidOut (by decide +kernel) hA hb
  rw [Try.params14] at hA hval hsz
  obtain ⟨v0, vs0, d0, ds0, p0, q0, hargs, rfl, rfl, h0, r0⟩ := trodAll_cons hA
  obtain ⟨v1, vs1, d1, ds1, p1, q1, rfl, rfl, rfl, h1, r1⟩ := trodAll_cons r0
  obtain ⟨v2, vs2, d2, ds2, p2, q2, rfl, rfl, rfl, h2, r2⟩ := trodAll_cons r1
  obtain ⟨rfl, rfl, rfl⟩ := trodAll_nil r2
  obtain rfl : args = #[v0, v1, v2] := by cases args; simp_all
  obtain ⟨rfl, rfl⟩ := trodVars_none hV
  obtain ⟨r, hr0, hs0⟩ := open_wanderer (hval 0 _ v0 rfl rfl) h0 (fit_arg hsz (j := 0) rfl rfl)
  have hf1 := fit_arg hsz (j := 1) rfl rfl
  obtain ⟨s, rfl, rfl, rfl, hl1⟩ := open_string Try.underlying9 (hval 1 _ v1 rfl rfl) h1
  obtain ⟨sa2, sl2, sc2, rfl⟩ := Go.WideShapes.okWide_slice Try.underlying75 (hval 2 _ v2 rfl rfl)
  obtain ⟨n2, hn2⟩ := h2
  obtain ⟨l, hr2, hs2⟩ := (show Opens enc Try.prog W 0 true _ RdP PSmall from opens_mono (opens_pairs Try.underlying75 Try.underlying62 (by kernel_rfl) rfl rfl (by kernel_rfl) (by kernel_rfl) Try.underlying2 Try.underlying2 (by kernel_rfl)) (fun _ _ h => h) (fun ys h => by have a := h.1; unfold PSmall; unfold reachBytes at a; omega)) n2 (.slice sa2 sl2 sc2) (d2, p2) hn2 (fit_arg hsz (j := 2) rfl rfl)
  clear hA0 hval0
  refine (walk v0 r s (.slice sa2 sl2 sc2) l W hr0 hs0 (fit_string hf1) hr2 hs2).mono fun e W' ⟨he, bel⟩ => ?_
  subst he
  exact ⟨_, rfl, _, _, _, [], _, [], hW', trodAll_mk1 (shut_bool Try.underlying4 _), hK W' bel, rfl, bel.frame _, fun h => by cases h⟩

theorem over : Rows.fnExactCheckWayRow.holds Try.pinned (OpenSpec.ofChange Rows.fnExactCheckWaySpec) :=
  OpenClaim.holds_of_wide 14 Try.f14 rfl rfl rfl rfl rfl rfl rfl ⟨rfl, rfl, rfl, rfl, rfl⟩ rfl rfl rfl rfl rfl (by kernel_rfl) Try.func14 (by kernel_rfl)
    (of_decide_eq_true (by kernel_rfl)) (by unfold Func.isWrapper; first | (rw [if_pos (by decide +kernel)]; kernel_rfl) | (rw [if_neg (by decide +kernel)]; exact ⟨rfl, rfl⟩))
    (fun os started H enc _ => lifted os started H enc)

theorem holds : Rows.FnExactCheckWaySaid := over
#print axioms holds
end Go.Proofs.Ytdkalefepdlccaa.checkWay
