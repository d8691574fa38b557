/-
  For every input that can be read as data, FnExactIsFooling returns true, and its arguments read behind the call as before: the program's IsFooling answers as its model.
-/
import Derived.Test.YtjojmlaipcbmkaaRows
import Derived.Test.YtjojmlaipcbmkaaOpen
import Derived.Test.YtjojmlaipcbmkaaFo5
import Derived.Test.YtjojmlaipcbmkaaZR
import Derived.Test.YtjojmlaipcbmkaaT8
import Derived.Test.YtjojmlaipcbmkaaFo1
namespace Go.Proofs.Ytjojmlaipcbmkaa.isFooling
open Go.ChangeShapes Go.WideShapes Go.ChangeAt Go.RowKit Go.Joins Go.Deep
open Go.ChangeMaps (open_string shut_string)
set_option linter.unusedVariables false

set_option maxRecDepth 100000 in
set_option maxHeartbeats 6400000 in
theorem walk (v0 : Value) (r : RData) (v1 : Value) (ps : List (ByteArray × ByteArray)) (w : World) (h0 : RdR w v0 r) (s0 : RSmall r) (h1 : RdF w v1 ps) (s1 : FSmall ps) :
    Calls Try.prog 10 #[v0, v1] w fun e w' => e = .returned (.bool true) ∧ Below w.heap.size w w' := by
  have hs0 := h0.shape
  obtain ⟨A0, c0, B0, d0, rfl⟩ := hs0
  have HK0 := Lib.hid (fun W (hb : Below w.heap.size w W) => keepsR _ _ _ _ h0 hb)
  have HS0 := Lib.hid s0
  clear h0 s0
  have hs1 := RdF.shape h1
  obtain ⟨A1, c1, rfl⟩ := hs1
  have HK1 := Lib.hid (fun W (hb : Below w.heap.size w W) => keepsF _ _ _ _ h1 hb)
  have HS1 := Lib.hid s1
  have hln1 : (ps.length : Int) ≤ 281474976710656 := by have := s1; unfold FSmall at this; omega
  clear h1 s1
  have HB := Lib.hid (show Below w.heap.size w (w.alloc (.cells #[.int .i64 r.L, .int .i64 r.S, .slice A0 r.acc.length c0, .slice B0 r.next.length d0] 25)) from below_alloc w _)
  have HZ := Lib.hid (show w.heap.size + 1 ≤ (w.alloc (.cells #[.int .i64 r.L, .int .i64 r.S, .slice A0 r.acc.length c0, .slice B0 r.next.length d0] 25)).heap.size by simp)
  have hx0 : Row (w.alloc (.cells #[.int .i64 r.L, .int .i64 r.S, .slice A0 r.acc.length c0, .slice B0 r.next.length d0] 25)) (w.heap.size) 25 [.int .i64 r.L, .int .i64 r.S, .slice A0 r.acc.length c0, .slice B0 r.next.length d0] := by
    have := (Row.new w [.int .i64 r.L, .int .i64 r.S, .slice A0 r.acc.length c0, .slice B0 r.next.length d0] 25)
    simpa using this
  have HR := Lib.hid (show _ from hx0)
  clear hx0
  go_enter Try.func10, Try.ntmps10
  go_wp2_with fail
  refine (szR_tot _ r _ _ (HK0.out _ HB.out) (by omega) (by omega)).mono ?_
  generalize (w.alloc (.cells #[.int .i64 r.L, .int .i64 r.S, .slice A0 r.acc.length c0, .slice B0 r.next.length d0] 25)) = W0 at *
  rintro e w1 ⟨⟨m0, rfl, hm0⟩, hb⟩
  have HM0 := Lib.hid hm0
  clear hm0
  have hx0 := (HR.out).below hb (HR.out).lt
  have HZ1 := Lib.hid hb.size
  have HB_1 := Lib.hid (below_step HB.out hb)
  clear HB
  clear HR
  have HR1 := Lib.hid (show _ from hx0)
  clear hb hx0
  obtain ⟨⟨q1_0_0, q1_0_1, q1_0_2, q1_0_3⟩, -⟩ := (HR1.out).four
  have lt1_0 := (HR1.out).lt
  by_cases hm0 : m0 < 0
  · go_wp2_with fail
    go_ret
    exact ⟨rfl, HB_1.out⟩
  have hl0 : m0 ≤ 1048576 := by have := HM0.out; omega
  go_wp2_with fail
  refine (szFo_arg _ ps _ _ (HK1.out _ HB_1.out) HS1.out (by omega) (by omega)).mono ?_
  rintro e w2 ⟨⟨m1, rfl, hm1⟩, hb⟩
  have HM1 := Lib.hid hm1
  clear hm1
  have hx0 := (HR1.out).below hb (HR1.out).lt
  have HZ2 := Lib.hid hb.size
  have HB_2 := Lib.hid (below_step HB_1.out hb)
  clear HB_1
  clear HR1
  have HR2 := Lib.hid (show _ from hx0)
  clear hb hx0
  clear q1_0_0 q1_0_1 q1_0_2 q1_0_3 lt1_0
  obtain ⟨⟨q2_0_0, q2_0_1, q2_0_2, q2_0_3⟩, -⟩ := (HR2.out).four
  have lt2_0 := (HR2.out).lt
  by_cases hm1 : m1 < 0
  · go_wp2_with fail
    go_ret
    exact ⟨rfl, HB_2.out⟩
  have hl1 : m1 ≤ 1048576 := by have := HM1.out; omega
  go_wp2_with fail
  have HCN0 := Lib.hid (show (cntR r : Int) ≤ 1048576 from by have := HM0.out; have := HM1.out; omega)
  have HCN1 := Lib.hid (show ((ps.length : Nat) : Int) ≤ 1048576 from by have := HM0.out; have := HM1.out; omega)
  clear HM0 hm0 hl0 HM1 hm1 hl1
  refine (toR_own _ r _ (HK0.out _ HB_2.out) HS0.out).mono ?_
  rintro e w3 ⟨u0, bu, rfl, hu, hb⟩
  have HU0 := Lib.hid (show RdR _ _ _ from hu.rd)
  clear hu
  have hx0 := (HR2.out).below hb (HR2.out).lt
  have HZ3 := Lib.hid hb.size
  have HB_3 := Lib.hid (below_step HB_2.out hb)
  clear HB_2
  clear HR2
  have HR3 := Lib.hid (show _ from hx0)
  clear hb hx0
  clear q2_0_0 q2_0_1 q2_0_2 q2_0_3 lt2_0
  obtain ⟨⟨q3_0_0, q3_0_1, q3_0_2, q3_0_3⟩, -⟩ := (HR3.out).four
  have lt3_0 := (HR3.out).lt
  go_wp2_with fail
  refine (toFo_arg _ ps _ (HK1.out _ HB_3.out) HS1.out).mono ?_
  rintro e w4 ⟨u1, bu, rfl, hu, hb⟩
  have HU1 := Lib.hid (show RdF _ _ _ from hu.rd)
  clear hu
  have HU0' := Lib.hid (keepsR _ _ _ _ HU0.out hb)
  clear HU0
  have HU0 := HU0'
  clear HU0'
  have hx0 := (HR3.out).below hb (HR3.out).lt
  have HZ4 := Lib.hid hb.size
  have HB_4 := Lib.hid (below_step HB_3.out hb)
  clear HB_3
  clear HR3
  have HR4 := Lib.hid (show _ from hx0)
  clear hb hx0
  clear q3_0_0 q3_0_1 q3_0_2 q3_0_3 lt3_0
  obtain ⟨⟨q4_0_0, q4_0_1, q4_0_2, q4_0_3⟩, -⟩ := (HR4.out).four
  have lt4_0 := (HR4.out).lt
  go_wp2_with fail
  refine (specIsFooling_any _ _ r ps _ HU0.out HU1.out HS1.out).mono ?_
  rintro e w5 ⟨rfl, hb⟩
  clear HU0 HU1
  have hx0 := (HR4.out).below hb (HR4.out).lt
  have HZ5 := Lib.hid hb.size
  have HB_5 := Lib.hid (below_step HB_4.out hb)
  clear HB_4
  clear HR4
  have HR5 := Lib.hid (show _ from hx0)
  clear hb hx0
  clear q4_0_0 q4_0_1 q4_0_2 q4_0_3 lt4_0
  obtain ⟨⟨q5_0_0, q5_0_1, q5_0_2, q5_0_3⟩, -⟩ := (HR5.out).four
  have lt5_0 := (HR5.out).lt
  go_wp2_with fail
  refine (toR_own _ r _ (HK0.out _ HB_5.out) HS0.out).mono ?_
  rintro e w6 ⟨x0, bx0, rfl, hx, hb⟩
  have hxr : RdR _ _ _ := hx.rd
  have hsx := hxr.shape
  obtain ⟨Ax0, cx0, Bx0, dx0, rfl⟩ := hsx
  have HX0 := Lib.hid hx
  have HXB0 := Lib.hid (fun (x : Nat) hm => goodR.lt hx (b := x) hm)
  clear hx hxr
  have hx0 := (HR5.out).below hb (HR5.out).lt
  have HZ6 := Lib.hid hb.size
  have HB_6 := Lib.hid (below_step HB_5.out hb)
  clear HB_5
  clear HR5
  have HR6 := Lib.hid (show _ from hx0)
  clear hb hx0
  clear q5_0_0 q5_0_1 q5_0_2 q5_0_3 lt5_0
  obtain ⟨⟨q6_0_0, q6_0_1, q6_0_2, q6_0_3⟩, -⟩ := (HR6.out).four
  have lt6_0 := (HR6.out).lt
  have AX0 := Lib.hid (Below.refl w6.heap.size w6)
  go_wp2_with fail
  refine (toFo_arg _ ps _ (HK1.out _ (HB_6.out.alloc HB_6.out.size _)) HS1.out).mono ?_
  rintro e w7 ⟨x1, bx1, rfl, hx, hb⟩
  have hxr : RdF _ _ _ := hx.rd
  have hsx := RdF.shape hxr
  obtain ⟨Bx1, kx1, rfl⟩ := hsx
  have HX1 := Lib.hid hx
  have HXB1 := Lib.hid (fun (x : Nat) hm => (goodF 110).lt hx (b := x) hm)
  clear hx hxr
  have hst := below_step (below_alloc w6 (.cells #[.int .i64 r.L, .int .i64 r.S, .slice Ax0 r.acc.length cx0, .slice Bx0 r.next.length dx0] 29)) hb
  have hx0 := (HR6.out).below hst (HR6.out).lt
  have hx1 := (Row.new w6 [.int .i64 r.L, .int .i64 r.S, .slice Ax0 r.acc.length cx0, .slice Bx0 r.next.length dx0] 29).below hb (Row.new w6 [.int .i64 r.L, .int .i64 r.S, .slice Ax0 r.acc.length cx0, .slice Bx0 r.next.length dx0] 29).lt
  have HZ7 := Lib.hid (show w6.heap.size + 1 ≤ w7.heap.size by have := hb.size; simpa using this)
  have HB_7 := Lib.hid (below_step HB_6.out hst)
  clear HB_6
  have X0_7 := Lib.hid (below_step AX0.out hst)
  clear AX0
  clear HR6
  have HR7 := Lib.hid (show _ ∧ _ from ⟨hx0, hx1⟩)
  clear hb hx0 hx1 hst
  clear q6_0_0 q6_0_1 q6_0_2 q6_0_3 lt6_0
  obtain ⟨⟨q7_0_0, q7_0_1, q7_0_2, q7_0_3⟩, -⟩ := (HR7.out.1).four
  have lt7_0 := (HR7.out.1).lt
  obtain ⟨⟨q7_1_0, q7_1_1, q7_1_2, q7_1_3⟩, -⟩ := (HR7.out.2).four
  have lt7_1 := (HR7.out.2).lt
  have AX1 := Lib.hid (Below.refl w7.heap.size w7)
  go_wp2_with fail
  refine (implIsFooling_any _ _ r ps _ (keepsR _ _ _ _ HX0.out.rd X0_7.out) (keepsF _ _ _ _ HX1.out.rd AX1.out) HS1.out).mono ?_
  rintro e w8 ⟨rfl, hb⟩
  have hx0 := (HR7.out.1).below hb (HR7.out.1).lt
  have hx1 := (HR7.out.2).below hb (HR7.out.2).lt
  have HZ8 := Lib.hid hb.size
  have HB_8 := Lib.hid (below_step HB_7.out hb)
  clear HB_7
  have X0_8 := Lib.hid (below_step X0_7.out hb)
  clear X0_7
  have X1_8 := Lib.hid (below_step AX1.out hb)
  clear AX1
  clear HR7
  have HR8 := Lib.hid (show _ ∧ _ from ⟨hx0, hx1⟩)
  clear hb hx0 hx1
  clear q7_0_0 q7_0_1 q7_0_2 q7_0_3 lt7_0 q7_1_0 q7_1_1 q7_1_2 q7_1_3 lt7_1
  obtain ⟨⟨q8_0_0, q8_0_1, q8_0_2, q8_0_3⟩, -⟩ := (HR8.out.1).four
  have lt8_0 := (HR8.out.1).lt
  obtain ⟨⟨q8_1_0, q8_1_1, q8_1_2, q8_1_3⟩, -⟩ := (HR8.out.2).four
  have lt8_1 := (HR8.out.2).lt
  have hne0 : (!((foolRes r ps).1 == (foolRes r ps).1)) = false := by simp
  have hne1 : ((foolRes r ps).2 != (foolRes r ps).2) = false := by simp
  go_wp2_with fail
  go_region_held3 (fun W => W.cell? ⟨w.heap.size, 0, none⟩ = some (.int .i64 r.L) ∧ W.cell? ⟨w.heap.size, 1, none⟩ = some (.int .i64 r.S) ∧ W.cell? ⟨w.heap.size, 2, none⟩ = some (.slice A0 r.acc.length c0) ∧ W.cell? ⟨w.heap.size, 3, none⟩ = some (.slice B0 r.next.length d0) ∧ W.cell? ⟨w6.heap.size, 0, none⟩ = some (.int .i64 r.L) ∧ W.cell? ⟨w6.heap.size, 1, none⟩ = some (.int .i64 r.S) ∧ W.cell? ⟨w6.heap.size, 2, none⟩ = some (.slice Ax0 r.acc.length cx0) ∧ W.cell? ⟨w6.heap.size, 3, none⟩ = some (.slice Bx0 r.next.length dx0))
    (first | go_keep | (go_split_ands; refine ⟨?_, ?_, ?_, ?_, ?_, ?_, ?_, ?_⟩ <;> exact below_keep hbk (by assumption)))
    (first
      | (go_at_call 14; (with_reducible refine (toR_own _ r _ (HK0.out _ ?_) HS0.out).mono ?_); (exact below_step HB_8.out (by first | exact Below.refl _ _ | exact below_drew _ | exact below_drewN' _ _)); rintro e wy0 ⟨y0, by0, rfl, hy, hbk⟩; have HCy := Lib.hid (show Below w8.heap.size w8 wy0 from below_step (by first | exact Below.refl _ _ | exact below_drew _ | exact below_drewN' _ _) hbk); have HY := Lib.hid hy.rd; clear hy)
      | (go_at_call 16; refine (eqR_same _ _ r _ (keepsR _ _ _ _ HX0.out.rd (below_step X0_8.out HCy.out)) HY.out).mono ?_; rintro e wz0 ⟨rfl, hbk⟩; have HCz := Lib.hid (below_step HCy.out hbk)))
  have hb := HCz.out
  clear HCz HCy HY hbk
  have hx0 := (HR8.out.1).below hb (HR8.out.1).lt
  have hx1 := (HR8.out.2).below hb (HR8.out.2).lt
  have HZ9 := Lib.hid hb.size
  have HB_9 := Lib.hid (below_step HB_8.out hb)
  clear HB_8
  have X0_9 := Lib.hid (below_step X0_8.out hb)
  clear X0_8
  have X1_9 := Lib.hid (below_step X1_8.out hb)
  clear X1_8
  clear HR8
  have HR9 := Lib.hid (show _ ∧ _ from ⟨hx0, hx1⟩)
  clear hb hx0 hx1
  clear q8_0_0 q8_0_1 q8_0_2 q8_0_3 lt8_0 q8_1_0 q8_1_1 q8_1_2 q8_1_3 lt8_1
  obtain ⟨⟨q9_0_0, q9_0_1, q9_0_2, q9_0_3⟩, -⟩ := (HR9.out.1).four
  have lt9_0 := (HR9.out.1).lt
  obtain ⟨⟨q9_1_0, q9_1_1, q9_1_2, q9_1_3⟩, -⟩ := (HR9.out.2).four
  have lt9_1 := (HR9.out.2).lt
  go_wp2_with fail
  refine (toFo_arg _ ps _ (HK1.out _ HB_9.out) HS1.out).mono ?_
  rintro e w10 ⟨y1, by0, rfl, hy, hb⟩
  have HY := Lib.hid (show RdF _ _ _ from hy.rd)
  clear hy
  have hx0 := (HR9.out.1).below hb (HR9.out.1).lt
  have hx1 := (HR9.out.2).below hb (HR9.out.2).lt
  have HZ10 := Lib.hid hb.size
  have HB_10 := Lib.hid (below_step HB_9.out hb)
  clear HB_9
  have X0_10 := Lib.hid (below_step X0_9.out hb)
  clear X0_9
  have X1_10 := Lib.hid (below_step X1_9.out hb)
  clear X1_9
  clear HR9
  have HR10 := Lib.hid (show _ ∧ _ from ⟨hx0, hx1⟩)
  clear hb hx0 hx1
  clear q9_0_0 q9_0_1 q9_0_2 q9_0_3 lt9_0 q9_1_0 q9_1_1 q9_1_2 q9_1_3 lt9_1
  obtain ⟨⟨q10_0_0, q10_0_1, q10_0_2, q10_0_3⟩, -⟩ := (HR10.out.1).four
  have lt10_0 := (HR10.out.1).lt
  obtain ⟨⟨q10_1_0, q10_1_1, q10_1_2, q10_1_3⟩, -⟩ := (HR10.out.2).four
  have lt10_1 := (HR10.out.2).lt
  go_wp2_with fail
  refine (eqFo_arg _ _ ps _ (keepsF _ _ _ _ HX1.out.rd X1_10.out) HY.out).mono ?_
  rintro e w11 ⟨rfl, hb⟩
  clear HY
  have hx0 := (HR10.out.1).below hb (HR10.out.1).lt
  have hx1 := (HR10.out.2).below hb (HR10.out.2).lt
  have HZ11 := Lib.hid hb.size
  have HB_11 := Lib.hid (below_step HB_10.out hb)
  clear HB_10
  have X0_11 := Lib.hid (below_step X0_10.out hb)
  clear X0_10
  have X1_11 := Lib.hid (below_step X1_10.out hb)
  clear X1_10
  clear HR10
  have HR11 := Lib.hid (show _ ∧ _ from ⟨hx0, hx1⟩)
  clear hb hx0 hx1
  clear q10_0_0 q10_0_1 q10_0_2 q10_0_3 lt10_0 q10_1_0 q10_1_1 q10_1_2 q10_1_3 lt10_1
  obtain ⟨⟨q11_0_0, q11_0_1, q11_0_2, q11_0_3⟩, -⟩ := (HR11.out.1).four
  have lt11_0 := (HR11.out.1).lt
  obtain ⟨⟨q11_1_0, q11_1_1, q11_1_2, q11_1_3⟩, -⟩ := (HR11.out.2).four
  have lt11_1 := (HR11.out.2).lt
  go_wp2
  go_ret
  exact ⟨rfl, HB_11.out⟩

theorem own : ownKnob Try.prog.godebug = none := by kernel_rfl
theorem laidOut : laidOutB Try.prog = true := by kernel_rfl

set_option maxRecDepth 100000 in
theorem lifted (os : Os) (started : os.Started) (H : Type) (enc : TypeId × Value → H) :
    ReturnsInHanded {} Try.checked os 10 .any (Rows.fnExactIsFoolingSpec.pre6 enc Try.prog Try.f10 Rows.fnExactIsFoolingRow.domain false) (Rows.fnExactIsFoolingSpec.post enc Try.prog Try.f10 false true false false) := by
  refine returnsInHanded_of_change_sized (C := Try.checked) own started (by kernel_rfl) Try.func10
    (ChangeSpec.witness6 (enc := enc) (C := Try.checked) false ⟨#[], #[.agg #[.int .i64 0, .int .i64 0, .slice none 0 0, .slice none 0 0], .slice none 0 0], []⟩ 8 (by kernel_rfl) (by kernel_rfl) (by kernel_rfl) (by kernel_rfl)) ?_
  intro W base args ds gs before hval0 hW _ hsz0 _
  have hsz : (DataW.weightsEach Try.prog (Try.f10.params.toList ++ Rows.fnExactIsFoolingSpec.plain.varTypes Try.prog) (ds ++ gs)).all (· ≤ reachBytes) = true := hsz0
  clear hsz0
  have hval : ∀ (j : Nat) t v, Try.f10.params[j]? = some t → args[j]? = some v → Value.okWide Try.prog W .any base t v := hval0
  have hW' := hW
  obtain ⟨p, q, hA0, hV, rfl, hfz, hnd⟩ := hW
  have hA : DataW.TrodAll enc Try.prog W 0 (fun _ => true) true Try.f10.params.toList args.toList ds p := hA0
  have hK := fun W' hb => args_kept (W' := W') laidOut (by decide +kernel) hA hb
  rw [Try.params10] at hA hval hsz
  obtain ⟨v0, vs0, d0, ds0, p0, q0, hargs, rfl, rfl, h0, r0⟩ := trodAll_cons hA
  obtain ⟨v1, vs1, d1, ds1, p1, q1, rfl, rfl, rfl, h1, r1⟩ := trodAll_cons r0
  obtain ⟨rfl, rfl, rfl⟩ := trodAll_nil r1
  obtain rfl : args = #[v0, v1] := by cases args; simp_all
  obtain ⟨rfl, rfl⟩ := trodVars_none hV
  obtain ⟨r, hr0, hs0⟩ := open_reader (hval 0 _ v0 rfl rfl) h0 (fit_arg hsz (j := 0) rfl rfl)
  obtain ⟨sa1, sl1, sc1, rfl⟩ := Go.WideShapes.okWide_slice Try.underlying68 (hval 1 _ v1 rfl rfl)
  obtain ⟨n1, hn1⟩ := h1
  obtain ⟨ps, hr1, hs1⟩ := (show Opens enc Try.prog W 0 true _ RdF FSmall from opens_fpairs Try.underlying68 Try.underlying106 (by kernel_rfl) rfl rfl (by kernel_rfl) (by kernel_rfl) Try.underlying9 Try.underlying9 (by kernel_rfl)) n1 (.slice sa1 sl1 sc1) (d1, p1) hn1 (fit_arg hsz (j := 1) rfl rfl)
  clear hA0 hval0
  refine (walk v0 r (.slice sa1 sl1 sc1) ps W hr0 hs0 hr1 hs1).mono fun e W' ⟨he, bel⟩ => ?_
  subst he
  exact ⟨_, rfl, _, _, _, [], _, [], hW', trodAll_mk1 (shut_bool Try.underlying4 _), hK W' bel, rfl, bel.frame _, fun h => by cases h⟩

theorem over : Rows.fnExactIsFoolingRow.holds Try.pinned (OpenSpec.ofChange Rows.fnExactIsFoolingSpec) :=
  OpenClaim.holds_of_wide 10 Try.f10 rfl rfl rfl rfl rfl rfl rfl ⟨rfl, rfl, rfl, rfl, rfl⟩ rfl rfl rfl rfl rfl (by kernel_rfl) Try.func10 (by kernel_rfl)
    (of_decide_eq_true (by kernel_rfl)) (by unfold Func.isWrapper; first | (rw [if_pos (by decide +kernel)]; kernel_rfl) | (rw [if_neg (by decide +kernel)]; exact ⟨rfl, rfl⟩))
    (fun os started H enc _ => lifted os started H enc)

theorem holds : Rows.FnExactIsFoolingSaid := over
#print axioms holds
end Go.Proofs.Ytjojmlaipcbmkaa.isFooling
