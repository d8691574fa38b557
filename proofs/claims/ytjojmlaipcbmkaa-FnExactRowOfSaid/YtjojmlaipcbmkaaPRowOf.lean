/-
  For every input that can be read as data, FnExactRowOf returns true, and its arguments read behind the call as before: the program's RowOf answers as its model, and its answer is its own.
-/
import Derived.Test.YtjojmlaipcbmkaaRows
import Derived.Test.YtjojmlaipcbmkaaOpen
import Derived.Test.YtjojmlaipcbmkaaBd6
import Derived.Test.YtjojmlaipcbmkaaZR
import Derived.Test.YtjojmlaipcbmkaaT8
import Derived.Test.YtjojmlaipcbmkaaArg
namespace Go.Proofs.Ytjojmlaipcbmkaa.rowOf
open Go.ChangeShapes Go.WideShapes Go.ChangeAt Go.RowKit Go.Joins Go.Deep
open Go.ChangeMaps (open_string shut_string)
set_option linter.unusedVariables false

set_option maxRecDepth 100000 in
set_option maxHeartbeats 6400000 in
theorem walk (v0 : Value) (r : RData) (s : ByteArray) (v2 : Value) (ends : List ByteArray) (w : World) (h0 : RdR w v0 r) (s0 : RSmall r) (s1 : s.size ≤ 140737488351232) (h2 : RdS w v2 ends) (s2 : SSmall ends) :
    Calls Try.prog 5 #[v0, .string s, v2] w fun e w' => e = .returned (.bool true) ∧ Below w.heap.size w w' := by
  have hs0 := h0.shape
  obtain ⟨A0, c0, B0, d0, rfl⟩ := hs0
  have HK0 := Lib.hid (fun W (hb : Below w.heap.size w W) => keepsR _ _ _ _ h0 hb)
  have HS0 := Lib.hid s0
  clear h0 s0
  have hs2 := rdS_shape h2
  obtain ⟨A2, c2, rfl⟩ := hs2
  have HK2 := Lib.hid (fun W (hb : Below w.heap.size w W) => keepsS _ _ _ _ h2 hb)
  have HS2 := Lib.hid s2
  have hln2 : (ends.length : Int) ≤ 140737488355328 := by have := s2; unfold SSmall at this; omega
  clear h2 s2
  have HB := Lib.hid (show Below w.heap.size w (w.alloc (.cells #[.int .i64 r.L, .int .i64 r.S, .slice A0 r.acc.length c0, .slice B0 r.next.length d0] 25)) from below_alloc w _)
  have HZ := Lib.hid (show w.heap.size + 1 ≤ (w.alloc (.cells #[.int .i64 r.L, .int .i64 r.S, .slice A0 r.acc.length c0, .slice B0 r.next.length d0] 25)).heap.size by simp)
  have hx0 : Row (w.alloc (.cells #[.int .i64 r.L, .int .i64 r.S, .slice A0 r.acc.length c0, .slice B0 r.next.length d0] 25)) (w.heap.size) 25 [.int .i64 r.L, .int .i64 r.S, .slice A0 r.acc.length c0, .slice B0 r.next.length d0] := by
    have := (Row.new w [.int .i64 r.L, .int .i64 r.S, .slice A0 r.acc.length c0, .slice B0 r.next.length d0] 25)
    simpa using this
  have HR := Lib.hid (show _ from hx0)
  clear hx0
  by_cases hm1 : 1048576 < (s.size : Int)
  · go_enter Try.func5, Try.ntmps5
    go_wp2_with fail
    go_ret
    exact ⟨rfl, HB.out⟩
  go_enter Try.func5, Try.ntmps5
  go_wp2_with fail
  refine (szR_tot _ r _ _ (HK0.out _ HB.out) (by omega) (by omega)).mono ?_
  generalize (w.alloc (.cells #[.int .i64 r.L, .int .i64 r.S, .slice A0 r.acc.length c0, .slice B0 r.next.length d0] 25)) = W0 at *
  rintro e w1 ⟨⟨m0, rfl, hm0⟩, hb⟩
  have HM0 := Lib.hid hm0
  clear hm0
  have hx0 := (HR.out).below hb (HR.out).lt
  have HZ1 := Lib.hid hb.size
  have HB_1 := Lib.hid (below_step HB.out hb)
  clear HB
  clear HR
  have HR1 := Lib.hid (show _ from hx0)
  clear hb hx0
  obtain ⟨⟨q1_0_0, q1_0_1, q1_0_2, q1_0_3⟩, -⟩ := (HR1.out).four
  have lt1_0 := (HR1.out).lt
  by_cases hm0 : m0 < 0
  · go_wp2_with fail
    go_ret
    exact ⟨rfl, HB_1.out⟩
  have hl0 : m0 ≤ 1048576 := by have := HM0.out; omega
  go_wp2_with fail
  refine (szS_arg _ ends _ _ (HK2.out _ HB_1.out) HS2.out (by omega) (by omega)).mono ?_
  rintro e w2 ⟨⟨m2, rfl, hm2⟩, hb⟩
  have HM2 := Lib.hid hm2
  clear hm2
  have hx0 := (HR1.out).below hb (HR1.out).lt
  have HZ2 := Lib.hid hb.size
  have HB_2 := Lib.hid (below_step HB_1.out hb)
  clear HB_1
  clear HR1
  have HR2 := Lib.hid (show _ from hx0)
  clear hb hx0
  clear q1_0_0 q1_0_1 q1_0_2 q1_0_3 lt1_0
  obtain ⟨⟨q2_0_0, q2_0_1, q2_0_2, q2_0_3⟩, -⟩ := (HR2.out).four
  have lt2_0 := (HR2.out).lt
  by_cases hm2 : m2 < 0
  · go_wp2_with fail
    go_ret
    exact ⟨rfl, HB_2.out⟩
  have hl2 : m2 ≤ 1048576 := by have := HM2.out; omega
  go_wp2_with fail
  have HCN0 := Lib.hid (show (cntR r : Int) ≤ 1048576 from by have := HM0.out; have := HM2.out; omega)
  have HCN2 := Lib.hid (show ((ends.length : Nat) : Int) ≤ 1048576 from by have := HM0.out; have := HM2.out; omega)
  clear HM0 hm0 hl0 HM2 hm2 hl2
  refine (toR_own _ r _ (HK0.out _ HB_2.out) HS0.out).mono ?_
  rintro e w3 ⟨u0, bu, rfl, hu, hb⟩
  have HU0 := Lib.hid (show RdR _ _ _ from hu.rd)
  clear hu
  have hx0 := (HR2.out).below hb (HR2.out).lt
  have HZ3 := Lib.hid hb.size
  have HB_3 := Lib.hid (below_step HB_2.out hb)
  clear HB_2
  clear HR2
  have HR3 := Lib.hid (show _ from hx0)
  clear hb hx0
  clear q2_0_0 q2_0_1 q2_0_2 q2_0_3 lt2_0
  obtain ⟨⟨q3_0_0, q3_0_1, q3_0_2, q3_0_3⟩, -⟩ := (HR3.out).four
  have lt3_0 := (HR3.out).lt
  go_wp2_with fail
  refine (toS_arg _ ends _ (HK2.out _ HB_3.out) HS2.out).mono ?_
  rintro e w4 ⟨u2, bu, rfl, hu, hb⟩
  have HU2 := Lib.hid (show RdS _ _ _ from hu.1.rd)
  clear hu
  have HU0' := Lib.hid (keepsR _ _ _ _ HU0.out hb)
  clear HU0
  have HU0 := HU0'
  clear HU0'
  have hx0 := (HR3.out).below hb (HR3.out).lt
  have HZ4 := Lib.hid hb.size
  have HB_4 := Lib.hid (below_step HB_3.out hb)
  clear HB_3
  clear HR3
  have HR4 := Lib.hid (show _ from hx0)
  clear hb hx0
  clear q3_0_0 q3_0_1 q3_0_2 q3_0_3 lt3_0
  obtain ⟨⟨q4_0_0, q4_0_1, q4_0_2, q4_0_3⟩, -⟩ := (HR4.out).four
  have lt4_0 := (HR4.out).lt
  go_wp2_with fail
  refine (specRowOf_rd _ _ r s ends _ HU0.out HU2.out s1 HS2.out).mono ?_
  rintro e w5 ⟨u0, rfl, hrd0, hb⟩
  clear HU0 HU2
  have hsx := rdB_shape (hrd0)
  obtain ⟨Bw, kw, rfl⟩ := hsx
  have HRW := Lib.hid hrd0
  clear hrd0
  have hx0 := (HR4.out).below hb (HR4.out).lt
  have HZ5 := Lib.hid hb.size
  have HB_5 := Lib.hid (below_step HB_4.out hb)
  clear HB_4
  clear HR4
  have HR5 := Lib.hid (show _ from hx0)
  clear hb hx0
  clear q4_0_0 q4_0_1 q4_0_2 q4_0_3 lt4_0
  obtain ⟨⟨q5_0_0, q5_0_1, q5_0_2, q5_0_3⟩, -⟩ := (HR5.out).four
  have lt5_0 := (HR5.out).lt
  have AW := Lib.hid (Below.refl w5.heap.size w5)
  go_wp2_with fail
  refine (toR_own _ r _ (HK0.out _ HB_5.out) HS0.out).mono ?_
  rintro e w6 ⟨x0, bx0, rfl, hx, hb⟩
  have hxr : RdR _ _ _ := hx.rd
  have hsx := hxr.shape
  obtain ⟨Ax0, cx0, Bx0, dx0, rfl⟩ := hsx
  have HX0 := Lib.hid hx
  have HXB0 := Lib.hid (fun (x : Nat) hm => goodR.lt hx (b := x) hm)
  clear hx hxr
  have hx0 := (HR5.out).below hb (HR5.out).lt
  have HZ6 := Lib.hid hb.size
  have HB_6 := Lib.hid (below_step HB_5.out hb)
  clear HB_5
  have AW_6 := Lib.hid (below_step AW.out hb)
  clear AW
  clear HR5
  have HR6 := Lib.hid (show _ from hx0)
  clear hb hx0
  clear q5_0_0 q5_0_1 q5_0_2 q5_0_3 lt5_0
  obtain ⟨⟨q6_0_0, q6_0_1, q6_0_2, q6_0_3⟩, -⟩ := (HR6.out).four
  have lt6_0 := (HR6.out).lt
  have AX0 := Lib.hid (Below.refl w6.heap.size w6)
  go_wp2_with fail
  refine (toS_arg _ ends _ (HK2.out _ (HB_6.out.alloc HB_6.out.size _)) HS2.out).mono ?_
  rintro e w7 ⟨x2, bx2, rfl, hx, hb⟩
  have hxr : RdS _ _ _ := hx.1.rd
  have hsx := rdS_shape hxr
  obtain ⟨Bx2, kx2, rfl⟩ := hsx
  have HX2 := Lib.hid hx
  have HXB2 := Lib.hid (fun (x : Nat) hm => (goodV strs 9).lt hx (b := x) hm)
  clear hx hxr
  have hst := below_step (below_alloc w6 (.cells #[.int .i64 r.L, .int .i64 r.S, .slice Ax0 r.acc.length cx0, .slice Bx0 r.next.length dx0] 29)) hb
  have hx0 := (HR6.out).below hst (HR6.out).lt
  have hx1 := (Row.new w6 [.int .i64 r.L, .int .i64 r.S, .slice Ax0 r.acc.length cx0, .slice Bx0 r.next.length dx0] 29).below hb (Row.new w6 [.int .i64 r.L, .int .i64 r.S, .slice Ax0 r.acc.length cx0, .slice Bx0 r.next.length dx0] 29).lt
  have HZ7 := Lib.hid (show w6.heap.size + 1 ≤ w7.heap.size by have := hb.size; simpa using this)
  have HB_7 := Lib.hid (below_step HB_6.out hst)
  clear HB_6
  have AW_7 := Lib.hid (below_step AW_6.out hst)
  clear AW_6
  have X0_7 := Lib.hid (below_step AX0.out hst)
  clear AX0
  clear HR6
  have HR7 := Lib.hid (show _ ∧ _ from ⟨hx0, hx1⟩)
  clear hb hx0 hx1 hst
  clear q6_0_0 q6_0_1 q6_0_2 q6_0_3 lt6_0
  obtain ⟨⟨q7_0_0, q7_0_1, q7_0_2, q7_0_3⟩, -⟩ := (HR7.out.1).four
  have lt7_0 := (HR7.out.1).lt
  obtain ⟨⟨q7_1_0, q7_1_1, q7_1_2, q7_1_3⟩, -⟩ := (HR7.out.2).four
  have lt7_1 := (HR7.out.2).lt
  have AX2 := Lib.hid (Below.refl w7.heap.size w7)
  go_wp2_with fail
  refine (implRowOf_own _ _ r s ends _ (keepsR _ _ _ _ HX0.out.rd X0_7.out) (keepsS _ _ _ _ HX2.out.1.rd AX2.out) s1 HS2.out).mono ?_
  rintro e w8 ⟨g, bg, rfl, hg, hb⟩
  have hgr : RdB _ _ _ := hg.1.rd
  have hsx := rdB_shape (hgr)
  obtain ⟨Bg, kg, rfl⟩ := hsx
  have HG := Lib.hid hg
  have HGB := Lib.hid (fun (x : Nat) hm => (goodV bools 4).lt hg (b := x) hm)
  clear hg hgr
  have hx0 := (HR7.out.1).below hb (HR7.out.1).lt
  have hx1 := (HR7.out.2).below hb (HR7.out.2).lt
  have HZ8 := Lib.hid hb.size
  have HB_8 := Lib.hid (below_step HB_7.out hb)
  clear HB_7
  have AW_8 := Lib.hid (below_step AW_7.out hb)
  clear AW_7
  have X0_8 := Lib.hid (below_step X0_7.out hb)
  clear X0_7
  have X2_8 := Lib.hid (below_step AX2.out hb)
  clear AX2
  clear HR7
  have HR8 := Lib.hid (show _ ∧ _ from ⟨hx0, hx1⟩)
  clear hb hx0 hx1
  clear q7_0_0 q7_0_1 q7_0_2 q7_0_3 lt7_0 q7_1_0 q7_1_1 q7_1_2 q7_1_3 lt7_1
  obtain ⟨⟨q8_0_0, q8_0_1, q8_0_2, q8_0_3⟩, -⟩ := (HR8.out.1).four
  have lt8_0 := (HR8.out.1).lt
  obtain ⟨⟨q8_1_0, q8_1_1, q8_1_2, q8_1_3⟩, -⟩ := (HR8.out.2).four
  have lt8_1 := (HR8.out.2).lt
  have AG := Lib.hid (Below.refl w8.heap.size w8)
  have hne1 : ((rowRes r s ends).2 != (rowRes r s ends).2) = false := by simp
  go_wp2_with fail
  refine (eqB_arg _ _ (rowRes r s ends).1 _ (keepsB _ _ _ _ HG.out.1.rd AG.out) (keepsB _ _ _ _ HRW.out AW_8.out)).mono ?_
  rintro e w9 ⟨rfl, hb⟩
  have hx0 := (HR8.out.1).below hb (HR8.out.1).lt
  have hx1 := (HR8.out.2).below hb (HR8.out.2).lt
  have HZ9 := Lib.hid hb.size
  have HB_9 := Lib.hid (below_step HB_8.out hb)
  clear HB_8
  have AW_9 := Lib.hid (below_step AW_8.out hb)
  clear AW_8
  have X0_9 := Lib.hid (below_step X0_8.out hb)
  clear X0_8
  have X2_9 := Lib.hid (below_step X2_8.out hb)
  clear X2_8
  have G_9 := Lib.hid (below_step AG.out hb)
  clear AG
  clear HR8
  have HR9 := Lib.hid (show _ ∧ _ from ⟨hx0, hx1⟩)
  clear hb hx0 hx1
  clear q8_0_0 q8_0_1 q8_0_2 q8_0_3 lt8_0 q8_1_0 q8_1_1 q8_1_2 q8_1_3 lt8_1
  obtain ⟨⟨q9_0_0, q9_0_1, q9_0_2, q9_0_3⟩, -⟩ := (HR9.out.1).four
  have lt9_0 := (HR9.out.1).lt
  obtain ⟨⟨q9_1_0, q9_1_1, q9_1_2, q9_1_3⟩, -⟩ := (HR9.out.2).four
  have lt9_1 := (HR9.out.2).lt
  go_wp2_with fail
  go_region_held3 (fun W => W.cell? ⟨w.heap.size, 0, none⟩ = some (.int .i64 r.L) ∧ W.cell? ⟨w.heap.size, 1, none⟩ = some (.int .i64 r.S) ∧ W.cell? ⟨w.heap.size, 2, none⟩ = some (.slice A0 r.acc.length c0) ∧ W.cell? ⟨w.heap.size, 3, none⟩ = some (.slice B0 r.next.length d0) ∧ W.cell? ⟨w6.heap.size, 0, none⟩ = some (.int .i64 r.L) ∧ W.cell? ⟨w6.heap.size, 1, none⟩ = some (.int .i64 r.S) ∧ W.cell? ⟨w6.heap.size, 2, none⟩ = some (.slice Ax0 r.acc.length cx0) ∧ W.cell? ⟨w6.heap.size, 3, none⟩ = some (.slice Bx0 r.next.length dx0))
    (first | go_keep | (go_split_ands; refine ⟨?_, ?_, ?_, ?_, ?_, ?_, ?_, ?_⟩ <;> exact below_keep hbk (by assumption)))
    (first
      | (go_at_call 14; (with_reducible refine (toR_own _ r _ (HK0.out _ ?_) HS0.out).mono ?_); (exact below_step HB_9.out (by first | exact Below.refl _ _ | exact below_drew _ | exact below_drewN' _ _)); rintro e wy0 ⟨y0, by0, rfl, hy, hbk⟩; have HCy := Lib.hid (show Below w9.heap.size w9 wy0 from below_step (by first | exact Below.refl _ _ | exact below_drew _ | exact below_drewN' _ _) hbk); have HY := Lib.hid hy.rd; clear hy)
      | (go_at_call 16; refine (eqR_same _ _ r _ (keepsR _ _ _ _ HX0.out.rd (below_step X0_9.out HCy.out)) HY.out).mono ?_; rintro e wz0 ⟨rfl, hbk⟩; have HCz := Lib.hid (below_step HCy.out hbk)))
  have hb := HCz.out
  clear HCz HCy HY hbk
  have hx0 := (HR9.out.1).below hb (HR9.out.1).lt
  have hx1 := (HR9.out.2).below hb (HR9.out.2).lt
  have HZ10 := Lib.hid hb.size
  have HB_10 := Lib.hid (below_step HB_9.out hb)
  clear HB_9
  have AW_10 := Lib.hid (below_step AW_9.out hb)
  clear AW_9
  have X0_10 := Lib.hid (below_step X0_9.out hb)
  clear X0_9
  have X2_10 := Lib.hid (below_step X2_9.out hb)
  clear X2_9
  have G_10 := Lib.hid (below_step G_9.out hb)
  clear G_9
  clear HR9
  have HR10 := Lib.hid (show _ ∧ _ from ⟨hx0, hx1⟩)
  clear hb hx0 hx1
  clear q9_0_0 q9_0_1 q9_0_2 q9_0_3 lt9_0 q9_1_0 q9_1_1 q9_1_2 q9_1_3 lt9_1
  obtain ⟨⟨q10_0_0, q10_0_1, q10_0_2, q10_0_3⟩, -⟩ := (HR10.out.1).four
  have lt10_0 := (HR10.out.1).lt
  obtain ⟨⟨q10_1_0, q10_1_1, q10_1_2, q10_1_3⟩, -⟩ := (HR10.out.2).four
  have lt10_1 := (HR10.out.2).lt
  go_wp2_with fail
  refine (toS_arg _ ends _ (HK2.out _ HB_10.out) HS2.out).mono ?_
  rintro e w11 ⟨y2, by0, rfl, hy, hb⟩
  have HY := Lib.hid (show RdS _ _ _ from hy.1.rd)
  clear hy
  have hx0 := (HR10.out.1).below hb (HR10.out.1).lt
  have hx1 := (HR10.out.2).below hb (HR10.out.2).lt
  have HZ11 := Lib.hid hb.size
  have HB_11 := Lib.hid (below_step HB_10.out hb)
  clear HB_10
  have AW_11 := Lib.hid (below_step AW_10.out hb)
  clear AW_10
  have X0_11 := Lib.hid (below_step X0_10.out hb)
  clear X0_10
  have X2_11 := Lib.hid (below_step X2_10.out hb)
  clear X2_10
  have G_11 := Lib.hid (below_step G_10.out hb)
  clear G_10
  clear HR10
  have HR11 := Lib.hid (show _ ∧ _ from ⟨hx0, hx1⟩)
  clear hb hx0 hx1
  clear q10_0_0 q10_0_1 q10_0_2 q10_0_3 lt10_0 q10_1_0 q10_1_1 q10_1_2 q10_1_3 lt10_1
  obtain ⟨⟨q11_0_0, q11_0_1, q11_0_2, q11_0_3⟩, -⟩ := (HR11.out.1).four
  have lt11_0 := (HR11.out.1).lt
  obtain ⟨⟨q11_1_0, q11_1_1, q11_1_2, q11_1_3⟩, -⟩ := (HR11.out.2).four
  have lt11_1 := (HR11.out.2).lt
  go_wp2_with fail
  refine (eqS_arg _ _ ends _ (keepsS _ _ _ _ HX2.out.1.rd X2_11.out) HY.out).mono ?_
  rintro e w12 ⟨rfl, hb⟩
  clear HY
  have hx0 := (HR11.out.1).below hb (HR11.out.1).lt
  have hx1 := (HR11.out.2).below hb (HR11.out.2).lt
  have HZ12 := Lib.hid hb.size
  have HB_12 := Lib.hid (below_step HB_11.out hb)
  clear HB_11
  have AW_12 := Lib.hid (below_step AW_11.out hb)
  clear AW_11
  have X0_12 := Lib.hid (below_step X0_11.out hb)
  clear X0_11
  have X2_12 := Lib.hid (below_step X2_11.out hb)
  clear X2_11
  have G_12 := Lib.hid (below_step G_11.out hb)
  clear G_11
  clear HR11
  have HR12 := Lib.hid (show _ ∧ _ from ⟨hx0, hx1⟩)
  clear hb hx0 hx1
  clear q11_0_0 q11_0_1 q11_0_2 q11_0_3 lt11_0 q11_1_0 q11_1_1 q11_1_2 q11_1_3 lt11_1
  obtain ⟨⟨q12_0_0, q12_0_1, q12_0_2, q12_0_3⟩, -⟩ := (HR12.out.1).four
  have lt12_0 := (HR12.out.1).lt
  obtain ⟨⟨q12_1_0, q12_1_1, q12_1_2, q12_1_3⟩, -⟩ := (HR12.out.2).four
  have lt12_1 := (HR12.out.2).lt
  go_wp2_with fail
  have ox := goodR.below HX0.out X0_12.out
  have ox2 := (goodV strs 9).below HX2.out X2_12.out
  have og := (goodV bools 4).below HG.out G_12.out
  have HNM := Lib.hid (numR_le r)
  refine (markR_own _ r bx0 _ (1) _ ox (by omega) (by have a := HNM.out; have b := HCN0.out; omega)).mono ?_
  rintro e w13 ⟨rfl, -, hT⟩
  have zz0 := HZ.out
  have zz1 := HZ1.out
  have zz2 := HZ2.out
  have zz3 := HZ3.out
  have zz4 := HZ4.out
  have zz5 := HZ5.out
  have zz6 := HZ6.out
  have zz7 := HZ7.out
  have zz8 := HZ8.out
  have zz9 := HZ9.out
  have zz10 := HZ10.out
  have zz11 := HZ11.out
  have zz12 := HZ12.out
  have bd := HXB0.out
  have hx0 := (HR12.out.1).same (hT.block (w.heap.size) (HR12.out.1).lt (fun hm => by have := bd _ hm; first | omega | (simp at this; done) | (simp at this; omega)))
  have hx1 := (HR12.out.2).same (hT.block (w6.heap.size) (HR12.out.2).lt (fun hm => by have := bd _ hm; first | omega | (simp at this; done) | (simp at this; omega)))
  have HB_13 := Lib.hid (HB_12.out.trans (hT.below HB_12.out.size (fun b hm => by have := bd _ hm; first | omega | (simp at this; omega))))
  clear HB_12
  have AW_13 := Lib.hid (AW_12.out.trans (hT.below AW_12.out.size (fun b hm => by have := bd _ hm; first | omega | (simp at this; omega))))
  clear AW_12
  have HGk := Lib.hid (hT.keep (goodV bools 4) og (fun c hc hm => by have a1 := bd _ hm; have a2 := (goodV bools 4).lt og hc; first | omega | (simp at a1 a2; omega) | (simp at a1; omega) | (simp at a2; omega)))
  have HX2k := Lib.hid (hT.keep (goodV strs 9) ox2 (fun c hc hm => by have a1 := bd _ hm; have a2 := (goodV strs 9).lt ox2 hc; first | omega | (simp at a1 a2; omega) | (simp at a1; omega) | (simp at a2; omega)))
  have HZ13 := Lib.hid hT.size
  clear zz0 zz1 zz2 zz3 zz4 zz5 zz6 zz7 zz8 zz9 zz10 zz11 zz12
  clear bd hT HR12
  have HR13 := Lib.hid (show _ ∧ _ from ⟨hx0, hx1⟩)
  clear hx0 hx1
  clear q12_0_0 q12_0_1 q12_0_2 q12_0_3 lt12_0 q12_1_0 q12_1_1 q12_1_2 q12_1_3 lt12_1
  obtain ⟨⟨q13_0_0, q13_0_1, q13_0_2, q13_0_3⟩, -⟩ := (HR13.out.1).four
  have lt13_0 := (HR13.out.1).lt
  obtain ⟨⟨q13_1_0, q13_1_1, q13_1_2, q13_1_3⟩, -⟩ := (HR13.out.2).four
  have lt13_1 := (HR13.out.2).lt
  clear og HG ox
  have HG := HGk
  clear HGk
  have AG13 := Lib.hid (Below.refl w13.heap.size w13)
  clear ox2 HX2
  have HX2 := HX2k
  clear HX2k
  have AX2_13 := Lib.hid (Below.refl w13.heap.size w13)
  have HBD0 := Lib.hid (show (numR r : Int) ≤ 4194304 from by have a := HNM.out; have b := HCN0.out; omega)
  have kp0 : (0 : Int) ≤ 1 + (numR r : Int) := by omega
  have kq0 : 1 + (numR r : Int) ≤ 2305843009213693952 := by have b0 := HBD0.out; omega
  clear HNM
  go_wp2_with fail
  have ox := (goodV strs 9).below HX2.out AX2_13.out
  have og := (goodV bools 4).below HG.out AG13.out
  have HNM := Lib.hid True.intro
  refine (markS_arg _ ends bx2 _ (1 + (numR r : Int)) _ ox (by omega) (by have b := HCN2.out; omega)).mono ?_
  rintro e w14 ⟨rfl, hT⟩
  have zz0 := HZ.out
  have zz1 := HZ1.out
  have zz2 := HZ2.out
  have zz3 := HZ3.out
  have zz4 := HZ4.out
  have zz5 := HZ5.out
  have zz6 := HZ6.out
  have zz7 := HZ7.out
  have zz8 := HZ8.out
  have zz9 := HZ9.out
  have zz10 := HZ10.out
  have zz11 := HZ11.out
  have zz12 := HZ12.out
  have zz13 := HZ13.out
  have bd := HXB2.out
  have hx0 := (HR13.out.1).same (hT.block (w.heap.size) (HR13.out.1).lt (fun hm => by have := bd _ hm; first | omega | (simp at this; done) | (simp at this; omega)))
  have hx1 := (HR13.out.2).same (hT.block (w6.heap.size) (HR13.out.2).lt (fun hm => by have := bd _ hm; first | omega | (simp at this; done) | (simp at this; omega)))
  have HB_14 := Lib.hid (HB_13.out.trans (hT.below HB_13.out.size (fun b hm => by have := bd _ hm; first | omega | (simp at this; omega))))
  clear HB_13
  have AW_14 := Lib.hid (AW_13.out.trans (hT.below AW_13.out.size (fun b hm => by have := bd _ hm; first | omega | (simp at this; omega))))
  clear AW_13
  have HGk := Lib.hid (hT.keep (goodV bools 4) og (fun c hc hm => by have a1 := bd _ hm; have a2 := (goodV bools 4).lt og hc; first | omega | (simp at a1 a2; omega) | (simp at a1; omega) | (simp at a2; omega)))
  have HZ14 := Lib.hid hT.size
  clear zz0 zz1 zz2 zz3 zz4 zz5 zz6 zz7 zz8 zz9 zz10 zz11 zz12 zz13
  clear bd hT HR13
  have HR14 := Lib.hid (show _ ∧ _ from ⟨hx0, hx1⟩)
  clear hx0 hx1
  clear q13_0_0 q13_0_1 q13_0_2 q13_0_3 lt13_0 q13_1_0 q13_1_1 q13_1_2 q13_1_3 lt13_1
  obtain ⟨⟨q14_0_0, q14_0_1, q14_0_2, q14_0_3⟩, -⟩ := (HR14.out.1).four
  have lt14_0 := (HR14.out.1).lt
  obtain ⟨⟨q14_1_0, q14_1_1, q14_1_2, q14_1_3⟩, -⟩ := (HR14.out.2).four
  have lt14_1 := (HR14.out.2).lt
  clear og HG ox
  have HG := HGk
  clear HGk
  have AG14 := Lib.hid (Below.refl w14.heap.size w14)
  have HBD2 := Lib.hid (show (ends.length : Int) ≤ 4194304 from by have b := HCN2.out; omega)
  have kp1 : (0 : Int) ≤ 1 + (numR r : Int) + (ends.length : Int) := by omega
  have kq1 : 1 + (numR r : Int) + (ends.length : Int) ≤ 2305843009213693952 := by have b0 := HBD0.out; have b2 := HBD2.out; omega
  clear HNM
  go_wp2_with fail
  refine (eqB_arg _ _ (rowRes r s ends).1 _ (keepsB _ _ _ _ HG.out.1.rd AG14.out) (keepsB _ _ _ _ HRW.out AW_14.out)).mono ?_
  rintro e w15 ⟨rfl, hb⟩
  have hx0 := (HR14.out.1).below hb (HR14.out.1).lt
  have hx1 := (HR14.out.2).below hb (HR14.out.2).lt
  have HZ15 := Lib.hid hb.size
  have HB_15 := Lib.hid (below_step HB_14.out hb)
  clear HB_14
  have AW_15 := Lib.hid (below_step AW_14.out hb)
  clear AW_14
  have G_15 := Lib.hid (below_step AG14.out hb)
  clear AG14
  clear HR14
  have HR15 := Lib.hid (show _ ∧ _ from ⟨hx0, hx1⟩)
  clear hb hx0 hx1
  clear q14_0_0 q14_0_1 q14_0_2 q14_0_3 lt14_0 q14_1_0 q14_1_1 q14_1_2 q14_1_3 lt14_1
  obtain ⟨⟨q15_0_0, q15_0_1, q15_0_2, q15_0_3⟩, -⟩ := (HR15.out.1).four
  have lt15_0 := (HR15.out.1).lt
  obtain ⟨⟨q15_1_0, q15_1_1, q15_1_2, q15_1_3⟩, -⟩ := (HR15.out.2).four
  have lt15_1 := (HR15.out.2).lt
  go_wp2_with fail
  have HN := Lib.hid (show (((rowRes r s ends).1).length : Int) ≤ 2305843009213693952 from by exact rowRes_num r s ends)
  have og := (goodV bools 4).below HG.out G_15.out
  refine (markBoolS_own _ ((rowRes r s ends).1) bg _ 1 _ og (by omega) (by have a := HN.out; omega)).mono ?_
  rintro e w16 ⟨rfl, hm, hT0⟩
  have hT := Only.turned hT0
  clear hT0
  have HM := Lib.hid hm
  clear hm
  have zz0 := HZ.out
  have zz1 := HZ1.out
  have zz2 := HZ2.out
  have zz3 := HZ3.out
  have zz4 := HZ4.out
  have zz5 := HZ5.out
  have zz6 := HZ6.out
  have zz7 := HZ7.out
  have zz8 := HZ8.out
  have zz9 := HZ9.out
  have zz10 := HZ10.out
  have zz11 := HZ11.out
  have zz12 := HZ12.out
  have zz13 := HZ13.out
  have zz14 := HZ14.out
  have zz15 := HZ15.out
  have bd := HGB.out
  have hx0 := (HR15.out.1).same (hT.block (w.heap.size) (HR15.out.1).lt (fun hm => by have := bd _ hm; first | omega | (simp at this; done) | (simp at this; omega)))
  have hx1 := (HR15.out.2).same (hT.block (w6.heap.size) (HR15.out.2).lt (fun hm => by have := bd _ hm; first | omega | (simp at this; done) | (simp at this; omega)))
  have HB_16 := Lib.hid (HB_15.out.trans (hT.below HB_15.out.size (fun b hm => by have := bd _ hm; first | omega | (simp at this; omega))))
  clear HB_15
  have AW_16 := Lib.hid (AW_15.out.trans (hT.below AW_15.out.size (fun b hm => by have := bd _ hm; first | omega | (simp at this; omega))))
  clear AW_15
  have HZ16 := Lib.hid hT.size
  clear zz0 zz1 zz2 zz3 zz4 zz5 zz6 zz7 zz8 zz9 zz10 zz11 zz12 zz13 zz14 zz15
  clear bd hT HR15
  have HR16 := Lib.hid (show _ ∧ _ from ⟨hx0, hx1⟩)
  clear hx0 hx1
  clear q15_0_0 q15_0_1 q15_0_2 q15_0_3 lt15_0 q15_1_0 q15_1_1 q15_1_2 q15_1_3 lt15_1
  obtain ⟨⟨q16_0_0, q16_0_1, q16_0_2, q16_0_3⟩, -⟩ := (HR16.out.1).four
  have lt16_0 := (HR16.out.1).lt
  obtain ⟨⟨q16_1_0, q16_1_1, q16_1_2, q16_1_3⟩, -⟩ := (HR16.out.2).four
  have lt16_1 := (HR16.out.2).lt
  clear og HG
  have AM := Lib.hid (Below.refl w16.heap.size w16)
  have kq : (0 : Int) ≤ 1 + (((rowRes r s ends).1).length : Int) := by omega
  have hnq : (1 + (((rowRes r s ends).1).length : Int) != 1 + (((rowRes r s ends).1).length : Int)) = false := by simp
  go_wp2_with fail
  refine (heldBoolS_any _ ((rowRes r s ends).1) 1 _ (keepsB _ _ _ _ HM.out.1.rd AM.out) (by omega) (by have a := HN.out; omega)).mono ?_
  rintro e w17 ⟨rfl, hq⟩
  have hb := hq.below
  clear hq
  have hx0 := (HR16.out.1).below hb (HR16.out.1).lt
  have hx1 := (HR16.out.2).below hb (HR16.out.2).lt
  have HZ17 := Lib.hid hb.size
  have HB_17 := Lib.hid (below_step HB_16.out hb)
  clear HB_16
  have AW_17 := Lib.hid (below_step AW_16.out hb)
  clear AW_16
  have HM_17 := Lib.hid (below_step AM.out hb)
  clear AM
  clear HR16
  have HR17 := Lib.hid (show _ ∧ _ from ⟨hx0, hx1⟩)
  clear hb hx0 hx1
  clear q16_0_0 q16_0_1 q16_0_2 q16_0_3 lt16_0 q16_1_0 q16_1_1 q16_1_2 q16_1_3 lt16_1
  obtain ⟨⟨q17_0_0, q17_0_1, q17_0_2, q17_0_3⟩, -⟩ := (HR17.out.1).four
  have lt17_0 := (HR17.out.1).lt
  obtain ⟨⟨q17_1_0, q17_1_1, q17_1_2, q17_1_3⟩, -⟩ := (HR17.out.2).four
  have lt17_1 := (HR17.out.2).lt
  go_wp2_with fail
  refine (toR_own _ r _ (HK0.out _ HB_17.out) HS0.out).mono ?_
  rintro e w18 ⟨u0, bu, rfl, hu, hb⟩
  have HU0 := Lib.hid (show RdR _ _ _ from hu.rd)
  clear hu
  have hx0 := (HR17.out.1).below hb (HR17.out.1).lt
  have hx1 := (HR17.out.2).below hb (HR17.out.2).lt
  have HZ18 := Lib.hid hb.size
  have HB_18 := Lib.hid (below_step HB_17.out hb)
  clear HB_17
  have AW_18 := Lib.hid (below_step AW_17.out hb)
  clear AW_17
  have HM_18 := Lib.hid (below_step HM_17.out hb)
  clear HM_17
  clear HR17
  have HR18 := Lib.hid (show _ ∧ _ from ⟨hx0, hx1⟩)
  clear hb hx0 hx1
  clear q17_0_0 q17_0_1 q17_0_2 q17_0_3 lt17_0 q17_1_0 q17_1_1 q17_1_2 q17_1_3 lt17_1
  obtain ⟨⟨q18_0_0, q18_0_1, q18_0_2, q18_0_3⟩, -⟩ := (HR18.out.1).four
  have lt18_0 := (HR18.out.1).lt
  obtain ⟨⟨q18_1_0, q18_1_1, q18_1_2, q18_1_3⟩, -⟩ := (HR18.out.2).four
  have lt18_1 := (HR18.out.2).lt
  go_wp2_with fail
  refine (toS_arg _ ends _ (HK2.out _ HB_18.out) HS2.out).mono ?_
  rintro e w19 ⟨u2, bu, rfl, hu, hb⟩
  have HU2 := Lib.hid (show RdS _ _ _ from hu.1.rd)
  clear hu
  have HU0' := Lib.hid (keepsR _ _ _ _ HU0.out hb)
  clear HU0
  have HU0 := HU0'
  clear HU0'
  have hx0 := (HR18.out.1).below hb (HR18.out.1).lt
  have hx1 := (HR18.out.2).below hb (HR18.out.2).lt
  have HZ19 := Lib.hid hb.size
  have HB_19 := Lib.hid (below_step HB_18.out hb)
  clear HB_18
  have AW_19 := Lib.hid (below_step AW_18.out hb)
  clear AW_18
  have HM_19 := Lib.hid (below_step HM_18.out hb)
  clear HM_18
  clear HR18
  have HR19 := Lib.hid (show _ ∧ _ from ⟨hx0, hx1⟩)
  clear hb hx0 hx1
  clear q18_0_0 q18_0_1 q18_0_2 q18_0_3 lt18_0 q18_1_0 q18_1_1 q18_1_2 q18_1_3 lt18_1
  obtain ⟨⟨q19_0_0, q19_0_1, q19_0_2, q19_0_3⟩, -⟩ := (HR19.out.1).four
  have lt19_0 := (HR19.out.1).lt
  obtain ⟨⟨q19_1_0, q19_1_1, q19_1_2, q19_1_3⟩, -⟩ := (HR19.out.2).four
  have lt19_1 := (HR19.out.2).lt
  go_wp2_with fail
  refine (implRowOf_own _ _ r s ends _ HU0.out HU2.out s1 HS2.out).mono ?_
  rintro e w20 ⟨g, bh, rfl, hg, hb⟩
  clear HU0 HU2
  have hgr : RdB _ _ _ := hg.1.rd
  have hsx := rdB_shape (hgr)
  obtain ⟨Bh, kh, rfl⟩ := hsx
  have HH := Lib.hid hgr
  clear hg hgr
  have hx0 := (HR19.out.1).below hb (HR19.out.1).lt
  have hx1 := (HR19.out.2).below hb (HR19.out.2).lt
  have HZ20 := Lib.hid hb.size
  have HB_20 := Lib.hid (below_step HB_19.out hb)
  clear HB_19
  have AW_20 := Lib.hid (below_step AW_19.out hb)
  clear AW_19
  have HM_20 := Lib.hid (below_step HM_19.out hb)
  clear HM_19
  clear HR19
  have HR20 := Lib.hid (show _ ∧ _ from ⟨hx0, hx1⟩)
  clear hb hx0 hx1
  clear q19_0_0 q19_0_1 q19_0_2 q19_0_3 lt19_0 q19_1_0 q19_1_1 q19_1_2 q19_1_3 lt19_1
  obtain ⟨⟨q20_0_0, q20_0_1, q20_0_2, q20_0_3⟩, -⟩ := (HR20.out.1).four
  have lt20_0 := (HR20.out.1).lt
  obtain ⟨⟨q20_1_0, q20_1_1, q20_1_2, q20_1_3⟩, -⟩ := (HR20.out.2).four
  have lt20_1 := (HR20.out.2).lt
  go_wp2_with fail
  refine (eqB_arg _ _ (rowRes r s ends).1 _ HH.out (keepsB _ _ _ _ HRW.out AW_20.out)).mono ?_
  rintro e w21 ⟨rfl, hb⟩
  have hx0 := (HR20.out.1).below hb (HR20.out.1).lt
  have hx1 := (HR20.out.2).below hb (HR20.out.2).lt
  have HZ21 := Lib.hid hb.size
  have HB_21 := Lib.hid (below_step HB_20.out hb)
  clear HB_20
  have AW_21 := Lib.hid (below_step AW_20.out hb)
  clear AW_20
  have HM_21 := Lib.hid (below_step HM_20.out hb)
  clear HM_20
  clear HR20
  have HR21 := Lib.hid (show _ ∧ _ from ⟨hx0, hx1⟩)
  clear hb hx0 hx1
  clear q20_0_0 q20_0_1 q20_0_2 q20_0_3 lt20_0 q20_1_0 q20_1_1 q20_1_2 q20_1_3 lt20_1
  obtain ⟨⟨q21_0_0, q21_0_1, q21_0_2, q21_0_3⟩, -⟩ := (HR21.out.1).four
  have lt21_0 := (HR21.out.1).lt
  obtain ⟨⟨q21_1_0, q21_1_1, q21_1_2, q21_1_3⟩, -⟩ := (HR21.out.2).four
  have lt21_1 := (HR21.out.2).lt
  go_wp2_with fail
  refine (heldBoolS_any _ ((rowRes r s ends).1) 1 _ (keepsB _ _ _ _ HM.out.1.rd HM_21.out) (by omega) (by have a := HN.out; omega)).mono ?_
  rintro e w22 ⟨rfl, hq⟩
  have hb := hq.below
  clear hq
  have hx0 := (HR21.out.1).below hb (HR21.out.1).lt
  have hx1 := (HR21.out.2).below hb (HR21.out.2).lt
  have HZ22 := Lib.hid hb.size
  have HB_22 := Lib.hid (below_step HB_21.out hb)
  clear HB_21
  have AW_22 := Lib.hid (below_step AW_21.out hb)
  clear AW_21
  have HM_22 := Lib.hid (below_step HM_21.out hb)
  clear HM_21
  clear HR21
  have HR22 := Lib.hid (show _ ∧ _ from ⟨hx0, hx1⟩)
  clear hb hx0 hx1
  clear q21_0_0 q21_0_1 q21_0_2 q21_0_3 lt21_0 q21_1_0 q21_1_1 q21_1_2 q21_1_3 lt21_1
  obtain ⟨⟨q22_0_0, q22_0_1, q22_0_2, q22_0_3⟩, -⟩ := (HR22.out.1).four
  have lt22_0 := (HR22.out.1).lt
  obtain ⟨⟨q22_1_0, q22_1_1, q22_1_2, q22_1_3⟩, -⟩ := (HR22.out.2).four
  have lt22_1 := (HR22.out.2).lt
  go_wp2
  go_ret
  exact ⟨rfl, HB_22.out⟩

theorem own : ownKnob Try.prog.godebug = none := by kernel_rfl
theorem laidOut : laidOutB Try.prog = true := by kernel_rfl

set_option maxRecDepth 100000 in
theorem lifted (os : Os) (started : os.Started) (H : Type) (enc : TypeId × Value → H) :
    ReturnsInHanded {} Try.checked os 5 .any (Rows.fnExactRowOfSpec.pre6 enc Try.prog Try.f5 Rows.fnExactRowOfRow.domain false) (Rows.fnExactRowOfSpec.post enc Try.prog Try.f5 false true false false) := by
  refine returnsInHanded_of_change_sized (C := Try.checked) own started (by kernel_rfl) Try.func5
    (ChangeSpec.witness6 (enc := enc) (C := Try.checked) false ⟨#[], #[.agg #[.int .i64 0, .int .i64 0, .slice none 0 0, .slice none 0 0], .string (ByteArray.mk #[]), .slice none 0 0], []⟩ 8 (by kernel_rfl) (by kernel_rfl) (by kernel_rfl) (by kernel_rfl)) ?_
  intro W base args ds gs before hval0 hW _ hsz0 _
  have hsz : (DataW.weightsEach Try.prog (Try.f5.params.toList ++ Rows.fnExactRowOfSpec.plain.varTypes Try.prog) (ds ++ gs)).all (· ≤ reachBytes) = true := hsz0
  clear hsz0
  have hval : ∀ (j : Nat) t v, Try.f5.params[j]? = some t → args[j]? = some v → Value.okWide Try.prog W .any base t v := hval0
  have hW' := hW
  obtain ⟨p, q, hA0, hV, rfl, hfz, hnd⟩ := hW
  have hA : DataW.TrodAll enc Try.prog W 0 (fun _ => true) true Try.f5.params.toList args.toList ds p := hA0
  have hK := fun W' hb => args_kept (W' := W') laidOut (by decide +kernel) hA hb
  rw [Try.params5] at hA hval hsz
  obtain ⟨v0, vs0, d0, ds0, p0, q0, hargs, rfl, rfl, h0, r0⟩ := trodAll_cons hA
  obtain ⟨v1, vs1, d1, ds1, p1, q1, rfl, rfl, rfl, h1, r1⟩ := trodAll_cons r0
  obtain ⟨v2, vs2, d2, ds2, p2, q2, rfl, rfl, rfl, h2, r2⟩ := trodAll_cons r1
  obtain ⟨rfl, rfl, rfl⟩ := trodAll_nil r2
  obtain rfl : args = #[v0, v1, v2] := by cases args; simp_all
  obtain ⟨rfl, rfl⟩ := trodVars_none hV
  obtain ⟨r, hr0, hs0⟩ := open_reader (hval 0 _ v0 rfl rfl) h0 (fit_arg hsz (j := 0) rfl rfl)
  have hf1 := fit_arg hsz (j := 1) rfl rfl
  obtain ⟨s, rfl, rfl, rfl, hl1⟩ := open_string Try.underlying9 (hval 1 _ v1 rfl rfl) h1
  obtain ⟨sa2, sl2, sc2, rfl⟩ := Go.WideShapes.okWide_slice Try.underlying35 (hval 2 _ v2 rfl rfl)
  obtain ⟨n2, hn2⟩ := h2
  obtain ⟨ends, hr2, hs2⟩ := (show Opens enc Try.prog W 0 true _ RdS SSmall from opens_strs Try.underlying35 Try.underlying9 (by kernel_rfl) (by kernel_rfl)) n2 (.slice sa2 sl2 sc2) (d2, p2) hn2 (fit_arg hsz (j := 2) rfl rfl)
  clear hA0 hval0
  refine (walk v0 r s (.slice sa2 sl2 sc2) ends W hr0 hs0 (fit_string hf1) hr2 hs2).mono fun e W' ⟨he, bel⟩ => ?_
  subst he
  exact ⟨_, rfl, _, _, _, [], _, [], hW', trodAll_mk1 (shut_bool Try.underlying4 _), hK W' bel, rfl, bel.frame _, fun h => by cases h⟩

theorem over : Rows.fnExactRowOfRow.holds Try.pinned (OpenSpec.ofChange Rows.fnExactRowOfSpec) :=
  OpenClaim.holds_of_wide 5 Try.f5 rfl rfl rfl rfl rfl rfl rfl ⟨rfl, rfl, rfl, rfl, rfl⟩ rfl rfl rfl rfl rfl (by kernel_rfl) Try.func5 (by kernel_rfl)
    (of_decide_eq_true (by kernel_rfl)) (by unfold Func.isWrapper; first | (rw [if_pos (by decide +kernel)]; kernel_rfl) | (rw [if_neg (by decide +kernel)]; exact ⟨rfl, rfl⟩))
    (fun os started H enc _ => lifted os started H enc)

theorem holds : Rows.FnExactRowOfSaid := over
#print axioms holds
end Go.Proofs.Ytjojmlaipcbmkaa.rowOf
