/-
  For every input that can be read as data, FnExactReaderOfShape returns true, and its arguments read behind the call as before: the program's ReaderOfShape answers as its model, and its answer is its own.
-/
import Derived.Test.YtjojmlaipcbmkaaRows
import Derived.Test.YtjojmlaipcbmkaaOpen
import Derived.Test.YtjojmlaipcbmkaaRs3
import Derived.Test.YtjojmlaipcbmkaaArg
import Derived.Test.YtjojmlaipcbmkaaZR
import Derived.Test.YtjojmlaipcbmkaaT8
namespace Go.Proofs.Ytjojmlaipcbmkaa.readerOfShape
open Go.ChangeShapes Go.WideShapes Go.ChangeAt Go.RowKit Go.Joins Go.Deep
open Go.ChangeMaps (open_string shut_string)
set_option linter.unusedVariables false

set_option maxRecDepth 100000 in
set_option maxHeartbeats 6400000 in
theorem walk (tail : Int) (v1 : Value) (acc : List Bool) (w : World) (s0 : (Lit.int .i64 tail).wf = true) (h1 : RdB w v1 acc) (s1 : BSmall acc) :
    Calls Try.prog 8 #[.int .i64 tail, v1] w fun e w' => e = .returned (.bool true) ∧ Below w.heap.size w w' := by
  have hs1 := rdB_shape h1
  obtain ⟨A1, c1, rfl⟩ := hs1
  have HK1 := Lib.hid (fun W (hb : Below w.heap.size w W) => keepsB _ _ _ _ h1 hb)
  have HS1 := Lib.hid s1
  have hln1 : (acc.length : Int) ≤ 281474976710656 := by have := s1; unfold BSmall at this; omega
  clear h1 s1
  have HB := Lib.hid (show Below w.heap.size w w from Below.refl _ _)
  have HZ := Lib.hid (show w.heap.size + 0 ≤ w.heap.size by simp)
  have HR := Lib.hid True.intro
  by_cases hm1 : 1048576 < (acc.length : Int)
  · go_enter Try.func8, Try.ntmps8
    go_wp2_with fail
    go_ret
    exact ⟨rfl, HB.out⟩
  go_enter Try.func8, Try.ntmps8
  go_wp2_with fail
  refine (toB_arg _ acc _ (HK1.out _ HB.out) HS1.out).mono ?_
  rintro e w1 ⟨u1, bu, rfl, hu, hb⟩
  have HU1 := Lib.hid (show RdB _ _ _ from hu.1.rd)
  clear hu
  have HZ1 := Lib.hid hb.size
  have HB_1 := Lib.hid (below_step HB.out hb)
  clear HB
  clear HR
  have HR1 := Lib.hid True.intro
  clear hb 
  go_wp2_with fail
  refine (specReaderOfShape_rd tail _ acc _ HU1.out HS1.out).mono ?_
  rintro e w2 ⟨u0, rfl, hrd0, hb⟩
  clear HU1
  have hsx := hrd0.shape
  obtain ⟨Aw, cw, Bw, dw, rfl⟩ := hsx
  have HRW := Lib.hid hrd0
  clear hrd0
  have HZ2 := Lib.hid hb.size
  have HB_2 := Lib.hid (below_step HB_1.out hb)
  clear HB_1
  clear HR1
  have HR2 := Lib.hid True.intro
  clear hb 
  have AW := Lib.hid (Below.refl w2.heap.size w2)
  go_wp2_with fail
  refine (toB_arg _ acc _ (HK1.out _ (HB_2.out.alloc HB_2.out.size _)) HS1.out).mono ?_
  rintro e w3 ⟨x1, bx1, rfl, hx, hb⟩
  have hxr : RdB _ _ _ := hx.1.rd
  have hsx := rdB_shape hxr
  obtain ⟨Bx1, kx1, rfl⟩ := hsx
  have HX1 := Lib.hid hx
  have HXB1 := Lib.hid (fun (x : Nat) hm => (goodV bools 4).lt hx (b := x) hm)
  clear hx hxr
  have hst := below_step (below_alloc w2 (.cells #[.int .i64 (shapeRes tail acc).1.L, .int .i64 (shapeRes tail acc).1.S, .slice Aw (shapeRes tail acc).1.acc.length cw, .slice Bw (shapeRes tail acc).1.next.length dw] 29)) hb
  have hx0 := (Row.new w2 [.int .i64 (shapeRes tail acc).1.L, .int .i64 (shapeRes tail acc).1.S, .slice Aw (shapeRes tail acc).1.acc.length cw, .slice Bw (shapeRes tail acc).1.next.length dw] 29).below hb (Row.new w2 [.int .i64 (shapeRes tail acc).1.L, .int .i64 (shapeRes tail acc).1.S, .slice Aw (shapeRes tail acc).1.acc.length cw, .slice Bw (shapeRes tail acc).1.next.length dw] 29).lt
  have HZ3 := Lib.hid (show w2.heap.size + 1 ≤ w3.heap.size by have := hb.size; simpa using this)
  have HB_3 := Lib.hid (below_step HB_2.out hst)
  clear HB_2
  have AW_3 := Lib.hid (below_step AW.out hst)
  clear AW
  clear HR2
  have HR3 := Lib.hid (show _ from hx0)
  clear hb hx0 hst
  obtain ⟨⟨q3_0_0, q3_0_1, q3_0_2, q3_0_3⟩, -⟩ := (HR3.out).four
  have lt3_0 := (HR3.out).lt
  have AX1 := Lib.hid (Below.refl w3.heap.size w3)
  go_wp2_with fail
  refine (implReaderOfShape_own tail _ acc _ (keepsB _ _ _ _ HX1.out.1.rd AX1.out) HS1.out).mono ?_
  rintro e w4 ⟨g, bg, rfl, hg, hb⟩
  have hgr : RdR _ _ _ := hg.rd
  have hsx := hgr.shape
  obtain ⟨Ag, cg, Bg, dg, rfl⟩ := hsx
  have HG := Lib.hid hg
  have HGB := Lib.hid (fun (x : Nat) hm => goodR.lt hg (b := x) hm)
  clear hg hgr
  have hx0 := (HR3.out).below hb (HR3.out).lt
  have HZ4 := Lib.hid hb.size
  have HB_4 := Lib.hid (below_step HB_3.out hb)
  clear HB_3
  have AW_4 := Lib.hid (below_step AW_3.out hb)
  clear AW_3
  have X1_4 := Lib.hid (below_step AX1.out hb)
  clear AX1
  clear HR3
  have HR4 := Lib.hid (show _ from hx0)
  clear hb hx0
  clear q3_0_0 q3_0_1 q3_0_2 q3_0_3 lt3_0
  obtain ⟨⟨q4_0_0, q4_0_1, q4_0_2, q4_0_3⟩, -⟩ := (HR4.out).four
  have lt4_0 := (HR4.out).lt
  have AG := Lib.hid (Below.refl w4.heap.size w4)
  have hne1 : ((shapeRes tail acc).2 != (shapeRes tail acc).2) = false := by simp
  go_wp2_with fail
  refine (eqR_same _ _ (shapeRes tail acc).1 _ (keepsR _ _ _ _ HG.out.rd (below_step AG.out (below_alloc _ _))) (keepsR _ _ _ _ HRW.out (below_step AW_4.out (below_alloc _ _)))).mono ?_
  rintro e w5 ⟨rfl, hb⟩
  have hst := below_step (below_alloc w4 (.cells #[.int .i64 (shapeRes tail acc).1.L, .int .i64 (shapeRes tail acc).1.S, .slice Ag (shapeRes tail acc).1.acc.length cg, .slice Bg (shapeRes tail acc).1.next.length dg] 29)) hb
  have hx0 := (HR4.out).below hst (HR4.out).lt
  have hx1 := (Row.new w4 [.int .i64 (shapeRes tail acc).1.L, .int .i64 (shapeRes tail acc).1.S, .slice Ag (shapeRes tail acc).1.acc.length cg, .slice Bg (shapeRes tail acc).1.next.length dg] 29).below hb (Row.new w4 [.int .i64 (shapeRes tail acc).1.L, .int .i64 (shapeRes tail acc).1.S, .slice Ag (shapeRes tail acc).1.acc.length cg, .slice Bg (shapeRes tail acc).1.next.length dg] 29).lt
  have HZ5 := Lib.hid (show w4.heap.size + 1 ≤ w5.heap.size by have := hb.size; simpa using this)
  have HB_5 := Lib.hid (below_step HB_4.out hst)
  clear HB_4
  have AW_5 := Lib.hid (below_step AW_4.out hst)
  clear AW_4
  have X1_5 := Lib.hid (below_step X1_4.out hst)
  clear X1_4
  have G_5 := Lib.hid (below_step AG.out hst)
  clear AG
  clear HR4
  have HR5 := Lib.hid (show _ ∧ _ from ⟨hx0, hx1⟩)
  clear hb hx0 hx1 hst
  clear q4_0_0 q4_0_1 q4_0_2 q4_0_3 lt4_0
  obtain ⟨⟨q5_0_0, q5_0_1, q5_0_2, q5_0_3⟩, -⟩ := (HR5.out.1).four
  have lt5_0 := (HR5.out.1).lt
  obtain ⟨⟨q5_1_0, q5_1_1, q5_1_2, q5_1_3⟩, -⟩ := (HR5.out.2).four
  have lt5_1 := (HR5.out.2).lt
  go_wp2_with fail
  refine (toB_arg _ acc _ (HK1.out _ HB_5.out) HS1.out).mono ?_
  rintro e w6 ⟨y1, by0, rfl, hy, hb⟩
  have HY := Lib.hid (show RdB _ _ _ from hy.1.rd)
  clear hy
  have hx0 := (HR5.out.1).below hb (HR5.out.1).lt
  have hx1 := (HR5.out.2).below hb (HR5.out.2).lt
  have HZ6 := Lib.hid hb.size
  have HB_6 := Lib.hid (below_step HB_5.out hb)
  clear HB_5
  have AW_6 := Lib.hid (below_step AW_5.out hb)
  clear AW_5
  have X1_6 := Lib.hid (below_step X1_5.out hb)
  clear X1_5
  have G_6 := Lib.hid (below_step G_5.out hb)
  clear G_5
  clear HR5
  have HR6 := Lib.hid (show _ ∧ _ from ⟨hx0, hx1⟩)
  clear hb hx0 hx1
  clear q5_0_0 q5_0_1 q5_0_2 q5_0_3 lt5_0 q5_1_0 q5_1_1 q5_1_2 q5_1_3 lt5_1
  obtain ⟨⟨q6_0_0, q6_0_1, q6_0_2, q6_0_3⟩, -⟩ := (HR6.out.1).four
  have lt6_0 := (HR6.out.1).lt
  obtain ⟨⟨q6_1_0, q6_1_1, q6_1_2, q6_1_3⟩, -⟩ := (HR6.out.2).four
  have lt6_1 := (HR6.out.2).lt
  go_wp2_with fail
  refine (eqB_arg _ _ acc _ (keepsB _ _ _ _ HX1.out.1.rd X1_6.out) HY.out).mono ?_
  rintro e w7 ⟨rfl, hb⟩
  clear HY
  have hx0 := (HR6.out.1).below hb (HR6.out.1).lt
  have hx1 := (HR6.out.2).below hb (HR6.out.2).lt
  have HZ7 := Lib.hid hb.size
  have HB_7 := Lib.hid (below_step HB_6.out hb)
  clear HB_6
  have AW_7 := Lib.hid (below_step AW_6.out hb)
  clear AW_6
  have X1_7 := Lib.hid (below_step X1_6.out hb)
  clear X1_6
  have G_7 := Lib.hid (below_step G_6.out hb)
  clear G_6
  clear HR6
  have HR7 := Lib.hid (show _ ∧ _ from ⟨hx0, hx1⟩)
  clear hb hx0 hx1
  clear q6_0_0 q6_0_1 q6_0_2 q6_0_3 lt6_0 q6_1_0 q6_1_1 q6_1_2 q6_1_3 lt6_1
  obtain ⟨⟨q7_0_0, q7_0_1, q7_0_2, q7_0_3⟩, -⟩ := (HR7.out.1).four
  have lt7_0 := (HR7.out.1).lt
  obtain ⟨⟨q7_1_0, q7_1_1, q7_1_2, q7_1_3⟩, -⟩ := (HR7.out.2).four
  have lt7_1 := (HR7.out.2).lt
  go_wp2_with fail
  have ox := (goodV bools 4).below HX1.out X1_7.out
  have og := goodR.below HG.out G_7.out
  have HNM := Lib.hid True.intro
  refine (markB_arg _ acc bx1 _ (1) _ ox (by omega) (by omega)).mono ?_
  rintro e w8 ⟨rfl, hT⟩
  have zz0 := HZ.out
  have zz1 := HZ1.out
  have zz2 := HZ2.out
  have zz3 := HZ3.out
  have zz4 := HZ4.out
  have zz5 := HZ5.out
  have zz6 := HZ6.out
  have zz7 := HZ7.out
  have bd := HXB1.out
  have hx0 := (HR7.out.1).same (hT.block (w2.heap.size) (HR7.out.1).lt (fun hm => by have := bd _ hm; first | omega | (simp at this; done) | (simp at this; omega)))
  have hx1 := (HR7.out.2).same (hT.block (w4.heap.size) (HR7.out.2).lt (fun hm => by have := bd _ hm; first | omega | (simp at this; done) | (simp at this; omega)))
  have HB_8 := Lib.hid (HB_7.out.trans (hT.below HB_7.out.size (fun b hm => by have := bd _ hm; first | omega | (simp at this; omega))))
  clear HB_7
  have AW_8 := Lib.hid (AW_7.out.trans (hT.below AW_7.out.size (fun b hm => by have := bd _ hm; first | omega | (simp at this; omega))))
  clear AW_7
  have HGk := Lib.hid (hT.keep goodR og (fun c hc hm => by have a1 := bd _ hm; have a2 := goodR.lt og hc; first | omega | (simp at a1 a2; omega) | (simp at a1; omega) | (simp at a2; omega)))
  have HZ8 := Lib.hid hT.size
  clear zz0 zz1 zz2 zz3 zz4 zz5 zz6 zz7
  clear bd hT HR7
  have HR8 := Lib.hid (show _ ∧ _ from ⟨hx0, hx1⟩)
  clear hx0 hx1
  clear q7_0_0 q7_0_1 q7_0_2 q7_0_3 lt7_0 q7_1_0 q7_1_1 q7_1_2 q7_1_3 lt7_1
  obtain ⟨⟨q8_0_0, q8_0_1, q8_0_2, q8_0_3⟩, -⟩ := (HR8.out.1).four
  have lt8_0 := (HR8.out.1).lt
  obtain ⟨⟨q8_1_0, q8_1_1, q8_1_2, q8_1_3⟩, -⟩ := (HR8.out.2).four
  have lt8_1 := (HR8.out.2).lt
  clear og HG ox
  have HG := HGk
  clear HGk
  have AG8 := Lib.hid (Below.refl w8.heap.size w8)
  have HBD1 := Lib.hid (show (acc.length : Int) ≤ 4194304 from by omega)
  have kp0 : (0 : Int) ≤ 1 + (acc.length : Int) := by omega
  have kq0 : 1 + (acc.length : Int) ≤ 2305843009213693952 := by have b1 := HBD1.out; omega
  clear HNM
  go_wp2_with fail
  refine (eqR_same _ _ (shapeRes tail acc).1 _ (keepsR _ _ _ _ HG.out.rd AG8.out) (keepsR _ _ _ _ HRW.out AW_8.out)).mono ?_
  rintro e w9 ⟨rfl, hb⟩
  have hx0 := (HR8.out.1).below hb (HR8.out.1).lt
  have hx1 := (HR8.out.2).below hb (HR8.out.2).lt
  have HZ9 := Lib.hid hb.size
  have HB_9 := Lib.hid (below_step HB_8.out hb)
  clear HB_8
  have AW_9 := Lib.hid (below_step AW_8.out hb)
  clear AW_8
  have G_9 := Lib.hid (below_step AG8.out hb)
  clear AG8
  clear HR8
  have HR9 := Lib.hid (show _ ∧ _ from ⟨hx0, hx1⟩)
  clear hb hx0 hx1
  clear q8_0_0 q8_0_1 q8_0_2 q8_0_3 lt8_0 q8_1_0 q8_1_1 q8_1_2 q8_1_3 lt8_1
  obtain ⟨⟨q9_0_0, q9_0_1, q9_0_2, q9_0_3⟩, -⟩ := (HR9.out.1).four
  have lt9_0 := (HR9.out.1).lt
  obtain ⟨⟨q9_1_0, q9_1_1, q9_1_2, q9_1_3⟩, -⟩ := (HR9.out.2).four
  have lt9_1 := (HR9.out.2).lt
  go_wp2_with fail
  have HN := Lib.hid (show (numR ((shapeRes tail acc).1) : Int) ≤ 2305843009213693952 from by exact shape_num tail acc)
  have og := goodR.below HG.out G_9.out
  refine (markR_own _ ((shapeRes tail acc).1) bg _ 1 _ og (by omega) (by have a := HN.out; omega)).mono ?_
  rintro e w10 ⟨rfl, hm, hT0⟩
  have hT := hT0
  clear hT0
  have HM := Lib.hid hm
  clear hm
  have zz0 := HZ.out
  have zz1 := HZ1.out
  have zz2 := HZ2.out
  have zz3 := HZ3.out
  have zz4 := HZ4.out
  have zz5 := HZ5.out
  have zz6 := HZ6.out
  have zz7 := HZ7.out
  have zz8 := HZ8.out
  have zz9 := HZ9.out
  have bd := HGB.out
  have hx0 := (HR9.out.1).same (hT.block (w2.heap.size) (HR9.out.1).lt (fun hm => by have := bd _ hm; first | omega | (simp at this; done) | (simp at this; omega)))
  have hx1 := (HR9.out.2).same (hT.block (w4.heap.size) (HR9.out.2).lt (fun hm => by have := bd _ hm; first | omega | (simp at this; done) | (simp at this; omega)))
  have HB_10 := Lib.hid (HB_9.out.trans (hT.below HB_9.out.size (fun b hm => by have := bd _ hm; first | omega | (simp at this; omega))))
  clear HB_9
  have AW_10 := Lib.hid (AW_9.out.trans (hT.below AW_9.out.size (fun b hm => by have := bd _ hm; first | omega | (simp at this; omega))))
  clear AW_9
  have HZ10 := Lib.hid hT.size
  clear zz0 zz1 zz2 zz3 zz4 zz5 zz6 zz7 zz8 zz9
  clear bd hT HR9
  have HR10 := Lib.hid (show _ ∧ _ from ⟨hx0, hx1⟩)
  clear hx0 hx1
  clear q9_0_0 q9_0_1 q9_0_2 q9_0_3 lt9_0 q9_1_0 q9_1_1 q9_1_2 q9_1_3 lt9_1
  obtain ⟨⟨q10_0_0, q10_0_1, q10_0_2, q10_0_3⟩, -⟩ := (HR10.out.1).four
  have lt10_0 := (HR10.out.1).lt
  obtain ⟨⟨q10_1_0, q10_1_1, q10_1_2, q10_1_3⟩, -⟩ := (HR10.out.2).four
  have lt10_1 := (HR10.out.2).lt
  clear og HG
  have AM := Lib.hid (Below.refl w10.heap.size w10)
  have kq : (0 : Int) ≤ 1 + (numR ((shapeRes tail acc).1) : Int) := by omega
  have hnq : (1 + (numR ((shapeRes tail acc).1) : Int) != 1 + (numR ((shapeRes tail acc).1) : Int)) = false := by simp
  go_wp2_with fail
  refine (heldR_any _ ((shapeRes tail acc).1) 1 _ (keepsR _ _ _ _ HM.out.rd AM.out) (by omega) (by have a := HN.out; omega)).mono ?_
  rintro e w11 ⟨rfl, hb⟩
  have hx0 := (HR10.out.1).below hb (HR10.out.1).lt
  have hx1 := (HR10.out.2).below hb (HR10.out.2).lt
  have HZ11 := Lib.hid hb.size
  have HB_11 := Lib.hid (below_step HB_10.out hb)
  clear HB_10
  have AW_11 := Lib.hid (below_step AW_10.out hb)
  clear AW_10
  have HM_11 := Lib.hid (below_step AM.out hb)
  clear AM
  clear HR10
  have HR11 := Lib.hid (show _ ∧ _ from ⟨hx0, hx1⟩)
  clear hb hx0 hx1
  clear q10_0_0 q10_0_1 q10_0_2 q10_0_3 lt10_0 q10_1_0 q10_1_1 q10_1_2 q10_1_3 lt10_1
  obtain ⟨⟨q11_0_0, q11_0_1, q11_0_2, q11_0_3⟩, -⟩ := (HR11.out.1).four
  have lt11_0 := (HR11.out.1).lt
  obtain ⟨⟨q11_1_0, q11_1_1, q11_1_2, q11_1_3⟩, -⟩ := (HR11.out.2).four
  have lt11_1 := (HR11.out.2).lt
  go_wp2_with fail
  refine (toB_arg _ acc _ (HK1.out _ HB_11.out) HS1.out).mono ?_
  rintro e w12 ⟨u1, bu, rfl, hu, hb⟩
  have HU1 := Lib.hid (show RdB _ _ _ from hu.1.rd)
  clear hu
  have hx0 := (HR11.out.1).below hb (HR11.out.1).lt
  have hx1 := (HR11.out.2).below hb (HR11.out.2).lt
  have HZ12 := Lib.hid hb.size
  have HB_12 := Lib.hid (below_step HB_11.out hb)
  clear HB_11
  have AW_12 := Lib.hid (below_step AW_11.out hb)
  clear AW_11
  have HM_12 := Lib.hid (below_step HM_11.out hb)
  clear HM_11
  clear HR11
  have HR12 := Lib.hid (show _ ∧ _ from ⟨hx0, hx1⟩)
  clear hb hx0 hx1
  clear q11_0_0 q11_0_1 q11_0_2 q11_0_3 lt11_0 q11_1_0 q11_1_1 q11_1_2 q11_1_3 lt11_1
  obtain ⟨⟨q12_0_0, q12_0_1, q12_0_2, q12_0_3⟩, -⟩ := (HR12.out.1).four
  have lt12_0 := (HR12.out.1).lt
  obtain ⟨⟨q12_1_0, q12_1_1, q12_1_2, q12_1_3⟩, -⟩ := (HR12.out.2).four
  have lt12_1 := (HR12.out.2).lt
  go_wp2_with fail
  refine (implReaderOfShape_own tail _ acc _ HU1.out HS1.out).mono ?_
  rintro e w13 ⟨g, bh, rfl, hg, hb⟩
  clear HU1
  have hgr : RdR _ _ _ := hg.rd
  have hsx := hgr.shape
  obtain ⟨Ah, ch, Bh, dh, rfl⟩ := hsx
  have HH := Lib.hid hgr
  clear hg hgr
  have hx0 := (HR12.out.1).below hb (HR12.out.1).lt
  have hx1 := (HR12.out.2).below hb (HR12.out.2).lt
  have HZ13 := Lib.hid hb.size
  have HB_13 := Lib.hid (below_step HB_12.out hb)
  clear HB_12
  have AW_13 := Lib.hid (below_step AW_12.out hb)
  clear AW_12
  have HM_13 := Lib.hid (below_step HM_12.out hb)
  clear HM_12
  clear HR12
  have HR13 := Lib.hid (show _ ∧ _ from ⟨hx0, hx1⟩)
  clear hb hx0 hx1
  clear q12_0_0 q12_0_1 q12_0_2 q12_0_3 lt12_0 q12_1_0 q12_1_1 q12_1_2 q12_1_3 lt12_1
  obtain ⟨⟨q13_0_0, q13_0_1, q13_0_2, q13_0_3⟩, -⟩ := (HR13.out.1).four
  have lt13_0 := (HR13.out.1).lt
  obtain ⟨⟨q13_1_0, q13_1_1, q13_1_2, q13_1_3⟩, -⟩ := (HR13.out.2).four
  have lt13_1 := (HR13.out.2).lt
  go_wp2_with fail
  refine (eqR_same _ _ (shapeRes tail acc).1 _ (keepsR _ _ _ _ HH.out (below_alloc _ _)) (keepsR _ _ _ _ HRW.out (below_step AW_13.out (below_alloc _ _)))).mono ?_
  rintro e w14 ⟨rfl, hb⟩
  have hst := below_step (below_alloc w13 (.cells #[.int .i64 (shapeRes tail acc).1.L, .int .i64 (shapeRes tail acc).1.S, .slice Ah (shapeRes tail acc).1.acc.length ch, .slice Bh (shapeRes tail acc).1.next.length dh] 29)) hb
  have hx0 := (HR13.out.1).below hst (HR13.out.1).lt
  have hx1 := (HR13.out.2).below hst (HR13.out.2).lt
  have hx2 := (Row.new w13 [.int .i64 (shapeRes tail acc).1.L, .int .i64 (shapeRes tail acc).1.S, .slice Ah (shapeRes tail acc).1.acc.length ch, .slice Bh (shapeRes tail acc).1.next.length dh] 29).below hb (Row.new w13 [.int .i64 (shapeRes tail acc).1.L, .int .i64 (shapeRes tail acc).1.S, .slice Ah (shapeRes tail acc).1.acc.length ch, .slice Bh (shapeRes tail acc).1.next.length dh] 29).lt
  have HZ14 := Lib.hid (show w13.heap.size + 1 ≤ w14.heap.size by have := hb.size; simpa using this)
  have HB_14 := Lib.hid (below_step HB_13.out hst)
  clear HB_13
  have AW_14 := Lib.hid (below_step AW_13.out hst)
  clear AW_13
  have HM_14 := Lib.hid (below_step HM_13.out hst)
  clear HM_13
  clear HR13
  have HR14 := Lib.hid (show _ ∧ _ ∧ _ from ⟨hx0, hx1, hx2⟩)
  clear hb hx0 hx1 hx2 hst
  clear q13_0_0 q13_0_1 q13_0_2 q13_0_3 lt13_0 q13_1_0 q13_1_1 q13_1_2 q13_1_3 lt13_1
  obtain ⟨⟨q14_0_0, q14_0_1, q14_0_2, q14_0_3⟩, -⟩ := (HR14.out.1).four
  have lt14_0 := (HR14.out.1).lt
  obtain ⟨⟨q14_1_0, q14_1_1, q14_1_2, q14_1_3⟩, -⟩ := (HR14.out.2.1).four
  have lt14_1 := (HR14.out.2.1).lt
  obtain ⟨⟨q14_2_0, q14_2_1, q14_2_2, q14_2_3⟩, -⟩ := (HR14.out.2.2).four
  have lt14_2 := (HR14.out.2.2).lt
  go_wp2_with fail
  refine (heldR_any _ ((shapeRes tail acc).1) 1 _ (keepsR _ _ _ _ HM.out.rd HM_14.out) (by omega) (by have a := HN.out; omega)).mono ?_
  rintro e w15 ⟨rfl, hb⟩
  have hx0 := (HR14.out.1).below hb (HR14.out.1).lt
  have hx1 := (HR14.out.2.1).below hb (HR14.out.2.1).lt
  have hx2 := (HR14.out.2.2).below hb (HR14.out.2.2).lt
  have HZ15 := Lib.hid hb.size
  have HB_15 := Lib.hid (below_step HB_14.out hb)
  clear HB_14
  have AW_15 := Lib.hid (below_step AW_14.out hb)
  clear AW_14
  have HM_15 := Lib.hid (below_step HM_14.out hb)
  clear HM_14
  clear HR14
  have HR15 := Lib.hid (show _ ∧ _ ∧ _ from ⟨hx0, hx1, hx2⟩)
  clear hb hx0 hx1 hx2
  clear q14_0_0 q14_0_1 q14_0_2 q14_0_3 lt14_0 q14_1_0 q14_1_1 q14_1_2 q14_1_3 lt14_1 q14_2_0 q14_2_1 q14_2_2 q14_2_3 lt14_2
  obtain ⟨⟨q15_0_0, q15_0_1, q15_0_2, q15_0_3⟩, -⟩ := (HR15.out.1).four
  have lt15_0 := (HR15.out.1).lt
  obtain ⟨⟨q15_1_0, q15_1_1, q15_1_2, q15_1_3⟩, -⟩ := (HR15.out.2.1).four
  have lt15_1 := (HR15.out.2.1).lt
  obtain ⟨⟨q15_2_0, q15_2_1, q15_2_2, q15_2_3⟩, -⟩ := (HR15.out.2.2).four
  have lt15_2 := (HR15.out.2.2).lt
  go_wp2
  go_ret
  exact ⟨rfl, HB_15.out⟩

theorem own : ownKnob Try.prog.godebug = none := by kernel_rfl
theorem laidOut : laidOutB Try.prog = true := by kernel_rfl

set_option maxRecDepth 100000 in
theorem lifted (os : Os) (started : os.Started) (H : Type) (enc : TypeId × Value → H) :
    ReturnsInHanded {} Try.checked os 8 .any (Rows.fnExactReaderOfShapeSpec.pre6 enc Try.prog Try.f8 Rows.fnExactReaderOfShapeRow.domain false) (Rows.fnExactReaderOfShapeSpec.post enc Try.prog Try.f8 false true false false) := by
  refine returnsInHanded_of_change_sized (C := Try.checked) own started (by kernel_rfl) Try.func8
    (ChangeSpec.witness6 (enc := enc) (C := Try.checked) false ⟨#[], #[.int .i64 0, .slice none 0 0], []⟩ 8 (by kernel_rfl) (by kernel_rfl) (by kernel_rfl) (by kernel_rfl)) ?_
  intro W base args ds gs before hval0 hW _ hsz0 _
  have hsz : (DataW.weightsEach Try.prog (Try.f8.params.toList ++ Rows.fnExactReaderOfShapeSpec.plain.varTypes Try.prog) (ds ++ gs)).all (· ≤ reachBytes) = true := hsz0
  clear hsz0
  have hval : ∀ (j : Nat) t v, Try.f8.params[j]? = some t → args[j]? = some v → Value.okWide Try.prog W .any base t v := hval0
  have hW' := hW
  obtain ⟨p, q, hA0, hV, rfl, hfz, hnd⟩ := hW
  have hA : DataW.TrodAll enc Try.prog W 0 (fun _ => true) true Try.f8.params.toList args.toList ds p := hA0
  have hK := fun W' hb => args_kept (W' := W') laidOut (by decide +kernel) hA hb
  rw [Try.params8] at hA hval hsz
  obtain ⟨v0, vs0, d0, ds0, p0, q0, hargs, rfl, rfl, h0, r0⟩ := trodAll_cons hA
  obtain ⟨v1, vs1, d1, ds1, p1, q1, rfl, rfl, rfl, h1, r1⟩ := trodAll_cons r0
  obtain ⟨rfl, rfl, rfl⟩ := trodAll_nil r1
  obtain rfl : args = #[v0, v1] := by cases args; simp_all
  obtain ⟨rfl, rfl⟩ := trodVars_none hV
  obtain ⟨tail, rfl, rfl, rfl, hw0⟩ := open_int Try.underlying2 (hval 0 _ v0 rfl rfl) h0
  obtain ⟨sa1, sl1, sc1, rfl⟩ := Go.WideShapes.okWide_slice Try.underlying22 (hval 1 _ v1 rfl rfl)
  obtain ⟨n1, hn1⟩ := h1
  obtain ⟨acc, hr1, hs1⟩ := (show Opens enc Try.prog W 0 true _ RdB BSmall from opens_mono (opens_bools Try.underlying22 Try.underlying4 (by kernel_rfl) (by kernel_rfl)) (fun _ _ h => h) (fun ys h => by unfold BSmall; unfold reachBytes at h; omega)) n1 (.slice sa1 sl1 sc1) (d1, p1) hn1 (fit_arg hsz (j := 1) rfl rfl)
  clear hA0 hval0
  refine (walk tail (.slice sa1 sl1 sc1) acc W hw0 hr1 hs1).mono fun e W' ⟨he, bel⟩ => ?_
  subst he
  exact ⟨_, rfl, _, _, _, [], _, [], hW', trodAll_mk1 (shut_bool Try.underlying4 _), hK W' bel, rfl, bel.frame _, fun h => by cases h⟩

theorem over : Rows.fnExactReaderOfShapeRow.holds Try.pinned (OpenSpec.ofChange Rows.fnExactReaderOfShapeSpec) :=
  OpenClaim.holds_of_wide 8 Try.f8 rfl rfl rfl rfl rfl rfl rfl ⟨rfl, rfl, rfl, rfl, rfl⟩ rfl rfl rfl rfl rfl (by kernel_rfl) Try.func8 (by kernel_rfl)
    (of_decide_eq_true (by kernel_rfl)) (by unfold Func.isWrapper; first | (rw [if_pos (by decide +kernel)]; kernel_rfl) | (rw [if_neg (by decide +kernel)]; exact ⟨rfl, rfl⟩))
    (fun os started H enc _ => lifted os started H enc)

theorem holds : Rows.FnExactReaderOfShapeSaid := over
#print axioms holds
end Go.Proofs.Ytjojmlaipcbmkaa.readerOfShape
