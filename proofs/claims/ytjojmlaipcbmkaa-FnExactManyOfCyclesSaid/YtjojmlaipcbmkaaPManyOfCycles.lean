/-
  For every input that can be read as data, FnExactManyOfCycles returns true, and its arguments read behind the call as before: the program's ManyOfCycles answers as its model, and its answer is its own.
-/
import Derived.Test.YtjojmlaipcbmkaaRows
import Derived.Test.YtjojmlaipcbmkaaOpen
import Derived.Test.YtjojmlaipcbmkaaMc3
import Derived.Test.YtjojmlaipcbmkaaArgBB
import Derived.Test.YtjojmlaipcbmkaaZM
namespace Go.Proofs.Ytjojmlaipcbmkaa.manyOfCycles
open Go.ChangeShapes Go.WideShapes Go.ChangeAt Go.RowKit Go.Joins Go.Deep
open Go.ChangeMaps (open_string shut_string)
set_option linter.unusedVariables false

set_option maxRecDepth 100000 in
set_option maxHeartbeats 6400000 in
theorem walk (v0 : Value) (cs : List (List Bool)) (w : World) (h0 : RdBB w v0 cs) (s0 : BBSmall cs) :
    Calls Try.prog 9 #[v0] w fun e w' => e = .returned (.bool true) ∧ Below w.heap.size w w' := by
  have hs0 := RdL.shape h0
  obtain ⟨A0, c0, rfl⟩ := hs0
  have HK0 := Lib.hid (fun W (hb : Below w.heap.size w W) => keepsBB _ _ _ _ h0 hb)
  have HS0 := Lib.hid s0
  have hln0 : (cs.length : Int) ≤ 281474976710656 := by have := s0; unfold BBSmall at this; omega
  clear h0 s0
  have HB := Lib.hid (show Below w.heap.size w w from Below.refl _ _)
  have HZ := Lib.hid (show w.heap.size + 0 ≤ w.heap.size by simp)
  have HR := Lib.hid True.intro
  go_enter Try.func9, Try.ntmps9
  go_wp2_with fail
  refine (szBB_arg _ cs _ _ (HK0.out _ HB.out) HS0.out (by omega) (by omega)).mono ?_
  rintro e w1 ⟨⟨m0, rfl, hm0⟩, hb⟩
  have HM0 := Lib.hid hm0
  clear hm0
  have HZ1 := Lib.hid hb.size
  have HB_1 := Lib.hid (below_step HB.out hb)
  clear HB
  clear HR
  have HR1 := Lib.hid True.intro
  clear hb 
  by_cases hm0 : m0 < 0
  · go_wp2_with fail
    go_ret
    exact ⟨rfl, HB_1.out⟩
  have hl0 : m0 ≤ 1048576 := by have := HM0.out; omega
  go_wp2_with fail
  have HCN0 := Lib.hid (show ((numBB cs : Nat) : Int) ≤ 1048576 from by have := HM0.out; omega)
  clear HM0 hm0 hl0
  refine (toBB_arg _ cs _ (HK0.out _ HB_1.out) HS0.out).mono ?_
  rintro e w2 ⟨u0, bu, rfl, hu, hb⟩
  have HU0 := Lib.hid (show RdBB _ _ _ from (OwL.rd (fun h => h.1.rd) hu))
  clear hu
  have HZ2 := Lib.hid hb.size
  have HB_2 := Lib.hid (below_step HB_1.out hb)
  clear HB_1
  clear HR1
  have HR2 := Lib.hid True.intro
  clear hb 
  go_wp2_with fail
  refine (specMoc_rd _ cs _ HU0.out HS0.out).mono ?_
  rintro e w3 ⟨u0, rfl, hrd0, hb⟩
  clear HU0
  have hsx := hrd0.shape
  obtain ⟨Aw, aw, Bw, bw, Cw, cw, rfl⟩ := hsx
  have HRW := Lib.hid hrd0
  clear hrd0
  have HZ3 := Lib.hid hb.size
  have HB_3 := Lib.hid (below_step HB_2.out hb)
  clear HB_2
  clear HR2
  have HR3 := Lib.hid True.intro
  clear hb 
  have AW := Lib.hid (Below.refl w3.heap.size w3)
  go_wp2_with fail
  refine (toBB_arg _ cs _ (HK0.out _ (HB_3.out.alloc HB_3.out.size _)) HS0.out).mono ?_
  rintro e w4 ⟨x0, bx0, rfl, hx, hb⟩
  have hxr : RdBB _ _ _ := (OwL.rd (fun h => h.1.rd) hx)
  have hsx := RdL.shape hxr
  obtain ⟨Bx0, kx0, rfl⟩ := hsx
  have HX0 := Lib.hid hx
  have HXB0 := Lib.hid (fun (x : Nat) hm => (goodL (goodV bools 4) 22).lt hx (b := x) hm)
  clear hx hxr
  have hst := below_step (below_alloc w3 (.cells #[.int .i64 (cycsRes cs).1.L, .slice Aw (cycsRes cs).1.st.length aw, .slice Bw (cycsRes cs).1.acc.length bw, .slice Cw (cycsRes cs).1.next.length cw] 60)) hb
  have hx0 := (Row.new w3 [.int .i64 (cycsRes cs).1.L, .slice Aw (cycsRes cs).1.st.length aw, .slice Bw (cycsRes cs).1.acc.length bw, .slice Cw (cycsRes cs).1.next.length cw] 60).below hb (Row.new w3 [.int .i64 (cycsRes cs).1.L, .slice Aw (cycsRes cs).1.st.length aw, .slice Bw (cycsRes cs).1.acc.length bw, .slice Cw (cycsRes cs).1.next.length cw] 60).lt
  have HZ4 := Lib.hid (show w3.heap.size + 1 ≤ w4.heap.size by have := hb.size; simpa using this)
  have HB_4 := Lib.hid (below_step HB_3.out hst)
  clear HB_3
  have AW_4 := Lib.hid (below_step AW.out hst)
  clear AW
  clear HR3
  have HR4 := Lib.hid (show _ from hx0)
  clear hb hx0 hst
  obtain ⟨⟨q4_0_0, q4_0_1, q4_0_2, q4_0_3⟩, -⟩ := (HR4.out).four
  have lt4_0 := (HR4.out).lt
  have AX0 := Lib.hid (Below.refl w4.heap.size w4)
  go_wp2_with fail
  refine (implMoc_own _ cs _ (keepsBB _ _ _ _ (OwL.rd (fun h => h.1.rd) HX0.out) AX0.out) HS0.out).mono ?_
  rintro e w5 ⟨g, bgs, rfl, hg, hb⟩
  have hgr : RdM _ _ _ := hg.rd
  have hsx := hgr.shape
  obtain ⟨Ag, ag, Bg, bg, Cg, cg, rfl⟩ := hsx
  have HG := Lib.hid hg
  have HGB := Lib.hid (fun (x : Nat) hm => goodM.lt hg (b := x) hm)
  clear hg hgr
  have hx0 := (HR4.out).below hb (HR4.out).lt
  have HZ5 := Lib.hid hb.size
  have HB_5 := Lib.hid (below_step HB_4.out hb)
  clear HB_4
  have AW_5 := Lib.hid (below_step AW_4.out hb)
  clear AW_4
  have X0_5 := Lib.hid (below_step AX0.out hb)
  clear AX0
  clear HR4
  have HR5 := Lib.hid (show _ from hx0)
  clear hb hx0
  clear q4_0_0 q4_0_1 q4_0_2 q4_0_3 lt4_0
  obtain ⟨⟨q5_0_0, q5_0_1, q5_0_2, q5_0_3⟩, -⟩ := (HR5.out).four
  have lt5_0 := (HR5.out).lt
  have AG := Lib.hid (Below.refl w5.heap.size w5)
  have hne1 : ((cycsRes cs).2 != (cycsRes cs).2) = false := by simp
  go_wp2_with fail
  refine (eqM_same _ _ (cycsRes cs).1 _ (keepsM _ _ _ _ HG.out.rd (below_step AG.out (below_alloc _ _))) (keepsM _ _ _ _ HRW.out (below_step AW_5.out (below_alloc _ _)))).mono ?_
  rintro e w6 ⟨rfl, hb⟩
  have hst := below_step (below_alloc w5 (.cells #[.int .i64 (cycsRes cs).1.L, .slice Ag (cycsRes cs).1.st.length ag, .slice Bg (cycsRes cs).1.acc.length bg, .slice Cg (cycsRes cs).1.next.length cg] 60)) hb
  have hx0 := (HR5.out).below hst (HR5.out).lt
  have hx1 := (Row.new w5 [.int .i64 (cycsRes cs).1.L, .slice Ag (cycsRes cs).1.st.length ag, .slice Bg (cycsRes cs).1.acc.length bg, .slice Cg (cycsRes cs).1.next.length cg] 60).below hb (Row.new w5 [.int .i64 (cycsRes cs).1.L, .slice Ag (cycsRes cs).1.st.length ag, .slice Bg (cycsRes cs).1.acc.length bg, .slice Cg (cycsRes cs).1.next.length cg] 60).lt
  have HZ6 := Lib.hid (show w5.heap.size + 1 ≤ w6.heap.size by have := hb.size; simpa using this)
  have HB_6 := Lib.hid (below_step HB_5.out hst)
  clear HB_5
  have AW_6 := Lib.hid (below_step AW_5.out hst)
  clear AW_5
  have X0_6 := Lib.hid (below_step X0_5.out hst)
  clear X0_5
  have G_6 := Lib.hid (below_step AG.out hst)
  clear AG
  clear HR5
  have HR6 := Lib.hid (show _ ∧ _ from ⟨hx0, hx1⟩)
  clear hb hx0 hx1 hst
  clear q5_0_0 q5_0_1 q5_0_2 q5_0_3 lt5_0
  obtain ⟨⟨q6_0_0, q6_0_1, q6_0_2, q6_0_3⟩, -⟩ := (HR6.out.1).four
  have lt6_0 := (HR6.out.1).lt
  obtain ⟨⟨q6_1_0, q6_1_1, q6_1_2, q6_1_3⟩, -⟩ := (HR6.out.2).four
  have lt6_1 := (HR6.out.2).lt
  go_wp2_with fail
  refine (toBB_arg _ cs _ (HK0.out _ HB_6.out) HS0.out).mono ?_
  rintro e w7 ⟨y0, by0, rfl, hy, hb⟩
  have HY := Lib.hid (show RdBB _ _ _ from (OwL.rd (fun h => h.1.rd) hy))
  clear hy
  have hx0 := (HR6.out.1).below hb (HR6.out.1).lt
  have hx1 := (HR6.out.2).below hb (HR6.out.2).lt
  have HZ7 := Lib.hid hb.size
  have HB_7 := Lib.hid (below_step HB_6.out hb)
  clear HB_6
  have AW_7 := Lib.hid (below_step AW_6.out hb)
  clear AW_6
  have X0_7 := Lib.hid (below_step X0_6.out hb)
  clear X0_6
  have G_7 := Lib.hid (below_step G_6.out hb)
  clear G_6
  clear HR6
  have HR7 := Lib.hid (show _ ∧ _ from ⟨hx0, hx1⟩)
  clear hb hx0 hx1
  clear q6_0_0 q6_0_1 q6_0_2 q6_0_3 lt6_0 q6_1_0 q6_1_1 q6_1_2 q6_1_3 lt6_1
  obtain ⟨⟨q7_0_0, q7_0_1, q7_0_2, q7_0_3⟩, -⟩ := (HR7.out.1).four
  have lt7_0 := (HR7.out.1).lt
  obtain ⟨⟨q7_1_0, q7_1_1, q7_1_2, q7_1_3⟩, -⟩ := (HR7.out.2).four
  have lt7_1 := (HR7.out.2).lt
  go_wp2_with fail
  refine (eqBB_arg _ _ cs _ (keepsBB _ _ _ _ (OwL.rd (fun h => h.1.rd) HX0.out) X0_7.out) HY.out).mono ?_
  rintro e w8 ⟨rfl, hb⟩
  clear HY
  have hx0 := (HR7.out.1).below hb (HR7.out.1).lt
  have hx1 := (HR7.out.2).below hb (HR7.out.2).lt
  have HZ8 := Lib.hid hb.size
  have HB_8 := Lib.hid (below_step HB_7.out hb)
  clear HB_7
  have AW_8 := Lib.hid (below_step AW_7.out hb)
  clear AW_7
  have X0_8 := Lib.hid (below_step X0_7.out hb)
  clear X0_7
  have G_8 := Lib.hid (below_step G_7.out hb)
  clear G_7
  clear HR7
  have HR8 := Lib.hid (show _ ∧ _ from ⟨hx0, hx1⟩)
  clear hb hx0 hx1
  clear q7_0_0 q7_0_1 q7_0_2 q7_0_3 lt7_0 q7_1_0 q7_1_1 q7_1_2 q7_1_3 lt7_1
  obtain ⟨⟨q8_0_0, q8_0_1, q8_0_2, q8_0_3⟩, -⟩ := (HR8.out.1).four
  have lt8_0 := (HR8.out.1).lt
  obtain ⟨⟨q8_1_0, q8_1_1, q8_1_2, q8_1_3⟩, -⟩ := (HR8.out.2).four
  have lt8_1 := (HR8.out.2).lt
  go_wp2_with fail
  have ox := (goodL (goodV bools 4) 22).below HX0.out X0_8.out
  have og := goodM.below HG.out G_8.out
  have HNM := Lib.hid True.intro
  refine (markBB_arg _ cs bx0 _ (1) _ ox (by omega) (by have b := HCN0.out; omega)).mono ?_
  rintro e w9 ⟨rfl, hT⟩
  have zz0 := HZ.out
  have zz1 := HZ1.out
  have zz2 := HZ2.out
  have zz3 := HZ3.out
  have zz4 := HZ4.out
  have zz5 := HZ5.out
  have zz6 := HZ6.out
  have zz7 := HZ7.out
  have zz8 := HZ8.out
  have bd := HXB0.out
  have hx0 := (HR8.out.1).same (hT.block (w3.heap.size) (HR8.out.1).lt (fun hm => by have := bd _ hm; first | omega | (simp at this; done) | (simp at this; omega)))
  have hx1 := (HR8.out.2).same (hT.block (w5.heap.size) (HR8.out.2).lt (fun hm => by have := bd _ hm; first | omega | (simp at this; done) | (simp at this; omega)))
  have HB_9 := Lib.hid (HB_8.out.trans (hT.below HB_8.out.size (fun b hm => by have := bd _ hm; first | omega | (simp at this; omega))))
  clear HB_8
  have AW_9 := Lib.hid (AW_8.out.trans (hT.below AW_8.out.size (fun b hm => by have := bd _ hm; first | omega | (simp at this; omega))))
  clear AW_8
  have HGk := Lib.hid (hT.keep goodM og (fun c hc hm => by have a1 := bd _ hm; have a2 := goodM.lt og hc; first | omega | (simp at a1 a2; omega) | (simp at a1; omega) | (simp at a2; omega)))
  have HZ9 := Lib.hid hT.size
  clear zz0 zz1 zz2 zz3 zz4 zz5 zz6 zz7 zz8
  clear bd hT HR8
  have HR9 := Lib.hid (show _ ∧ _ from ⟨hx0, hx1⟩)
  clear hx0 hx1
  clear q8_0_0 q8_0_1 q8_0_2 q8_0_3 lt8_0 q8_1_0 q8_1_1 q8_1_2 q8_1_3 lt8_1
  obtain ⟨⟨q9_0_0, q9_0_1, q9_0_2, q9_0_3⟩, -⟩ := (HR9.out.1).four
  have lt9_0 := (HR9.out.1).lt
  obtain ⟨⟨q9_1_0, q9_1_1, q9_1_2, q9_1_3⟩, -⟩ := (HR9.out.2).four
  have lt9_1 := (HR9.out.2).lt
  clear og HG ox
  have HG := HGk
  clear HGk
  have AG9 := Lib.hid (Below.refl w9.heap.size w9)
  have HBD0 := Lib.hid (show (numBB cs : Int) ≤ 4194304 from by have b := HCN0.out; omega)
  have kp0 : (0 : Int) ≤ 1 + (numBB cs : Int) := by omega
  have kq0 : 1 + (numBB cs : Int) ≤ 2305843009213693952 := by have b0 := HBD0.out; omega
  clear HNM
  go_wp2_with fail
  refine (eqM_same _ _ (cycsRes cs).1 _ (keepsM _ _ _ _ HG.out.rd AG9.out) (keepsM _ _ _ _ HRW.out AW_9.out)).mono ?_
  rintro e w10 ⟨rfl, hb⟩
  have hx0 := (HR9.out.1).below hb (HR9.out.1).lt
  have hx1 := (HR9.out.2).below hb (HR9.out.2).lt
  have HZ10 := Lib.hid hb.size
  have HB_10 := Lib.hid (below_step HB_9.out hb)
  clear HB_9
  have AW_10 := Lib.hid (below_step AW_9.out hb)
  clear AW_9
  have G_10 := Lib.hid (below_step AG9.out hb)
  clear AG9
  clear HR9
  have HR10 := Lib.hid (show _ ∧ _ from ⟨hx0, hx1⟩)
  clear hb hx0 hx1
  clear q9_0_0 q9_0_1 q9_0_2 q9_0_3 lt9_0 q9_1_0 q9_1_1 q9_1_2 q9_1_3 lt9_1
  obtain ⟨⟨q10_0_0, q10_0_1, q10_0_2, q10_0_3⟩, -⟩ := (HR10.out.1).four
  have lt10_0 := (HR10.out.1).lt
  obtain ⟨⟨q10_1_0, q10_1_1, q10_1_2, q10_1_3⟩, -⟩ := (HR10.out.2).four
  have lt10_1 := (HR10.out.2).lt
  go_wp2_with fail
  have HN := Lib.hid (show (numM ((cycsRes cs).1) : Int) ≤ 2305843009213693952 from by exact cycs_num cs)
  have og := goodM.below HG.out G_10.out
  refine (markM_own _ ((cycsRes cs).1) bgs _ 1 _ og (by omega) (by have a := HN.out; omega)).mono ?_
  rintro e w11 ⟨rfl, hm, hT0⟩
  have hT := hT0
  clear hT0
  have HM := Lib.hid hm
  clear hm
  have zz0 := HZ.out
  have zz1 := HZ1.out
  have zz2 := HZ2.out
  have zz3 := HZ3.out
  have zz4 := HZ4.out
  have zz5 := HZ5.out
  have zz6 := HZ6.out
  have zz7 := HZ7.out
  have zz8 := HZ8.out
  have zz9 := HZ9.out
  have zz10 := HZ10.out
  have bd := HGB.out
  have hx0 := (HR10.out.1).same (hT.block (w3.heap.size) (HR10.out.1).lt (fun hm => by have := bd _ hm; first | omega | (simp at this; done) | (simp at this; omega)))
  have hx1 := (HR10.out.2).same (hT.block (w5.heap.size) (HR10.out.2).lt (fun hm => by have := bd _ hm; first | omega | (simp at this; done) | (simp at this; omega)))
  have HB_11 := Lib.hid (HB_10.out.trans (hT.below HB_10.out.size (fun b hm => by have := bd _ hm; first | omega | (simp at this; omega))))
  clear HB_10
  have AW_11 := Lib.hid (AW_10.out.trans (hT.below AW_10.out.size (fun b hm => by have := bd _ hm; first | omega | (simp at this; omega))))
  clear AW_10
  have HZ11 := Lib.hid hT.size
  clear zz0 zz1 zz2 zz3 zz4 zz5 zz6 zz7 zz8 zz9 zz10
  clear bd hT HR10
  have HR11 := Lib.hid (show _ ∧ _ from ⟨hx0, hx1⟩)
  clear hx0 hx1
  clear q10_0_0 q10_0_1 q10_0_2 q10_0_3 lt10_0 q10_1_0 q10_1_1 q10_1_2 q10_1_3 lt10_1
  obtain ⟨⟨q11_0_0, q11_0_1, q11_0_2, q11_0_3⟩, -⟩ := (HR11.out.1).four
  have lt11_0 := (HR11.out.1).lt
  obtain ⟨⟨q11_1_0, q11_1_1, q11_1_2, q11_1_3⟩, -⟩ := (HR11.out.2).four
  have lt11_1 := (HR11.out.2).lt
  clear og HG
  have AM := Lib.hid (Below.refl w11.heap.size w11)
  have kq : (0 : Int) ≤ 1 + (numM ((cycsRes cs).1) : Int) := by omega
  have hnq : (1 + (numM ((cycsRes cs).1) : Int) != 1 + (numM ((cycsRes cs).1) : Int)) = false := by simp
  go_wp2_with fail
  refine (heldM_any _ ((cycsRes cs).1) 1 _ (keepsM _ _ _ _ HM.out.rd AM.out) (by omega) (by have a := HN.out; omega)).mono ?_
  rintro e w12 ⟨rfl, hb⟩
  have hx0 := (HR11.out.1).below hb (HR11.out.1).lt
  have hx1 := (HR11.out.2).below hb (HR11.out.2).lt
  have HZ12 := Lib.hid hb.size
  have HB_12 := Lib.hid (below_step HB_11.out hb)
  clear HB_11
  have AW_12 := Lib.hid (below_step AW_11.out hb)
  clear AW_11
  have HM_12 := Lib.hid (below_step AM.out hb)
  clear AM
  clear HR11
  have HR12 := Lib.hid (show _ ∧ _ from ⟨hx0, hx1⟩)
  clear hb hx0 hx1
  clear q11_0_0 q11_0_1 q11_0_2 q11_0_3 lt11_0 q11_1_0 q11_1_1 q11_1_2 q11_1_3 lt11_1
  obtain ⟨⟨q12_0_0, q12_0_1, q12_0_2, q12_0_3⟩, -⟩ := (HR12.out.1).four
  have lt12_0 := (HR12.out.1).lt
  obtain ⟨⟨q12_1_0, q12_1_1, q12_1_2, q12_1_3⟩, -⟩ := (HR12.out.2).four
  have lt12_1 := (HR12.out.2).lt
  go_wp2_with fail
  refine (toBB_arg _ cs _ (HK0.out _ HB_12.out) HS0.out).mono ?_
  rintro e w13 ⟨u0, bu, rfl, hu, hb⟩
  have HU0 := Lib.hid (show RdBB _ _ _ from (OwL.rd (fun h => h.1.rd) hu))
  clear hu
  have hx0 := (HR12.out.1).below hb (HR12.out.1).lt
  have hx1 := (HR12.out.2).below hb (HR12.out.2).lt
  have HZ13 := Lib.hid hb.size
  have HB_13 := Lib.hid (below_step HB_12.out hb)
  clear HB_12
  have AW_13 := Lib.hid (below_step AW_12.out hb)
  clear AW_12
  have HM_13 := Lib.hid (below_step HM_12.out hb)
  clear HM_12
  clear HR12
  have HR13 := Lib.hid (show _ ∧ _ from ⟨hx0, hx1⟩)
  clear hb hx0 hx1
  clear q12_0_0 q12_0_1 q12_0_2 q12_0_3 lt12_0 q12_1_0 q12_1_1 q12_1_2 q12_1_3 lt12_1
  obtain ⟨⟨q13_0_0, q13_0_1, q13_0_2, q13_0_3⟩, -⟩ := (HR13.out.1).four
  have lt13_0 := (HR13.out.1).lt
  obtain ⟨⟨q13_1_0, q13_1_1, q13_1_2, q13_1_3⟩, -⟩ := (HR13.out.2).four
  have lt13_1 := (HR13.out.2).lt
  go_wp2_with fail
  refine (implMoc_own _ cs _ HU0.out HS0.out).mono ?_
  rintro e w14 ⟨g, bhs, rfl, hg, hb⟩
  clear HU0
  have hgr : RdM _ _ _ := hg.rd
  have hsx := hgr.shape
  obtain ⟨Ah, ah, Bh, bh, Ch, ch, rfl⟩ := hsx
  have HH := Lib.hid hgr
  clear hg hgr
  have hx0 := (HR13.out.1).below hb (HR13.out.1).lt
  have hx1 := (HR13.out.2).below hb (HR13.out.2).lt
  have HZ14 := Lib.hid hb.size
  have HB_14 := Lib.hid (below_step HB_13.out hb)
  clear HB_13
  have AW_14 := Lib.hid (below_step AW_13.out hb)
  clear AW_13
  have HM_14 := Lib.hid (below_step HM_13.out hb)
  clear HM_13
  clear HR13
  have HR14 := Lib.hid (show _ ∧ _ from ⟨hx0, hx1⟩)
  clear hb hx0 hx1
  clear q13_0_0 q13_0_1 q13_0_2 q13_0_3 lt13_0 q13_1_0 q13_1_1 q13_1_2 q13_1_3 lt13_1
  obtain ⟨⟨q14_0_0, q14_0_1, q14_0_2, q14_0_3⟩, -⟩ := (HR14.out.1).four
  have lt14_0 := (HR14.out.1).lt
  obtain ⟨⟨q14_1_0, q14_1_1, q14_1_2, q14_1_3⟩, -⟩ := (HR14.out.2).four
  have lt14_1 := (HR14.out.2).lt
  go_wp2_with fail
  refine (eqM_same _ _ (cycsRes cs).1 _ (keepsM _ _ _ _ HH.out (below_alloc _ _)) (keepsM _ _ _ _ HRW.out (below_step AW_14.out (below_alloc _ _)))).mono ?_
  rintro e w15 ⟨rfl, hb⟩
  have hst := below_step (below_alloc w14 (.cells #[.int .i64 (cycsRes cs).1.L, .slice Ah (cycsRes cs).1.st.length ah, .slice Bh (cycsRes cs).1.acc.length bh, .slice Ch (cycsRes cs).1.next.length ch] 60)) hb
  have hx0 := (HR14.out.1).below hst (HR14.out.1).lt
  have hx1 := (HR14.out.2).below hst (HR14.out.2).lt
  have hx2 := (Row.new w14 [.int .i64 (cycsRes cs).1.L, .slice Ah (cycsRes cs).1.st.length ah, .slice Bh (cycsRes cs).1.acc.length bh, .slice Ch (cycsRes cs).1.next.length ch] 60).below hb (Row.new w14 [.int .i64 (cycsRes cs).1.L, .slice Ah (cycsRes cs).1.st.length ah, .slice Bh (cycsRes cs).1.acc.length bh, .slice Ch (cycsRes cs).1.next.length ch] 60).lt
  have HZ15 := Lib.hid (show w14.heap.size + 1 ≤ w15.heap.size by have := hb.size; simpa using this)
  have HB_15 := Lib.hid (below_step HB_14.out hst)
  clear HB_14
  have AW_15 := Lib.hid (below_step AW_14.out hst)
  clear AW_14
  have HM_15 := Lib.hid (below_step HM_14.out hst)
  clear HM_14
  clear HR14
  have HR15 := Lib.hid (show _ ∧ _ ∧ _ from ⟨hx0, hx1, hx2⟩)
  clear hb hx0 hx1 hx2 hst
  clear q14_0_0 q14_0_1 q14_0_2 q14_0_3 lt14_0 q14_1_0 q14_1_1 q14_1_2 q14_1_3 lt14_1
  obtain ⟨⟨q15_0_0, q15_0_1, q15_0_2, q15_0_3⟩, -⟩ := (HR15.out.1).four
  have lt15_0 := (HR15.out.1).lt
  obtain ⟨⟨q15_1_0, q15_1_1, q15_1_2, q15_1_3⟩, -⟩ := (HR15.out.2.1).four
  have lt15_1 := (HR15.out.2.1).lt
  obtain ⟨⟨q15_2_0, q15_2_1, q15_2_2, q15_2_3⟩, -⟩ := (HR15.out.2.2).four
  have lt15_2 := (HR15.out.2.2).lt
  go_wp2_with fail
  refine (heldM_any _ ((cycsRes cs).1) 1 _ (keepsM _ _ _ _ HM.out.rd HM_15.out) (by omega) (by have a := HN.out; omega)).mono ?_
  rintro e w16 ⟨rfl, hb⟩
  have hx0 := (HR15.out.1).below hb (HR15.out.1).lt
  have hx1 := (HR15.out.2.1).below hb (HR15.out.2.1).lt
  have hx2 := (HR15.out.2.2).below hb (HR15.out.2.2).lt
  have HZ16 := Lib.hid hb.size
  have HB_16 := Lib.hid (below_step HB_15.out hb)
  clear HB_15
  have AW_16 := Lib.hid (below_step AW_15.out hb)
  clear AW_15
  have HM_16 := Lib.hid (below_step HM_15.out hb)
  clear HM_15
  clear HR15
  have HR16 := Lib.hid (show _ ∧ _ ∧ _ from ⟨hx0, hx1, hx2⟩)
  clear hb hx0 hx1 hx2
  clear q15_0_0 q15_0_1 q15_0_2 q15_0_3 lt15_0 q15_1_0 q15_1_1 q15_1_2 q15_1_3 lt15_1 q15_2_0 q15_2_1 q15_2_2 q15_2_3 lt15_2
  obtain ⟨⟨q16_0_0, q16_0_1, q16_0_2, q16_0_3⟩, -⟩ := (HR16.out.1).four
  have lt16_0 := (HR16.out.1).lt
  obtain ⟨⟨q16_1_0, q16_1_1, q16_1_2, q16_1_3⟩, -⟩ := (HR16.out.2.1).four
  have lt16_1 := (HR16.out.2.1).lt
  obtain ⟨⟨q16_2_0, q16_2_1, q16_2_2, q16_2_3⟩, -⟩ := (HR16.out.2.2).four
  have lt16_2 := (HR16.out.2.2).lt
  go_wp2
  go_ret
  exact ⟨rfl, HB_16.out⟩

theorem own : ownKnob Try.prog.godebug = none := by kernel_rfl
theorem laidOut : laidOutB Try.prog = true := by kernel_rfl

set_option maxRecDepth 100000 in
theorem lifted (os : Os) (started : os.Started) (H : Type) (enc : TypeId × Value → H) :
    ReturnsInHanded {} Try.checked os 9 .any (Rows.fnExactManyOfCyclesSpec.pre6 enc Try.prog Try.f9 Rows.fnExactManyOfCyclesRow.domain false) (Rows.fnExactManyOfCyclesSpec.post enc Try.prog Try.f9 false true false false) := by
  refine returnsInHanded_of_change_sized (C := Try.checked) own started (by kernel_rfl) Try.func9
    (ChangeSpec.witness6 (enc := enc) (C := Try.checked) false ⟨#[], #[.slice none 0 0], []⟩ 8 (by kernel_rfl) (by kernel_rfl) (by kernel_rfl) (by kernel_rfl)) ?_
  intro W base args ds gs before hval0 hW _ hsz0 _
  have hsz : (DataW.weightsEach Try.prog (Try.f9.params.toList ++ Rows.fnExactManyOfCyclesSpec.plain.varTypes Try.prog) (ds ++ gs)).all (· ≤ reachBytes) = true := hsz0
  clear hsz0
  have hval : ∀ (j : Nat) t v, Try.f9.params[j]? = some t → args[j]? = some v → Value.okWide Try.prog W .any base t v := hval0
  have hW' := hW
  obtain ⟨p, q, hA0, hV, rfl, hfz, hnd⟩ := hW
  have hA : DataW.TrodAll enc Try.prog W 0 (fun _ => true) true Try.f9.params.toList args.toList ds p := hA0
  have hK := fun W' hb => args_kept (W' := W') laidOut (by decide +kernel) hA hb
  rw [Try.params9] at hA hval hsz
  obtain ⟨v0, vs0, d0, ds0, p0, q0, hargs, rfl, rfl, h0, r0⟩ := trodAll_cons hA
  obtain ⟨rfl, rfl, rfl⟩ := trodAll_nil r0
  obtain rfl : args = #[v0] := by cases args; simp_all
  obtain ⟨rfl, rfl⟩ := trodVars_none hV
  obtain ⟨sa0, sl0, sc0, rfl⟩ := Go.WideShapes.okWide_slice Try.underlying56 (hval 0 _ v0 rfl rfl)
  obtain ⟨n0, hn0⟩ := h0
  obtain ⟨cs, hr0, hs0⟩ := (show Opens enc Try.prog W 0 true _ RdBB BBSmall from opens_mono (opens_slice Try.underlying56 (by kernel_rfl) (opens_bools Try.underlying22 Try.underlying4 (by kernel_rfl) (by kernel_rfl))) (fun _ _ h => h) (fun ys h => ⟨by have a := h.1; have b : Try.prog.bytesOf 22 = 24 := (by kernel_rfl); rw [b] at a; unfold reachBytes at a; omega, fun x hx => by have c := h.2 x hx; unfold reachBytes at c; omega⟩)) n0 (.slice sa0 sl0 sc0) (d0, p0) hn0 (fit_arg hsz (j := 0) rfl rfl)
  clear hA0 hval0
  refine (walk (.slice sa0 sl0 sc0) cs W hr0 hs0).mono fun e W' ⟨he, bel⟩ => ?_
  subst he
  exact ⟨_, rfl, _, _, _, [], _, [], hW', trodAll_mk1 (shut_bool Try.underlying4 _), hK W' bel, rfl, bel.frame _, fun h => by cases h⟩

theorem over : Rows.fnExactManyOfCyclesRow.holds Try.pinned (OpenSpec.ofChange Rows.fnExactManyOfCyclesSpec) :=
  OpenClaim.holds_of_wide 9 Try.f9 rfl rfl rfl rfl rfl rfl rfl ⟨rfl, rfl, rfl, rfl, rfl⟩ rfl rfl rfl rfl rfl (by kernel_rfl) Try.func9 (by kernel_rfl)
    (of_decide_eq_true (by kernel_rfl)) (by unfold Func.isWrapper; first | (rw [if_pos (by decide +kernel)]; kernel_rfl) | (rw [if_neg (by decide +kernel)]; exact ⟨rfl, rfl⟩))
    (fun os started H enc _ => lifted os started H enc)

theorem holds : Rows.FnExactManyOfCyclesSaid := over
#print axioms holds
end Go.Proofs.Ytjojmlaipcbmkaa.manyOfCycles
