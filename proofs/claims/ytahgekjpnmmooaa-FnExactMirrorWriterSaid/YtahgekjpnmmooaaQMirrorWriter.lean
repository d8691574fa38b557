/-
  For every input that can be read as data, FnExactMirrorWriter returns true, and its arguments read behind the call as before: the program's MirrorWriter answers as its model, and its answer is its own.
-/
import Derived.Test.YtahgekjpnmmooaaRows
import Derived.Test.YtahgekjpnmmooaaOpen
import Derived.Test.YtahgekjpnmmooaaJ3
import Derived.Test.YtahgekjpnmmooaaJ4
import Derived.Test.YtahgekjpnmmooaaKWr
import Derived.Test.YtahgekjpnmmooaaGWr
import Derived.Test.YtahgekjpnmmooaaZWr
namespace Go.Proofs.Ytahgekjpnmmooaa.mirrorWriter
open Go.ChangeShapes Go.WideShapes Go.ChangeAt Go.RowKit Go.Joins Go.Deep
open Go.ChangeMaps (open_string shut_string)
set_option linter.unusedVariables false

set_option maxRecDepth 100000 in
set_option maxHeartbeats 6400000 in
theorem walk (v0 : Value) (r : WrData) (w : World) (h0 : RdWr w v0 r) (s0 : WrSmall r) :
    Calls Try.prog 5 #[v0] w fun e w' => e = .returned (.bool true) ∧ Below w.heap.size w w' := by
  have hs0 := h0.shape
  obtain ⟨A0, ka0, B0, kb0, rfl⟩ := hs0
  have HK0 := Lib.hid (fun W (hb : Below w.heap.size w W) => keepsWr _ _ _ _ h0 hb)
  have HS0 := Lib.hid s0
  clear h0 s0
  have HB := Lib.hid (show Below w.heap.size w (w.alloc (.cells #[.int .i64 r.L, .int .i64 r.S, .slice A0 r.mv.length ka0, .slice B0 r.out.length kb0] 39)) from below_alloc w _)
  have HZ := Lib.hid (show w.heap.size + 1 ≤ (w.alloc (.cells #[.int .i64 r.L, .int .i64 r.S, .slice A0 r.mv.length ka0, .slice B0 r.out.length kb0] 39)).heap.size by simp)
  have hx0 : Row (w.alloc (.cells #[.int .i64 r.L, .int .i64 r.S, .slice A0 r.mv.length ka0, .slice B0 r.out.length kb0] 39)) (w.heap.size) 39 [.int .i64 r.L, .int .i64 r.S, .slice A0 r.mv.length ka0, .slice B0 r.out.length kb0] := by
    have := (Row.new w [.int .i64 r.L, .int .i64 r.S, .slice A0 r.mv.length ka0, .slice B0 r.out.length kb0] 39)
    simpa using this
  have HR := Lib.hid (show _ from hx0)
  clear hx0
  go_enter Try.func5, Try.ntmps5
  go_wp2_with fail
  refine (szWr_tot _ r _ _ (HK0.out _ HB.out) HS0.out (by omega) (by omega)).mono ?_
  generalize (w.alloc (.cells #[.int .i64 r.L, .int .i64 r.S, .slice A0 r.mv.length ka0, .slice B0 r.out.length kb0] 39)) = W0 at *
  rintro e w1 ⟨⟨m0, rfl, hm0⟩, hb⟩
  have HM0 := Lib.hid hm0
  clear hm0
  have hx0 := (HR.out).below hb (HR.out).lt
  have HZ1 := Lib.hid hb.size
  have HB_1 := Lib.hid (below_step HB.out hb)
  clear HB
  clear HR
  have HR1 := Lib.hid (show _ from hx0)
  clear hb hx0
  obtain ⟨⟨q1_0_0, q1_0_1, q1_0_2, q1_0_3⟩, -⟩ := (HR1.out).four
  have lt1_0 := (HR1.out).lt
  by_cases hm0 : m0 < 0
  · go_wp2_with fail
    go_ret
    exact ⟨rfl, HB_1.out⟩
  have hl0 : m0 ≤ 1048576 := by have := HM0.out; omega
  go_wp2_with fail
  have HCN0 := Lib.hid (show (cntWr r : Int) ≤ 1048576 from by have := HM0.out; omega)
  clear HM0 hm0 hl0
  refine (toWr_own _ r _ (HK0.out _ HB_1.out) HS0.out).mono ?_
  rintro e w2 ⟨u0, bu, rfl, hu, hb⟩
  have HU0 := Lib.hid (show RdWr _ _ _ from hu.rd)
  clear hu
  have hx0 := (HR1.out).below hb (HR1.out).lt
  have HZ2 := Lib.hid hb.size
  have HB_2 := Lib.hid (below_step HB_1.out hb)
  clear HB_1
  clear HR1
  have HR2 := Lib.hid (show _ from hx0)
  clear hb hx0
  clear q1_0_0 q1_0_1 q1_0_2 q1_0_3 lt1_0
  obtain ⟨⟨q2_0_0, q2_0_1, q2_0_2, q2_0_3⟩, -⟩ := (HR2.out).four
  have lt2_0 := (HR2.out).lt
  go_wp2_with fail
  refine (specMw_rd _ r _ HU0.out).mono ?_
  rintro e w3 ⟨u0, rfl, hrd0, hb⟩
  clear HU0
  have hsx := hrd0.shape
  obtain ⟨Aw, kaw, Bw, kbw, rfl⟩ := hsx
  have HRW := Lib.hid hrd0
  clear hrd0
  have hx0 := (HR2.out).below hb (HR2.out).lt
  have HZ3 := Lib.hid hb.size
  have HB_3 := Lib.hid (below_step HB_2.out hb)
  clear HB_2
  clear HR2
  have HR3 := Lib.hid (show _ from hx0)
  clear hb hx0
  clear q2_0_0 q2_0_1 q2_0_2 q2_0_3 lt2_0
  obtain ⟨⟨q3_0_0, q3_0_1, q3_0_2, q3_0_3⟩, -⟩ := (HR3.out).four
  have lt3_0 := (HR3.out).lt
  have AW := Lib.hid (Below.refl w3.heap.size w3)
  go_wp2_with fail
  refine (toWr_own _ r _ (HK0.out _ (HB_3.out.alloc HB_3.out.size _)) HS0.out).mono ?_
  rintro e w4 ⟨x0, bx0, rfl, hx, hb⟩
  have hxr : RdWr _ _ _ := hx.rd
  have hsx := hxr.shape
  obtain ⟨Ax0, kax0, Bx0, kbx0, rfl⟩ := hsx
  have HX0 := Lib.hid hx
  have HXB0 := Lib.hid (fun (x : Nat) hm => goodWr.lt hx (b := x) hm)
  clear hx hxr
  have hst := below_step (below_alloc w3 (.cells #[.int .i64 (mirWRes r).1.L, .int .i64 (mirWRes r).1.S, .slice Aw (mirWRes r).1.mv.length kaw, .slice Bw (mirWRes r).1.out.length kbw] 27)) hb
  have hx0 := (HR3.out).below hst (HR3.out).lt
  have hx1 := (Row.new w3 [.int .i64 (mirWRes r).1.L, .int .i64 (mirWRes r).1.S, .slice Aw (mirWRes r).1.mv.length kaw, .slice Bw (mirWRes r).1.out.length kbw] 27).below hb (Row.new w3 [.int .i64 (mirWRes r).1.L, .int .i64 (mirWRes r).1.S, .slice Aw (mirWRes r).1.mv.length kaw, .slice Bw (mirWRes r).1.out.length kbw] 27).lt
  have HZ4 := Lib.hid (show w3.heap.size + 1 ≤ w4.heap.size by have := hb.size; simpa using this)
  have HB_4 := Lib.hid (below_step HB_3.out hst)
  clear HB_3
  have AW_4 := Lib.hid (below_step AW.out hst)
  clear AW
  clear HR3
  have HR4 := Lib.hid (show _ ∧ _ from ⟨hx0, hx1⟩)
  clear hb hx0 hx1 hst
  clear q3_0_0 q3_0_1 q3_0_2 q3_0_3 lt3_0
  obtain ⟨⟨q4_0_0, q4_0_1, q4_0_2, q4_0_3⟩, -⟩ := (HR4.out.1).four
  have lt4_0 := (HR4.out.1).lt
  obtain ⟨⟨q4_1_0, q4_1_1, q4_1_2, q4_1_3⟩, -⟩ := (HR4.out.2).four
  have lt4_1 := (HR4.out.2).lt
  have AX0 := Lib.hid (Below.refl w4.heap.size w4)
  go_wp2_with fail
  refine (implMw_own _ r _ (keepsWr _ _ _ _ HX0.out.rd (below_step AX0.out (below_alloc _ _)))).mono ?_
  rintro e w5 ⟨g, bgs, rfl, hg, hb⟩
  have hgr : RdWr _ _ _ := hg.rd
  have hsx := hgr.shape
  obtain ⟨Ag, kag, Bg, kbg, rfl⟩ := hsx
  have HG := Lib.hid hg
  have HGB := Lib.hid (fun (x : Nat) hm => goodWr.lt hg (b := x) hm)
  clear hg hgr
  have hst := below_step (below_alloc w4 (.cells #[.int .i64 r.L, .int .i64 r.S, .slice Ax0 r.mv.length kax0, .slice Bx0 r.out.length kbx0] 27)) hb
  have hx0 := (HR4.out.1).below hst (HR4.out.1).lt
  have hx1 := (HR4.out.2).below hst (HR4.out.2).lt
  have hx2 := (Row.new w4 [.int .i64 r.L, .int .i64 r.S, .slice Ax0 r.mv.length kax0, .slice Bx0 r.out.length kbx0] 27).below hb (Row.new w4 [.int .i64 r.L, .int .i64 r.S, .slice Ax0 r.mv.length kax0, .slice Bx0 r.out.length kbx0] 27).lt
  have HZ5 := Lib.hid (show w4.heap.size + 1 ≤ w5.heap.size by have := hb.size; simpa using this)
  have HB_5 := Lib.hid (below_step HB_4.out hst)
  clear HB_4
  have AW_5 := Lib.hid (below_step AW_4.out hst)
  clear AW_4
  have X0_5 := Lib.hid (below_step AX0.out hst)
  clear AX0
  clear HR4
  have HR5 := Lib.hid (show _ ∧ _ ∧ _ from ⟨hx0, hx1, hx2⟩)
  clear hb hx0 hx1 hx2 hst
  clear q4_0_0 q4_0_1 q4_0_2 q4_0_3 lt4_0 q4_1_0 q4_1_1 q4_1_2 q4_1_3 lt4_1
  obtain ⟨⟨q5_0_0, q5_0_1, q5_0_2, q5_0_3⟩, -⟩ := (HR5.out.1).four
  have lt5_0 := (HR5.out.1).lt
  obtain ⟨⟨q5_1_0, q5_1_1, q5_1_2, q5_1_3⟩, -⟩ := (HR5.out.2.1).four
  have lt5_1 := (HR5.out.2.1).lt
  obtain ⟨⟨q5_2_0, q5_2_1, q5_2_2, q5_2_3⟩, -⟩ := (HR5.out.2.2).four
  have lt5_2 := (HR5.out.2.2).lt
  have AG := Lib.hid (Below.refl w5.heap.size w5)
  have hne1 : ((mirWRes r).2 != (mirWRes r).2) = false := by simp
  go_wp2_with fail
  refine (eqWr_same _ _ (mirWRes r).1 _ (keepsWr _ _ _ _ HG.out.rd (below_step AG.out (below_alloc _ _))) (keepsWr _ _ _ _ HRW.out (below_step AW_5.out (below_alloc _ _)))).mono ?_
  rintro e w6 ⟨rfl, hb⟩
  have hst := below_step (below_alloc w5 (.cells #[.int .i64 (mirWRes r).1.L, .int .i64 (mirWRes r).1.S, .slice Ag (mirWRes r).1.mv.length kag, .slice Bg (mirWRes r).1.out.length kbg] 27)) hb
  have hx0 := (HR5.out.1).below hst (HR5.out.1).lt
  have hx1 := (HR5.out.2.1).below hst (HR5.out.2.1).lt
  have hx2 := (HR5.out.2.2).below hst (HR5.out.2.2).lt
  have hx3 := (Row.new w5 [.int .i64 (mirWRes r).1.L, .int .i64 (mirWRes r).1.S, .slice Ag (mirWRes r).1.mv.length kag, .slice Bg (mirWRes r).1.out.length kbg] 27).below hb (Row.new w5 [.int .i64 (mirWRes r).1.L, .int .i64 (mirWRes r).1.S, .slice Ag (mirWRes r).1.mv.length kag, .slice Bg (mirWRes r).1.out.length kbg] 27).lt
  have HZ6 := Lib.hid (show w5.heap.size + 1 ≤ w6.heap.size by have := hb.size; simpa using this)
  have HB_6 := Lib.hid (below_step HB_5.out hst)
  clear HB_5
  have AW_6 := Lib.hid (below_step AW_5.out hst)
  clear AW_5
  have X0_6 := Lib.hid (below_step X0_5.out hst)
  clear X0_5
  have G_6 := Lib.hid (below_step AG.out hst)
  clear AG
  clear HR5
  have HR6 := Lib.hid (show _ ∧ _ ∧ _ ∧ _ from ⟨hx0, hx1, hx2, hx3⟩)
  clear hb hx0 hx1 hx2 hx3 hst
  clear q5_0_0 q5_0_1 q5_0_2 q5_0_3 lt5_0 q5_1_0 q5_1_1 q5_1_2 q5_1_3 lt5_1 q5_2_0 q5_2_1 q5_2_2 q5_2_3 lt5_2
  obtain ⟨⟨q6_0_0, q6_0_1, q6_0_2, q6_0_3⟩, -⟩ := (HR6.out.1).four
  have lt6_0 := (HR6.out.1).lt
  obtain ⟨⟨q6_1_0, q6_1_1, q6_1_2, q6_1_3⟩, -⟩ := (HR6.out.2.1).four
  have lt6_1 := (HR6.out.2.1).lt
  obtain ⟨⟨q6_2_0, q6_2_1, q6_2_2, q6_2_3⟩, -⟩ := (HR6.out.2.2.1).four
  have lt6_2 := (HR6.out.2.2.1).lt
  obtain ⟨⟨q6_3_0, q6_3_1, q6_3_2, q6_3_3⟩, -⟩ := (HR6.out.2.2.2).four
  have lt6_3 := (HR6.out.2.2.2).lt
  go_wp2_with fail
  go_region_held3 (fun W => W.cell? ⟨w.heap.size, 0, none⟩ = some (.int .i64 r.L) ∧ W.cell? ⟨w.heap.size, 1, none⟩ = some (.int .i64 r.S) ∧ W.cell? ⟨w.heap.size, 2, none⟩ = some (.slice A0 r.mv.length ka0) ∧ W.cell? ⟨w.heap.size, 3, none⟩ = some (.slice B0 r.out.length kb0) ∧ W.cell? ⟨w3.heap.size, 0, none⟩ = some (.int .i64 (mirWRes r).1.L) ∧ W.cell? ⟨w3.heap.size, 1, none⟩ = some (.int .i64 (mirWRes r).1.S) ∧ W.cell? ⟨w3.heap.size, 2, none⟩ = some (.slice Aw (mirWRes r).1.mv.length kaw) ∧ W.cell? ⟨w3.heap.size, 3, none⟩ = some (.slice Bw (mirWRes r).1.out.length kbw) ∧ W.cell? ⟨w4.heap.size, 0, none⟩ = some (.int .i64 r.L) ∧ W.cell? ⟨w4.heap.size, 1, none⟩ = some (.int .i64 r.S) ∧ W.cell? ⟨w4.heap.size, 2, none⟩ = some (.slice Ax0 r.mv.length kax0) ∧ W.cell? ⟨w4.heap.size, 3, none⟩ = some (.slice Bx0 r.out.length kbx0) ∧ W.cell? ⟨w5.heap.size, 0, none⟩ = some (.int .i64 (mirWRes r).1.L) ∧ W.cell? ⟨w5.heap.size, 1, none⟩ = some (.int .i64 (mirWRes r).1.S) ∧ W.cell? ⟨w5.heap.size, 2, none⟩ = some (.slice Ag (mirWRes r).1.mv.length kag) ∧ W.cell? ⟨w5.heap.size, 3, none⟩ = some (.slice Bg (mirWRes r).1.out.length kbg))
    (first | go_keep | (go_split_ands; refine ⟨?_, ?_, ?_, ?_, ?_, ?_, ?_, ?_, ?_, ?_, ?_, ?_, ?_, ?_, ?_, ?_⟩ <;> exact below_keep hbk (by assumption)))
    (first
      | (go_at_call 16; (with_reducible refine (toWr_own _ r _ (HK0.out _ ?_) HS0.out).mono ?_); (exact below_step HB_6.out (by first | exact Below.refl _ _ | exact below_drew _ | exact below_drewN' _ _)); rintro e wy0 ⟨y0, by0, rfl, hy, hbk⟩; have HCy := Lib.hid (show Below w6.heap.size w6 wy0 from below_step (by first | exact Below.refl _ _ | exact below_drew _ | exact below_drewN' _ _) hbk); have HY := Lib.hid hy.rd; clear hy)
      | (go_at_call 9; refine (eqWr_same _ _ r _ (keepsWr _ _ _ _ HX0.out.rd (below_step X0_6.out HCy.out)) HY.out).mono ?_; rintro e wz0 ⟨rfl, hbk⟩; have HCz := Lib.hid (below_step HCy.out hbk)))
  have hb := HCz.out
  clear HCz HCy HY hbk
  have hx0 := (HR6.out.1).below hb (HR6.out.1).lt
  have hx1 := (HR6.out.2.1).below hb (HR6.out.2.1).lt
  have hx2 := (HR6.out.2.2.1).below hb (HR6.out.2.2.1).lt
  have hx3 := (HR6.out.2.2.2).below hb (HR6.out.2.2.2).lt
  have HZ7 := Lib.hid hb.size
  have HB_7 := Lib.hid (below_step HB_6.out hb)
  clear HB_6
  have AW_7 := Lib.hid (below_step AW_6.out hb)
  clear AW_6
  have X0_7 := Lib.hid (below_step X0_6.out hb)
  clear X0_6
  have G_7 := Lib.hid (below_step G_6.out hb)
  clear G_6
  clear HR6
  have HR7 := Lib.hid (show _ ∧ _ ∧ _ ∧ _ from ⟨hx0, hx1, hx2, hx3⟩)
  clear hb hx0 hx1 hx2 hx3
  clear q6_0_0 q6_0_1 q6_0_2 q6_0_3 lt6_0 q6_1_0 q6_1_1 q6_1_2 q6_1_3 lt6_1 q6_2_0 q6_2_1 q6_2_2 q6_2_3 lt6_2 q6_3_0 q6_3_1 q6_3_2 q6_3_3 lt6_3
  obtain ⟨⟨q7_0_0, q7_0_1, q7_0_2, q7_0_3⟩, -⟩ := (HR7.out.1).four
  have lt7_0 := (HR7.out.1).lt
  obtain ⟨⟨q7_1_0, q7_1_1, q7_1_2, q7_1_3⟩, -⟩ := (HR7.out.2.1).four
  have lt7_1 := (HR7.out.2.1).lt
  obtain ⟨⟨q7_2_0, q7_2_1, q7_2_2, q7_2_3⟩, -⟩ := (HR7.out.2.2.1).four
  have lt7_2 := (HR7.out.2.2.1).lt
  obtain ⟨⟨q7_3_0, q7_3_1, q7_3_2, q7_3_3⟩, -⟩ := (HR7.out.2.2.2).four
  have lt7_3 := (HR7.out.2.2.2).lt
  go_wp2_with fail
  have ox := goodWr.below HX0.out X0_7.out
  have og := goodWr.below HG.out G_7.out
  have HNM := Lib.hid (numWr_le r)
  refine (markWr_own _ r bx0 _ (1) _ ox (by omega) (by have a := HNM.out; have b := HCN0.out; omega)).mono ?_
  rintro e w8 ⟨rfl, -, hT⟩
  have zz0 := HZ.out
  have zz1 := HZ1.out
  have zz2 := HZ2.out
  have zz3 := HZ3.out
  have zz4 := HZ4.out
  have zz5 := HZ5.out
  have zz6 := HZ6.out
  have zz7 := HZ7.out
  have bd := HXB0.out
  have hx0 := (HR7.out.1).same (hT.block (w.heap.size) (HR7.out.1).lt (fun hm => by have := bd _ hm; first | omega | (simp at this; done) | (simp at this; omega)))
  have hx1 := (HR7.out.2.1).same (hT.block (w3.heap.size) (HR7.out.2.1).lt (fun hm => by have := bd _ hm; first | omega | (simp at this; done) | (simp at this; omega)))
  have hx2 := (HR7.out.2.2.1).same (hT.block (w4.heap.size) (HR7.out.2.2.1).lt (fun hm => by have := bd _ hm; first | omega | (simp at this; done) | (simp at this; omega)))
  have hx3 := (HR7.out.2.2.2).same (hT.block (w5.heap.size) (HR7.out.2.2.2).lt (fun hm => by have := bd _ hm; first | omega | (simp at this; done) | (simp at this; omega)))
  have HB_8 := Lib.hid (HB_7.out.trans (hT.below HB_7.out.size (fun b hm => by have := bd _ hm; first | omega | (simp at this; omega))))
  clear HB_7
  have AW_8 := Lib.hid (AW_7.out.trans (hT.below AW_7.out.size (fun b hm => by have := bd _ hm; first | omega | (simp at this; omega))))
  clear AW_7
  have HGk := Lib.hid (hT.keep goodWr og (fun c hc hm => by have a1 := bd _ hm; have a2 := goodWr.lt og hc; first | omega | (simp at a1 a2; omega) | (simp at a1; omega) | (simp at a2; omega)))
  have HZ8 := Lib.hid hT.size
  clear zz0 zz1 zz2 zz3 zz4 zz5 zz6 zz7
  clear bd hT HR7
  have HR8 := Lib.hid (show _ ∧ _ ∧ _ ∧ _ from ⟨hx0, hx1, hx2, hx3⟩)
  clear hx0 hx1 hx2 hx3
  clear q7_0_0 q7_0_1 q7_0_2 q7_0_3 lt7_0 q7_1_0 q7_1_1 q7_1_2 q7_1_3 lt7_1 q7_2_0 q7_2_1 q7_2_2 q7_2_3 lt7_2 q7_3_0 q7_3_1 q7_3_2 q7_3_3 lt7_3
  obtain ⟨⟨q8_0_0, q8_0_1, q8_0_2, q8_0_3⟩, -⟩ := (HR8.out.1).four
  have lt8_0 := (HR8.out.1).lt
  obtain ⟨⟨q8_1_0, q8_1_1, q8_1_2, q8_1_3⟩, -⟩ := (HR8.out.2.1).four
  have lt8_1 := (HR8.out.2.1).lt
  obtain ⟨⟨q8_2_0, q8_2_1, q8_2_2, q8_2_3⟩, -⟩ := (HR8.out.2.2.1).four
  have lt8_2 := (HR8.out.2.2.1).lt
  obtain ⟨⟨q8_3_0, q8_3_1, q8_3_2, q8_3_3⟩, -⟩ := (HR8.out.2.2.2).four
  have lt8_3 := (HR8.out.2.2.2).lt
  clear og HG ox
  have HG := HGk
  clear HGk
  have AG8 := Lib.hid (Below.refl w8.heap.size w8)
  have HBD0 := Lib.hid (show (numWr r : Int) ≤ 4194304 from by have a := HNM.out; have b := HCN0.out; omega)
  have kp0 : (0 : Int) ≤ 1 + (numWr r : Int) := by omega
  have kq0 : 1 + (numWr r : Int) ≤ 2305843009213693952 := by have b0 := HBD0.out; omega
  clear HNM
  go_wp2_with fail
  refine (eqWr_same _ _ (mirWRes r).1 _ (keepsWr _ _ _ _ HG.out.rd AG8.out) (keepsWr _ _ _ _ HRW.out AW_8.out)).mono ?_
  rintro e w9 ⟨rfl, hb⟩
  have hx0 := (HR8.out.1).below hb (HR8.out.1).lt
  have hx1 := (HR8.out.2.1).below hb (HR8.out.2.1).lt
  have hx2 := (HR8.out.2.2.1).below hb (HR8.out.2.2.1).lt
  have hx3 := (HR8.out.2.2.2).below hb (HR8.out.2.2.2).lt
  have HZ9 := Lib.hid hb.size
  have HB_9 := Lib.hid (below_step HB_8.out hb)
  clear HB_8
  have AW_9 := Lib.hid (below_step AW_8.out hb)
  clear AW_8
  have G_9 := Lib.hid (below_step AG8.out hb)
  clear AG8
  clear HR8
  have HR9 := Lib.hid (show _ ∧ _ ∧ _ ∧ _ from ⟨hx0, hx1, hx2, hx3⟩)
  clear hb hx0 hx1 hx2 hx3
  clear q8_0_0 q8_0_1 q8_0_2 q8_0_3 lt8_0 q8_1_0 q8_1_1 q8_1_2 q8_1_3 lt8_1 q8_2_0 q8_2_1 q8_2_2 q8_2_3 lt8_2 q8_3_0 q8_3_1 q8_3_2 q8_3_3 lt8_3
  obtain ⟨⟨q9_0_0, q9_0_1, q9_0_2, q9_0_3⟩, -⟩ := (HR9.out.1).four
  have lt9_0 := (HR9.out.1).lt
  obtain ⟨⟨q9_1_0, q9_1_1, q9_1_2, q9_1_3⟩, -⟩ := (HR9.out.2.1).four
  have lt9_1 := (HR9.out.2.1).lt
  obtain ⟨⟨q9_2_0, q9_2_1, q9_2_2, q9_2_3⟩, -⟩ := (HR9.out.2.2.1).four
  have lt9_2 := (HR9.out.2.2.1).lt
  obtain ⟨⟨q9_3_0, q9_3_1, q9_3_2, q9_3_3⟩, -⟩ := (HR9.out.2.2.2).four
  have lt9_3 := (HR9.out.2.2.2).lt
  go_wp2_with fail
  have HN := Lib.hid (show (numWr ((mirWRes r).1) : Int) ≤ 2305843009213693952 from by exact mirW_num r)
  have og := goodWr.below HG.out G_9.out
  refine (markWr_own _ ((mirWRes r).1) bgs _ 1 _ og (by omega) (by have a := HN.out; omega)).mono ?_
  rintro e w10 ⟨rfl, hm, hT0⟩
  have hT := hT0
  clear hT0
  have HM := Lib.hid hm
  clear hm
  have zz0 := HZ.out
  have zz1 := HZ1.out
  have zz2 := HZ2.out
  have zz3 := HZ3.out
  have zz4 := HZ4.out
  have zz5 := HZ5.out
  have zz6 := HZ6.out
  have zz7 := HZ7.out
  have zz8 := HZ8.out
  have zz9 := HZ9.out
  have bd := HGB.out
  have hx0 := (HR9.out.1).same (hT.block (w.heap.size) (HR9.out.1).lt (fun hm => by have := bd _ hm; first | omega | (simp at this; done) | (simp at this; omega)))
  have hx1 := (HR9.out.2.1).same (hT.block (w3.heap.size) (HR9.out.2.1).lt (fun hm => by have := bd _ hm; first | omega | (simp at this; done) | (simp at this; omega)))
  have hx2 := (HR9.out.2.2.1).same (hT.block (w4.heap.size) (HR9.out.2.2.1).lt (fun hm => by have := bd _ hm; first | omega | (simp at this; done) | (simp at this; omega)))
  have hx3 := (HR9.out.2.2.2).same (hT.block (w5.heap.size) (HR9.out.2.2.2).lt (fun hm => by have := bd _ hm; first | omega | (simp at this; done) | (simp at this; omega)))
  have HB_10 := Lib.hid (HB_9.out.trans (hT.below HB_9.out.size (fun b hm => by have := bd _ hm; first | omega | (simp at this; omega))))
  clear HB_9
  have AW_10 := Lib.hid (AW_9.out.trans (hT.below AW_9.out.size (fun b hm => by have := bd _ hm; first | omega | (simp at this; omega))))
  clear AW_9
  have HZ10 := Lib.hid hT.size
  clear zz0 zz1 zz2 zz3 zz4 zz5 zz6 zz7 zz8 zz9
  clear bd hT HR9
  have HR10 := Lib.hid (show _ ∧ _ ∧ _ ∧ _ from ⟨hx0, hx1, hx2, hx3⟩)
  clear hx0 hx1 hx2 hx3
  clear q9_0_0 q9_0_1 q9_0_2 q9_0_3 lt9_0 q9_1_0 q9_1_1 q9_1_2 q9_1_3 lt9_1 q9_2_0 q9_2_1 q9_2_2 q9_2_3 lt9_2 q9_3_0 q9_3_1 q9_3_2 q9_3_3 lt9_3
  obtain ⟨⟨q10_0_0, q10_0_1, q10_0_2, q10_0_3⟩, -⟩ := (HR10.out.1).four
  have lt10_0 := (HR10.out.1).lt
  obtain ⟨⟨q10_1_0, q10_1_1, q10_1_2, q10_1_3⟩, -⟩ := (HR10.out.2.1).four
  have lt10_1 := (HR10.out.2.1).lt
  obtain ⟨⟨q10_2_0, q10_2_1, q10_2_2, q10_2_3⟩, -⟩ := (HR10.out.2.2.1).four
  have lt10_2 := (HR10.out.2.2.1).lt
  obtain ⟨⟨q10_3_0, q10_3_1, q10_3_2, q10_3_3⟩, -⟩ := (HR10.out.2.2.2).four
  have lt10_3 := (HR10.out.2.2.2).lt
  clear og HG
  have AM := Lib.hid (Below.refl w10.heap.size w10)
  have kq : (0 : Int) ≤ 1 + (numWr ((mirWRes r).1) : Int) := by omega
  have hnq : (1 + (numWr ((mirWRes r).1) : Int) != 1 + (numWr ((mirWRes r).1) : Int)) = false := by simp
  go_wp2_with fail
  refine (heldWr_any _ ((mirWRes r).1) 1 _ (keepsWr _ _ _ _ HM.out.rd AM.out) (by omega) (by have a := HN.out; omega)).mono ?_
  rintro e w11 ⟨rfl, hb⟩
  have hx0 := (HR10.out.1).below hb (HR10.out.1).lt
  have hx1 := (HR10.out.2.1).below hb (HR10.out.2.1).lt
  have hx2 := (HR10.out.2.2.1).below hb (HR10.out.2.2.1).lt
  have hx3 := (HR10.out.2.2.2).below hb (HR10.out.2.2.2).lt
  have HZ11 := Lib.hid hb.size
  have HB_11 := Lib.hid (below_step HB_10.out hb)
  clear HB_10
  have AW_11 := Lib.hid (below_step AW_10.out hb)
  clear AW_10
  have HM_11 := Lib.hid (below_step AM.out hb)
  clear AM
  clear HR10
  have HR11 := Lib.hid (show _ ∧ _ ∧ _ ∧ _ from ⟨hx0, hx1, hx2, hx3⟩)
  clear hb hx0 hx1 hx2 hx3
  clear q10_0_0 q10_0_1 q10_0_2 q10_0_3 lt10_0 q10_1_0 q10_1_1 q10_1_2 q10_1_3 lt10_1 q10_2_0 q10_2_1 q10_2_2 q10_2_3 lt10_2 q10_3_0 q10_3_1 q10_3_2 q10_3_3 lt10_3
  obtain ⟨⟨q11_0_0, q11_0_1, q11_0_2, q11_0_3⟩, -⟩ := (HR11.out.1).four
  have lt11_0 := (HR11.out.1).lt
  obtain ⟨⟨q11_1_0, q11_1_1, q11_1_2, q11_1_3⟩, -⟩ := (HR11.out.2.1).four
  have lt11_1 := (HR11.out.2.1).lt
  obtain ⟨⟨q11_2_0, q11_2_1, q11_2_2, q11_2_3⟩, -⟩ := (HR11.out.2.2.1).four
  have lt11_2 := (HR11.out.2.2.1).lt
  obtain ⟨⟨q11_3_0, q11_3_1, q11_3_2, q11_3_3⟩, -⟩ := (HR11.out.2.2.2).four
  have lt11_3 := (HR11.out.2.2.2).lt
  go_wp2_with fail
  refine (toWr_own _ r _ (HK0.out _ HB_11.out) HS0.out).mono ?_
  rintro e w12 ⟨u0, bu, rfl, hu, hb⟩
  have HU0 := Lib.hid (show RdWr _ _ _ from hu.rd)
  clear hu
  have hx0 := (HR11.out.1).below hb (HR11.out.1).lt
  have hx1 := (HR11.out.2.1).below hb (HR11.out.2.1).lt
  have hx2 := (HR11.out.2.2.1).below hb (HR11.out.2.2.1).lt
  have hx3 := (HR11.out.2.2.2).below hb (HR11.out.2.2.2).lt
  have HZ12 := Lib.hid hb.size
  have HB_12 := Lib.hid (below_step HB_11.out hb)
  clear HB_11
  have AW_12 := Lib.hid (below_step AW_11.out hb)
  clear AW_11
  have HM_12 := Lib.hid (below_step HM_11.out hb)
  clear HM_11
  clear HR11
  have HR12 := Lib.hid (show _ ∧ _ ∧ _ ∧ _ from ⟨hx0, hx1, hx2, hx3⟩)
  clear hb hx0 hx1 hx2 hx3
  clear q11_0_0 q11_0_1 q11_0_2 q11_0_3 lt11_0 q11_1_0 q11_1_1 q11_1_2 q11_1_3 lt11_1 q11_2_0 q11_2_1 q11_2_2 q11_2_3 lt11_2 q11_3_0 q11_3_1 q11_3_2 q11_3_3 lt11_3
  obtain ⟨⟨q12_0_0, q12_0_1, q12_0_2, q12_0_3⟩, -⟩ := (HR12.out.1).four
  have lt12_0 := (HR12.out.1).lt
  obtain ⟨⟨q12_1_0, q12_1_1, q12_1_2, q12_1_3⟩, -⟩ := (HR12.out.2.1).four
  have lt12_1 := (HR12.out.2.1).lt
  obtain ⟨⟨q12_2_0, q12_2_1, q12_2_2, q12_2_3⟩, -⟩ := (HR12.out.2.2.1).four
  have lt12_2 := (HR12.out.2.2.1).lt
  obtain ⟨⟨q12_3_0, q12_3_1, q12_3_2, q12_3_3⟩, -⟩ := (HR12.out.2.2.2).four
  have lt12_3 := (HR12.out.2.2.2).lt
  go_wp2_with fail
  refine (implMw_own _ r _ HU0.out).mono ?_
  rintro e w13 ⟨g, bhs, rfl, hg, hb⟩
  clear HU0
  have hgr : RdWr _ _ _ := hg.rd
  have hsx := hgr.shape
  obtain ⟨Ah, kah, Bh, kbh, rfl⟩ := hsx
  have HH := Lib.hid hgr
  clear hg hgr
  have hx0 := (HR12.out.1).below hb (HR12.out.1).lt
  have hx1 := (HR12.out.2.1).below hb (HR12.out.2.1).lt
  have hx2 := (HR12.out.2.2.1).below hb (HR12.out.2.2.1).lt
  have hx3 := (HR12.out.2.2.2).below hb (HR12.out.2.2.2).lt
  have HZ13 := Lib.hid hb.size
  have HB_13 := Lib.hid (below_step HB_12.out hb)
  clear HB_12
  have AW_13 := Lib.hid (below_step AW_12.out hb)
  clear AW_12
  have HM_13 := Lib.hid (below_step HM_12.out hb)
  clear HM_12
  clear HR12
  have HR13 := Lib.hid (show _ ∧ _ ∧ _ ∧ _ from ⟨hx0, hx1, hx2, hx3⟩)
  clear hb hx0 hx1 hx2 hx3
  clear q12_0_0 q12_0_1 q12_0_2 q12_0_3 lt12_0 q12_1_0 q12_1_1 q12_1_2 q12_1_3 lt12_1 q12_2_0 q12_2_1 q12_2_2 q12_2_3 lt12_2 q12_3_0 q12_3_1 q12_3_2 q12_3_3 lt12_3
  obtain ⟨⟨q13_0_0, q13_0_1, q13_0_2, q13_0_3⟩, -⟩ := (HR13.out.1).four
  have lt13_0 := (HR13.out.1).lt
  obtain ⟨⟨q13_1_0, q13_1_1, q13_1_2, q13_1_3⟩, -⟩ := (HR13.out.2.1).four
  have lt13_1 := (HR13.out.2.1).lt
  obtain ⟨⟨q13_2_0, q13_2_1, q13_2_2, q13_2_3⟩, -⟩ := (HR13.out.2.2.1).four
  have lt13_2 := (HR13.out.2.2.1).lt
  obtain ⟨⟨q13_3_0, q13_3_1, q13_3_2, q13_3_3⟩, -⟩ := (HR13.out.2.2.2).four
  have lt13_3 := (HR13.out.2.2.2).lt
  go_wp2_with fail
  refine (eqWr_same _ _ (mirWRes r).1 _ (keepsWr _ _ _ _ HH.out (below_alloc _ _)) (keepsWr _ _ _ _ HRW.out (below_step AW_13.out (below_alloc _ _)))).mono ?_
  rintro e w14 ⟨rfl, hb⟩
  have hst := below_step (below_alloc w13 (.cells #[.int .i64 (mirWRes r).1.L, .int .i64 (mirWRes r).1.S, .slice Ah (mirWRes r).1.mv.length kah, .slice Bh (mirWRes r).1.out.length kbh] 27)) hb
  have hx0 := (HR13.out.1).below hst (HR13.out.1).lt
  have hx1 := (HR13.out.2.1).below hst (HR13.out.2.1).lt
  have hx2 := (HR13.out.2.2.1).below hst (HR13.out.2.2.1).lt
  have hx3 := (HR13.out.2.2.2).below hst (HR13.out.2.2.2).lt
  have hx4 := (Row.new w13 [.int .i64 (mirWRes r).1.L, .int .i64 (mirWRes r).1.S, .slice Ah (mirWRes r).1.mv.length kah, .slice Bh (mirWRes r).1.out.length kbh] 27).below hb (Row.new w13 [.int .i64 (mirWRes r).1.L, .int .i64 (mirWRes r).1.S, .slice Ah (mirWRes r).1.mv.length kah, .slice Bh (mirWRes r).1.out.length kbh] 27).lt
  have HZ14 := Lib.hid (show w13.heap.size + 1 ≤ w14.heap.size by have := hb.size; simpa using this)
  have HB_14 := Lib.hid (below_step HB_13.out hst)
  clear HB_13
  have AW_14 := Lib.hid (below_step AW_13.out hst)
  clear AW_13
  have HM_14 := Lib.hid (below_step HM_13.out hst)
  clear HM_13
  clear HR13
  have HR14 := Lib.hid (show _ ∧ _ ∧ _ ∧ _ ∧ _ from ⟨hx0, hx1, hx2, hx3, hx4⟩)
  clear hb hx0 hx1 hx2 hx3 hx4 hst
  clear q13_0_0 q13_0_1 q13_0_2 q13_0_3 lt13_0 q13_1_0 q13_1_1 q13_1_2 q13_1_3 lt13_1 q13_2_0 q13_2_1 q13_2_2 q13_2_3 lt13_2 q13_3_0 q13_3_1 q13_3_2 q13_3_3 lt13_3
  obtain ⟨⟨q14_0_0, q14_0_1, q14_0_2, q14_0_3⟩, -⟩ := (HR14.out.1).four
  have lt14_0 := (HR14.out.1).lt
  obtain ⟨⟨q14_1_0, q14_1_1, q14_1_2, q14_1_3⟩, -⟩ := (HR14.out.2.1).four
  have lt14_1 := (HR14.out.2.1).lt
  obtain ⟨⟨q14_2_0, q14_2_1, q14_2_2, q14_2_3⟩, -⟩ := (HR14.out.2.2.1).four
  have lt14_2 := (HR14.out.2.2.1).lt
  obtain ⟨⟨q14_3_0, q14_3_1, q14_3_2, q14_3_3⟩, -⟩ := (HR14.out.2.2.2.1).four
  have lt14_3 := (HR14.out.2.2.2.1).lt
  obtain ⟨⟨q14_4_0, q14_4_1, q14_4_2, q14_4_3⟩, -⟩ := (HR14.out.2.2.2.2).four
  have lt14_4 := (HR14.out.2.2.2.2).lt
  go_wp2_with fail
  refine (heldWr_any _ ((mirWRes r).1) 1 _ (keepsWr _ _ _ _ HM.out.rd HM_14.out) (by omega) (by have a := HN.out; omega)).mono ?_
  rintro e w15 ⟨rfl, hb⟩
  have hx0 := (HR14.out.1).below hb (HR14.out.1).lt
  have hx1 := (HR14.out.2.1).below hb (HR14.out.2.1).lt
  have hx2 := (HR14.out.2.2.1).below hb (HR14.out.2.2.1).lt
  have hx3 := (HR14.out.2.2.2.1).below hb (HR14.out.2.2.2.1).lt
  have hx4 := (HR14.out.2.2.2.2).below hb (HR14.out.2.2.2.2).lt
  have HZ15 := Lib.hid hb.size
  have HB_15 := Lib.hid (below_step HB_14.out hb)
  clear HB_14
  have AW_15 := Lib.hid (below_step AW_14.out hb)
  clear AW_14
  have HM_15 := Lib.hid (below_step HM_14.out hb)
  clear HM_14
  clear HR14
  have HR15 := Lib.hid (show _ ∧ _ ∧ _ ∧ _ ∧ _ from ⟨hx0, hx1, hx2, hx3, hx4⟩)
  clear hb hx0 hx1 hx2 hx3 hx4
  clear q14_0_0 q14_0_1 q14_0_2 q14_0_3 lt14_0 q14_1_0 q14_1_1 q14_1_2 q14_1_3 lt14_1 q14_2_0 q14_2_1 q14_2_2 q14_2_3 lt14_2 q14_3_0 q14_3_1 q14_3_2 q14_3_3 lt14_3 q14_4_0 q14_4_1 q14_4_2 q14_4_3 lt14_4
  obtain ⟨⟨q15_0_0, q15_0_1, q15_0_2, q15_0_3⟩, -⟩ := (HR15.out.1).four
  have lt15_0 := (HR15.out.1).lt
  obtain ⟨⟨q15_1_0, q15_1_1, q15_1_2, q15_1_3⟩, -⟩ := (HR15.out.2.1).four
  have lt15_1 := (HR15.out.2.1).lt
  obtain ⟨⟨q15_2_0, q15_2_1, q15_2_2, q15_2_3⟩, -⟩ := (HR15.out.2.2.1).four
  have lt15_2 := (HR15.out.2.2.1).lt
  obtain ⟨⟨q15_3_0, q15_3_1, q15_3_2, q15_3_3⟩, -⟩ := (HR15.out.2.2.2.1).four
  have lt15_3 := (HR15.out.2.2.2.1).lt
  obtain ⟨⟨q15_4_0, q15_4_1, q15_4_2, q15_4_3⟩, -⟩ := (HR15.out.2.2.2.2).four
  have lt15_4 := (HR15.out.2.2.2.2).lt
  go_wp2
  go_ret
  exact ⟨rfl, HB_15.out⟩

theorem own : ownKnob Try.prog.godebug = none := by kernel_rfl
theorem laidOut : laidOutB Try.prog = true := by kernel_rfl

set_option maxRecDepth 100000 in
theorem lifted (os : Os) (started : os.Started) (H : Type) (enc : TypeId × Value → H) :
    ReturnsInHanded {} Try.checked os 5 .any (Rows.fnExactMirrorWriterSpec.pre6 enc Try.prog Try.f5 Rows.fnExactMirrorWriterRow.domain false) (Rows.fnExactMirrorWriterSpec.post enc Try.prog Try.f5 false true false false) := by
  refine returnsInHanded_of_change_sized (C := Try.checked) own started (by kernel_rfl) Try.func5
    (ChangeSpec.witness6 (enc := enc) (C := Try.checked) false ⟨#[], #[.agg #[.int .i64 0, .int .i64 0, .slice none 0 0, .slice none 0 0]], []⟩ 8 (by kernel_rfl) (by kernel_rfl) (by kernel_rfl) (by kernel_rfl)) ?_
  intro W base args ds gs before hval0 hW _ hsz0 _
  have hsz : (DataW.weightsEach Try.prog (Try.f5.params.toList ++ Rows.fnExactMirrorWriterSpec.plain.varTypes Try.prog) (ds ++ gs)).all (· ≤ reachBytes) = true := hsz0
  clear hsz0
  have hval : ∀ (j : Nat) t v, Try.f5.params[j]? = some t → args[j]? = some v → Value.okWide Try.prog W .any base t v := hval0
  have hW' := hW
  obtain ⟨p, q, hA0, hV, rfl, hfz, hnd⟩ := hW
  have hA : DataW.TrodAll enc Try.prog W 0 (fun _ => true) true Try.f5.params.toList args.toList ds p := hA0
  have hK := fun W' hb => args_kept (W' := W') laidOut (by decide +kernel) hA hb
  rw [Try.params5] at hA hval hsz
  obtain ⟨v0, vs0, d0, ds0, p0, q0, hargs, rfl, rfl, h0, r0⟩ := trodAll_cons hA
  obtain ⟨rfl, rfl, rfl⟩ := trodAll_nil r0
  obtain rfl : args = #[v0] := by cases args; simp_all
  obtain ⟨rfl, rfl⟩ := trodVars_none hV
  obtain ⟨r, hr0, hs0⟩ := open_writer (hval 0 _ v0 rfl rfl) h0 (fit_arg hsz (j := 0) rfl rfl)
  clear hA0 hval0
  refine (walk v0 r W hr0 hs0).mono fun e W' ⟨he, bel⟩ => ?_
  subst he
  exact ⟨_, rfl, _, _, _, [], _, [], hW', trodAll_mk1 (shut_bool Try.underlying4 _), hK W' bel, rfl, bel.frame _, fun h => by cases h⟩

theorem over : Rows.fnExactMirrorWriterRow.holds Try.pinned (OpenSpec.ofChange Rows.fnExactMirrorWriterSpec) :=
  OpenClaim.holds_of_wide 5 Try.f5 rfl rfl rfl rfl rfl rfl rfl ⟨rfl, rfl, rfl, rfl, rfl⟩ rfl rfl rfl rfl rfl (by kernel_rfl) Try.func5 (by kernel_rfl)
    (of_decide_eq_true (by kernel_rfl)) (by unfold Func.isWrapper; first | (rw [if_pos (by decide +kernel)]; kernel_rfl) | (rw [if_neg (by decide +kernel)]; exact ⟨rfl, rfl⟩))
    (fun os started H enc _ => lifted os started H enc)

theorem holds : Rows.FnExactMirrorWriterSaid := over
#print axioms holds
end Go.Proofs.Ytahgekjpnmmooaa.mirrorWriter
