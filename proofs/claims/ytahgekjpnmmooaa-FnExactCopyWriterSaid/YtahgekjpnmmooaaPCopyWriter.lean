/-
  For every input that can be read as data, FnExactCopyWriter returns true, and its arguments read behind the call as before: the program's CopyWriter answers as its model, and its answer is its own.
-/
import Derived.Test.YtahgekjpnmmooaaRows
import Derived.Test.YtahgekjpnmmooaaOpen
import Derived.Test.YtahgekjpnmmooaaCp2
import Derived.Test.YtahgekjpnmmooaaCp6
import Derived.Test.YtahgekjpnmmooaaKWr
import Derived.Test.YtahgekjpnmmooaaGWr
import Derived.Test.YtahgekjpnmmooaaZWr
namespace Go.Proofs.Ytahgekjpnmmooaa.copyWriter
open Go.ChangeShapes Go.WideShapes Go.ChangeAt Go.RowKit Go.Joins Go.Deep
open Go.ChangeMaps (open_string shut_string)
set_option linter.unusedVariables false

set_option maxRecDepth 100000 in
set_option maxHeartbeats 6400000 in
theorem walk (l : Int) (t : Int) (w : World) (s0 : (Lit.int .i64 l).wf = true) (s1 : (Lit.int .i64 t).wf = true) :
    Calls Try.prog 4 #[.int .i64 l, .int .i64 t] w fun e w' => e = .returned (.bool true) ∧ Below w.heap.size w w' := by
  have HB := Lib.hid (show Below w.heap.size w w from Below.refl _ _)
  have HZ := Lib.hid (show w.heap.size + 0 ≤ w.heap.size by simp)
  have HR := Lib.hid True.intro
  go_enter Try.func4, Try.ntmps4
  go_wp2_with fail
  refine (specCopy_rd l t _).mono ?_
  rintro e w1 ⟨u0, rfl, hrd0, hb⟩
  have hsx := hrd0.shape
  obtain ⟨Aw, kaw, Bw, kbw, rfl⟩ := hsx
  have HRW := Lib.hid hrd0
  clear hrd0
  have HZ1 := Lib.hid hb.size
  have HB_1 := Lib.hid (below_step HB.out hb)
  clear HB
  clear HR
  have HR1 := Lib.hid True.intro
  clear hb 
  have AW := Lib.hid (Below.refl w1.heap.size w1)
  go_wp2_with fail
  refine (implCopy_own l t _).mono ?_
  rintro e w2 ⟨g, bgs, rfl, hg, hb⟩
  have hgr : RdWr _ _ _ := hg.rd
  have hsx := hgr.shape
  obtain ⟨Ag, kag, Bg, kbg, rfl⟩ := hsx
  have HG := Lib.hid hg
  have HGB := Lib.hid (fun (x : Nat) hm => goodWr.lt hg (b := x) hm)
  clear hg hgr
  have hst := below_step (below_alloc w1 (.cells #[.int .i64 (copyRes l t).1.L, .int .i64 (copyRes l t).1.S, .slice Aw (copyRes l t).1.mv.length kaw, .slice Bw (copyRes l t).1.out.length kbw] 27)) hb
  have hx0 := (Row.new w1 [.int .i64 (copyRes l t).1.L, .int .i64 (copyRes l t).1.S, .slice Aw (copyRes l t).1.mv.length kaw, .slice Bw (copyRes l t).1.out.length kbw] 27).below hb (Row.new w1 [.int .i64 (copyRes l t).1.L, .int .i64 (copyRes l t).1.S, .slice Aw (copyRes l t).1.mv.length kaw, .slice Bw (copyRes l t).1.out.length kbw] 27).lt
  have HZ2 := Lib.hid (show w1.heap.size + 1 ≤ w2.heap.size by have := hb.size; simpa using this)
  have HB_2 := Lib.hid (below_step HB_1.out hst)
  clear HB_1
  have AW_2 := Lib.hid (below_step AW.out hst)
  clear AW
  clear HR1
  have HR2 := Lib.hid (show _ from hx0)
  clear hb hx0 hst
  obtain ⟨⟨q2_0_0, q2_0_1, q2_0_2, q2_0_3⟩, -⟩ := (HR2.out).four
  have lt2_0 := (HR2.out).lt
  have AG := Lib.hid (Below.refl w2.heap.size w2)
  have hne1 : ((copyRes l t).2 != (copyRes l t).2) = false := by simp
  go_wp2_with fail
  refine (eqWr_same _ _ (copyRes l t).1 _ (keepsWr _ _ _ _ HG.out.rd (below_step AG.out (below_alloc _ _))) (keepsWr _ _ _ _ HRW.out (below_step AW_2.out (below_alloc _ _)))).mono ?_
  rintro e w3 ⟨rfl, hb⟩
  have hst := below_step (below_alloc w2 (.cells #[.int .i64 (copyRes l t).1.L, .int .i64 (copyRes l t).1.S, .slice Ag (copyRes l t).1.mv.length kag, .slice Bg (copyRes l t).1.out.length kbg] 27)) hb
  have hx0 := (HR2.out).below hst (HR2.out).lt
  have hx1 := (Row.new w2 [.int .i64 (copyRes l t).1.L, .int .i64 (copyRes l t).1.S, .slice Ag (copyRes l t).1.mv.length kag, .slice Bg (copyRes l t).1.out.length kbg] 27).below hb (Row.new w2 [.int .i64 (copyRes l t).1.L, .int .i64 (copyRes l t).1.S, .slice Ag (copyRes l t).1.mv.length kag, .slice Bg (copyRes l t).1.out.length kbg] 27).lt
  have HZ3 := Lib.hid (show w2.heap.size + 1 ≤ w3.heap.size by have := hb.size; simpa using this)
  have HB_3 := Lib.hid (below_step HB_2.out hst)
  clear HB_2
  have AW_3 := Lib.hid (below_step AW_2.out hst)
  clear AW_2
  have G_3 := Lib.hid (below_step AG.out hst)
  clear AG
  clear HR2
  have HR3 := Lib.hid (show _ ∧ _ from ⟨hx0, hx1⟩)
  clear hb hx0 hx1 hst
  clear q2_0_0 q2_0_1 q2_0_2 q2_0_3 lt2_0
  obtain ⟨⟨q3_0_0, q3_0_1, q3_0_2, q3_0_3⟩, -⟩ := (HR3.out.1).four
  have lt3_0 := (HR3.out.1).lt
  obtain ⟨⟨q3_1_0, q3_1_1, q3_1_2, q3_1_3⟩, -⟩ := (HR3.out.2).four
  have lt3_1 := (HR3.out.2).lt
  go_wp2_with fail
  have HN := Lib.hid (show (numWr ((copyRes l t).1) : Int) ≤ 2305843009213693952 from by exact copy_num l t)
  have og := goodWr.below HG.out G_3.out
  refine (markWr_own _ ((copyRes l t).1) bgs _ 1 _ og (by omega) (by have a := HN.out; omega)).mono ?_
  rintro e w4 ⟨rfl, hm, hT0⟩
  have hT := hT0
  clear hT0
  have HM := Lib.hid hm
  clear hm
  have zz0 := HZ.out
  have zz1 := HZ1.out
  have zz2 := HZ2.out
  have zz3 := HZ3.out
  have bd := HGB.out
  have hx0 := (HR3.out.1).same (hT.block (w1.heap.size) (HR3.out.1).lt (fun hm => by have := bd _ hm; first | omega | (simp at this; done) | (simp at this; omega)))
  have hx1 := (HR3.out.2).same (hT.block (w2.heap.size) (HR3.out.2).lt (fun hm => by have := bd _ hm; first | omega | (simp at this; done) | (simp at this; omega)))
  have HB_4 := Lib.hid (HB_3.out.trans (hT.below HB_3.out.size (fun b hm => by have := bd _ hm; first | omega | (simp at this; omega))))
  clear HB_3
  have AW_4 := Lib.hid (AW_3.out.trans (hT.below AW_3.out.size (fun b hm => by have := bd _ hm; first | omega | (simp at this; omega))))
  clear AW_3
  have HZ4 := Lib.hid hT.size
  clear zz0 zz1 zz2 zz3
  clear bd hT HR3
  have HR4 := Lib.hid (show _ ∧ _ from ⟨hx0, hx1⟩)
  clear hx0 hx1
  clear q3_0_0 q3_0_1 q3_0_2 q3_0_3 lt3_0 q3_1_0 q3_1_1 q3_1_2 q3_1_3 lt3_1
  obtain ⟨⟨q4_0_0, q4_0_1, q4_0_2, q4_0_3⟩, -⟩ := (HR4.out.1).four
  have lt4_0 := (HR4.out.1).lt
  obtain ⟨⟨q4_1_0, q4_1_1, q4_1_2, q4_1_3⟩, -⟩ := (HR4.out.2).four
  have lt4_1 := (HR4.out.2).lt
  clear og HG
  have AM := Lib.hid (Below.refl w4.heap.size w4)
  have kq : (0 : Int) ≤ 1 + (numWr ((copyRes l t).1) : Int) := by omega
  have hnq : (1 + (numWr ((copyRes l t).1) : Int) != 1 + (numWr ((copyRes l t).1) : Int)) = false := by simp
  go_wp2_with fail
  refine (heldWr_any _ ((copyRes l t).1) 1 _ (keepsWr _ _ _ _ HM.out.rd AM.out) (by omega) (by have a := HN.out; omega)).mono ?_
  rintro e w5 ⟨rfl, hb⟩
  have hx0 := (HR4.out.1).below hb (HR4.out.1).lt
  have hx1 := (HR4.out.2).below hb (HR4.out.2).lt
  have HZ5 := Lib.hid hb.size
  have HB_5 := Lib.hid (below_step HB_4.out hb)
  clear HB_4
  have AW_5 := Lib.hid (below_step AW_4.out hb)
  clear AW_4
  have HM_5 := Lib.hid (below_step AM.out hb)
  clear AM
  clear HR4
  have HR5 := Lib.hid (show _ ∧ _ from ⟨hx0, hx1⟩)
  clear hb hx0 hx1
  clear q4_0_0 q4_0_1 q4_0_2 q4_0_3 lt4_0 q4_1_0 q4_1_1 q4_1_2 q4_1_3 lt4_1
  obtain ⟨⟨q5_0_0, q5_0_1, q5_0_2, q5_0_3⟩, -⟩ := (HR5.out.1).four
  have lt5_0 := (HR5.out.1).lt
  obtain ⟨⟨q5_1_0, q5_1_1, q5_1_2, q5_1_3⟩, -⟩ := (HR5.out.2).four
  have lt5_1 := (HR5.out.2).lt
  go_wp2_with fail
  refine (implCopy_own l t _).mono ?_
  rintro e w6 ⟨g, bhs, rfl, hg, hb⟩
  have hgr : RdWr _ _ _ := hg.rd
  have hsx := hgr.shape
  obtain ⟨Ah, kah, Bh, kbh, rfl⟩ := hsx
  have HH := Lib.hid hgr
  clear hg hgr
  have hx0 := (HR5.out.1).below hb (HR5.out.1).lt
  have hx1 := (HR5.out.2).below hb (HR5.out.2).lt
  have HZ6 := Lib.hid hb.size
  have HB_6 := Lib.hid (below_step HB_5.out hb)
  clear HB_5
  have AW_6 := Lib.hid (below_step AW_5.out hb)
  clear AW_5
  have HM_6 := Lib.hid (below_step HM_5.out hb)
  clear HM_5
  clear HR5
  have HR6 := Lib.hid (show _ ∧ _ from ⟨hx0, hx1⟩)
  clear hb hx0 hx1
  clear q5_0_0 q5_0_1 q5_0_2 q5_0_3 lt5_0 q5_1_0 q5_1_1 q5_1_2 q5_1_3 lt5_1
  obtain ⟨⟨q6_0_0, q6_0_1, q6_0_2, q6_0_3⟩, -⟩ := (HR6.out.1).four
  have lt6_0 := (HR6.out.1).lt
  obtain ⟨⟨q6_1_0, q6_1_1, q6_1_2, q6_1_3⟩, -⟩ := (HR6.out.2).four
  have lt6_1 := (HR6.out.2).lt
  go_wp2_with fail
  refine (eqWr_same _ _ (copyRes l t).1 _ (keepsWr _ _ _ _ HH.out (below_alloc _ _)) (keepsWr _ _ _ _ HRW.out (below_step AW_6.out (below_alloc _ _)))).mono ?_
  rintro e w7 ⟨rfl, hb⟩
  have hst := below_step (below_alloc w6 (.cells #[.int .i64 (copyRes l t).1.L, .int .i64 (copyRes l t).1.S, .slice Ah (copyRes l t).1.mv.length kah, .slice Bh (copyRes l t).1.out.length kbh] 27)) hb
  have hx0 := (HR6.out.1).below hst (HR6.out.1).lt
  have hx1 := (HR6.out.2).below hst (HR6.out.2).lt
  have hx2 := (Row.new w6 [.int .i64 (copyRes l t).1.L, .int .i64 (copyRes l t).1.S, .slice Ah (copyRes l t).1.mv.length kah, .slice Bh (copyRes l t).1.out.length kbh] 27).below hb (Row.new w6 [.int .i64 (copyRes l t).1.L, .int .i64 (copyRes l t).1.S, .slice Ah (copyRes l t).1.mv.length kah, .slice Bh (copyRes l t).1.out.length kbh] 27).lt
  have HZ7 := Lib.hid (show w6.heap.size + 1 ≤ w7.heap.size by have := hb.size; simpa using this)
  have HB_7 := Lib.hid (below_step HB_6.out hst)
  clear HB_6
  have AW_7 := Lib.hid (below_step AW_6.out hst)
  clear AW_6
  have HM_7 := Lib.hid (below_step HM_6.out hst)
  clear HM_6
  clear HR6
  have HR7 := Lib.hid (show _ ∧ _ ∧ _ from ⟨hx0, hx1, hx2⟩)
  clear hb hx0 hx1 hx2 hst
  clear q6_0_0 q6_0_1 q6_0_2 q6_0_3 lt6_0 q6_1_0 q6_1_1 q6_1_2 q6_1_3 lt6_1
  obtain ⟨⟨q7_0_0, q7_0_1, q7_0_2, q7_0_3⟩, -⟩ := (HR7.out.1).four
  have lt7_0 := (HR7.out.1).lt
  obtain ⟨⟨q7_1_0, q7_1_1, q7_1_2, q7_1_3⟩, -⟩ := (HR7.out.2.1).four
  have lt7_1 := (HR7.out.2.1).lt
  obtain ⟨⟨q7_2_0, q7_2_1, q7_2_2, q7_2_3⟩, -⟩ := (HR7.out.2.2).four
  have lt7_2 := (HR7.out.2.2).lt
  go_wp2_with fail
  refine (heldWr_any _ ((copyRes l t).1) 1 _ (keepsWr _ _ _ _ HM.out.rd HM_7.out) (by omega) (by have a := HN.out; omega)).mono ?_
  rintro e w8 ⟨rfl, hb⟩
  have hx0 := (HR7.out.1).below hb (HR7.out.1).lt
  have hx1 := (HR7.out.2.1).below hb (HR7.out.2.1).lt
  have hx2 := (HR7.out.2.2).below hb (HR7.out.2.2).lt
  have HZ8 := Lib.hid hb.size
  have HB_8 := Lib.hid (below_step HB_7.out hb)
  clear HB_7
  have AW_8 := Lib.hid (below_step AW_7.out hb)
  clear AW_7
  have HM_8 := Lib.hid (below_step HM_7.out hb)
  clear HM_7
  clear HR7
  have HR8 := Lib.hid (show _ ∧ _ ∧ _ from ⟨hx0, hx1, hx2⟩)
  clear hb hx0 hx1 hx2
  clear q7_0_0 q7_0_1 q7_0_2 q7_0_3 lt7_0 q7_1_0 q7_1_1 q7_1_2 q7_1_3 lt7_1 q7_2_0 q7_2_1 q7_2_2 q7_2_3 lt7_2
  obtain ⟨⟨q8_0_0, q8_0_1, q8_0_2, q8_0_3⟩, -⟩ := (HR8.out.1).four
  have lt8_0 := (HR8.out.1).lt
  obtain ⟨⟨q8_1_0, q8_1_1, q8_1_2, q8_1_3⟩, -⟩ := (HR8.out.2.1).four
  have lt8_1 := (HR8.out.2.1).lt
  obtain ⟨⟨q8_2_0, q8_2_1, q8_2_2, q8_2_3⟩, -⟩ := (HR8.out.2.2).four
  have lt8_2 := (HR8.out.2.2).lt
  go_wp2
  go_ret
  exact ⟨rfl, HB_8.out⟩

theorem own : ownKnob Try.prog.godebug = none := by kernel_rfl
theorem laidOut : laidOutB Try.prog = true := by kernel_rfl

set_option maxRecDepth 100000 in
theorem lifted (os : Os) (started : os.Started) (H : Type) (enc : TypeId × Value → H) :
    ReturnsInHanded {} Try.checked os 4 .any (Rows.fnExactCopyWriterSpec.pre6 enc Try.prog Try.f4 Rows.fnExactCopyWriterRow.domain false) (Rows.fnExactCopyWriterSpec.post enc Try.prog Try.f4 false true false false) := by
  refine returnsInHanded_of_change_sized (C := Try.checked) own started (by kernel_rfl) Try.func4
    (ChangeSpec.witness6 (enc := enc) (C := Try.checked) false ⟨#[], #[.int .i64 0, .int .i64 0], []⟩ 8 (by kernel_rfl) (by kernel_rfl) (by kernel_rfl) (by kernel_rfl)) ?_
  intro W base args ds gs before hval0 hW _ hsz0 _
  have hsz : (DataW.weightsEach Try.prog (Try.f4.params.toList ++ Rows.fnExactCopyWriterSpec.plain.varTypes Try.prog) (ds ++ gs)).all (· ≤ reachBytes) = true := hsz0
  clear hsz0
  have hval : ∀ (j : Nat) t v, Try.f4.params[j]? = some t → args[j]? = some v → Value.okWide Try.prog W .any base t v := hval0
  have hW' := hW
  obtain ⟨p, q, hA0, hV, rfl, hfz, hnd⟩ := hW
  have hA : DataW.TrodAll enc Try.prog W 0 (fun _ => true) true Try.f4.params.toList args.toList ds p := hA0
  have hK := fun W' hb => args_kept (W' := W') laidOut (by decide +kernel) hA hb
  rw [Try.params4] at hA hval hsz
  obtain ⟨v0, vs0, d0, ds0, p0, q0, hargs, rfl, rfl, h0, r0⟩ := trodAll_cons hA
  obtain ⟨v1, vs1, d1, ds1, p1, q1, rfl, rfl, rfl, h1, r1⟩ := trodAll_cons r0
  obtain ⟨rfl, rfl, rfl⟩ := trodAll_nil r1
  obtain rfl : args = #[v0, v1] := by cases args; simp_all
  obtain ⟨rfl, rfl⟩ := trodVars_none hV
  obtain ⟨l, rfl, rfl, rfl, hw0⟩ := open_int Try.underlying2 (hval 0 _ v0 rfl rfl) h0
  obtain ⟨t, rfl, rfl, rfl, hw1⟩ := open_int Try.underlying2 (hval 1 _ v1 rfl rfl) h1
  clear hA0 hval0
  refine (walk l t W hw0 hw1).mono fun e W' ⟨he, bel⟩ => ?_
  subst he
  exact ⟨_, rfl, _, _, _, [], _, [], hW', trodAll_mk1 (shut_bool Try.underlying4 _), hK W' bel, rfl, bel.frame _, fun h => by cases h⟩

theorem over : Rows.fnExactCopyWriterRow.holds Try.pinned (OpenSpec.ofChange Rows.fnExactCopyWriterSpec) :=
  OpenClaim.holds_of_wide 4 Try.f4 rfl rfl rfl rfl rfl rfl rfl ⟨rfl, rfl, rfl, rfl, rfl⟩ rfl rfl rfl rfl rfl (by kernel_rfl) Try.func4 (by kernel_rfl)
    (of_decide_eq_true (by kernel_rfl)) (by unfold Func.isWrapper; first | (rw [if_pos (by decide +kernel)]; kernel_rfl) | (rw [if_neg (by decide +kernel)]; exact ⟨rfl, rfl⟩))
    (fun os started H enc _ => lifted os started H enc)

theorem holds : Rows.FnExactCopyWriterSaid := over
#print axioms holds
end Go.Proofs.Ytahgekjpnmmooaa.copyWriter
