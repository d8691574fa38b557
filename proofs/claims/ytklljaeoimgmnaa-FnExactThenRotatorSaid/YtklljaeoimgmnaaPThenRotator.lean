/-
  For every input that can be read as data, FnExactThenRotator returns true, and its arguments read behind the call as before: the program's ThenRotator answers as its model, and its answer is its own.
-/
import Derived.Test.YtklljaeoimgmnaaRows
import Derived.Test.YtklljaeoimgmnaaOpen
import Derived.Test.YtklljaeoimgmnaaRj5
import Derived.Test.YtklljaeoimgmnaaZO
import Derived.Test.YtklljaeoimgmnaaRo5
import Derived.Deep.RegionHeld3
import Derived.Deep.CutRange
namespace Go.Proofs.Ytklljaeoimgmnaa.thenRotator
open Go.ChangeShapes Go.WideShapes Go.ChangeAt Go.RowKit Go.Joins Go.Deep
open Go.ChangeMaps (open_string shut_string)
set_option linter.unusedVariables false

set_option maxRecDepth 100000 in
set_option maxHeartbeats 6400000 in
theorem walk (v0 : Value) (r : OData) (v1 : Value) (s : OData) (w : World) (h0 : RdO w v0 r) (s0 : OSmall r) (h1 : RdO w v1 s) (s1 : OSmall s) :
    Calls Try.prog 4 #[v0, v1] w fun e w' => e = .returned (.bool true) ∧ Below w.heap.size w w' := by
  have hs0 := h0.shape
  obtain ⟨A0, ka0, B0, kb0, rfl⟩ := hs0
  have HK0 := Lib.hid (fun W (hb : Below w.heap.size w W) => keepsO _ _ _ _ h0 hb)
  have HS0 := Lib.hid s0
  clear h0 s0
  have hs1 := h1.shape
  obtain ⟨A1, ka1, B1, kb1, rfl⟩ := hs1
  have HK1 := Lib.hid (fun W (hb : Below w.heap.size w W) => keepsO _ _ _ _ h1 hb)
  have HS1 := Lib.hid s1
  clear h1 s1
  have HB := Lib.hid (show Below w.heap.size w ((w.alloc (.cells #[.int .i64 r.L, .int .i64 r.S, .slice A0 r.next.length ka0, .slice B0 r.fin.length kb0] 38)).alloc (.cells #[.int .i64 s.L, .int .i64 s.S, .slice A1 s.next.length ka1, .slice B1 s.fin.length kb1] 38)) from (below_alloc w _).alloc (by simp) _)
  have HZ := Lib.hid (show w.heap.size + 2 ≤ ((w.alloc (.cells #[.int .i64 r.L, .int .i64 r.S, .slice A0 r.next.length ka0, .slice B0 r.fin.length kb0] 38)).alloc (.cells #[.int .i64 s.L, .int .i64 s.S, .slice A1 s.next.length ka1, .slice B1 s.fin.length kb1] 38)).heap.size by simp)
  have hx0 : Row ((w.alloc (.cells #[.int .i64 r.L, .int .i64 r.S, .slice A0 r.next.length ka0, .slice B0 r.fin.length kb0] 38)).alloc (.cells #[.int .i64 s.L, .int .i64 s.S, .slice A1 s.next.length ka1, .slice B1 s.fin.length kb1] 38)) (w.heap.size) 38 [.int .i64 r.L, .int .i64 r.S, .slice A0 r.next.length ka0, .slice B0 r.fin.length kb0] := by
    have := ((Row.new w [.int .i64 r.L, .int .i64 r.S, .slice A0 r.next.length ka0, .slice B0 r.fin.length kb0] 38).alloc (.cells #[.int .i64 s.L, .int .i64 s.S, .slice A1 s.next.length ka1, .slice B1 s.fin.length kb1] 38))
    simpa using this
  have hx1 : Row ((w.alloc (.cells #[.int .i64 r.L, .int .i64 r.S, .slice A0 r.next.length ka0, .slice B0 r.fin.length kb0] 38)).alloc (.cells #[.int .i64 s.L, .int .i64 s.S, .slice A1 s.next.length ka1, .slice B1 s.fin.length kb1] 38)) (w.heap.size + 1) 38 [.int .i64 s.L, .int .i64 s.S, .slice A1 s.next.length ka1, .slice B1 s.fin.length kb1] := by
    have := (Row.new (w.alloc (.cells #[.int .i64 r.L, .int .i64 r.S, .slice A0 r.next.length ka0, .slice B0 r.fin.length kb0] 38)) [.int .i64 s.L, .int .i64 s.S, .slice A1 s.next.length ka1, .slice B1 s.fin.length kb1] 38)
    simpa using this
  have HR := Lib.hid (show _ ∧ _ from ⟨hx0, hx1⟩)
  clear hx0 hx1
  go_enter Try.func4, Try.ntmps4
  go_wp2_with fail
  refine (szO_tot _ r _ _ (HK0.out _ HB.out) (by omega) (by omega)).mono ?_
  generalize ((w.alloc (.cells #[.int .i64 r.L, .int .i64 r.S, .slice A0 r.next.length ka0, .slice B0 r.fin.length kb0] 38)).alloc (.cells #[.int .i64 s.L, .int .i64 s.S, .slice A1 s.next.length ka1, .slice B1 s.fin.length kb1] 38)) = W0 at *
  rintro e w1 ⟨⟨m0, rfl, hm0⟩, hb⟩
  have HM0 := Lib.hid hm0
  clear hm0
  have hx0 := (HR.out.1).below hb (HR.out.1).lt
  have hx1 := (HR.out.2).below hb (HR.out.2).lt
  have HZ1 := Lib.hid hb.size
  have HB_1 := Lib.hid (below_step HB.out hb)
  clear HB
  clear HR
  have HR1 := Lib.hid (show _ ∧ _ from ⟨hx0, hx1⟩)
  clear hb hx0 hx1
  obtain ⟨⟨q1_0_0, q1_0_1, q1_0_2, q1_0_3⟩, -⟩ := (HR1.out.1).four
  have lt1_0 := (HR1.out.1).lt
  obtain ⟨⟨q1_1_0, q1_1_1, q1_1_2, q1_1_3⟩, -⟩ := (HR1.out.2).four
  have lt1_1 := (HR1.out.2).lt
  by_cases hm0 : m0 < 0
  · go_wp2_with fail
    go_ret
    exact ⟨rfl, HB_1.out⟩
  have hl0 : m0 ≤ 1048576 := by have := HM0.out; omega
  go_wp2_with fail
  refine (szO_tot _ s _ _ (HK1.out _ HB_1.out) (by omega) (by omega)).mono ?_
  rintro e w2 ⟨⟨m1, rfl, hm1⟩, hb⟩
  have HM1 := Lib.hid hm1
  clear hm1
  have hx0 := (HR1.out.1).below hb (HR1.out.1).lt
  have hx1 := (HR1.out.2).below hb (HR1.out.2).lt
  have HZ2 := Lib.hid hb.size
  have HB_2 := Lib.hid (below_step HB_1.out hb)
  clear HB_1
  clear HR1
  have HR2 := Lib.hid (show _ ∧ _ from ⟨hx0, hx1⟩)
  clear hb hx0 hx1
  clear q1_0_0 q1_0_1 q1_0_2 q1_0_3 lt1_0 q1_1_0 q1_1_1 q1_1_2 q1_1_3 lt1_1
  obtain ⟨⟨q2_0_0, q2_0_1, q2_0_2, q2_0_3⟩, -⟩ := (HR2.out.1).four
  have lt2_0 := (HR2.out.1).lt
  obtain ⟨⟨q2_1_0, q2_1_1, q2_1_2, q2_1_3⟩, -⟩ := (HR2.out.2).four
  have lt2_1 := (HR2.out.2).lt
  by_cases hm1 : m1 < 0
  · go_wp2_with fail
    go_ret
    exact ⟨rfl, HB_2.out⟩
  have hl1 : m1 ≤ 1048576 := by have := HM1.out; omega
  go_wp2_with fail
  have HCN0 := Lib.hid (show (cntO r : Int) ≤ 1048576 from by have := HM0.out; have := HM1.out; omega)
  have HCN1 := Lib.hid (show (cntO s : Int) ≤ 1048576 from by have := HM0.out; have := HM1.out; omega)
  clear HM0 hm0 hl0 HM1 hm1 hl1
  have HSC := Lib.hid (fun (V : World) (hb : Below w2.heap.size w2 V) => show (fun (V : World) => V.cell? ⟨w.heap.size, 0, none⟩ = some (.int .i64 r.L) ∧ V.cell? ⟨w.heap.size, 1, none⟩ = some (.int .i64 r.S) ∧ V.cell? ⟨w.heap.size, 2, none⟩ = some (.slice A0 r.next.length ka0) ∧ V.cell? ⟨w.heap.size, 3, none⟩ = some (.slice B0 r.fin.length kb0) ∧ V.cell? ⟨w.heap.size + 1, 0, none⟩ = some (.int .i64 s.L) ∧ V.cell? ⟨w.heap.size + 1, 1, none⟩ = some (.int .i64 s.S) ∧ V.cell? ⟨w.heap.size + 1, 2, none⟩ = some (.slice A1 s.next.length ka1) ∧ V.cell? ⟨w.heap.size + 1, 3, none⟩ = some (.slice B1 s.fin.length kb1)) V from ⟨below_keep hb q2_0_0, below_keep hb q2_0_1, below_keep hb q2_0_2, below_keep hb q2_0_3, below_keep hb q2_1_0, below_keep hb q2_1_1, below_keep hb q2_1_2, below_keep hb q2_1_3⟩)
  go_upto_region 8 with fail
  go_cut [6, 7] from 27 to 34 (fun s6 s7 wx => ∃ (ph : Nat) (Aw : Option Addr) (kaw : Nat) (Bw : Option Addr) (kbw : Nat), s6 = .pointer (some ⟨ph, 0, none⟩) ∧ s7 = .int .i64 ((rjRes r s).2) ∧ Row wx ph 40 [.int .i64 (rjRes r s).1.L, .int .i64 (rjRes r s).1.S, .slice Aw (rjRes r s).1.next.length kaw, .slice Bw (rjRes r s).1.fin.length kbw] ∧ RdO wx (.agg #[.int .i64 (rjRes r s).1.L, .int .i64 (rjRes r s).1.S, .slice Aw (rjRes r s).1.next.length kaw, .slice Bw (rjRes r s).1.fin.length kbw]) ((rjRes r s).1) ∧ Below w2.heap.size w2 wx)
  case first =>
    refine wp_region_held_drew (S := fun (V : World) => V.cell? ⟨w.heap.size, 0, none⟩ = some (.int .i64 r.L) ∧ V.cell? ⟨w.heap.size, 1, none⟩ = some (.int .i64 r.S) ∧ V.cell? ⟨w.heap.size, 2, none⟩ = some (.slice A0 r.next.length ka0) ∧ V.cell? ⟨w.heap.size, 3, none⟩ = some (.slice B0 r.fin.length kb0) ∧ V.cell? ⟨w.heap.size + 1, 0, none⟩ = some (.int .i64 s.L) ∧ V.cell? ⟨w.heap.size + 1, 1, none⟩ = some (.int .i64 s.S) ∧ V.cell? ⟨w.heap.size + 1, 2, none⟩ = some (.slice A1 s.next.length ka1) ∧ V.cell? ⟨w.heap.size + 1, 3, none⟩ = some (.slice B1 s.fin.length kb1)) (by kernel_rfl) (HSC.out _ (below_drew _)) (fun hHeld => ?_)
    have BEL := Lib.hid (below_drew w2)
    generalize w2.drew = V0 at *
    refine wpAnyH_take (i := 0) (v := ?_) (by simp only [List.getElem?_toArray, List.getElem?_cons_zero]; exact rfl) (by kernel_rfl) (by kernel_rfl) (by kernel_rfl) (by intro _ _ _ h; exact h) (Or.inl ⟨by kernel_rfl, ?_⟩) hHeld ?_
    rotate_left
    · intro V hSw
      (try dsimp only at hSw)
      go_simp
      try with_reducible rfl
    (try simp only [Act.put, List.setIfInBounds_toArray, List.set_cons_zero, List.set_cons_succ])
    refine wpAnyH_take (i := 2) (v := ?_) (by simp only [List.getElem?_toArray, List.getElem?_cons_succ, List.getElem?_cons_zero]; exact rfl) (by kernel_rfl) (by kernel_rfl) (by kernel_rfl) (by intro _ _ _ h; exact h) (Or.inl ⟨by kernel_rfl, ?_⟩) hHeld ?_
    rotate_left
    · intro V hSw
      (try dsimp only at hSw)
      go_simp
      try with_reducible rfl
    (try simp only [Act.put, List.setIfInBounds_toArray, List.set_cons_zero, List.set_cons_succ])
    refine wpAnyH_ready (rs := [1, 8]) (by kernel_rfl) (by simp) ?_
    refine AllReadyH.cons rfl (fun K hK => ?_) ?_
    · skip
      rw [if_pos (by rfl)]
      go_simp
      refine (toO_own _ r _ (HK0.out _ (below_step HB_2.out BEL.out)) HS0.out).mono ?_
      rintro e V1 ⟨x0, bx0, rfl, hxx, hbb⟩
      have BEL1 := Lib.hid (below_step BEL.out hbb)
      have HY0 := Lib.hid hxx.rd
      clear BEL hxx hbb
      have BEL := BEL1
      clear BEL1
      clear hHeld
      refine hK.out _ _ (HSC.out _ BEL.out) (fun hHeld => ?_)
      clear hK K
      (try simp only [Act.put, List.setIfInBounds_toArray, List.set_cons_zero, List.set_cons_succ])
      refine wpAnyH_ready (rs := [3, 8]) (by kernel_rfl) (by simp) ?_
      refine AllReadyH.cons rfl (fun K hK => ?_) ?_
      · skip
        rw [if_pos (by rfl)]
        go_simp
        refine (toO_own _ s _ (HK1.out _ (below_step HB_2.out BEL.out)) HS1.out).mono ?_
        rintro e V2 ⟨x1, bx1, rfl, hxx, hbb⟩
        have BEL1 := Lib.hid (below_step BEL.out hbb)
        have HY01 := Lib.hid (keepsO _ _ _ _ HY0.out hbb)
        clear HY0
        have HY0 := HY01
        clear HY01
        have HY1 := Lib.hid hxx.rd
        clear BEL hxx hbb
        have BEL := BEL1
        clear BEL1
        clear hHeld
        refine hK.out _ _ (HSC.out _ BEL.out) (fun hHeld => ?_)
        clear hK K
        (try simp only [Act.put, List.setIfInBounds_toArray, List.set_cons_zero, List.set_cons_succ])
        refine wpAnyH_ready (rs := [4, 8]) (by kernel_rfl) (by simp) ?_
        refine AllReadyH.cons rfl (fun K hK => ?_) ?_
        · skip
          rw [if_pos (by rfl)]
          go_simp
          refine (specRj_own _ _ r s _ HY0.out HY1.out).mono ?_
          rintro e V3 ⟨uw, bw, rfl, huw, hbb⟩
          have BEL1 := Lib.hid (below_step BEL.out hbb)
          have hsh := huw.rd.shape
          obtain ⟨Aw, kaw, Bw, kbw, rfl⟩ := hsh
          have HUW := Lib.hid huw
          clear BEL huw hbb
          have BEL := BEL1
          clear BEL1
          clear hHeld
          refine hK.out _ _ (HSC.out _ BEL.out) (fun hHeld => ?_)
          clear hK K
          (try simp only [Act.put, List.setIfInBounds_toArray, List.set_cons_zero, List.set_cons_succ])
          refine wpAnyH_take (i := 5) (v := ?_) (by simp only [List.getElem?_toArray, List.getElem?_cons_succ, List.getElem?_cons_zero]; exact rfl) (by kernel_rfl) (by kernel_rfl) (by kernel_rfl) (by intro _ _ _ h; exact h) (Or.inl ⟨by kernel_rfl, ?_⟩) hHeld ?_
          rotate_left
          · intro V hSw
            (try dsimp only at hSw)
            go_simp
            try with_reducible rfl
          (try simp only [Act.put, List.setIfInBounds_toArray, List.set_cons_zero, List.set_cons_succ])
          refine wpAnyH_take (i := 6) (v := ?_) (by simp only [List.getElem?_toArray, List.getElem?_cons_succ, List.getElem?_cons_zero]; exact rfl) (by kernel_rfl) (by kernel_rfl) (by kernel_rfl) (by intro _ _ _ h; exact h) (Or.inl ⟨by kernel_rfl, ?_⟩) hHeld ?_
          rotate_left
          · intro V hSw
            (try dsimp only at hSw)
            go_simp
            try with_reducible rfl
          (try simp only [Act.put, List.setIfInBounds_toArray, List.set_cons_zero, List.set_cons_succ])
          refine wpAnyH_take (i := 7) (v := ?_) (by simp only [List.getElem?_toArray, List.getElem?_cons_succ, List.getElem?_cons_zero]; exact rfl) (by kernel_rfl) (by kernel_rfl) (by kernel_rfl) (by intro _ _ _ h; exact h) (Or.inl ⟨by kernel_rfl, ?_⟩) hHeld ?_
          rotate_left
          · intro V hSw
            (try dsimp only at hSw)
            go_simp
            try with_reducible rfl
          (try simp only [Act.put, List.setIfInBounds_toArray, List.set_cons_zero, List.set_cons_succ])
          refine wpAnyH_ready (rs := [8]) (by kernel_rfl) (by simp) ?_
          refine AllReadyH.cons rfl (fun K hK => ?_) AllReadyH.nil
          rw [if_pos (by rfl)]
          go_simp
          have HAL := Lib.hid (Row.new V3 [.int .i64 0, .int .i64 0, .slice none 0 0, .slice none 0 0] 40)
          have HPH := Lib.hid BEL.out.size
          have BEL1 := Lib.hid (below_step BEL.out (below_alloc V3 (.cells #[.int .i64 0, .int .i64 0, .slice none 0 0, .slice none 0 0] 40)))
          have HUR := Lib.hid (goodO.below HUW.out (below_alloc V3 (.cells #[.int .i64 0, .int .i64 0, .slice none 0 0, .slice none 0 0] 40)))
          have HLN := Lib.hid (fun (x : Nat) hm => (goodO.lt HUW.out (b := x) hm).2)
          clear BEL
          have BEL := BEL1
          clear BEL1
          clear hHeld
          refine hK.out _ _ (HSC.out _ BEL.out) (fun hHeld => ?_)
          clear hK K
          (try simp only [Act.put, List.setIfInBounds_toArray, List.set_cons_zero, List.set_cons_succ])
          generalize V3.alloc (.cells #[.int .i64 0, .int .i64 0, .slice none 0 0, .slice none 0 0] 40) = V4 at *
          generalize V3.heap.size = ph at *
          refine wpAnyH_ready (rs := [9]) (by kernel_rfl) (by simp) ?_
          refine AllReadyH.cons rfl (fun K hK => ?_) AllReadyH.nil
          rw [if_pos (by rfl)]
          obtain ⟨⟨y0, y1, y2, y3⟩, yf⟩ := HAL.out.four
          go_simp
          have BEL1 := Lib.hid (((((BEL.out.setCell (p := ⟨ph, 0, none⟩) HPH.out (.int .i64 (rjRes r s).1.L)).setCell (p := ⟨ph, 1, none⟩) HPH.out (.int .i64 (rjRes r s).1.S)).setCell (p := ⟨ph, 2, none⟩) HPH.out (.slice Aw (rjRes r s).1.next.length kaw)).setCell (p := ⟨ph, 3, none⟩) HPH.out (.slice Bw (rjRes r s).1.fin.length kbw)))
          have HFIN := Lib.hid (show Row ((((V4.setCell ⟨ph, 0, none⟩ (.int .i64 (rjRes r s).1.L)).setCell ⟨ph, 1, none⟩ (.int .i64 (rjRes r s).1.S)).setCell ⟨ph, 2, none⟩ (.slice Aw (rjRes r s).1.next.length kaw)).setCell ⟨ph, 3, none⟩ (.slice Bw (rjRes r s).1.fin.length kbw)) ph 40 [.int .i64 (rjRes r s).1.L, .int .i64 (rjRes r s).1.S, .slice Aw (rjRes r s).1.next.length kaw, .slice Bw (rjRes r s).1.fin.length kbw] ∧ RdO ((((V4.setCell ⟨ph, 0, none⟩ (.int .i64 (rjRes r s).1.L)).setCell ⟨ph, 1, none⟩ (.int .i64 (rjRes r s).1.S)).setCell ⟨ph, 2, none⟩ (.slice Aw (rjRes r s).1.next.length kaw)).setCell ⟨ph, 3, none⟩ (.slice Bw (rjRes r s).1.fin.length kbw)) (.agg #[.int .i64 (rjRes r s).1.L, .int .i64 (rjRes r s).1.S, .slice Aw (rjRes r s).1.next.length kaw, .slice Bw (rjRes r s).1.fin.length kbw]) ((rjRes r s).1) from ⟨((((HAL.out.stored 0 (.int .i64 (rjRes r s).1.L)).stored 1 (.int .i64 (rjRes r s).1.S)).stored 2 (.slice Aw (rjRes r s).1.next.length kaw)).stored 3 (.slice Bw (rjRes r s).1.fin.length kbw)), ((goodO.other (a := ⟨ph, 3, none⟩) (.slice Bw (rjRes r s).1.fin.length kbw) (goodO.other (a := ⟨ph, 2, none⟩) (.slice Aw (rjRes r s).1.next.length kaw) (goodO.other (a := ⟨ph, 1, none⟩) (.int .i64 (rjRes r s).1.S) (goodO.other (a := ⟨ph, 0, none⟩) (.int .i64 (rjRes r s).1.L) HUR.out (fun hm => absurd (HLN.out _ hm) (Nat.lt_irrefl _))) (fun hm => absurd (HLN.out _ hm) (Nat.lt_irrefl _))) (fun hm => absurd (HLN.out _ hm) (Nat.lt_irrefl _))) (fun hm => absurd (HLN.out _ hm) (Nat.lt_irrefl _)))).rd⟩)
          clear BEL
          have BEL := BEL1
          clear BEL1 y0 y1 y2 y3 yf
          clear hHeld
          refine hK.out _ _ (HSC.out _ BEL.out) (fun hHeld => ?_)
          clear hK K
          (try simp only [Act.put, List.setIfInBounds_toArray, List.set_cons_zero, List.set_cons_succ])
          generalize ((((V4.setCell ⟨ph, 0, none⟩ (.int .i64 (rjRes r s).1.L)).setCell ⟨ph, 1, none⟩ (.int .i64 (rjRes r s).1.S)).setCell ⟨ph, 2, none⟩ (.slice Aw (rjRes r s).1.next.length kaw)).setCell ⟨ph, 3, none⟩ (.slice Bw (rjRes r s).1.fin.length kbw)) = V5 at *
          refine wpAnyH_take (i := 10) (v := ?_) (by simp only [List.getElem?_toArray, List.getElem?_cons_succ, List.getElem?_cons_zero]; exact rfl) (by kernel_rfl) (by kernel_rfl) (by kernel_rfl) (by intro _ _ _ h; exact h) (Or.inl ⟨by kernel_rfl, ?_⟩) hHeld ?_
          rotate_left
          · intro V hSw
            (try dsimp only at hSw)
            go_simp
            try with_reducible rfl
          (try simp only [Act.put, List.setIfInBounds_toArray, List.set_cons_zero, List.set_cons_succ])
          with_reducible refine wpAnyH_done (by kernel_rfl) ?_ _
          go_wp2_with fail
          go_meet
          exact ⟨ph, Aw, kaw, Bw, kbw, rfl, rfl, HFIN.out.1, HFIN.out.2, BEL.out⟩
        refine AllReadyH.cons rfl (fun K hK => ?_) AllReadyH.nil
        rw [if_pos (by rfl)]
        go_simp
        have HAL := Lib.hid (Row.new V2 [.int .i64 0, .int .i64 0, .slice none 0 0, .slice none 0 0] 40)
        have HPH := Lib.hid BEL.out.size
        have BEL1 := Lib.hid (below_step BEL.out (below_alloc V2 (.cells #[.int .i64 0, .int .i64 0, .slice none 0 0, .slice none 0 0] 40)))
        have HY01 := Lib.hid (keepsO _ _ _ _ HY0.out (below_alloc V2 (.cells #[.int .i64 0, .int .i64 0, .slice none 0 0, .slice none 0 0] 40)))
        clear HY0
        have HY0 := HY01
        clear HY01
        have HY11 := Lib.hid (keepsO _ _ _ _ HY1.out (below_alloc V2 (.cells #[.int .i64 0, .int .i64 0, .slice none 0 0, .slice none 0 0] 40)))
        clear HY1
        have HY1 := HY11
        clear HY11
        clear BEL
        have BEL := BEL1
        clear BEL1
        clear hHeld
        refine hK.out _ _ (HSC.out _ BEL.out) (fun hHeld => ?_)
        clear hK K
        (try simp only [Act.put, List.setIfInBounds_toArray, List.set_cons_zero, List.set_cons_succ])
        generalize V2.alloc (.cells #[.int .i64 0, .int .i64 0, .slice none 0 0, .slice none 0 0] 40) = V6 at *
        generalize V2.heap.size = ph at *
        refine wpAnyH_ready (rs := [4]) (by kernel_rfl) (by simp) ?_
        refine AllReadyH.cons rfl (fun K hK => ?_) AllReadyH.nil
        rw [if_pos (by rfl)]
        go_simp
        refine (specRj_own _ _ r s _ HY0.out HY1.out).mono ?_
        rintro e V7 ⟨uw, bw, rfl, huw, hbb⟩
        have BEL1 := Lib.hid (below_step BEL.out hbb)
        have hsh := huw.rd.shape
        obtain ⟨Aw, kaw, Bw, kbw, rfl⟩ := hsh
        have HLT := Lib.hid HAL.out.lt
        have HAL1 := Lib.hid (HAL.out.below hbb HAL.out.lt)
        clear HAL
        have HAL := HAL1
        clear HAL1
        have HUW := Lib.hid huw
        clear BEL huw hbb
        have BEL := BEL1
        clear BEL1
        clear hHeld
        refine hK.out _ _ (HSC.out _ BEL.out) (fun hHeld => ?_)
        clear hK K
        (try simp only [Act.put, List.setIfInBounds_toArray, List.set_cons_zero, List.set_cons_succ])
        refine wpAnyH_take (i := 5) (v := ?_) (by simp only [List.getElem?_toArray, List.getElem?_cons_succ, List.getElem?_cons_zero]; exact rfl) (by kernel_rfl) (by kernel_rfl) (by kernel_rfl) (by intro _ _ _ h; exact h) (Or.inl ⟨by kernel_rfl, ?_⟩) hHeld ?_
        rotate_left
        · intro V hSw
          (try dsimp only at hSw)
          go_simp
          try with_reducible rfl
        (try simp only [Act.put, List.setIfInBounds_toArray, List.set_cons_zero, List.set_cons_succ])
        refine wpAnyH_take (i := 6) (v := ?_) (by simp only [List.getElem?_toArray, List.getElem?_cons_succ, List.getElem?_cons_zero]; exact rfl) (by kernel_rfl) (by kernel_rfl) (by kernel_rfl) (by intro _ _ _ h; exact h) (Or.inl ⟨by kernel_rfl, ?_⟩) hHeld ?_
        rotate_left
        · intro V hSw
          (try dsimp only at hSw)
          go_simp
          try with_reducible rfl
        (try simp only [Act.put, List.setIfInBounds_toArray, List.set_cons_zero, List.set_cons_succ])
        refine wpAnyH_take (i := 7) (v := ?_) (by simp only [List.getElem?_toArray, List.getElem?_cons_succ, List.getElem?_cons_zero]; exact rfl) (by kernel_rfl) (by kernel_rfl) (by kernel_rfl) (by intro _ _ _ h; exact h) (Or.inl ⟨by kernel_rfl, ?_⟩) hHeld ?_
        rotate_left
        · intro V hSw
          (try dsimp only at hSw)
          go_simp
          try with_reducible rfl
        (try simp only [Act.put, List.setIfInBounds_toArray, List.set_cons_zero, List.set_cons_succ])
        refine wpAnyH_ready (rs := [9]) (by kernel_rfl) (by simp) ?_
        refine AllReadyH.cons rfl (fun K hK => ?_) AllReadyH.nil
        rw [if_pos (by rfl)]
        obtain ⟨⟨y0, y1, y2, y3⟩, yf⟩ := HAL.out.four
        go_simp
        have BEL1 := Lib.hid (((((BEL.out.setCell (p := ⟨ph, 0, none⟩) HPH.out (.int .i64 (rjRes r s).1.L)).setCell (p := ⟨ph, 1, none⟩) HPH.out (.int .i64 (rjRes r s).1.S)).setCell (p := ⟨ph, 2, none⟩) HPH.out (.slice Aw (rjRes r s).1.next.length kaw)).setCell (p := ⟨ph, 3, none⟩) HPH.out (.slice Bw (rjRes r s).1.fin.length kbw)))
        have HFIN := Lib.hid (show Row ((((V7.setCell ⟨ph, 0, none⟩ (.int .i64 (rjRes r s).1.L)).setCell ⟨ph, 1, none⟩ (.int .i64 (rjRes r s).1.S)).setCell ⟨ph, 2, none⟩ (.slice Aw (rjRes r s).1.next.length kaw)).setCell ⟨ph, 3, none⟩ (.slice Bw (rjRes r s).1.fin.length kbw)) ph 40 [.int .i64 (rjRes r s).1.L, .int .i64 (rjRes r s).1.S, .slice Aw (rjRes r s).1.next.length kaw, .slice Bw (rjRes r s).1.fin.length kbw] ∧ RdO ((((V7.setCell ⟨ph, 0, none⟩ (.int .i64 (rjRes r s).1.L)).setCell ⟨ph, 1, none⟩ (.int .i64 (rjRes r s).1.S)).setCell ⟨ph, 2, none⟩ (.slice Aw (rjRes r s).1.next.length kaw)).setCell ⟨ph, 3, none⟩ (.slice Bw (rjRes r s).1.fin.length kbw)) (.agg #[.int .i64 (rjRes r s).1.L, .int .i64 (rjRes r s).1.S, .slice Aw (rjRes r s).1.next.length kaw, .slice Bw (rjRes r s).1.fin.length kbw]) ((rjRes r s).1) from ⟨((((HAL.out.stored 0 (.int .i64 (rjRes r s).1.L)).stored 1 (.int .i64 (rjRes r s).1.S)).stored 2 (.slice Aw (rjRes r s).1.next.length kaw)).stored 3 (.slice Bw (rjRes r s).1.fin.length kbw)), ((goodO.under (a := ⟨ph, 3, none⟩) (goodO.under (a := ⟨ph, 2, none⟩) (goodO.under (a := ⟨ph, 1, none⟩) (goodO.under (a := ⟨ph, 0, none⟩) HUW.out HLT.out (.int .i64 (rjRes r s).1.L)) HLT.out (.int .i64 (rjRes r s).1.S)) HLT.out (.slice Aw (rjRes r s).1.next.length kaw)) HLT.out (.slice Bw (rjRes r s).1.fin.length kbw))).rd⟩)
        clear BEL
        have BEL := BEL1
        clear BEL1 y0 y1 y2 y3 yf
        clear hHeld
        refine hK.out _ _ (HSC.out _ BEL.out) (fun hHeld => ?_)
        clear hK K
        (try simp only [Act.put, List.setIfInBounds_toArray, List.set_cons_zero, List.set_cons_succ])
        generalize ((((V7.setCell ⟨ph, 0, none⟩ (.int .i64 (rjRes r s).1.L)).setCell ⟨ph, 1, none⟩ (.int .i64 (rjRes r s).1.S)).setCell ⟨ph, 2, none⟩ (.slice Aw (rjRes r s).1.next.length kaw)).setCell ⟨ph, 3, none⟩ (.slice Bw (rjRes r s).1.fin.length kbw)) = V8 at *
        refine wpAnyH_take (i := 10) (v := ?_) (by simp only [List.getElem?_toArray, List.getElem?_cons_succ, List.getElem?_cons_zero]; exact rfl) (by kernel_rfl) (by kernel_rfl) (by kernel_rfl) (by intro _ _ _ h; exact h) (Or.inl ⟨by kernel_rfl, ?_⟩) hHeld ?_
        rotate_left
        · intro V hSw
          (try dsimp only at hSw)
          go_simp
          try with_reducible rfl
        (try simp only [Act.put, List.setIfInBounds_toArray, List.set_cons_zero, List.set_cons_succ])
        with_reducible refine wpAnyH_done (by kernel_rfl) ?_ _
        go_wp2_with fail
        go_meet
        exact ⟨ph, Aw, kaw, Bw, kbw, rfl, rfl, HFIN.out.1, HFIN.out.2, BEL.out⟩
      refine AllReadyH.cons rfl (fun K hK => ?_) AllReadyH.nil
      rw [if_pos (by rfl)]
      go_simp
      have HAL := Lib.hid (Row.new V1 [.int .i64 0, .int .i64 0, .slice none 0 0, .slice none 0 0] 40)
      have HPH := Lib.hid BEL.out.size
      have BEL1 := Lib.hid (below_step BEL.out (below_alloc V1 (.cells #[.int .i64 0, .int .i64 0, .slice none 0 0, .slice none 0 0] 40)))
      have HY01 := Lib.hid (keepsO _ _ _ _ HY0.out (below_alloc V1 (.cells #[.int .i64 0, .int .i64 0, .slice none 0 0, .slice none 0 0] 40)))
      clear HY0
      have HY0 := HY01
      clear HY01
      clear BEL
      have BEL := BEL1
      clear BEL1
      clear hHeld
      refine hK.out _ _ (HSC.out _ BEL.out) (fun hHeld => ?_)
      clear hK K
      (try simp only [Act.put, List.setIfInBounds_toArray, List.set_cons_zero, List.set_cons_succ])
      generalize V1.alloc (.cells #[.int .i64 0, .int .i64 0, .slice none 0 0, .slice none 0 0] 40) = V9 at *
      generalize V1.heap.size = ph at *
      refine wpAnyH_ready (rs := [3]) (by kernel_rfl) (by simp) ?_
      refine AllReadyH.cons rfl (fun K hK => ?_) AllReadyH.nil
      rw [if_pos (by rfl)]
      go_simp
      refine (toO_own _ s _ (HK1.out _ (below_step HB_2.out BEL.out)) HS1.out).mono ?_
      rintro e V10 ⟨x1, bx1, rfl, hxx, hbb⟩
      have BEL1 := Lib.hid (below_step BEL.out hbb)
      have HY01 := Lib.hid (keepsO _ _ _ _ HY0.out hbb)
      clear HY0
      have HY0 := HY01
      clear HY01
      have HY1 := Lib.hid hxx.rd
      have HAL1 := Lib.hid (HAL.out.below hbb HAL.out.lt)
      clear HAL
      have HAL := HAL1
      clear HAL1
      clear BEL hxx hbb
      have BEL := BEL1
      clear BEL1
      clear hHeld
      refine hK.out _ _ (HSC.out _ BEL.out) (fun hHeld => ?_)
      clear hK K
      (try simp only [Act.put, List.setIfInBounds_toArray, List.set_cons_zero, List.set_cons_succ])
      refine wpAnyH_ready (rs := [4]) (by kernel_rfl) (by simp) ?_
      refine AllReadyH.cons rfl (fun K hK => ?_) AllReadyH.nil
      rw [if_pos (by rfl)]
      go_simp
      refine (specRj_own _ _ r s _ HY0.out HY1.out).mono ?_
      rintro e V11 ⟨uw, bw, rfl, huw, hbb⟩
      have BEL1 := Lib.hid (below_step BEL.out hbb)
      have hsh := huw.rd.shape
      obtain ⟨Aw, kaw, Bw, kbw, rfl⟩ := hsh
      have HLT := Lib.hid HAL.out.lt
      have HAL1 := Lib.hid (HAL.out.below hbb HAL.out.lt)
      clear HAL
      have HAL := HAL1
      clear HAL1
      have HUW := Lib.hid huw
      clear BEL huw hbb
      have BEL := BEL1
      clear BEL1
      clear hHeld
      refine hK.out _ _ (HSC.out _ BEL.out) (fun hHeld => ?_)
      clear hK K
      (try simp only [Act.put, List.setIfInBounds_toArray, List.set_cons_zero, List.set_cons_succ])
      refine wpAnyH_take (i := 5) (v := ?_) (by simp only [List.getElem?_toArray, List.getElem?_cons_succ, List.getElem?_cons_zero]; exact rfl) (by kernel_rfl) (by kernel_rfl) (by kernel_rfl) (by intro _ _ _ h; exact h) (Or.inl ⟨by kernel_rfl, ?_⟩) hHeld ?_
      rotate_left
      · intro V hSw
        (try dsimp only at hSw)
        go_simp
        try with_reducible rfl
      (try simp only [Act.put, List.setIfInBounds_toArray, List.set_cons_zero, List.set_cons_succ])
      refine wpAnyH_take (i := 6) (v := ?_) (by simp only [List.getElem?_toArray, List.getElem?_cons_succ, List.getElem?_cons_zero]; exact rfl) (by kernel_rfl) (by kernel_rfl) (by kernel_rfl) (by intro _ _ _ h; exact h) (Or.inl ⟨by kernel_rfl, ?_⟩) hHeld ?_
      rotate_left
      · intro V hSw
        (try dsimp only at hSw)
        go_simp
        try with_reducible rfl
      (try simp only [Act.put, List.setIfInBounds_toArray, List.set_cons_zero, List.set_cons_succ])
      refine wpAnyH_take (i := 7) (v := ?_) (by simp only [List.getElem?_toArray, List.getElem?_cons_succ, List.getElem?_cons_zero]; exact rfl) (by kernel_rfl) (by kernel_rfl) (by kernel_rfl) (by intro _ _ _ h; exact h) (Or.inl ⟨by kernel_rfl, ?_⟩) hHeld ?_
      rotate_left
      · intro V hSw
        (try dsimp only at hSw)
        go_simp
        try with_reducible rfl
      (try simp only [Act.put, List.setIfInBounds_toArray, List.set_cons_zero, List.set_cons_succ])
      refine wpAnyH_ready (rs := [9]) (by kernel_rfl) (by simp) ?_
      refine AllReadyH.cons rfl (fun K hK => ?_) AllReadyH.nil
      rw [if_pos (by rfl)]
      obtain ⟨⟨y0, y1, y2, y3⟩, yf⟩ := HAL.out.four
      go_simp
      have BEL1 := Lib.hid (((((BEL.out.setCell (p := ⟨ph, 0, none⟩) HPH.out (.int .i64 (rjRes r s).1.L)).setCell (p := ⟨ph, 1, none⟩) HPH.out (.int .i64 (rjRes r s).1.S)).setCell (p := ⟨ph, 2, none⟩) HPH.out (.slice Aw (rjRes r s).1.next.length kaw)).setCell (p := ⟨ph, 3, none⟩) HPH.out (.slice Bw (rjRes r s).1.fin.length kbw)))
      have HFIN := Lib.hid (show Row ((((V11.setCell ⟨ph, 0, none⟩ (.int .i64 (rjRes r s).1.L)).setCell ⟨ph, 1, none⟩ (.int .i64 (rjRes r s).1.S)).setCell ⟨ph, 2, none⟩ (.slice Aw (rjRes r s).1.next.length kaw)).setCell ⟨ph, 3, none⟩ (.slice Bw (rjRes r s).1.fin.length kbw)) ph 40 [.int .i64 (rjRes r s).1.L, .int .i64 (rjRes r s).1.S, .slice Aw (rjRes r s).1.next.length kaw, .slice Bw (rjRes r s).1.fin.length kbw] ∧ RdO ((((V11.setCell ⟨ph, 0, none⟩ (.int .i64 (rjRes r s).1.L)).setCell ⟨ph, 1, none⟩ (.int .i64 (rjRes r s).1.S)).setCell ⟨ph, 2, none⟩ (.slice Aw (rjRes r s).1.next.length kaw)).setCell ⟨ph, 3, none⟩ (.slice Bw (rjRes r s).1.fin.length kbw)) (.agg #[.int .i64 (rjRes r s).1.L, .int .i64 (rjRes r s).1.S, .slice Aw (rjRes r s).1.next.length kaw, .slice Bw (rjRes r s).1.fin.length kbw]) ((rjRes r s).1) from ⟨((((HAL.out.stored 0 (.int .i64 (rjRes r s).1.L)).stored 1 (.int .i64 (rjRes r s).1.S)).stored 2 (.slice Aw (rjRes r s).1.next.length kaw)).stored 3 (.slice Bw (rjRes r s).1.fin.length kbw)), ((goodO.under (a := ⟨ph, 3, none⟩) (goodO.under (a := ⟨ph, 2, none⟩) (goodO.under (a := ⟨ph, 1, none⟩) (goodO.under (a := ⟨ph, 0, none⟩) HUW.out HLT.out (.int .i64 (rjRes r s).1.L)) HLT.out (.int .i64 (rjRes r s).1.S)) HLT.out (.slice Aw (rjRes r s).1.next.length kaw)) HLT.out (.slice Bw (rjRes r s).1.fin.length kbw))).rd⟩)
      clear BEL
      have BEL := BEL1
      clear BEL1 y0 y1 y2 y3 yf
      clear hHeld
      refine hK.out _ _ (HSC.out _ BEL.out) (fun hHeld => ?_)
      clear hK K
      (try simp only [Act.put, List.setIfInBounds_toArray, List.set_cons_zero, List.set_cons_succ])
      generalize ((((V11.setCell ⟨ph, 0, none⟩ (.int .i64 (rjRes r s).1.L)).setCell ⟨ph, 1, none⟩ (.int .i64 (rjRes r s).1.S)).setCell ⟨ph, 2, none⟩ (.slice Aw (rjRes r s).1.next.length kaw)).setCell ⟨ph, 3, none⟩ (.slice Bw (rjRes r s).1.fin.length kbw)) = V12 at *
      refine wpAnyH_take (i := 10) (v := ?_) (by simp only [List.getElem?_toArray, List.getElem?_cons_succ, List.getElem?_cons_zero]; exact rfl) (by kernel_rfl) (by kernel_rfl) (by kernel_rfl) (by intro _ _ _ h; exact h) (Or.inl ⟨by kernel_rfl, ?_⟩) hHeld ?_
      rotate_left
      · intro V hSw
        (try dsimp only at hSw)
        go_simp
        try with_reducible rfl
      (try simp only [Act.put, List.setIfInBounds_toArray, List.set_cons_zero, List.set_cons_succ])
      with_reducible refine wpAnyH_done (by kernel_rfl) ?_ _
      go_wp2_with fail
      go_meet
      exact ⟨ph, Aw, kaw, Bw, kbw, rfl, rfl, HFIN.out.1, HFIN.out.2, BEL.out⟩
    refine AllReadyH.cons rfl (fun K hK => ?_) AllReadyH.nil
    rw [if_pos (by rfl)]
    go_simp
    have HAL := Lib.hid (Row.new V0 [.int .i64 0, .int .i64 0, .slice none 0 0, .slice none 0 0] 40)
    have HPH := Lib.hid BEL.out.size
    have BEL1 := Lib.hid (below_step BEL.out (below_alloc V0 (.cells #[.int .i64 0, .int .i64 0, .slice none 0 0, .slice none 0 0] 40)))
    clear BEL
    have BEL := BEL1
    clear BEL1
    clear hHeld
    refine hK.out _ _ (HSC.out _ BEL.out) (fun hHeld => ?_)
    clear hK K
    (try simp only [Act.put, List.setIfInBounds_toArray, List.set_cons_zero, List.set_cons_succ])
    generalize V0.alloc (.cells #[.int .i64 0, .int .i64 0, .slice none 0 0, .slice none 0 0] 40) = V13 at *
    generalize V0.heap.size = ph at *
    refine wpAnyH_ready (rs := [1]) (by kernel_rfl) (by simp) ?_
    refine AllReadyH.cons rfl (fun K hK => ?_) AllReadyH.nil
    rw [if_pos (by rfl)]
    go_simp
    refine (toO_own _ r _ (HK0.out _ (below_step HB_2.out BEL.out)) HS0.out).mono ?_
    rintro e V14 ⟨x0, bx0, rfl, hxx, hbb⟩
    have BEL1 := Lib.hid (below_step BEL.out hbb)
    have HY0 := Lib.hid hxx.rd
    have HAL1 := Lib.hid (HAL.out.below hbb HAL.out.lt)
    clear HAL
    have HAL := HAL1
    clear HAL1
    clear BEL hxx hbb
    have BEL := BEL1
    clear BEL1
    clear hHeld
    refine hK.out _ _ (HSC.out _ BEL.out) (fun hHeld => ?_)
    clear hK K
    (try simp only [Act.put, List.setIfInBounds_toArray, List.set_cons_zero, List.set_cons_succ])
    refine wpAnyH_ready (rs := [3]) (by kernel_rfl) (by simp) ?_
    refine AllReadyH.cons rfl (fun K hK => ?_) AllReadyH.nil
    rw [if_pos (by rfl)]
    go_simp
    refine (toO_own _ s _ (HK1.out _ (below_step HB_2.out BEL.out)) HS1.out).mono ?_
    rintro e V15 ⟨x1, bx1, rfl, hxx, hbb⟩
    have BEL1 := Lib.hid (below_step BEL.out hbb)
    have HY01 := Lib.hid (keepsO _ _ _ _ HY0.out hbb)
    clear HY0
    have HY0 := HY01
    clear HY01
    have HY1 := Lib.hid hxx.rd
    have HAL1 := Lib.hid (HAL.out.below hbb HAL.out.lt)
    clear HAL
    have HAL := HAL1
    clear HAL1
    clear BEL hxx hbb
    have BEL := BEL1
    clear BEL1
    clear hHeld
    refine hK.out _ _ (HSC.out _ BEL.out) (fun hHeld => ?_)
    clear hK K
    (try simp only [Act.put, List.setIfInBounds_toArray, List.set_cons_zero, List.set_cons_succ])
    refine wpAnyH_ready (rs := [4]) (by kernel_rfl) (by simp) ?_
    refine AllReadyH.cons rfl (fun K hK => ?_) AllReadyH.nil
    rw [if_pos (by rfl)]
    go_simp
    refine (specRj_own _ _ r s _ HY0.out HY1.out).mono ?_
    rintro e V16 ⟨uw, bw, rfl, huw, hbb⟩
    have BEL1 := Lib.hid (below_step BEL.out hbb)
    have hsh := huw.rd.shape
    obtain ⟨Aw, kaw, Bw, kbw, rfl⟩ := hsh
    have HLT := Lib.hid HAL.out.lt
    have HAL1 := Lib.hid (HAL.out.below hbb HAL.out.lt)
    clear HAL
    have HAL := HAL1
    clear HAL1
    have HUW := Lib.hid huw
    clear BEL huw hbb
    have BEL := BEL1
    clear BEL1
    clear hHeld
    refine hK.out _ _ (HSC.out _ BEL.out) (fun hHeld => ?_)
    clear hK K
    (try simp only [Act.put, List.setIfInBounds_toArray, List.set_cons_zero, List.set_cons_succ])
    refine wpAnyH_take (i := 5) (v := ?_) (by simp only [List.getElem?_toArray, List.getElem?_cons_succ, List.getElem?_cons_zero]; exact rfl) (by kernel_rfl) (by kernel_rfl) (by kernel_rfl) (by intro _ _ _ h; exact h) (Or.inl ⟨by kernel_rfl, ?_⟩) hHeld ?_
    rotate_left
    · intro V hSw
      (try dsimp only at hSw)
      go_simp
      try with_reducible rfl
    (try simp only [Act.put, List.setIfInBounds_toArray, List.set_cons_zero, List.set_cons_succ])
    refine wpAnyH_take (i := 6) (v := ?_) (by simp only [List.getElem?_toArray, List.getElem?_cons_succ, List.getElem?_cons_zero]; exact rfl) (by kernel_rfl) (by kernel_rfl) (by kernel_rfl) (by intro _ _ _ h; exact h) (Or.inl ⟨by kernel_rfl, ?_⟩) hHeld ?_
    rotate_left
    · intro V hSw
      (try dsimp only at hSw)
      go_simp
      try with_reducible rfl
    (try simp only [Act.put, List.setIfInBounds_toArray, List.set_cons_zero, List.set_cons_succ])
    refine wpAnyH_take (i := 7) (v := ?_) (by simp only [List.getElem?_toArray, List.getElem?_cons_succ, List.getElem?_cons_zero]; exact rfl) (by kernel_rfl) (by kernel_rfl) (by kernel_rfl) (by intro _ _ _ h; exact h) (Or.inl ⟨by kernel_rfl, ?_⟩) hHeld ?_
    rotate_left
    · intro V hSw
      (try dsimp only at hSw)
      go_simp
      try with_reducible rfl
    (try simp only [Act.put, List.setIfInBounds_toArray, List.set_cons_zero, List.set_cons_succ])
    refine wpAnyH_ready (rs := [9]) (by kernel_rfl) (by simp) ?_
    refine AllReadyH.cons rfl (fun K hK => ?_) AllReadyH.nil
    rw [if_pos (by rfl)]
    obtain ⟨⟨y0, y1, y2, y3⟩, yf⟩ := HAL.out.four
    go_simp
    have BEL1 := Lib.hid (((((BEL.out.setCell (p := ⟨ph, 0, none⟩) HPH.out (.int .i64 (rjRes r s).1.L)).setCell (p := ⟨ph, 1, none⟩) HPH.out (.int .i64 (rjRes r s).1.S)).setCell (p := ⟨ph, 2, none⟩) HPH.out (.slice Aw (rjRes r s).1.next.length kaw)).setCell (p := ⟨ph, 3, none⟩) HPH.out (.slice Bw (rjRes r s).1.fin.length kbw)))
    have HFIN := Lib.hid (show Row ((((V16.setCell ⟨ph, 0, none⟩ (.int .i64 (rjRes r s).1.L)).setCell ⟨ph, 1, none⟩ (.int .i64 (rjRes r s).1.S)).setCell ⟨ph, 2, none⟩ (.slice Aw (rjRes r s).1.next.length kaw)).setCell ⟨ph, 3, none⟩ (.slice Bw (rjRes r s).1.fin.length kbw)) ph 40 [.int .i64 (rjRes r s).1.L, .int .i64 (rjRes r s).1.S, .slice Aw (rjRes r s).1.next.length kaw, .slice Bw (rjRes r s).1.fin.length kbw] ∧ RdO ((((V16.setCell ⟨ph, 0, none⟩ (.int .i64 (rjRes r s).1.L)).setCell ⟨ph, 1, none⟩ (.int .i64 (rjRes r s).1.S)).setCell ⟨ph, 2, none⟩ (.slice Aw (rjRes r s).1.next.length kaw)).setCell ⟨ph, 3, none⟩ (.slice Bw (rjRes r s).1.fin.length kbw)) (.agg #[.int .i64 (rjRes r s).1.L, .int .i64 (rjRes r s).1.S, .slice Aw (rjRes r s).1.next.length kaw, .slice Bw (rjRes r s).1.fin.length kbw]) ((rjRes r s).1) from ⟨((((HAL.out.stored 0 (.int .i64 (rjRes r s).1.L)).stored 1 (.int .i64 (rjRes r s).1.S)).stored 2 (.slice Aw (rjRes r s).1.next.length kaw)).stored 3 (.slice Bw (rjRes r s).1.fin.length kbw)), ((goodO.under (a := ⟨ph, 3, none⟩) (goodO.under (a := ⟨ph, 2, none⟩) (goodO.under (a := ⟨ph, 1, none⟩) (goodO.under (a := ⟨ph, 0, none⟩) HUW.out HLT.out (.int .i64 (rjRes r s).1.L)) HLT.out (.int .i64 (rjRes r s).1.S)) HLT.out (.slice Aw (rjRes r s).1.next.length kaw)) HLT.out (.slice Bw (rjRes r s).1.fin.length kbw))).rd⟩)
    clear BEL
    have BEL := BEL1
    clear BEL1 y0 y1 y2 y3 yf
    clear hHeld
    refine hK.out _ _ (HSC.out _ BEL.out) (fun hHeld => ?_)
    clear hK K
    (try simp only [Act.put, List.setIfInBounds_toArray, List.set_cons_zero, List.set_cons_succ])
    generalize ((((V16.setCell ⟨ph, 0, none⟩ (.int .i64 (rjRes r s).1.L)).setCell ⟨ph, 1, none⟩ (.int .i64 (rjRes r s).1.S)).setCell ⟨ph, 2, none⟩ (.slice Aw (rjRes r s).1.next.length kaw)).setCell ⟨ph, 3, none⟩ (.slice Bw (rjRes r s).1.fin.length kbw)) = V17 at *
    refine wpAnyH_take (i := 10) (v := ?_) (by simp only [List.getElem?_toArray, List.getElem?_cons_succ, List.getElem?_cons_zero]; exact rfl) (by kernel_rfl) (by kernel_rfl) (by kernel_rfl) (by intro _ _ _ h; exact h) (Or.inl ⟨by kernel_rfl, ?_⟩) hHeld ?_
    rotate_left
    · intro V hSw
      (try dsimp only at hSw)
      go_simp
      try with_reducible rfl
    (try simp only [Act.put, List.setIfInBounds_toArray, List.set_cons_zero, List.set_cons_succ])
    with_reducible refine wpAnyH_done (by kernel_rfl) ?_ _
    go_wp2_with fail
    go_meet
    exact ⟨ph, Aw, kaw, Bw, kbw, rfl, rfl, HFIN.out.1, HFIN.out.2, BEL.out⟩
  case rest =>
    obtain ⟨phw, Aw, kaw, Bw, kbw, rfl, rfl, hrw, hrd0, hb⟩ := hcut
    obtain ⟨w3, hwn⟩ : ∃ x, x = wc := ⟨wc, rfl⟩
    subst hwn
    clear HSC
    have HRW := Lib.hid hrd0
    clear hrd0
    have hx0 := (HR2.out.1).below hb (HR2.out.1).lt
    have hx1 := (HR2.out.2).below hb (HR2.out.2).lt
    have hx2 := hrw
    have HZ3 := Lib.hid hb.size
    have HPB3 := Lib.hid hrw.lt
    have HB_3 := Lib.hid (below_step HB_2.out hb)
    clear HB_2
    clear HR2
    have HR3 := Lib.hid (show _ ∧ _ ∧ _ from ⟨hx0, hx1, hx2⟩)
    clear hb hx0 hx1 hx2 hrw
    clear q2_0_0 q2_0_1 q2_0_2 q2_0_3 lt2_0 q2_1_0 q2_1_1 q2_1_2 q2_1_3 lt2_1
    obtain ⟨⟨q3_0_0, q3_0_1, q3_0_2, q3_0_3⟩, -⟩ := (HR3.out.1).four
    have lt3_0 := (HR3.out.1).lt
    obtain ⟨⟨q3_1_0, q3_1_1, q3_1_2, q3_1_3⟩, -⟩ := (HR3.out.2.1).four
    have lt3_1 := (HR3.out.2.1).lt
    obtain ⟨⟨q3_2_0, q3_2_1, q3_2_2, q3_2_3⟩, -⟩ := (HR3.out.2.2).four
    have lt3_2 := (HR3.out.2.2).lt
    have AW := Lib.hid (Below.refl w3.heap.size w3)
    go_wp2_with fail
    refine (toO_own _ r _ (HK0.out _ HB_3.out) HS0.out).mono ?_
    rintro e w4 ⟨x0, bx0, rfl, hx, hb⟩
    have hxr : RdO _ _ _ := hx.rd
    have hsx := hxr.shape
    obtain ⟨Ax0, kax0, Bx0, kbx0, rfl⟩ := hsx
    have HX0 := Lib.hid hx
    have HXB0 := Lib.hid (fun (x : Nat) hm => goodO.lt hx (b := x) hm)
    clear hx hxr
    have hx0 := (HR3.out.1).below hb (HR3.out.1).lt
    have hx1 := (HR3.out.2.1).below hb (HR3.out.2.1).lt
    have hx2 := (HR3.out.2.2).below hb (HR3.out.2.2).lt
    have HZ4 := Lib.hid hb.size
    have HB_4 := Lib.hid (below_step HB_3.out hb)
    clear HB_3
    have AW_4 := Lib.hid (below_step AW.out hb)
    clear AW
    clear HR3
    have HR4 := Lib.hid (show _ ∧ _ ∧ _ from ⟨hx0, hx1, hx2⟩)
    clear hb hx0 hx1 hx2
    clear q3_0_0 q3_0_1 q3_0_2 q3_0_3 lt3_0 q3_1_0 q3_1_1 q3_1_2 q3_1_3 lt3_1 q3_2_0 q3_2_1 q3_2_2 q3_2_3 lt3_2
    obtain ⟨⟨q4_0_0, q4_0_1, q4_0_2, q4_0_3⟩, -⟩ := (HR4.out.1).four
    have lt4_0 := (HR4.out.1).lt
    obtain ⟨⟨q4_1_0, q4_1_1, q4_1_2, q4_1_3⟩, -⟩ := (HR4.out.2.1).four
    have lt4_1 := (HR4.out.2.1).lt
    obtain ⟨⟨q4_2_0, q4_2_1, q4_2_2, q4_2_3⟩, -⟩ := (HR4.out.2.2).four
    have lt4_2 := (HR4.out.2.2).lt
    have AX0 := Lib.hid (Below.refl w4.heap.size w4)
    go_wp2_with fail
    refine (toO_own _ s _ (HK1.out _ (HB_4.out.alloc HB_4.out.size _)) HS1.out).mono ?_
    rintro e w5 ⟨x1, bx1, rfl, hx, hb⟩
    have hxr : RdO _ _ _ := hx.rd
    have hsx := hxr.shape
    obtain ⟨Ax1, kax1, Bx1, kbx1, rfl⟩ := hsx
    have HX1 := Lib.hid hx
    have HXB1 := Lib.hid (fun (x : Nat) hm => goodO.lt hx (b := x) hm)
    clear hx hxr
    have hst := below_step (below_alloc w4 (.cells #[.int .i64 r.L, .int .i64 r.S, .slice Ax0 r.next.length kax0, .slice Bx0 r.fin.length kbx0] 40)) hb
    have hx0 := (HR4.out.1).below hst (HR4.out.1).lt
    have hx1 := (HR4.out.2.1).below hst (HR4.out.2.1).lt
    have hx2 := (HR4.out.2.2).below hst (HR4.out.2.2).lt
    have hx3 := (Row.new w4 [.int .i64 r.L, .int .i64 r.S, .slice Ax0 r.next.length kax0, .slice Bx0 r.fin.length kbx0] 40).below hb (Row.new w4 [.int .i64 r.L, .int .i64 r.S, .slice Ax0 r.next.length kax0, .slice Bx0 r.fin.length kbx0] 40).lt
    have HZ5 := Lib.hid (show w4.heap.size + 1 ≤ w5.heap.size by have := hb.size; simpa using this)
    have HB_5 := Lib.hid (below_step HB_4.out hst)
    clear HB_4
    have AW_5 := Lib.hid (below_step AW_4.out hst)
    clear AW_4
    have X0_5 := Lib.hid (below_step AX0.out hst)
    clear AX0
    clear HR4
    have HR5 := Lib.hid (show _ ∧ _ ∧ _ ∧ _ from ⟨hx0, hx1, hx2, hx3⟩)
    clear hb hx0 hx1 hx2 hx3 hst
    clear q4_0_0 q4_0_1 q4_0_2 q4_0_3 lt4_0 q4_1_0 q4_1_1 q4_1_2 q4_1_3 lt4_1 q4_2_0 q4_2_1 q4_2_2 q4_2_3 lt4_2
    obtain ⟨⟨q5_0_0, q5_0_1, q5_0_2, q5_0_3⟩, -⟩ := (HR5.out.1).four
    have lt5_0 := (HR5.out.1).lt
    obtain ⟨⟨q5_1_0, q5_1_1, q5_1_2, q5_1_3⟩, -⟩ := (HR5.out.2.1).four
    have lt5_1 := (HR5.out.2.1).lt
    obtain ⟨⟨q5_2_0, q5_2_1, q5_2_2, q5_2_3⟩, -⟩ := (HR5.out.2.2.1).four
    have lt5_2 := (HR5.out.2.2.1).lt
    obtain ⟨⟨q5_3_0, q5_3_1, q5_3_2, q5_3_3⟩, -⟩ := (HR5.out.2.2.2).four
    have lt5_3 := (HR5.out.2.2.2).lt
    have AX1 := Lib.hid (Below.refl w5.heap.size w5)
    go_wp2_with fail
    refine (implRj_own _ _ r s _ (keepsO _ _ _ _ HX0.out.rd (below_step X0_5.out (below_alloc _ _))) (keepsO _ _ _ _ HX1.out.rd (below_step AX1.out (below_alloc _ _)))).mono ?_
    rintro e w6 ⟨g, bgs, rfl, hg, hb⟩
    have hgr : RdO _ _ _ := hg.rd
    have hsx := hgr.shape
    obtain ⟨Ag, kag, Bg, kbg, rfl⟩ := hsx
    have HG := Lib.hid hg
    have HGB := Lib.hid (fun (x : Nat) hm => goodO.lt hg (b := x) hm)
    clear hg hgr
    have hst := below_step (below_alloc w5 (.cells #[.int .i64 s.L, .int .i64 s.S, .slice Ax1 s.next.length kax1, .slice Bx1 s.fin.length kbx1] 40)) hb
    have hx0 := (HR5.out.1).below hst (HR5.out.1).lt
    have hx1 := (HR5.out.2.1).below hst (HR5.out.2.1).lt
    have hx2 := (HR5.out.2.2.1).below hst (HR5.out.2.2.1).lt
    have hx3 := (HR5.out.2.2.2).below hst (HR5.out.2.2.2).lt
    have hx4 := (Row.new w5 [.int .i64 s.L, .int .i64 s.S, .slice Ax1 s.next.length kax1, .slice Bx1 s.fin.length kbx1] 40).below hb (Row.new w5 [.int .i64 s.L, .int .i64 s.S, .slice Ax1 s.next.length kax1, .slice Bx1 s.fin.length kbx1] 40).lt
    have HZ6 := Lib.hid (show w5.heap.size + 1 ≤ w6.heap.size by have := hb.size; simpa using this)
    have HB_6 := Lib.hid (below_step HB_5.out hst)
    clear HB_5
    have AW_6 := Lib.hid (below_step AW_5.out hst)
    clear AW_5
    have X0_6 := Lib.hid (below_step X0_5.out hst)
    clear X0_5
    have X1_6 := Lib.hid (below_step AX1.out hst)
    clear AX1
    clear HR5
    have HR6 := Lib.hid (show _ ∧ _ ∧ _ ∧ _ ∧ _ from ⟨hx0, hx1, hx2, hx3, hx4⟩)
    clear hb hx0 hx1 hx2 hx3 hx4 hst
    clear q5_0_0 q5_0_1 q5_0_2 q5_0_3 lt5_0 q5_1_0 q5_1_1 q5_1_2 q5_1_3 lt5_1 q5_2_0 q5_2_1 q5_2_2 q5_2_3 lt5_2 q5_3_0 q5_3_1 q5_3_2 q5_3_3 lt5_3
    obtain ⟨⟨q6_0_0, q6_0_1, q6_0_2, q6_0_3⟩, -⟩ := (HR6.out.1).four
    have lt6_0 := (HR6.out.1).lt
    obtain ⟨⟨q6_1_0, q6_1_1, q6_1_2, q6_1_3⟩, -⟩ := (HR6.out.2.1).four
    have lt6_1 := (HR6.out.2.1).lt
    obtain ⟨⟨q6_2_0, q6_2_1, q6_2_2, q6_2_3⟩, -⟩ := (HR6.out.2.2.1).four
    have lt6_2 := (HR6.out.2.2.1).lt
    obtain ⟨⟨q6_3_0, q6_3_1, q6_3_2, q6_3_3⟩, -⟩ := (HR6.out.2.2.2.1).four
    have lt6_3 := (HR6.out.2.2.2.1).lt
    obtain ⟨⟨q6_4_0, q6_4_1, q6_4_2, q6_4_3⟩, -⟩ := (HR6.out.2.2.2.2).four
    have lt6_4 := (HR6.out.2.2.2.2).lt
    have AG := Lib.hid (Below.refl w6.heap.size w6)
    have hne1 : ((rjRes r s).2 != (rjRes r s).2) = false := by simp
    go_wp2_with fail
    refine (eqO_same _ _ (rjRes r s).1 _ (keepsO _ _ _ _ HG.out.rd (below_step AG.out (below_alloc _ _))) (keepsO _ _ _ _ HRW.out (below_step AW_6.out (below_alloc _ _)))).mono ?_
    rintro e w7 ⟨rfl, hb⟩
    have hst := below_step (below_alloc w6 (.cells #[.int .i64 (rjRes r s).1.L, .int .i64 (rjRes r s).1.S, .slice Ag (rjRes r s).1.next.length kag, .slice Bg (rjRes r s).1.fin.length kbg] 40)) hb
    have hx0 := (HR6.out.1).below hst (HR6.out.1).lt
    have hx1 := (HR6.out.2.1).below hst (HR6.out.2.1).lt
    have hx2 := (HR6.out.2.2.1).below hst (HR6.out.2.2.1).lt
    have hx3 := (HR6.out.2.2.2.1).below hst (HR6.out.2.2.2.1).lt
    have hx4 := (HR6.out.2.2.2.2).below hst (HR6.out.2.2.2.2).lt
    have hx5 := (Row.new w6 [.int .i64 (rjRes r s).1.L, .int .i64 (rjRes r s).1.S, .slice Ag (rjRes r s).1.next.length kag, .slice Bg (rjRes r s).1.fin.length kbg] 40).below hb (Row.new w6 [.int .i64 (rjRes r s).1.L, .int .i64 (rjRes r s).1.S, .slice Ag (rjRes r s).1.next.length kag, .slice Bg (rjRes r s).1.fin.length kbg] 40).lt
    have HZ7 := Lib.hid (show w6.heap.size + 1 ≤ w7.heap.size by have := hb.size; simpa using this)
    have HB_7 := Lib.hid (below_step HB_6.out hst)
    clear HB_6
    have AW_7 := Lib.hid (below_step AW_6.out hst)
    clear AW_6
    have X0_7 := Lib.hid (below_step X0_6.out hst)
    clear X0_6
    have X1_7 := Lib.hid (below_step X1_6.out hst)
    clear X1_6
    have G_7 := Lib.hid (below_step AG.out hst)
    clear AG
    clear HR6
    have HR7 := Lib.hid (show _ ∧ _ ∧ _ ∧ _ ∧ _ ∧ _ from ⟨hx0, hx1, hx2, hx3, hx4, hx5⟩)
    clear hb hx0 hx1 hx2 hx3 hx4 hx5 hst
    clear q6_0_0 q6_0_1 q6_0_2 q6_0_3 lt6_0 q6_1_0 q6_1_1 q6_1_2 q6_1_3 lt6_1 q6_2_0 q6_2_1 q6_2_2 q6_2_3 lt6_2 q6_3_0 q6_3_1 q6_3_2 q6_3_3 lt6_3 q6_4_0 q6_4_1 q6_4_2 q6_4_3 lt6_4
    obtain ⟨⟨q7_0_0, q7_0_1, q7_0_2, q7_0_3⟩, -⟩ := (HR7.out.1).four
    have lt7_0 := (HR7.out.1).lt
    obtain ⟨⟨q7_1_0, q7_1_1, q7_1_2, q7_1_3⟩, -⟩ := (HR7.out.2.1).four
    have lt7_1 := (HR7.out.2.1).lt
    obtain ⟨⟨q7_2_0, q7_2_1, q7_2_2, q7_2_3⟩, -⟩ := (HR7.out.2.2.1).four
    have lt7_2 := (HR7.out.2.2.1).lt
    obtain ⟨⟨q7_3_0, q7_3_1, q7_3_2, q7_3_3⟩, -⟩ := (HR7.out.2.2.2.1).four
    have lt7_3 := (HR7.out.2.2.2.1).lt
    obtain ⟨⟨q7_4_0, q7_4_1, q7_4_2, q7_4_3⟩, -⟩ := (HR7.out.2.2.2.2.1).four
    have lt7_4 := (HR7.out.2.2.2.2.1).lt
    obtain ⟨⟨q7_5_0, q7_5_1, q7_5_2, q7_5_3⟩, -⟩ := (HR7.out.2.2.2.2.2).four
    have lt7_5 := (HR7.out.2.2.2.2.2).lt
    go_wp2_with fail
    go_region_held3 (fun W => W.cell? ⟨w.heap.size, 0, none⟩ = some (.int .i64 r.L) ∧ W.cell? ⟨w.heap.size, 1, none⟩ = some (.int .i64 r.S) ∧ W.cell? ⟨w.heap.size, 2, none⟩ = some (.slice A0 r.next.length ka0) ∧ W.cell? ⟨w.heap.size, 3, none⟩ = some (.slice B0 r.fin.length kb0) ∧ W.cell? ⟨w.heap.size + 1, 0, none⟩ = some (.int .i64 s.L) ∧ W.cell? ⟨w.heap.size + 1, 1, none⟩ = some (.int .i64 s.S) ∧ W.cell? ⟨w.heap.size + 1, 2, none⟩ = some (.slice A1 s.next.length ka1) ∧ W.cell? ⟨w.heap.size + 1, 3, none⟩ = some (.slice B1 s.fin.length kb1) ∧ W.cell? ⟨phw, 0, none⟩ = some (.int .i64 (rjRes r s).1.L) ∧ W.cell? ⟨phw, 1, none⟩ = some (.int .i64 (rjRes r s).1.S) ∧ W.cell? ⟨phw, 2, none⟩ = some (.slice Aw (rjRes r s).1.next.length kaw) ∧ W.cell? ⟨phw, 3, none⟩ = some (.slice Bw (rjRes r s).1.fin.length kbw) ∧ W.cell? ⟨w4.heap.size, 0, none⟩ = some (.int .i64 r.L) ∧ W.cell? ⟨w4.heap.size, 1, none⟩ = some (.int .i64 r.S) ∧ W.cell? ⟨w4.heap.size, 2, none⟩ = some (.slice Ax0 r.next.length kax0) ∧ W.cell? ⟨w4.heap.size, 3, none⟩ = some (.slice Bx0 r.fin.length kbx0) ∧ W.cell? ⟨w5.heap.size, 0, none⟩ = some (.int .i64 s.L) ∧ W.cell? ⟨w5.heap.size, 1, none⟩ = some (.int .i64 s.S) ∧ W.cell? ⟨w5.heap.size, 2, none⟩ = some (.slice Ax1 s.next.length kax1) ∧ W.cell? ⟨w5.heap.size, 3, none⟩ = some (.slice Bx1 s.fin.length kbx1) ∧ W.cell? ⟨w6.heap.size, 0, none⟩ = some (.int .i64 (rjRes r s).1.L) ∧ W.cell? ⟨w6.heap.size, 1, none⟩ = some (.int .i64 (rjRes r s).1.S) ∧ W.cell? ⟨w6.heap.size, 2, none⟩ = some (.slice Ag (rjRes r s).1.next.length kag) ∧ W.cell? ⟨w6.heap.size, 3, none⟩ = some (.slice Bg (rjRes r s).1.fin.length kbg))
      (first | go_keep | (go_split_ands; refine ⟨?_, ?_, ?_, ?_, ?_, ?_, ?_, ?_, ?_, ?_, ?_, ?_, ?_, ?_, ?_, ?_, ?_, ?_, ?_, ?_, ?_, ?_, ?_, ?_⟩ <;> exact below_keep hbk (by assumption)))
      (first
        | (go_at_call 14; (with_reducible refine (toO_own _ r _ (HK0.out _ ?_) HS0.out).mono ?_); (exact below_step HB_7.out (by first | exact Below.refl _ _ | exact below_drew _ | exact below_drewN' _ _)); rintro e wy0 ⟨y0, by0, rfl, hy, hbk⟩; have HCy := Lib.hid (show Below w7.heap.size w7 wy0 from below_step (by first | exact Below.refl _ _ | exact below_drew _ | exact below_drewN' _ _) hbk); have HY := Lib.hid hy.rd; clear hy)
        | (go_at_call 16; refine (eqO_same _ _ r _ (keepsO _ _ _ _ HX0.out.rd (below_step X0_7.out HCy.out)) HY.out).mono ?_; rintro e wz0 ⟨rfl, hbk⟩; have HCz := Lib.hid (below_step HCy.out hbk)))
    have hb := HCz.out
    clear HCz HCy HY hbk
    have hx0 := (HR7.out.1).below hb (HR7.out.1).lt
    have hx1 := (HR7.out.2.1).below hb (HR7.out.2.1).lt
    have hx2 := (HR7.out.2.2.1).below hb (HR7.out.2.2.1).lt
    have hx3 := (HR7.out.2.2.2.1).below hb (HR7.out.2.2.2.1).lt
    have hx4 := (HR7.out.2.2.2.2.1).below hb (HR7.out.2.2.2.2.1).lt
    have hx5 := (HR7.out.2.2.2.2.2).below hb (HR7.out.2.2.2.2.2).lt
    have HZ8 := Lib.hid hb.size
    have HB_8 := Lib.hid (below_step HB_7.out hb)
    clear HB_7
    have AW_8 := Lib.hid (below_step AW_7.out hb)
    clear AW_7
    have X0_8 := Lib.hid (below_step X0_7.out hb)
    clear X0_7
    have X1_8 := Lib.hid (below_step X1_7.out hb)
    clear X1_7
    have G_8 := Lib.hid (below_step G_7.out hb)
    clear G_7
    clear HR7
    have HR8 := Lib.hid (show _ ∧ _ ∧ _ ∧ _ ∧ _ ∧ _ from ⟨hx0, hx1, hx2, hx3, hx4, hx5⟩)
    clear hb hx0 hx1 hx2 hx3 hx4 hx5
    clear q7_0_0 q7_0_1 q7_0_2 q7_0_3 lt7_0 q7_1_0 q7_1_1 q7_1_2 q7_1_3 lt7_1 q7_2_0 q7_2_1 q7_2_2 q7_2_3 lt7_2 q7_3_0 q7_3_1 q7_3_2 q7_3_3 lt7_3 q7_4_0 q7_4_1 q7_4_2 q7_4_3 lt7_4 q7_5_0 q7_5_1 q7_5_2 q7_5_3 lt7_5
    obtain ⟨⟨q8_0_0, q8_0_1, q8_0_2, q8_0_3⟩, -⟩ := (HR8.out.1).four
    have lt8_0 := (HR8.out.1).lt
    obtain ⟨⟨q8_1_0, q8_1_1, q8_1_2, q8_1_3⟩, -⟩ := (HR8.out.2.1).four
    have lt8_1 := (HR8.out.2.1).lt
    obtain ⟨⟨q8_2_0, q8_2_1, q8_2_2, q8_2_3⟩, -⟩ := (HR8.out.2.2.1).four
    have lt8_2 := (HR8.out.2.2.1).lt
    obtain ⟨⟨q8_3_0, q8_3_1, q8_3_2, q8_3_3⟩, -⟩ := (HR8.out.2.2.2.1).four
    have lt8_3 := (HR8.out.2.2.2.1).lt
    obtain ⟨⟨q8_4_0, q8_4_1, q8_4_2, q8_4_3⟩, -⟩ := (HR8.out.2.2.2.2.1).four
    have lt8_4 := (HR8.out.2.2.2.2.1).lt
    obtain ⟨⟨q8_5_0, q8_5_1, q8_5_2, q8_5_3⟩, -⟩ := (HR8.out.2.2.2.2.2).four
    have lt8_5 := (HR8.out.2.2.2.2.2).lt
    go_wp2_with fail
    go_region_held3 (fun W => W.cell? ⟨w.heap.size, 0, none⟩ = some (.int .i64 r.L) ∧ W.cell? ⟨w.heap.size, 1, none⟩ = some (.int .i64 r.S) ∧ W.cell? ⟨w.heap.size, 2, none⟩ = some (.slice A0 r.next.length ka0) ∧ W.cell? ⟨w.heap.size, 3, none⟩ = some (.slice B0 r.fin.length kb0) ∧ W.cell? ⟨w.heap.size + 1, 0, none⟩ = some (.int .i64 s.L) ∧ W.cell? ⟨w.heap.size + 1, 1, none⟩ = some (.int .i64 s.S) ∧ W.cell? ⟨w.heap.size + 1, 2, none⟩ = some (.slice A1 s.next.length ka1) ∧ W.cell? ⟨w.heap.size + 1, 3, none⟩ = some (.slice B1 s.fin.length kb1) ∧ W.cell? ⟨phw, 0, none⟩ = some (.int .i64 (rjRes r s).1.L) ∧ W.cell? ⟨phw, 1, none⟩ = some (.int .i64 (rjRes r s).1.S) ∧ W.cell? ⟨phw, 2, none⟩ = some (.slice Aw (rjRes r s).1.next.length kaw) ∧ W.cell? ⟨phw, 3, none⟩ = some (.slice Bw (rjRes r s).1.fin.length kbw) ∧ W.cell? ⟨w4.heap.size, 0, none⟩ = some (.int .i64 r.L) ∧ W.cell? ⟨w4.heap.size, 1, none⟩ = some (.int .i64 r.S) ∧ W.cell? ⟨w4.heap.size, 2, none⟩ = some (.slice Ax0 r.next.length kax0) ∧ W.cell? ⟨w4.heap.size, 3, none⟩ = some (.slice Bx0 r.fin.length kbx0) ∧ W.cell? ⟨w5.heap.size, 0, none⟩ = some (.int .i64 s.L) ∧ W.cell? ⟨w5.heap.size, 1, none⟩ = some (.int .i64 s.S) ∧ W.cell? ⟨w5.heap.size, 2, none⟩ = some (.slice Ax1 s.next.length kax1) ∧ W.cell? ⟨w5.heap.size, 3, none⟩ = some (.slice Bx1 s.fin.length kbx1) ∧ W.cell? ⟨w6.heap.size, 0, none⟩ = some (.int .i64 (rjRes r s).1.L) ∧ W.cell? ⟨w6.heap.size, 1, none⟩ = some (.int .i64 (rjRes r s).1.S) ∧ W.cell? ⟨w6.heap.size, 2, none⟩ = some (.slice Ag (rjRes r s).1.next.length kag) ∧ W.cell? ⟨w6.heap.size, 3, none⟩ = some (.slice Bg (rjRes r s).1.fin.length kbg))
      (first | go_keep | (go_split_ands; refine ⟨?_, ?_, ?_, ?_, ?_, ?_, ?_, ?_, ?_, ?_, ?_, ?_, ?_, ?_, ?_, ?_, ?_, ?_, ?_, ?_, ?_, ?_, ?_, ?_⟩ <;> exact below_keep hbk (by assumption)))
      (first
        | (go_at_call 14; (with_reducible refine (toO_own _ s _ (HK1.out _ ?_) HS1.out).mono ?_); (exact below_step HB_8.out (by first | exact Below.refl _ _ | exact below_drew _ | exact below_drewN' _ _)); rintro e wy1 ⟨y1, by0, rfl, hy, hbk⟩; have HCy := Lib.hid (show Below wz0.heap.size wz0 wy1 from below_step (by first | exact Below.refl _ _ | exact below_drew _ | exact below_drewN' _ _) hbk); have HY := Lib.hid hy.rd; clear hy)
        | (go_at_call 16; refine (eqO_same _ _ s _ (keepsO _ _ _ _ HX1.out.rd (below_step X1_8.out HCy.out)) HY.out).mono ?_; rintro e wz1 ⟨rfl, hbk⟩; have HCz := Lib.hid (below_step HCy.out hbk)))
    have hb := HCz.out
    clear HCz HCy HY hbk
    have hx0 := (HR8.out.1).below hb (HR8.out.1).lt
    have hx1 := (HR8.out.2.1).below hb (HR8.out.2.1).lt
    have hx2 := (HR8.out.2.2.1).below hb (HR8.out.2.2.1).lt
    have hx3 := (HR8.out.2.2.2.1).below hb (HR8.out.2.2.2.1).lt
    have hx4 := (HR8.out.2.2.2.2.1).below hb (HR8.out.2.2.2.2.1).lt
    have hx5 := (HR8.out.2.2.2.2.2).below hb (HR8.out.2.2.2.2.2).lt
    have HZ9 := Lib.hid hb.size
    have HB_9 := Lib.hid (below_step HB_8.out hb)
    clear HB_8
    have AW_9 := Lib.hid (below_step AW_8.out hb)
    clear AW_8
    have X0_9 := Lib.hid (below_step X0_8.out hb)
    clear X0_8
    have X1_9 := Lib.hid (below_step X1_8.out hb)
    clear X1_8
    have G_9 := Lib.hid (below_step G_8.out hb)
    clear G_8
    clear HR8
    have HR9 := Lib.hid (show _ ∧ _ ∧ _ ∧ _ ∧ _ ∧ _ from ⟨hx0, hx1, hx2, hx3, hx4, hx5⟩)
    clear hb hx0 hx1 hx2 hx3 hx4 hx5
    clear q8_0_0 q8_0_1 q8_0_2 q8_0_3 lt8_0 q8_1_0 q8_1_1 q8_1_2 q8_1_3 lt8_1 q8_2_0 q8_2_1 q8_2_2 q8_2_3 lt8_2 q8_3_0 q8_3_1 q8_3_2 q8_3_3 lt8_3 q8_4_0 q8_4_1 q8_4_2 q8_4_3 lt8_4 q8_5_0 q8_5_1 q8_5_2 q8_5_3 lt8_5
    obtain ⟨⟨q9_0_0, q9_0_1, q9_0_2, q9_0_3⟩, -⟩ := (HR9.out.1).four
    have lt9_0 := (HR9.out.1).lt
    obtain ⟨⟨q9_1_0, q9_1_1, q9_1_2, q9_1_3⟩, -⟩ := (HR9.out.2.1).four
    have lt9_1 := (HR9.out.2.1).lt
    obtain ⟨⟨q9_2_0, q9_2_1, q9_2_2, q9_2_3⟩, -⟩ := (HR9.out.2.2.1).four
    have lt9_2 := (HR9.out.2.2.1).lt
    obtain ⟨⟨q9_3_0, q9_3_1, q9_3_2, q9_3_3⟩, -⟩ := (HR9.out.2.2.2.1).four
    have lt9_3 := (HR9.out.2.2.2.1).lt
    obtain ⟨⟨q9_4_0, q9_4_1, q9_4_2, q9_4_3⟩, -⟩ := (HR9.out.2.2.2.2.1).four
    have lt9_4 := (HR9.out.2.2.2.2.1).lt
    obtain ⟨⟨q9_5_0, q9_5_1, q9_5_2, q9_5_3⟩, -⟩ := (HR9.out.2.2.2.2.2).four
    have lt9_5 := (HR9.out.2.2.2.2.2).lt
    go_wp2_with fail
    have ox := goodO.below HX0.out X0_9.out
    have ox1 := goodO.below HX1.out X1_9.out
    have og := goodO.below HG.out G_9.out
    have HNM := Lib.hid (numO_le r)
    refine (markO_own _ r bx0 _ (1) _ ox (by omega) (by have a := HNM.out; have b := HCN0.out; omega)).mono ?_
    rintro e w10 ⟨rfl, -, hT⟩
    have zz0 := HZ.out
    have zz1 := HZ1.out
    have zz2 := HZ2.out
    have zz3 := HZ3.out
    have zz4 := HPB3.out
    have zz5 := HZ4.out
    have zz6 := HZ5.out
    have zz7 := HZ6.out
    have zz8 := HZ7.out
    have zz9 := HZ8.out
    have zz10 := HZ9.out
    have bd := HXB0.out
    have hx0 := (HR9.out.1).same (hT.block (w.heap.size) (HR9.out.1).lt (fun hm => by have := bd _ hm; first | omega | (simp at this; done) | (simp at this; omega)))
    have hx1 := (HR9.out.2.1).same (hT.block (w.heap.size + 1) (HR9.out.2.1).lt (fun hm => by have := bd _ hm; first | omega | (simp at this; done) | (simp at this; omega)))
    have hx2 := (HR9.out.2.2.1).same (hT.block (phw) (HR9.out.2.2.1).lt (fun hm => by have := bd _ hm; first | omega | (simp at this; done) | (simp at this; omega)))
    have hx3 := (HR9.out.2.2.2.1).same (hT.block (w4.heap.size) (HR9.out.2.2.2.1).lt (fun hm => by have := bd _ hm; first | omega | (simp at this; done) | (simp at this; omega)))
    have hx4 := (HR9.out.2.2.2.2.1).same (hT.block (w5.heap.size) (HR9.out.2.2.2.2.1).lt (fun hm => by have := bd _ hm; first | omega | (simp at this; done) | (simp at this; omega)))
    have hx5 := (HR9.out.2.2.2.2.2).same (hT.block (w6.heap.size) (HR9.out.2.2.2.2.2).lt (fun hm => by have := bd _ hm; first | omega | (simp at this; done) | (simp at this; omega)))
    have HB_10 := Lib.hid (HB_9.out.trans (hT.below HB_9.out.size (fun b hm => by have := bd _ hm; first | omega | (simp at this; omega))))
    clear HB_9
    have AW_10 := Lib.hid (AW_9.out.trans (hT.below AW_9.out.size (fun b hm => by have := bd _ hm; first | omega | (simp at this; omega))))
    clear AW_9
    have HGk := Lib.hid (hT.keep goodO og (fun c hc hm => by have a1 := bd _ hm; have a2 := goodO.lt og hc; first | omega | (simp at a1 a2; omega) | (simp at a1; omega) | (simp at a2; omega)))
    have HX1k := Lib.hid (hT.keep goodO ox1 (fun c hc hm => by have a1 := bd _ hm; have a2 := goodO.lt ox1 hc; first | omega | (simp at a1 a2; omega) | (simp at a1; omega) | (simp at a2; omega)))
    have HZ10 := Lib.hid hT.size
    clear zz0 zz1 zz2 zz3 zz4 zz5 zz6 zz7 zz8 zz9 zz10
    clear bd hT HR9
    have HR10 := Lib.hid (show _ ∧ _ ∧ _ ∧ _ ∧ _ ∧ _ from ⟨hx0, hx1, hx2, hx3, hx4, hx5⟩)
    clear hx0 hx1 hx2 hx3 hx4 hx5
    clear q9_0_0 q9_0_1 q9_0_2 q9_0_3 lt9_0 q9_1_0 q9_1_1 q9_1_2 q9_1_3 lt9_1 q9_2_0 q9_2_1 q9_2_2 q9_2_3 lt9_2 q9_3_0 q9_3_1 q9_3_2 q9_3_3 lt9_3 q9_4_0 q9_4_1 q9_4_2 q9_4_3 lt9_4 q9_5_0 q9_5_1 q9_5_2 q9_5_3 lt9_5
    obtain ⟨⟨q10_0_0, q10_0_1, q10_0_2, q10_0_3⟩, -⟩ := (HR10.out.1).four
    have lt10_0 := (HR10.out.1).lt
    obtain ⟨⟨q10_1_0, q10_1_1, q10_1_2, q10_1_3⟩, -⟩ := (HR10.out.2.1).four
    have lt10_1 := (HR10.out.2.1).lt
    obtain ⟨⟨q10_2_0, q10_2_1, q10_2_2, q10_2_3⟩, -⟩ := (HR10.out.2.2.1).four
    have lt10_2 := (HR10.out.2.2.1).lt
    obtain ⟨⟨q10_3_0, q10_3_1, q10_3_2, q10_3_3⟩, -⟩ := (HR10.out.2.2.2.1).four
    have lt10_3 := (HR10.out.2.2.2.1).lt
    obtain ⟨⟨q10_4_0, q10_4_1, q10_4_2, q10_4_3⟩, -⟩ := (HR10.out.2.2.2.2.1).four
    have lt10_4 := (HR10.out.2.2.2.2.1).lt
    obtain ⟨⟨q10_5_0, q10_5_1, q10_5_2, q10_5_3⟩, -⟩ := (HR10.out.2.2.2.2.2).four
    have lt10_5 := (HR10.out.2.2.2.2.2).lt
    clear og HG ox
    have HG := HGk
    clear HGk
    have AG10 := Lib.hid (Below.refl w10.heap.size w10)
    clear ox1 HX1
    have HX1 := HX1k
    clear HX1k
    have AX1_10 := Lib.hid (Below.refl w10.heap.size w10)
    have HBD0 := Lib.hid (show (numO r : Int) ≤ 4194304 from by have a := HNM.out; have b := HCN0.out; omega)
    have kp0 : (0 : Int) ≤ 1 + (numO r : Int) := by omega
    have kq0 : 1 + (numO r : Int) ≤ 2305843009213693952 := by have b0 := HBD0.out; omega
    clear HNM
    go_wp2_with fail
    have ox := goodO.below HX1.out AX1_10.out
    have og := goodO.below HG.out AG10.out
    have HNM := Lib.hid (numO_le s)
    refine (markO_own _ s bx1 _ (1 + (numO r : Int)) _ ox (by omega) (by have a := HNM.out; have b := HCN1.out; omega)).mono ?_
    rintro e w11 ⟨rfl, -, hT⟩
    have zz0 := HZ.out
    have zz1 := HZ1.out
    have zz2 := HZ2.out
    have zz3 := HZ3.out
    have zz4 := HPB3.out
    have zz5 := HZ4.out
    have zz6 := HZ5.out
    have zz7 := HZ6.out
    have zz8 := HZ7.out
    have zz9 := HZ8.out
    have zz10 := HZ9.out
    have zz11 := HZ10.out
    have bd := HXB1.out
    have hx0 := (HR10.out.1).same (hT.block (w.heap.size) (HR10.out.1).lt (fun hm => by have := bd _ hm; first | omega | (simp at this; done) | (simp at this; omega)))
    have hx1 := (HR10.out.2.1).same (hT.block (w.heap.size + 1) (HR10.out.2.1).lt (fun hm => by have := bd _ hm; first | omega | (simp at this; done) | (simp at this; omega)))
    have hx2 := (HR10.out.2.2.1).same (hT.block (phw) (HR10.out.2.2.1).lt (fun hm => by have := bd _ hm; first | omega | (simp at this; done) | (simp at this; omega)))
    have hx3 := (HR10.out.2.2.2.1).same (hT.block (w4.heap.size) (HR10.out.2.2.2.1).lt (fun hm => by have := bd _ hm; first | omega | (simp at this; done) | (simp at this; omega)))
    have hx4 := (HR10.out.2.2.2.2.1).same (hT.block (w5.heap.size) (HR10.out.2.2.2.2.1).lt (fun hm => by have := bd _ hm; first | omega | (simp at this; done) | (simp at this; omega)))
    have hx5 := (HR10.out.2.2.2.2.2).same (hT.block (w6.heap.size) (HR10.out.2.2.2.2.2).lt (fun hm => by have := bd _ hm; first | omega | (simp at this; done) | (simp at this; omega)))
    have HB_11 := Lib.hid (HB_10.out.trans (hT.below HB_10.out.size (fun b hm => by have := bd _ hm; first | omega | (simp at this; omega))))
    clear HB_10
    have AW_11 := Lib.hid (AW_10.out.trans (hT.below AW_10.out.size (fun b hm => by have := bd _ hm; first | omega | (simp at this; omega))))
    clear AW_10
    have HGk := Lib.hid (hT.keep goodO og (fun c hc hm => by have a1 := bd _ hm; have a2 := goodO.lt og hc; first | omega | (simp at a1 a2; omega) | (simp at a1; omega) | (simp at a2; omega)))
    have HZ11 := Lib.hid hT.size
    clear zz0 zz1 zz2 zz3 zz4 zz5 zz6 zz7 zz8 zz9 zz10 zz11
    clear bd hT HR10
    have HR11 := Lib.hid (show _ ∧ _ ∧ _ ∧ _ ∧ _ ∧ _ from ⟨hx0, hx1, hx2, hx3, hx4, hx5⟩)
    clear hx0 hx1 hx2 hx3 hx4 hx5
    clear q10_0_0 q10_0_1 q10_0_2 q10_0_3 lt10_0 q10_1_0 q10_1_1 q10_1_2 q10_1_3 lt10_1 q10_2_0 q10_2_1 q10_2_2 q10_2_3 lt10_2 q10_3_0 q10_3_1 q10_3_2 q10_3_3 lt10_3 q10_4_0 q10_4_1 q10_4_2 q10_4_3 lt10_4 q10_5_0 q10_5_1 q10_5_2 q10_5_3 lt10_5
    obtain ⟨⟨q11_0_0, q11_0_1, q11_0_2, q11_0_3⟩, -⟩ := (HR11.out.1).four
    have lt11_0 := (HR11.out.1).lt
    obtain ⟨⟨q11_1_0, q11_1_1, q11_1_2, q11_1_3⟩, -⟩ := (HR11.out.2.1).four
    have lt11_1 := (HR11.out.2.1).lt
    obtain ⟨⟨q11_2_0, q11_2_1, q11_2_2, q11_2_3⟩, -⟩ := (HR11.out.2.2.1).four
    have lt11_2 := (HR11.out.2.2.1).lt
    obtain ⟨⟨q11_3_0, q11_3_1, q11_3_2, q11_3_3⟩, -⟩ := (HR11.out.2.2.2.1).four
    have lt11_3 := (HR11.out.2.2.2.1).lt
    obtain ⟨⟨q11_4_0, q11_4_1, q11_4_2, q11_4_3⟩, -⟩ := (HR11.out.2.2.2.2.1).four
    have lt11_4 := (HR11.out.2.2.2.2.1).lt
    obtain ⟨⟨q11_5_0, q11_5_1, q11_5_2, q11_5_3⟩, -⟩ := (HR11.out.2.2.2.2.2).four
    have lt11_5 := (HR11.out.2.2.2.2.2).lt
    clear og HG ox
    have HG := HGk
    clear HGk
    have AG11 := Lib.hid (Below.refl w11.heap.size w11)
    have HBD1 := Lib.hid (show (numO s : Int) ≤ 4194304 from by have a := HNM.out; have b := HCN1.out; omega)
    have kp1 : (0 : Int) ≤ 1 + (numO r : Int) + (numO s : Int) := by omega
    have kq1 : 1 + (numO r : Int) + (numO s : Int) ≤ 2305843009213693952 := by have b0 := HBD0.out; have b1 := HBD1.out; omega
    clear HNM
    go_wp2_with fail
    refine (eqO_same _ _ (rjRes r s).1 _ (keepsO _ _ _ _ HG.out.rd AG11.out) (keepsO _ _ _ _ HRW.out AW_11.out)).mono ?_
    rintro e w12 ⟨rfl, hb⟩
    have hx0 := (HR11.out.1).below hb (HR11.out.1).lt
    have hx1 := (HR11.out.2.1).below hb (HR11.out.2.1).lt
    have hx2 := (HR11.out.2.2.1).below hb (HR11.out.2.2.1).lt
    have hx3 := (HR11.out.2.2.2.1).below hb (HR11.out.2.2.2.1).lt
    have hx4 := (HR11.out.2.2.2.2.1).below hb (HR11.out.2.2.2.2.1).lt
    have hx5 := (HR11.out.2.2.2.2.2).below hb (HR11.out.2.2.2.2.2).lt
    have HZ12 := Lib.hid hb.size
    have HB_12 := Lib.hid (below_step HB_11.out hb)
    clear HB_11
    have AW_12 := Lib.hid (below_step AW_11.out hb)
    clear AW_11
    have G_12 := Lib.hid (below_step AG11.out hb)
    clear AG11
    clear HR11
    have HR12 := Lib.hid (show _ ∧ _ ∧ _ ∧ _ ∧ _ ∧ _ from ⟨hx0, hx1, hx2, hx3, hx4, hx5⟩)
    clear hb hx0 hx1 hx2 hx3 hx4 hx5
    clear q11_0_0 q11_0_1 q11_0_2 q11_0_3 lt11_0 q11_1_0 q11_1_1 q11_1_2 q11_1_3 lt11_1 q11_2_0 q11_2_1 q11_2_2 q11_2_3 lt11_2 q11_3_0 q11_3_1 q11_3_2 q11_3_3 lt11_3 q11_4_0 q11_4_1 q11_4_2 q11_4_3 lt11_4 q11_5_0 q11_5_1 q11_5_2 q11_5_3 lt11_5
    obtain ⟨⟨q12_0_0, q12_0_1, q12_0_2, q12_0_3⟩, -⟩ := (HR12.out.1).four
    have lt12_0 := (HR12.out.1).lt
    obtain ⟨⟨q12_1_0, q12_1_1, q12_1_2, q12_1_3⟩, -⟩ := (HR12.out.2.1).four
    have lt12_1 := (HR12.out.2.1).lt
    obtain ⟨⟨q12_2_0, q12_2_1, q12_2_2, q12_2_3⟩, -⟩ := (HR12.out.2.2.1).four
    have lt12_2 := (HR12.out.2.2.1).lt
    obtain ⟨⟨q12_3_0, q12_3_1, q12_3_2, q12_3_3⟩, -⟩ := (HR12.out.2.2.2.1).four
    have lt12_3 := (HR12.out.2.2.2.1).lt
    obtain ⟨⟨q12_4_0, q12_4_1, q12_4_2, q12_4_3⟩, -⟩ := (HR12.out.2.2.2.2.1).four
    have lt12_4 := (HR12.out.2.2.2.2.1).lt
    obtain ⟨⟨q12_5_0, q12_5_1, q12_5_2, q12_5_3⟩, -⟩ := (HR12.out.2.2.2.2.2).four
    have lt12_5 := (HR12.out.2.2.2.2.2).lt
    go_wp2_with fail
    have HN := Lib.hid (show (numO ((rjRes r s).1) : Int) ≤ 2305843009213693952 from by exact rj_num r s)
    have og := goodO.below HG.out G_12.out
    refine (markO_own _ ((rjRes r s).1) bgs _ 1 _ og (by omega) (by have a := HN.out; omega)).mono ?_
    rintro e w13 ⟨rfl, hm, hT0⟩
    have hT := hT0
    clear hT0
    have HM := Lib.hid hm
    clear hm
    have zz0 := HZ.out
    have zz1 := HZ1.out
    have zz2 := HZ2.out
    have zz3 := HZ3.out
    have zz4 := HPB3.out
    have zz5 := HZ4.out
    have zz6 := HZ5.out
    have zz7 := HZ6.out
    have zz8 := HZ7.out
    have zz9 := HZ8.out
    have zz10 := HZ9.out
    have zz11 := HZ10.out
    have zz12 := HZ11.out
    have zz13 := HZ12.out
    have bd := HGB.out
    have hx0 := (HR12.out.1).same (hT.block (w.heap.size) (HR12.out.1).lt (fun hm => by have := bd _ hm; first | omega | (simp at this; done) | (simp at this; omega)))
    have hx1 := (HR12.out.2.1).same (hT.block (w.heap.size + 1) (HR12.out.2.1).lt (fun hm => by have := bd _ hm; first | omega | (simp at this; done) | (simp at this; omega)))
    have hx2 := (HR12.out.2.2.1).same (hT.block (phw) (HR12.out.2.2.1).lt (fun hm => by have := bd _ hm; first | omega | (simp at this; done) | (simp at this; omega)))
    have hx3 := (HR12.out.2.2.2.1).same (hT.block (w4.heap.size) (HR12.out.2.2.2.1).lt (fun hm => by have := bd _ hm; first | omega | (simp at this; done) | (simp at this; omega)))
    have hx4 := (HR12.out.2.2.2.2.1).same (hT.block (w5.heap.size) (HR12.out.2.2.2.2.1).lt (fun hm => by have := bd _ hm; first | omega | (simp at this; done) | (simp at this; omega)))
    have hx5 := (HR12.out.2.2.2.2.2).same (hT.block (w6.heap.size) (HR12.out.2.2.2.2.2).lt (fun hm => by have := bd _ hm; first | omega | (simp at this; done) | (simp at this; omega)))
    have HB_13 := Lib.hid (HB_12.out.trans (hT.below HB_12.out.size (fun b hm => by have := bd _ hm; first | omega | (simp at this; omega))))
    clear HB_12
    have AW_13 := Lib.hid (AW_12.out.trans (hT.below AW_12.out.size (fun b hm => by have := bd _ hm; first | omega | (simp at this; omega))))
    clear AW_12
    have HZ13 := Lib.hid hT.size
    clear zz0 zz1 zz2 zz3 zz4 zz5 zz6 zz7 zz8 zz9 zz10 zz11 zz12 zz13
    clear bd hT HR12
    have HR13 := Lib.hid (show _ ∧ _ ∧ _ ∧ _ ∧ _ ∧ _ from ⟨hx0, hx1, hx2, hx3, hx4, hx5⟩)
    clear hx0 hx1 hx2 hx3 hx4 hx5
    clear q12_0_0 q12_0_1 q12_0_2 q12_0_3 lt12_0 q12_1_0 q12_1_1 q12_1_2 q12_1_3 lt12_1 q12_2_0 q12_2_1 q12_2_2 q12_2_3 lt12_2 q12_3_0 q12_3_1 q12_3_2 q12_3_3 lt12_3 q12_4_0 q12_4_1 q12_4_2 q12_4_3 lt12_4 q12_5_0 q12_5_1 q12_5_2 q12_5_3 lt12_5
    obtain ⟨⟨q13_0_0, q13_0_1, q13_0_2, q13_0_3⟩, -⟩ := (HR13.out.1).four
    have lt13_0 := (HR13.out.1).lt
    obtain ⟨⟨q13_1_0, q13_1_1, q13_1_2, q13_1_3⟩, -⟩ := (HR13.out.2.1).four
    have lt13_1 := (HR13.out.2.1).lt
    obtain ⟨⟨q13_2_0, q13_2_1, q13_2_2, q13_2_3⟩, -⟩ := (HR13.out.2.2.1).four
    have lt13_2 := (HR13.out.2.2.1).lt
    obtain ⟨⟨q13_3_0, q13_3_1, q13_3_2, q13_3_3⟩, -⟩ := (HR13.out.2.2.2.1).four
    have lt13_3 := (HR13.out.2.2.2.1).lt
    obtain ⟨⟨q13_4_0, q13_4_1, q13_4_2, q13_4_3⟩, -⟩ := (HR13.out.2.2.2.2.1).four
    have lt13_4 := (HR13.out.2.2.2.2.1).lt
    obtain ⟨⟨q13_5_0, q13_5_1, q13_5_2, q13_5_3⟩, -⟩ := (HR13.out.2.2.2.2.2).four
    have lt13_5 := (HR13.out.2.2.2.2.2).lt
    clear og HG
    have AM := Lib.hid (Below.refl w13.heap.size w13)
    have kq : (0 : Int) ≤ 1 + (numO ((rjRes r s).1) : Int) := by omega
    have hnq : (1 + (numO ((rjRes r s).1) : Int) != 1 + (numO ((rjRes r s).1) : Int)) = false := by simp
    go_wp2_with fail
    refine (heldO_any _ ((rjRes r s).1) 1 _ (keepsO _ _ _ _ HM.out.rd AM.out) (by omega) (by have a := HN.out; omega)).mono ?_
    rintro e w14 ⟨rfl, hb⟩
    have hx0 := (HR13.out.1).below hb (HR13.out.1).lt
    have hx1 := (HR13.out.2.1).below hb (HR13.out.2.1).lt
    have hx2 := (HR13.out.2.2.1).below hb (HR13.out.2.2.1).lt
    have hx3 := (HR13.out.2.2.2.1).below hb (HR13.out.2.2.2.1).lt
    have hx4 := (HR13.out.2.2.2.2.1).below hb (HR13.out.2.2.2.2.1).lt
    have hx5 := (HR13.out.2.2.2.2.2).below hb (HR13.out.2.2.2.2.2).lt
    have HZ14 := Lib.hid hb.size
    have HB_14 := Lib.hid (below_step HB_13.out hb)
    clear HB_13
    have AW_14 := Lib.hid (below_step AW_13.out hb)
    clear AW_13
    have HM_14 := Lib.hid (below_step AM.out hb)
    clear AM
    clear HR13
    have HR14 := Lib.hid (show _ ∧ _ ∧ _ ∧ _ ∧ _ ∧ _ from ⟨hx0, hx1, hx2, hx3, hx4, hx5⟩)
    clear hb hx0 hx1 hx2 hx3 hx4 hx5
    clear q13_0_0 q13_0_1 q13_0_2 q13_0_3 lt13_0 q13_1_0 q13_1_1 q13_1_2 q13_1_3 lt13_1 q13_2_0 q13_2_1 q13_2_2 q13_2_3 lt13_2 q13_3_0 q13_3_1 q13_3_2 q13_3_3 lt13_3 q13_4_0 q13_4_1 q13_4_2 q13_4_3 lt13_4 q13_5_0 q13_5_1 q13_5_2 q13_5_3 lt13_5
    obtain ⟨⟨q14_0_0, q14_0_1, q14_0_2, q14_0_3⟩, -⟩ := (HR14.out.1).four
    have lt14_0 := (HR14.out.1).lt
    obtain ⟨⟨q14_1_0, q14_1_1, q14_1_2, q14_1_3⟩, -⟩ := (HR14.out.2.1).four
    have lt14_1 := (HR14.out.2.1).lt
    obtain ⟨⟨q14_2_0, q14_2_1, q14_2_2, q14_2_3⟩, -⟩ := (HR14.out.2.2.1).four
    have lt14_2 := (HR14.out.2.2.1).lt
    obtain ⟨⟨q14_3_0, q14_3_1, q14_3_2, q14_3_3⟩, -⟩ := (HR14.out.2.2.2.1).four
    have lt14_3 := (HR14.out.2.2.2.1).lt
    obtain ⟨⟨q14_4_0, q14_4_1, q14_4_2, q14_4_3⟩, -⟩ := (HR14.out.2.2.2.2.1).four
    have lt14_4 := (HR14.out.2.2.2.2.1).lt
    obtain ⟨⟨q14_5_0, q14_5_1, q14_5_2, q14_5_3⟩, -⟩ := (HR14.out.2.2.2.2.2).four
    have lt14_5 := (HR14.out.2.2.2.2.2).lt
    go_wp2_with fail
    have HSC := Lib.hid (fun (V : World) (hb : Below w14.heap.size w14 V) => show (fun (V : World) => V.cell? ⟨w.heap.size, 0, none⟩ = some (.int .i64 r.L) ∧ V.cell? ⟨w.heap.size, 1, none⟩ = some (.int .i64 r.S) ∧ V.cell? ⟨w.heap.size, 2, none⟩ = some (.slice A0 r.next.length ka0) ∧ V.cell? ⟨w.heap.size, 3, none⟩ = some (.slice B0 r.fin.length kb0) ∧ V.cell? ⟨w.heap.size + 1, 0, none⟩ = some (.int .i64 s.L) ∧ V.cell? ⟨w.heap.size + 1, 1, none⟩ = some (.int .i64 s.S) ∧ V.cell? ⟨w.heap.size + 1, 2, none⟩ = some (.slice A1 s.next.length ka1) ∧ V.cell? ⟨w.heap.size + 1, 3, none⟩ = some (.slice B1 s.fin.length kb1) ∧ V.cell? ⟨phw, 0, none⟩ = some (.int .i64 (rjRes r s).1.L) ∧ V.cell? ⟨phw, 1, none⟩ = some (.int .i64 (rjRes r s).1.S) ∧ V.cell? ⟨phw, 2, none⟩ = some (.slice Aw (rjRes r s).1.next.length kaw) ∧ V.cell? ⟨phw, 3, none⟩ = some (.slice Bw (rjRes r s).1.fin.length kbw) ∧ V.cell? ⟨w4.heap.size, 0, none⟩ = some (.int .i64 r.L) ∧ V.cell? ⟨w4.heap.size, 1, none⟩ = some (.int .i64 r.S) ∧ V.cell? ⟨w4.heap.size, 2, none⟩ = some (.slice Ax0 r.next.length kax0) ∧ V.cell? ⟨w4.heap.size, 3, none⟩ = some (.slice Bx0 r.fin.length kbx0) ∧ V.cell? ⟨w5.heap.size, 0, none⟩ = some (.int .i64 s.L) ∧ V.cell? ⟨w5.heap.size, 1, none⟩ = some (.int .i64 s.S) ∧ V.cell? ⟨w5.heap.size, 2, none⟩ = some (.slice Ax1 s.next.length kax1) ∧ V.cell? ⟨w5.heap.size, 3, none⟩ = some (.slice Bx1 s.fin.length kbx1) ∧ V.cell? ⟨w6.heap.size, 0, none⟩ = some (.int .i64 (rjRes r s).1.L) ∧ V.cell? ⟨w6.heap.size, 1, none⟩ = some (.int .i64 (rjRes r s).1.S) ∧ V.cell? ⟨w6.heap.size, 2, none⟩ = some (.slice Ag (rjRes r s).1.next.length kag) ∧ V.cell? ⟨w6.heap.size, 3, none⟩ = some (.slice Bg (rjRes r s).1.fin.length kbg)) V from ⟨below_keep hb q14_0_0, below_keep hb q14_0_1, below_keep hb q14_0_2, below_keep hb q14_0_3, below_keep hb q14_1_0, below_keep hb q14_1_1, below_keep hb q14_1_2, below_keep hb q14_1_3, below_keep hb q14_2_0, below_keep hb q14_2_1, below_keep hb q14_2_2, below_keep hb q14_2_3, below_keep hb q14_3_0, below_keep hb q14_3_1, below_keep hb q14_3_2, below_keep hb q14_3_3, below_keep hb q14_4_0, below_keep hb q14_4_1, below_keep hb q14_4_2, below_keep hb q14_4_3, below_keep hb q14_5_0, below_keep hb q14_5_1, below_keep hb q14_5_2, below_keep hb q14_5_3⟩)
    go_upto_region 31 with fail
    go_cut [15, 16] from 94 to 101 (fun s6 s7 wx => ∃ (ph : Nat) (Ah : Option Addr) (kah : Nat) (Bh : Option Addr) (kbh : Nat), s6 = .pointer (some ⟨ph, 0, none⟩) ∧ s7 = .int .i64 ((rjRes r s).2) ∧ Row wx ph 40 [.int .i64 (rjRes r s).1.L, .int .i64 (rjRes r s).1.S, .slice Ah (rjRes r s).1.next.length kah, .slice Bh (rjRes r s).1.fin.length kbh] ∧ RdO wx (.agg #[.int .i64 (rjRes r s).1.L, .int .i64 (rjRes r s).1.S, .slice Ah (rjRes r s).1.next.length kah, .slice Bh (rjRes r s).1.fin.length kbh]) ((rjRes r s).1) ∧ Below w14.heap.size w14 wx)
    case first =>
      refine wp_region_held_drew (S := fun (V : World) => V.cell? ⟨w.heap.size, 0, none⟩ = some (.int .i64 r.L) ∧ V.cell? ⟨w.heap.size, 1, none⟩ = some (.int .i64 r.S) ∧ V.cell? ⟨w.heap.size, 2, none⟩ = some (.slice A0 r.next.length ka0) ∧ V.cell? ⟨w.heap.size, 3, none⟩ = some (.slice B0 r.fin.length kb0) ∧ V.cell? ⟨w.heap.size + 1, 0, none⟩ = some (.int .i64 s.L) ∧ V.cell? ⟨w.heap.size + 1, 1, none⟩ = some (.int .i64 s.S) ∧ V.cell? ⟨w.heap.size + 1, 2, none⟩ = some (.slice A1 s.next.length ka1) ∧ V.cell? ⟨w.heap.size + 1, 3, none⟩ = some (.slice B1 s.fin.length kb1) ∧ V.cell? ⟨phw, 0, none⟩ = some (.int .i64 (rjRes r s).1.L) ∧ V.cell? ⟨phw, 1, none⟩ = some (.int .i64 (rjRes r s).1.S) ∧ V.cell? ⟨phw, 2, none⟩ = some (.slice Aw (rjRes r s).1.next.length kaw) ∧ V.cell? ⟨phw, 3, none⟩ = some (.slice Bw (rjRes r s).1.fin.length kbw) ∧ V.cell? ⟨w4.heap.size, 0, none⟩ = some (.int .i64 r.L) ∧ V.cell? ⟨w4.heap.size, 1, none⟩ = some (.int .i64 r.S) ∧ V.cell? ⟨w4.heap.size, 2, none⟩ = some (.slice Ax0 r.next.length kax0) ∧ V.cell? ⟨w4.heap.size, 3, none⟩ = some (.slice Bx0 r.fin.length kbx0) ∧ V.cell? ⟨w5.heap.size, 0, none⟩ = some (.int .i64 s.L) ∧ V.cell? ⟨w5.heap.size, 1, none⟩ = some (.int .i64 s.S) ∧ V.cell? ⟨w5.heap.size, 2, none⟩ = some (.slice Ax1 s.next.length kax1) ∧ V.cell? ⟨w5.heap.size, 3, none⟩ = some (.slice Bx1 s.fin.length kbx1) ∧ V.cell? ⟨w6.heap.size, 0, none⟩ = some (.int .i64 (rjRes r s).1.L) ∧ V.cell? ⟨w6.heap.size, 1, none⟩ = some (.int .i64 (rjRes r s).1.S) ∧ V.cell? ⟨w6.heap.size, 2, none⟩ = some (.slice Ag (rjRes r s).1.next.length kag) ∧ V.cell? ⟨w6.heap.size, 3, none⟩ = some (.slice Bg (rjRes r s).1.fin.length kbg)) (by kernel_rfl) (HSC.out _ (below_drew _)) (fun hHeld => ?_)
      have BEL := Lib.hid (below_drew w14)
      generalize w14.drew = V0 at *
      refine wpAnyH_take (i := 0) (v := ?_) (by simp only [List.getElem?_toArray, List.getElem?_cons_zero]; exact rfl) (by kernel_rfl) (by kernel_rfl) (by kernel_rfl) (by intro _ _ _ h; exact h) (Or.inl ⟨by kernel_rfl, ?_⟩) hHeld ?_
      rotate_left
      · intro V hSw
        (try dsimp only at hSw)
        go_simp
        try with_reducible rfl
      (try simp only [Act.put, List.setIfInBounds_toArray, List.set_cons_zero, List.set_cons_succ])
      refine wpAnyH_take (i := 2) (v := ?_) (by simp only [List.getElem?_toArray, List.getElem?_cons_succ, List.getElem?_cons_zero]; exact rfl) (by kernel_rfl) (by kernel_rfl) (by kernel_rfl) (by intro _ _ _ h; exact h) (Or.inl ⟨by kernel_rfl, ?_⟩) hHeld ?_
      rotate_left
      · intro V hSw
        (try dsimp only at hSw)
        go_simp
        try with_reducible rfl
      (try simp only [Act.put, List.setIfInBounds_toArray, List.set_cons_zero, List.set_cons_succ])
      refine wpAnyH_ready (rs := [1, 8]) (by kernel_rfl) (by simp) ?_
      refine AllReadyH.cons rfl (fun K hK => ?_) ?_
      · skip
        rw [if_pos (by rfl)]
        go_simp
        refine (toO_own _ r _ (HK0.out _ (below_step HB_14.out BEL.out)) HS0.out).mono ?_
        rintro e V1 ⟨x0, bx0, rfl, hxx, hbb⟩
        have BEL1 := Lib.hid (below_step BEL.out hbb)
        have HY0 := Lib.hid hxx.rd
        clear BEL hxx hbb
        have BEL := BEL1
        clear BEL1
        clear hHeld
        refine hK.out _ _ (HSC.out _ BEL.out) (fun hHeld => ?_)
        clear hK K
        (try simp only [Act.put, List.setIfInBounds_toArray, List.set_cons_zero, List.set_cons_succ])
        refine wpAnyH_ready (rs := [3, 8]) (by kernel_rfl) (by simp) ?_
        refine AllReadyH.cons rfl (fun K hK => ?_) ?_
        · skip
          rw [if_pos (by rfl)]
          go_simp
          refine (toO_own _ s _ (HK1.out _ (below_step HB_14.out BEL.out)) HS1.out).mono ?_
          rintro e V2 ⟨x1, bx1, rfl, hxx, hbb⟩
          have BEL1 := Lib.hid (below_step BEL.out hbb)
          have HY01 := Lib.hid (keepsO _ _ _ _ HY0.out hbb)
          clear HY0
          have HY0 := HY01
          clear HY01
          have HY1 := Lib.hid hxx.rd
          clear BEL hxx hbb
          have BEL := BEL1
          clear BEL1
          clear hHeld
          refine hK.out _ _ (HSC.out _ BEL.out) (fun hHeld => ?_)
          clear hK K
          (try simp only [Act.put, List.setIfInBounds_toArray, List.set_cons_zero, List.set_cons_succ])
          refine wpAnyH_ready (rs := [4, 8]) (by kernel_rfl) (by simp) ?_
          refine AllReadyH.cons rfl (fun K hK => ?_) ?_
          · skip
            rw [if_pos (by rfl)]
            go_simp
            refine (implRj_own _ _ r s _ HY0.out HY1.out).mono ?_
            rintro e V3 ⟨uw, bw, rfl, huw, hbb⟩
            have BEL1 := Lib.hid (below_step BEL.out hbb)
            have hsh := huw.rd.shape
            obtain ⟨Ah, kah, Bh, kbh, rfl⟩ := hsh
            have HUW := Lib.hid huw
            clear BEL huw hbb
            have BEL := BEL1
            clear BEL1
            clear hHeld
            refine hK.out _ _ (HSC.out _ BEL.out) (fun hHeld => ?_)
            clear hK K
            (try simp only [Act.put, List.setIfInBounds_toArray, List.set_cons_zero, List.set_cons_succ])
            refine wpAnyH_take (i := 5) (v := ?_) (by simp only [List.getElem?_toArray, List.getElem?_cons_succ, List.getElem?_cons_zero]; exact rfl) (by kernel_rfl) (by kernel_rfl) (by kernel_rfl) (by intro _ _ _ h; exact h) (Or.inl ⟨by kernel_rfl, ?_⟩) hHeld ?_
            rotate_left
            · intro V hSw
              (try dsimp only at hSw)
              go_simp
              try with_reducible rfl
            (try simp only [Act.put, List.setIfInBounds_toArray, List.set_cons_zero, List.set_cons_succ])
            refine wpAnyH_take (i := 6) (v := ?_) (by simp only [List.getElem?_toArray, List.getElem?_cons_succ, List.getElem?_cons_zero]; exact rfl) (by kernel_rfl) (by kernel_rfl) (by kernel_rfl) (by intro _ _ _ h; exact h) (Or.inl ⟨by kernel_rfl, ?_⟩) hHeld ?_
            rotate_left
            · intro V hSw
              (try dsimp only at hSw)
              go_simp
              try with_reducible rfl
            (try simp only [Act.put, List.setIfInBounds_toArray, List.set_cons_zero, List.set_cons_succ])
            refine wpAnyH_take (i := 7) (v := ?_) (by simp only [List.getElem?_toArray, List.getElem?_cons_succ, List.getElem?_cons_zero]; exact rfl) (by kernel_rfl) (by kernel_rfl) (by kernel_rfl) (by intro _ _ _ h; exact h) (Or.inl ⟨by kernel_rfl, ?_⟩) hHeld ?_
            rotate_left
            · intro V hSw
              (try dsimp only at hSw)
              go_simp
              try with_reducible rfl
            (try simp only [Act.put, List.setIfInBounds_toArray, List.set_cons_zero, List.set_cons_succ])
            refine wpAnyH_ready (rs := [8]) (by kernel_rfl) (by simp) ?_
            refine AllReadyH.cons rfl (fun K hK => ?_) AllReadyH.nil
            rw [if_pos (by rfl)]
            go_simp
            have HAL := Lib.hid (Row.new V3 [.int .i64 0, .int .i64 0, .slice none 0 0, .slice none 0 0] 40)
            have HPH := Lib.hid BEL.out.size
            have BEL1 := Lib.hid (below_step BEL.out (below_alloc V3 (.cells #[.int .i64 0, .int .i64 0, .slice none 0 0, .slice none 0 0] 40)))
            have HUR := Lib.hid (goodO.below HUW.out (below_alloc V3 (.cells #[.int .i64 0, .int .i64 0, .slice none 0 0, .slice none 0 0] 40)))
            have HLN := Lib.hid (fun (x : Nat) hm => (goodO.lt HUW.out (b := x) hm).2)
            clear BEL
            have BEL := BEL1
            clear BEL1
            clear hHeld
            refine hK.out _ _ (HSC.out _ BEL.out) (fun hHeld => ?_)
            clear hK K
            (try simp only [Act.put, List.setIfInBounds_toArray, List.set_cons_zero, List.set_cons_succ])
            generalize V3.alloc (.cells #[.int .i64 0, .int .i64 0, .slice none 0 0, .slice none 0 0] 40) = V4 at *
            generalize V3.heap.size = ph at *
            refine wpAnyH_ready (rs := [9]) (by kernel_rfl) (by simp) ?_
            refine AllReadyH.cons rfl (fun K hK => ?_) AllReadyH.nil
            rw [if_pos (by rfl)]
            obtain ⟨⟨y0, y1, y2, y3⟩, yf⟩ := HAL.out.four
            go_simp
            have BEL1 := Lib.hid (((((BEL.out.setCell (p := ⟨ph, 0, none⟩) HPH.out (.int .i64 (rjRes r s).1.L)).setCell (p := ⟨ph, 1, none⟩) HPH.out (.int .i64 (rjRes r s).1.S)).setCell (p := ⟨ph, 2, none⟩) HPH.out (.slice Ah (rjRes r s).1.next.length kah)).setCell (p := ⟨ph, 3, none⟩) HPH.out (.slice Bh (rjRes r s).1.fin.length kbh)))
            have HFIN := Lib.hid (show Row ((((V4.setCell ⟨ph, 0, none⟩ (.int .i64 (rjRes r s).1.L)).setCell ⟨ph, 1, none⟩ (.int .i64 (rjRes r s).1.S)).setCell ⟨ph, 2, none⟩ (.slice Ah (rjRes r s).1.next.length kah)).setCell ⟨ph, 3, none⟩ (.slice Bh (rjRes r s).1.fin.length kbh)) ph 40 [.int .i64 (rjRes r s).1.L, .int .i64 (rjRes r s).1.S, .slice Ah (rjRes r s).1.next.length kah, .slice Bh (rjRes r s).1.fin.length kbh] ∧ RdO ((((V4.setCell ⟨ph, 0, none⟩ (.int .i64 (rjRes r s).1.L)).setCell ⟨ph, 1, none⟩ (.int .i64 (rjRes r s).1.S)).setCell ⟨ph, 2, none⟩ (.slice Ah (rjRes r s).1.next.length kah)).setCell ⟨ph, 3, none⟩ (.slice Bh (rjRes r s).1.fin.length kbh)) (.agg #[.int .i64 (rjRes r s).1.L, .int .i64 (rjRes r s).1.S, .slice Ah (rjRes r s).1.next.length kah, .slice Bh (rjRes r s).1.fin.length kbh]) ((rjRes r s).1) from ⟨((((HAL.out.stored 0 (.int .i64 (rjRes r s).1.L)).stored 1 (.int .i64 (rjRes r s).1.S)).stored 2 (.slice Ah (rjRes r s).1.next.length kah)).stored 3 (.slice Bh (rjRes r s).1.fin.length kbh)), ((goodO.other (a := ⟨ph, 3, none⟩) (.slice Bh (rjRes r s).1.fin.length kbh) (goodO.other (a := ⟨ph, 2, none⟩) (.slice Ah (rjRes r s).1.next.length kah) (goodO.other (a := ⟨ph, 1, none⟩) (.int .i64 (rjRes r s).1.S) (goodO.other (a := ⟨ph, 0, none⟩) (.int .i64 (rjRes r s).1.L) HUR.out (fun hm => absurd (HLN.out _ hm) (Nat.lt_irrefl _))) (fun hm => absurd (HLN.out _ hm) (Nat.lt_irrefl _))) (fun hm => absurd (HLN.out _ hm) (Nat.lt_irrefl _))) (fun hm => absurd (HLN.out _ hm) (Nat.lt_irrefl _)))).rd⟩)
            clear BEL
            have BEL := BEL1
            clear BEL1 y0 y1 y2 y3 yf
            clear hHeld
            refine hK.out _ _ (HSC.out _ BEL.out) (fun hHeld => ?_)
            clear hK K
            (try simp only [Act.put, List.setIfInBounds_toArray, List.set_cons_zero, List.set_cons_succ])
            generalize ((((V4.setCell ⟨ph, 0, none⟩ (.int .i64 (rjRes r s).1.L)).setCell ⟨ph, 1, none⟩ (.int .i64 (rjRes r s).1.S)).setCell ⟨ph, 2, none⟩ (.slice Ah (rjRes r s).1.next.length kah)).setCell ⟨ph, 3, none⟩ (.slice Bh (rjRes r s).1.fin.length kbh)) = V5 at *
            refine wpAnyH_take (i := 10) (v := ?_) (by simp only [List.getElem?_toArray, List.getElem?_cons_succ, List.getElem?_cons_zero]; exact rfl) (by kernel_rfl) (by kernel_rfl) (by kernel_rfl) (by intro _ _ _ h; exact h) (Or.inl ⟨by kernel_rfl, ?_⟩) hHeld ?_
            rotate_left
            · intro V hSw
              (try dsimp only at hSw)
              go_simp
              try with_reducible rfl
            (try simp only [Act.put, List.setIfInBounds_toArray, List.set_cons_zero, List.set_cons_succ])
            with_reducible refine wpAnyH_done (by kernel_rfl) ?_ _
            go_wp2_with fail
            go_meet
            exact ⟨ph, Ah, kah, Bh, kbh, rfl, rfl, HFIN.out.1, HFIN.out.2, BEL.out⟩
          refine AllReadyH.cons rfl (fun K hK => ?_) AllReadyH.nil
          rw [if_pos (by rfl)]
          go_simp
          have HAL := Lib.hid (Row.new V2 [.int .i64 0, .int .i64 0, .slice none 0 0, .slice none 0 0] 40)
          have HPH := Lib.hid BEL.out.size
          have BEL1 := Lib.hid (below_step BEL.out (below_alloc V2 (.cells #[.int .i64 0, .int .i64 0, .slice none 0 0, .slice none 0 0] 40)))
          have HY01 := Lib.hid (keepsO _ _ _ _ HY0.out (below_alloc V2 (.cells #[.int .i64 0, .int .i64 0, .slice none 0 0, .slice none 0 0] 40)))
          clear HY0
          have HY0 := HY01
          clear HY01
          have HY11 := Lib.hid (keepsO _ _ _ _ HY1.out (below_alloc V2 (.cells #[.int .i64 0, .int .i64 0, .slice none 0 0, .slice none 0 0] 40)))
          clear HY1
          have HY1 := HY11
          clear HY11
          clear BEL
          have BEL := BEL1
          clear BEL1
          clear hHeld
          refine hK.out _ _ (HSC.out _ BEL.out) (fun hHeld => ?_)
          clear hK K
          (try simp only [Act.put, List.setIfInBounds_toArray, List.set_cons_zero, List.set_cons_succ])
          generalize V2.alloc (.cells #[.int .i64 0, .int .i64 0, .slice none 0 0, .slice none 0 0] 40) = V6 at *
          generalize V2.heap.size = ph at *
          refine wpAnyH_ready (rs := [4]) (by kernel_rfl) (by simp) ?_
          refine AllReadyH.cons rfl (fun K hK => ?_) AllReadyH.nil
          rw [if_pos (by rfl)]
          go_simp
          refine (implRj_own _ _ r s _ HY0.out HY1.out).mono ?_
          rintro e V7 ⟨uw, bw, rfl, huw, hbb⟩
          have BEL1 := Lib.hid (below_step BEL.out hbb)
          have hsh := huw.rd.shape
          obtain ⟨Ah, kah, Bh, kbh, rfl⟩ := hsh
          have HLT := Lib.hid HAL.out.lt
          have HAL1 := Lib.hid (HAL.out.below hbb HAL.out.lt)
          clear HAL
          have HAL := HAL1
          clear HAL1
          have HUW := Lib.hid huw
          clear BEL huw hbb
          have BEL := BEL1
          clear BEL1
          clear hHeld
          refine hK.out _ _ (HSC.out _ BEL.out) (fun hHeld => ?_)
          clear hK K
          (try simp only [Act.put, List.setIfInBounds_toArray, List.set_cons_zero, List.set_cons_succ])
          refine wpAnyH_take (i := 5) (v := ?_) (by simp only [List.getElem?_toArray, List.getElem?_cons_succ, List.getElem?_cons_zero]; exact rfl) (by kernel_rfl) (by kernel_rfl) (by kernel_rfl) (by intro _ _ _ h; exact h) (Or.inl ⟨by kernel_rfl, ?_⟩) hHeld ?_
          rotate_left
          · intro V hSw
            (try dsimp only at hSw)
            go_simp
            try with_reducible rfl
          (try simp only [Act.put, List.setIfInBounds_toArray, List.set_cons_zero, List.set_cons_succ])
          refine wpAnyH_take (i := 6) (v := ?_) (by simp only [List.getElem?_toArray, List.getElem?_cons_succ, List.getElem?_cons_zero]; exact rfl) (by kernel_rfl) (by kernel_rfl) (by kernel_rfl) (by intro _ _ _ h; exact h) (Or.inl ⟨by kernel_rfl, ?_⟩) hHeld ?_
          rotate_left
          · intro V hSw
            (try dsimp only at hSw)
            go_simp
            try with_reducible rfl
          (try simp only [Act.put, List.setIfInBounds_toArray, List.set_cons_zero, List.set_cons_succ])
          refine wpAnyH_take (i := 7) (v := ?_) (by simp only [List.getElem?_toArray, List.getElem?_cons_succ, List.getElem?_cons_zero]; exact rfl) (by kernel_rfl) (by kernel_rfl) (by kernel_rfl) (by intro _ _ _ h; exact h) (Or.inl ⟨by kernel_rfl, ?_⟩) hHeld ?_
          rotate_left
          · intro V hSw
            (try dsimp only at hSw)
            go_simp
            try with_reducible rfl
          (try simp only [Act.put, List.setIfInBounds_toArray, List.set_cons_zero, List.set_cons_succ])
          refine wpAnyH_ready (rs := [9]) (by kernel_rfl) (by simp) ?_
          refine AllReadyH.cons rfl (fun K hK => ?_) AllReadyH.nil
          rw [if_pos (by rfl)]
          obtain ⟨⟨y0, y1, y2, y3⟩, yf⟩ := HAL.out.four
          go_simp
          have BEL1 := Lib.hid (((((BEL.out.setCell (p := ⟨ph, 0, none⟩) HPH.out (.int .i64 (rjRes r s).1.L)).setCell (p := ⟨ph, 1, none⟩) HPH.out (.int .i64 (rjRes r s).1.S)).setCell (p := ⟨ph, 2, none⟩) HPH.out (.slice Ah (rjRes r s).1.next.length kah)).setCell (p := ⟨ph, 3, none⟩) HPH.out (.slice Bh (rjRes r s).1.fin.length kbh)))
          have HFIN := Lib.hid (show Row ((((V7.setCell ⟨ph, 0, none⟩ (.int .i64 (rjRes r s).1.L)).setCell ⟨ph, 1, none⟩ (.int .i64 (rjRes r s).1.S)).setCell ⟨ph, 2, none⟩ (.slice Ah (rjRes r s).1.next.length kah)).setCell ⟨ph, 3, none⟩ (.slice Bh (rjRes r s).1.fin.length kbh)) ph 40 [.int .i64 (rjRes r s).1.L, .int .i64 (rjRes r s).1.S, .slice Ah (rjRes r s).1.next.length kah, .slice Bh (rjRes r s).1.fin.length kbh] ∧ RdO ((((V7.setCell ⟨ph, 0, none⟩ (.int .i64 (rjRes r s).1.L)).setCell ⟨ph, 1, none⟩ (.int .i64 (rjRes r s).1.S)).setCell ⟨ph, 2, none⟩ (.slice Ah (rjRes r s).1.next.length kah)).setCell ⟨ph, 3, none⟩ (.slice Bh (rjRes r s).1.fin.length kbh)) (.agg #[.int .i64 (rjRes r s).1.L, .int .i64 (rjRes r s).1.S, .slice Ah (rjRes r s).1.next.length kah, .slice Bh (rjRes r s).1.fin.length kbh]) ((rjRes r s).1) from ⟨((((HAL.out.stored 0 (.int .i64 (rjRes r s).1.L)).stored 1 (.int .i64 (rjRes r s).1.S)).stored 2 (.slice Ah (rjRes r s).1.next.length kah)).stored 3 (.slice Bh (rjRes r s).1.fin.length kbh)), ((goodO.under (a := ⟨ph, 3, none⟩) (goodO.under (a := ⟨ph, 2, none⟩) (goodO.under (a := ⟨ph, 1, none⟩) (goodO.under (a := ⟨ph, 0, none⟩) HUW.out HLT.out (.int .i64 (rjRes r s).1.L)) HLT.out (.int .i64 (rjRes r s).1.S)) HLT.out (.slice Ah (rjRes r s).1.next.length kah)) HLT.out (.slice Bh (rjRes r s).1.fin.length kbh))).rd⟩)
          clear BEL
          have BEL := BEL1
          clear BEL1 y0 y1 y2 y3 yf
          clear hHeld
          refine hK.out _ _ (HSC.out _ BEL.out) (fun hHeld => ?_)
          clear hK K
          (try simp only [Act.put, List.setIfInBounds_toArray, List.set_cons_zero, List.set_cons_succ])
          generalize ((((V7.setCell ⟨ph, 0, none⟩ (.int .i64 (rjRes r s).1.L)).setCell ⟨ph, 1, none⟩ (.int .i64 (rjRes r s).1.S)).setCell ⟨ph, 2, none⟩ (.slice Ah (rjRes r s).1.next.length kah)).setCell ⟨ph, 3, none⟩ (.slice Bh (rjRes r s).1.fin.length kbh)) = V8 at *
          refine wpAnyH_take (i := 10) (v := ?_) (by simp only [List.getElem?_toArray, List.getElem?_cons_succ, List.getElem?_cons_zero]; exact rfl) (by kernel_rfl) (by kernel_rfl) (by kernel_rfl) (by intro _ _ _ h; exact h) (Or.inl ⟨by kernel_rfl, ?_⟩) hHeld ?_
          rotate_left
          · intro V hSw
            (try dsimp only at hSw)
            go_simp
            try with_reducible rfl
          (try simp only [Act.put, List.setIfInBounds_toArray, List.set_cons_zero, List.set_cons_succ])
          with_reducible refine wpAnyH_done (by kernel_rfl) ?_ _
          go_wp2_with fail
          go_meet
          exact ⟨ph, Ah, kah, Bh, kbh, rfl, rfl, HFIN.out.1, HFIN.out.2, BEL.out⟩
        refine AllReadyH.cons rfl (fun K hK => ?_) AllReadyH.nil
        rw [if_pos (by rfl)]
        go_simp
        have HAL := Lib.hid (Row.new V1 [.int .i64 0, .int .i64 0, .slice none 0 0, .slice none 0 0] 40)
        have HPH := Lib.hid BEL.out.size
        have BEL1 := Lib.hid (below_step BEL.out (below_alloc V1 (.cells #[.int .i64 0, .int .i64 0, .slice none 0 0, .slice none 0 0] 40)))
        have HY01 := Lib.hid (keepsO _ _ _ _ HY0.out (below_alloc V1 (.cells #[.int .i64 0, .int .i64 0, .slice none 0 0, .slice none 0 0] 40)))
        clear HY0
        have HY0 := HY01
        clear HY01
        clear BEL
        have BEL := BEL1
        clear BEL1
        clear hHeld
        refine hK.out _ _ (HSC.out _ BEL.out) (fun hHeld => ?_)
        clear hK K
        (try simp only [Act.put, List.setIfInBounds_toArray, List.set_cons_zero, List.set_cons_succ])
        generalize V1.alloc (.cells #[.int .i64 0, .int .i64 0, .slice none 0 0, .slice none 0 0] 40) = V9 at *
        generalize V1.heap.size = ph at *
        refine wpAnyH_ready (rs := [3]) (by kernel_rfl) (by simp) ?_
        refine AllReadyH.cons rfl (fun K hK => ?_) AllReadyH.nil
        rw [if_pos (by rfl)]
        go_simp
        refine (toO_own _ s _ (HK1.out _ (below_step HB_14.out BEL.out)) HS1.out).mono ?_
        rintro e V10 ⟨x1, bx1, rfl, hxx, hbb⟩
        have BEL1 := Lib.hid (below_step BEL.out hbb)
        have HY01 := Lib.hid (keepsO _ _ _ _ HY0.out hbb)
        clear HY0
        have HY0 := HY01
        clear HY01
        have HY1 := Lib.hid hxx.rd
        have HAL1 := Lib.hid (HAL.out.below hbb HAL.out.lt)
        clear HAL
        have HAL := HAL1
        clear HAL1
        clear BEL hxx hbb
        have BEL := BEL1
        clear BEL1
        clear hHeld
        refine hK.out _ _ (HSC.out _ BEL.out) (fun hHeld => ?_)
        clear hK K
        (try simp only [Act.put, List.setIfInBounds_toArray, List.set_cons_zero, List.set_cons_succ])
        refine wpAnyH_ready (rs := [4]) (by kernel_rfl) (by simp) ?_
        refine AllReadyH.cons rfl (fun K hK => ?_) AllReadyH.nil
        rw [if_pos (by rfl)]
        go_simp
        refine (implRj_own _ _ r s _ HY0.out HY1.out).mono ?_
        rintro e V11 ⟨uw, bw, rfl, huw, hbb⟩
        have BEL1 := Lib.hid (below_step BEL.out hbb)
        have hsh := huw.rd.shape
        obtain ⟨Ah, kah, Bh, kbh, rfl⟩ := hsh
        have HLT := Lib.hid HAL.out.lt
        have HAL1 := Lib.hid (HAL.out.below hbb HAL.out.lt)
        clear HAL
        have HAL := HAL1
        clear HAL1
        have HUW := Lib.hid huw
        clear BEL huw hbb
        have BEL := BEL1
        clear BEL1
        clear hHeld
        refine hK.out _ _ (HSC.out _ BEL.out) (fun hHeld => ?_)
        clear hK K
        (try simp only [Act.put, List.setIfInBounds_toArray, List.set_cons_zero, List.set_cons_succ])
        refine wpAnyH_take (i := 5) (v := ?_) (by simp only [List.getElem?_toArray, List.getElem?_cons_succ, List.getElem?_cons_zero]; exact rfl) (by kernel_rfl) (by kernel_rfl) (by kernel_rfl) (by intro _ _ _ h; exact h) (Or.inl ⟨by kernel_rfl, ?_⟩) hHeld ?_
        rotate_left
        · intro V hSw
          (try dsimp only at hSw)
          go_simp
          try with_reducible rfl
        (try simp only [Act.put, List.setIfInBounds_toArray, List.set_cons_zero, List.set_cons_succ])
        refine wpAnyH_take (i := 6) (v := ?_) (by simp only [List.getElem?_toArray, List.getElem?_cons_succ, List.getElem?_cons_zero]; exact rfl) (by kernel_rfl) (by kernel_rfl) (by kernel_rfl) (by intro _ _ _ h; exact h) (Or.inl ⟨by kernel_rfl, ?_⟩) hHeld ?_
        rotate_left
        · intro V hSw
          (try dsimp only at hSw)
          go_simp
          try with_reducible rfl
        (try simp only [Act.put, List.setIfInBounds_toArray, List.set_cons_zero, List.set_cons_succ])
        refine wpAnyH_take (i := 7) (v := ?_) (by simp only [List.getElem?_toArray, List.getElem?_cons_succ, List.getElem?_cons_zero]; exact rfl) (by kernel_rfl) (by kernel_rfl) (by kernel_rfl) (by intro _ _ _ h; exact h) (Or.inl ⟨by kernel_rfl, ?_⟩) hHeld ?_
        rotate_left
        · intro V hSw
          (try dsimp only at hSw)
          go_simp
          try with_reducible rfl
        (try simp only [Act.put, List.setIfInBounds_toArray, List.set_cons_zero, List.set_cons_succ])
        refine wpAnyH_ready (rs := [9]) (by kernel_rfl) (by simp) ?_
        refine AllReadyH.cons rfl (fun K hK => ?_) AllReadyH.nil
        rw [if_pos (by rfl)]
        obtain ⟨⟨y0, y1, y2, y3⟩, yf⟩ := HAL.out.four
        go_simp
        have BEL1 := Lib.hid (((((BEL.out.setCell (p := ⟨ph, 0, none⟩) HPH.out (.int .i64 (rjRes r s).1.L)).setCell (p := ⟨ph, 1, none⟩) HPH.out (.int .i64 (rjRes r s).1.S)).setCell (p := ⟨ph, 2, none⟩) HPH.out (.slice Ah (rjRes r s).1.next.length kah)).setCell (p := ⟨ph, 3, none⟩) HPH.out (.slice Bh (rjRes r s).1.fin.length kbh)))
        have HFIN := Lib.hid (show Row ((((V11.setCell ⟨ph, 0, none⟩ (.int .i64 (rjRes r s).1.L)).setCell ⟨ph, 1, none⟩ (.int .i64 (rjRes r s).1.S)).setCell ⟨ph, 2, none⟩ (.slice Ah (rjRes r s).1.next.length kah)).setCell ⟨ph, 3, none⟩ (.slice Bh (rjRes r s).1.fin.length kbh)) ph 40 [.int .i64 (rjRes r s).1.L, .int .i64 (rjRes r s).1.S, .slice Ah (rjRes r s).1.next.length kah, .slice Bh (rjRes r s).1.fin.length kbh] ∧ RdO ((((V11.setCell ⟨ph, 0, none⟩ (.int .i64 (rjRes r s).1.L)).setCell ⟨ph, 1, none⟩ (.int .i64 (rjRes r s).1.S)).setCell ⟨ph, 2, none⟩ (.slice Ah (rjRes r s).1.next.length kah)).setCell ⟨ph, 3, none⟩ (.slice Bh (rjRes r s).1.fin.length kbh)) (.agg #[.int .i64 (rjRes r s).1.L, .int .i64 (rjRes r s).1.S, .slice Ah (rjRes r s).1.next.length kah, .slice Bh (rjRes r s).1.fin.length kbh]) ((rjRes r s).1) from ⟨((((HAL.out.stored 0 (.int .i64 (rjRes r s).1.L)).stored 1 (.int .i64 (rjRes r s).1.S)).stored 2 (.slice Ah (rjRes r s).1.next.length kah)).stored 3 (.slice Bh (rjRes r s).1.fin.length kbh)), ((goodO.under (a := ⟨ph, 3, none⟩) (goodO.under (a := ⟨ph, 2, none⟩) (goodO.under (a := ⟨ph, 1, none⟩) (goodO.under (a := ⟨ph, 0, none⟩) HUW.out HLT.out (.int .i64 (rjRes r s).1.L)) HLT.out (.int .i64 (rjRes r s).1.S)) HLT.out (.slice Ah (rjRes r s).1.next.length kah)) HLT.out (.slice Bh (rjRes r s).1.fin.length kbh))).rd⟩)
        clear BEL
        have BEL := BEL1
        clear BEL1 y0 y1 y2 y3 yf
        clear hHeld
        refine hK.out _ _ (HSC.out _ BEL.out) (fun hHeld => ?_)
        clear hK K
        (try simp only [Act.put, List.setIfInBounds_toArray, List.set_cons_zero, List.set_cons_succ])
        generalize ((((V11.setCell ⟨ph, 0, none⟩ (.int .i64 (rjRes r s).1.L)).setCell ⟨ph, 1, none⟩ (.int .i64 (rjRes r s).1.S)).setCell ⟨ph, 2, none⟩ (.slice Ah (rjRes r s).1.next.length kah)).setCell ⟨ph, 3, none⟩ (.slice Bh (rjRes r s).1.fin.length kbh)) = V12 at *
        refine wpAnyH_take (i := 10) (v := ?_) (by simp only [List.getElem?_toArray, List.getElem?_cons_succ, List.getElem?_cons_zero]; exact rfl) (by kernel_rfl) (by kernel_rfl) (by kernel_rfl) (by intro _ _ _ h; exact h) (Or.inl ⟨by kernel_rfl, ?_⟩) hHeld ?_
        rotate_left
        · intro V hSw
          (try dsimp only at hSw)
          go_simp
          try with_reducible rfl
        (try simp only [Act.put, List.setIfInBounds_toArray, List.set_cons_zero, List.set_cons_succ])
        with_reducible refine wpAnyH_done (by kernel_rfl) ?_ _
        go_wp2_with fail
        go_meet
        exact ⟨ph, Ah, kah, Bh, kbh, rfl, rfl, HFIN.out.1, HFIN.out.2, BEL.out⟩
      refine AllReadyH.cons rfl (fun K hK => ?_) AllReadyH.nil
      rw [if_pos (by rfl)]
      go_simp
      have HAL := Lib.hid (Row.new V0 [.int .i64 0, .int .i64 0, .slice none 0 0, .slice none 0 0] 40)
      have HPH := Lib.hid BEL.out.size
      have BEL1 := Lib.hid (below_step BEL.out (below_alloc V0 (.cells #[.int .i64 0, .int .i64 0, .slice none 0 0, .slice none 0 0] 40)))
      clear BEL
      have BEL := BEL1
      clear BEL1
      clear hHeld
      refine hK.out _ _ (HSC.out _ BEL.out) (fun hHeld => ?_)
      clear hK K
      (try simp only [Act.put, List.setIfInBounds_toArray, List.set_cons_zero, List.set_cons_succ])
      generalize V0.alloc (.cells #[.int .i64 0, .int .i64 0, .slice none 0 0, .slice none 0 0] 40) = V13 at *
      generalize V0.heap.size = ph at *
      refine wpAnyH_ready (rs := [1]) (by kernel_rfl) (by simp) ?_
      refine AllReadyH.cons rfl (fun K hK => ?_) AllReadyH.nil
      rw [if_pos (by rfl)]
      go_simp
      refine (toO_own _ r _ (HK0.out _ (below_step HB_14.out BEL.out)) HS0.out).mono ?_
      rintro e V14 ⟨x0, bx0, rfl, hxx, hbb⟩
      have BEL1 := Lib.hid (below_step BEL.out hbb)
      have HY0 := Lib.hid hxx.rd
      have HAL1 := Lib.hid (HAL.out.below hbb HAL.out.lt)
      clear HAL
      have HAL := HAL1
      clear HAL1
      clear BEL hxx hbb
      have BEL := BEL1
      clear BEL1
      clear hHeld
      refine hK.out _ _ (HSC.out _ BEL.out) (fun hHeld => ?_)
      clear hK K
      (try simp only [Act.put, List.setIfInBounds_toArray, List.set_cons_zero, List.set_cons_succ])
      refine wpAnyH_ready (rs := [3]) (by kernel_rfl) (by simp) ?_
      refine AllReadyH.cons rfl (fun K hK => ?_) AllReadyH.nil
      rw [if_pos (by rfl)]
      go_simp
      refine (toO_own _ s _ (HK1.out _ (below_step HB_14.out BEL.out)) HS1.out).mono ?_
      rintro e V15 ⟨x1, bx1, rfl, hxx, hbb⟩
      have BEL1 := Lib.hid (below_step BEL.out hbb)
      have HY01 := Lib.hid (keepsO _ _ _ _ HY0.out hbb)
      clear HY0
      have HY0 := HY01
      clear HY01
      have HY1 := Lib.hid hxx.rd
      have HAL1 := Lib.hid (HAL.out.below hbb HAL.out.lt)
      clear HAL
      have HAL := HAL1
      clear HAL1
      clear BEL hxx hbb
      have BEL := BEL1
      clear BEL1
      clear hHeld
      refine hK.out _ _ (HSC.out _ BEL.out) (fun hHeld => ?_)
      clear hK K
      (try simp only [Act.put, List.setIfInBounds_toArray, List.set_cons_zero, List.set_cons_succ])
      refine wpAnyH_ready (rs := [4]) (by kernel_rfl) (by simp) ?_
      refine AllReadyH.cons rfl (fun K hK => ?_) AllReadyH.nil
      rw [if_pos (by rfl)]
      go_simp
      refine (implRj_own _ _ r s _ HY0.out HY1.out).mono ?_
      rintro e V16 ⟨uw, bw, rfl, huw, hbb⟩
      have BEL1 := Lib.hid (below_step BEL.out hbb)
      have hsh := huw.rd.shape
      obtain ⟨Ah, kah, Bh, kbh, rfl⟩ := hsh
      have HLT := Lib.hid HAL.out.lt
      have HAL1 := Lib.hid (HAL.out.below hbb HAL.out.lt)
      clear HAL
      have HAL := HAL1
      clear HAL1
      have HUW := Lib.hid huw
      clear BEL huw hbb
      have BEL := BEL1
      clear BEL1
      clear hHeld
      refine hK.out _ _ (HSC.out _ BEL.out) (fun hHeld => ?_)
      clear hK K
      (try simp only [Act.put, List.setIfInBounds_toArray, List.set_cons_zero, List.set_cons_succ])
      refine wpAnyH_take (i := 5) (v := ?_) (by simp only [List.getElem?_toArray, List.getElem?_cons_succ, List.getElem?_cons_zero]; exact rfl) (by kernel_rfl) (by kernel_rfl) (by kernel_rfl) (by intro _ _ _ h; exact h) (Or.inl ⟨by kernel_rfl, ?_⟩) hHeld ?_
      rotate_left
      · intro V hSw
        (try dsimp only at hSw)
        go_simp
        try with_reducible rfl
      (try simp only [Act.put, List.setIfInBounds_toArray, List.set_cons_zero, List.set_cons_succ])
      refine wpAnyH_take (i := 6) (v := ?_) (by simp only [List.getElem?_toArray, List.getElem?_cons_succ, List.getElem?_cons_zero]; exact rfl) (by kernel_rfl) (by kernel_rfl) (by kernel_rfl) (by intro _ _ _ h; exact h) (Or.inl ⟨by kernel_rfl, ?_⟩) hHeld ?_
      rotate_left
      · intro V hSw
        (try dsimp only at hSw)
        go_simp
        try with_reducible rfl
      (try simp only [Act.put, List.setIfInBounds_toArray, List.set_cons_zero, List.set_cons_succ])
      refine wpAnyH_take (i := 7) (v := ?_) (by simp only [List.getElem?_toArray, List.getElem?_cons_succ, List.getElem?_cons_zero]; exact rfl) (by kernel_rfl) (by kernel_rfl) (by kernel_rfl) (by intro _ _ _ h; exact h) (Or.inl ⟨by kernel_rfl, ?_⟩) hHeld ?_
      rotate_left
      · intro V hSw
        (try dsimp only at hSw)
        go_simp
        try with_reducible rfl
      (try simp only [Act.put, List.setIfInBounds_toArray, List.set_cons_zero, List.set_cons_succ])
      refine wpAnyH_ready (rs := [9]) (by kernel_rfl) (by simp) ?_
      refine AllReadyH.cons rfl (fun K hK => ?_) AllReadyH.nil
      rw [if_pos (by rfl)]
      obtain ⟨⟨y0, y1, y2, y3⟩, yf⟩ := HAL.out.four
      go_simp
      have BEL1 := Lib.hid (((((BEL.out.setCell (p := ⟨ph, 0, none⟩) HPH.out (.int .i64 (rjRes r s).1.L)).setCell (p := ⟨ph, 1, none⟩) HPH.out (.int .i64 (rjRes r s).1.S)).setCell (p := ⟨ph, 2, none⟩) HPH.out (.slice Ah (rjRes r s).1.next.length kah)).setCell (p := ⟨ph, 3, none⟩) HPH.out (.slice Bh (rjRes r s).1.fin.length kbh)))
      have HFIN := Lib.hid (show Row ((((V16.setCell ⟨ph, 0, none⟩ (.int .i64 (rjRes r s).1.L)).setCell ⟨ph, 1, none⟩ (.int .i64 (rjRes r s).1.S)).setCell ⟨ph, 2, none⟩ (.slice Ah (rjRes r s).1.next.length kah)).setCell ⟨ph, 3, none⟩ (.slice Bh (rjRes r s).1.fin.length kbh)) ph 40 [.int .i64 (rjRes r s).1.L, .int .i64 (rjRes r s).1.S, .slice Ah (rjRes r s).1.next.length kah, .slice Bh (rjRes r s).1.fin.length kbh] ∧ RdO ((((V16.setCell ⟨ph, 0, none⟩ (.int .i64 (rjRes r s).1.L)).setCell ⟨ph, 1, none⟩ (.int .i64 (rjRes r s).1.S)).setCell ⟨ph, 2, none⟩ (.slice Ah (rjRes r s).1.next.length kah)).setCell ⟨ph, 3, none⟩ (.slice Bh (rjRes r s).1.fin.length kbh)) (.agg #[.int .i64 (rjRes r s).1.L, .int .i64 (rjRes r s).1.S, .slice Ah (rjRes r s).1.next.length kah, .slice Bh (rjRes r s).1.fin.length kbh]) ((rjRes r s).1) from ⟨((((HAL.out.stored 0 (.int .i64 (rjRes r s).1.L)).stored 1 (.int .i64 (rjRes r s).1.S)).stored 2 (.slice Ah (rjRes r s).1.next.length kah)).stored 3 (.slice Bh (rjRes r s).1.fin.length kbh)), ((goodO.under (a := ⟨ph, 3, none⟩) (goodO.under (a := ⟨ph, 2, none⟩) (goodO.under (a := ⟨ph, 1, none⟩) (goodO.under (a := ⟨ph, 0, none⟩) HUW.out HLT.out (.int .i64 (rjRes r s).1.L)) HLT.out (.int .i64 (rjRes r s).1.S)) HLT.out (.slice Ah (rjRes r s).1.next.length kah)) HLT.out (.slice Bh (rjRes r s).1.fin.length kbh))).rd⟩)
      clear BEL
      have BEL := BEL1
      clear BEL1 y0 y1 y2 y3 yf
      clear hHeld
      refine hK.out _ _ (HSC.out _ BEL.out) (fun hHeld => ?_)
      clear hK K
      (try simp only [Act.put, List.setIfInBounds_toArray, List.set_cons_zero, List.set_cons_succ])
      generalize ((((V16.setCell ⟨ph, 0, none⟩ (.int .i64 (rjRes r s).1.L)).setCell ⟨ph, 1, none⟩ (.int .i64 (rjRes r s).1.S)).setCell ⟨ph, 2, none⟩ (.slice Ah (rjRes r s).1.next.length kah)).setCell ⟨ph, 3, none⟩ (.slice Bh (rjRes r s).1.fin.length kbh)) = V17 at *
      refine wpAnyH_take (i := 10) (v := ?_) (by simp only [List.getElem?_toArray, List.getElem?_cons_succ, List.getElem?_cons_zero]; exact rfl) (by kernel_rfl) (by kernel_rfl) (by kernel_rfl) (by intro _ _ _ h; exact h) (Or.inl ⟨by kernel_rfl, ?_⟩) hHeld ?_
      rotate_left
      · intro V hSw
        (try dsimp only at hSw)
        go_simp
        try with_reducible rfl
      (try simp only [Act.put, List.setIfInBounds_toArray, List.set_cons_zero, List.set_cons_succ])
      with_reducible refine wpAnyH_done (by kernel_rfl) ?_ _
      go_wp2_with fail
      go_meet
      exact ⟨ph, Ah, kah, Bh, kbh, rfl, rfl, HFIN.out.1, HFIN.out.2, BEL.out⟩
    case rest =>
      obtain ⟨phh, Ah, kah, Bh, kbh, rfl, rfl, hrw, hrd0, hb⟩ := hcut
      obtain ⟨w15, hwn⟩ : ∃ x, x = wc := ⟨wc, rfl⟩
      subst hwn
      clear HSC
      have HH := Lib.hid hrd0
      clear hrd0
      have hx0 := (HR14.out.1).below hb (HR14.out.1).lt
      have hx1 := (HR14.out.2.1).below hb (HR14.out.2.1).lt
      have hx2 := (HR14.out.2.2.1).below hb (HR14.out.2.2.1).lt
      have hx3 := (HR14.out.2.2.2.1).below hb (HR14.out.2.2.2.1).lt
      have hx4 := (HR14.out.2.2.2.2.1).below hb (HR14.out.2.2.2.2.1).lt
      have hx5 := (HR14.out.2.2.2.2.2).below hb (HR14.out.2.2.2.2.2).lt
      have hx6 := hrw
      have HZ15 := Lib.hid hb.size
      have HPB15 := Lib.hid hrw.lt
      have HB_15 := Lib.hid (below_step HB_14.out hb)
      clear HB_14
      have AW_15 := Lib.hid (below_step AW_14.out hb)
      clear AW_14
      have HM_15 := Lib.hid (below_step HM_14.out hb)
      clear HM_14
      clear HR14
      have HR15 := Lib.hid (show _ ∧ _ ∧ _ ∧ _ ∧ _ ∧ _ ∧ _ from ⟨hx0, hx1, hx2, hx3, hx4, hx5, hx6⟩)
      clear hb hx0 hx1 hx2 hx3 hx4 hx5 hx6 hrw
      clear q14_0_0 q14_0_1 q14_0_2 q14_0_3 lt14_0 q14_1_0 q14_1_1 q14_1_2 q14_1_3 lt14_1 q14_2_0 q14_2_1 q14_2_2 q14_2_3 lt14_2 q14_3_0 q14_3_1 q14_3_2 q14_3_3 lt14_3 q14_4_0 q14_4_1 q14_4_2 q14_4_3 lt14_4 q14_5_0 q14_5_1 q14_5_2 q14_5_3 lt14_5
      obtain ⟨⟨q15_0_0, q15_0_1, q15_0_2, q15_0_3⟩, -⟩ := (HR15.out.1).four
      have lt15_0 := (HR15.out.1).lt
      obtain ⟨⟨q15_1_0, q15_1_1, q15_1_2, q15_1_3⟩, -⟩ := (HR15.out.2.1).four
      have lt15_1 := (HR15.out.2.1).lt
      obtain ⟨⟨q15_2_0, q15_2_1, q15_2_2, q15_2_3⟩, -⟩ := (HR15.out.2.2.1).four
      have lt15_2 := (HR15.out.2.2.1).lt
      obtain ⟨⟨q15_3_0, q15_3_1, q15_3_2, q15_3_3⟩, -⟩ := (HR15.out.2.2.2.1).four
      have lt15_3 := (HR15.out.2.2.2.1).lt
      obtain ⟨⟨q15_4_0, q15_4_1, q15_4_2, q15_4_3⟩, -⟩ := (HR15.out.2.2.2.2.1).four
      have lt15_4 := (HR15.out.2.2.2.2.1).lt
      obtain ⟨⟨q15_5_0, q15_5_1, q15_5_2, q15_5_3⟩, -⟩ := (HR15.out.2.2.2.2.2.1).four
      have lt15_5 := (HR15.out.2.2.2.2.2.1).lt
      obtain ⟨⟨q15_6_0, q15_6_1, q15_6_2, q15_6_3⟩, -⟩ := (HR15.out.2.2.2.2.2.2).four
      have lt15_6 := (HR15.out.2.2.2.2.2.2).lt
      go_wp2_with fail
      refine (eqO_same _ _ (rjRes r s).1 _ HH.out (keepsO _ _ _ _ HRW.out AW_15.out)).mono ?_
      rintro e w16 ⟨rfl, hb⟩
      have hx0 := (HR15.out.1).below hb (HR15.out.1).lt
      have hx1 := (HR15.out.2.1).below hb (HR15.out.2.1).lt
      have hx2 := (HR15.out.2.2.1).below hb (HR15.out.2.2.1).lt
      have hx3 := (HR15.out.2.2.2.1).below hb (HR15.out.2.2.2.1).lt
      have hx4 := (HR15.out.2.2.2.2.1).below hb (HR15.out.2.2.2.2.1).lt
      have hx5 := (HR15.out.2.2.2.2.2.1).below hb (HR15.out.2.2.2.2.2.1).lt
      have hx6 := (HR15.out.2.2.2.2.2.2).below hb (HR15.out.2.2.2.2.2.2).lt
      have HZ16 := Lib.hid hb.size
      have HB_16 := Lib.hid (below_step HB_15.out hb)
      clear HB_15
      have AW_16 := Lib.hid (below_step AW_15.out hb)
      clear AW_15
      have HM_16 := Lib.hid (below_step HM_15.out hb)
      clear HM_15
      clear HR15
      have HR16 := Lib.hid (show _ ∧ _ ∧ _ ∧ _ ∧ _ ∧ _ ∧ _ from ⟨hx0, hx1, hx2, hx3, hx4, hx5, hx6⟩)
      clear hb hx0 hx1 hx2 hx3 hx4 hx5 hx6
      clear q15_0_0 q15_0_1 q15_0_2 q15_0_3 lt15_0 q15_1_0 q15_1_1 q15_1_2 q15_1_3 lt15_1 q15_2_0 q15_2_1 q15_2_2 q15_2_3 lt15_2 q15_3_0 q15_3_1 q15_3_2 q15_3_3 lt15_3 q15_4_0 q15_4_1 q15_4_2 q15_4_3 lt15_4 q15_5_0 q15_5_1 q15_5_2 q15_5_3 lt15_5 q15_6_0 q15_6_1 q15_6_2 q15_6_3 lt15_6
      obtain ⟨⟨q16_0_0, q16_0_1, q16_0_2, q16_0_3⟩, -⟩ := (HR16.out.1).four
      have lt16_0 := (HR16.out.1).lt
      obtain ⟨⟨q16_1_0, q16_1_1, q16_1_2, q16_1_3⟩, -⟩ := (HR16.out.2.1).four
      have lt16_1 := (HR16.out.2.1).lt
      obtain ⟨⟨q16_2_0, q16_2_1, q16_2_2, q16_2_3⟩, -⟩ := (HR16.out.2.2.1).four
      have lt16_2 := (HR16.out.2.2.1).lt
      obtain ⟨⟨q16_3_0, q16_3_1, q16_3_2, q16_3_3⟩, -⟩ := (HR16.out.2.2.2.1).four
      have lt16_3 := (HR16.out.2.2.2.1).lt
      obtain ⟨⟨q16_4_0, q16_4_1, q16_4_2, q16_4_3⟩, -⟩ := (HR16.out.2.2.2.2.1).four
      have lt16_4 := (HR16.out.2.2.2.2.1).lt
      obtain ⟨⟨q16_5_0, q16_5_1, q16_5_2, q16_5_3⟩, -⟩ := (HR16.out.2.2.2.2.2.1).four
      have lt16_5 := (HR16.out.2.2.2.2.2.1).lt
      obtain ⟨⟨q16_6_0, q16_6_1, q16_6_2, q16_6_3⟩, -⟩ := (HR16.out.2.2.2.2.2.2).four
      have lt16_6 := (HR16.out.2.2.2.2.2.2).lt
      go_wp2_with fail
      refine (heldO_any _ ((rjRes r s).1) 1 _ (keepsO _ _ _ _ HM.out.rd HM_16.out) (by omega) (by have a := HN.out; omega)).mono ?_
      rintro e w17 ⟨rfl, hb⟩
      have hx0 := (HR16.out.1).below hb (HR16.out.1).lt
      have hx1 := (HR16.out.2.1).below hb (HR16.out.2.1).lt
      have hx2 := (HR16.out.2.2.1).below hb (HR16.out.2.2.1).lt
      have hx3 := (HR16.out.2.2.2.1).below hb (HR16.out.2.2.2.1).lt
      have hx4 := (HR16.out.2.2.2.2.1).below hb (HR16.out.2.2.2.2.1).lt
      have hx5 := (HR16.out.2.2.2.2.2.1).below hb (HR16.out.2.2.2.2.2.1).lt
      have hx6 := (HR16.out.2.2.2.2.2.2).below hb (HR16.out.2.2.2.2.2.2).lt
      have HZ17 := Lib.hid hb.size
      have HB_17 := Lib.hid (below_step HB_16.out hb)
      clear HB_16
      have AW_17 := Lib.hid (below_step AW_16.out hb)
      clear AW_16
      have HM_17 := Lib.hid (below_step HM_16.out hb)
      clear HM_16
      clear HR16
      have HR17 := Lib.hid (show _ ∧ _ ∧ _ ∧ _ ∧ _ ∧ _ ∧ _ from ⟨hx0, hx1, hx2, hx3, hx4, hx5, hx6⟩)
      clear hb hx0 hx1 hx2 hx3 hx4 hx5 hx6
      clear q16_0_0 q16_0_1 q16_0_2 q16_0_3 lt16_0 q16_1_0 q16_1_1 q16_1_2 q16_1_3 lt16_1 q16_2_0 q16_2_1 q16_2_2 q16_2_3 lt16_2 q16_3_0 q16_3_1 q16_3_2 q16_3_3 lt16_3 q16_4_0 q16_4_1 q16_4_2 q16_4_3 lt16_4 q16_5_0 q16_5_1 q16_5_2 q16_5_3 lt16_5 q16_6_0 q16_6_1 q16_6_2 q16_6_3 lt16_6
      obtain ⟨⟨q17_0_0, q17_0_1, q17_0_2, q17_0_3⟩, -⟩ := (HR17.out.1).four
      have lt17_0 := (HR17.out.1).lt
      obtain ⟨⟨q17_1_0, q17_1_1, q17_1_2, q17_1_3⟩, -⟩ := (HR17.out.2.1).four
      have lt17_1 := (HR17.out.2.1).lt
      obtain ⟨⟨q17_2_0, q17_2_1, q17_2_2, q17_2_3⟩, -⟩ := (HR17.out.2.2.1).four
      have lt17_2 := (HR17.out.2.2.1).lt
      obtain ⟨⟨q17_3_0, q17_3_1, q17_3_2, q17_3_3⟩, -⟩ := (HR17.out.2.2.2.1).four
      have lt17_3 := (HR17.out.2.2.2.1).lt
      obtain ⟨⟨q17_4_0, q17_4_1, q17_4_2, q17_4_3⟩, -⟩ := (HR17.out.2.2.2.2.1).four
      have lt17_4 := (HR17.out.2.2.2.2.1).lt
      obtain ⟨⟨q17_5_0, q17_5_1, q17_5_2, q17_5_3⟩, -⟩ := (HR17.out.2.2.2.2.2.1).four
      have lt17_5 := (HR17.out.2.2.2.2.2.1).lt
      obtain ⟨⟨q17_6_0, q17_6_1, q17_6_2, q17_6_3⟩, -⟩ := (HR17.out.2.2.2.2.2.2).four
      have lt17_6 := (HR17.out.2.2.2.2.2.2).lt
      go_wp2
      go_ret
      exact ⟨rfl, HB_17.out⟩

theorem own : ownKnob Try.prog.godebug = none := by kernel_rfl
theorem laidOut : laidOutB Try.prog = true := by kernel_rfl

set_option maxRecDepth 100000 in
theorem lifted (os : Os) (started : os.Started) (H : Type) (enc : TypeId × Value → H) :
    ReturnsInHanded {} Try.checked os 4 .any (Rows.fnExactThenRotatorSpec.pre6 enc Try.prog Try.f4 Rows.fnExactThenRotatorRow.domain false) (Rows.fnExactThenRotatorSpec.post enc Try.prog Try.f4 false true false false) := by
  refine returnsInHanded_of_change_sized (C := Try.checked) own started (by kernel_rfl) Try.func4
    (ChangeSpec.witness6 (enc := enc) (C := Try.checked) false ⟨#[], #[.agg #[.int .i64 0, .int .i64 0, .slice none 0 0, .slice none 0 0], .agg #[.int .i64 0, .int .i64 0, .slice none 0 0, .slice none 0 0]], []⟩ 8 (by kernel_rfl) (by kernel_rfl) (by kernel_rfl) (by kernel_rfl)) ?_
  intro W base args ds gs before hval0 hW _ hsz0 _
  have hsz : (DataW.weightsEach Try.prog (Try.f4.params.toList ++ Rows.fnExactThenRotatorSpec.plain.varTypes Try.prog) (ds ++ gs)).all (· ≤ reachBytes) = true := hsz0
  clear hsz0
  have hval : ∀ (j : Nat) t v, Try.f4.params[j]? = some t → args[j]? = some v → Value.okWide Try.prog W .any base t v := hval0
  have hW' := hW
  obtain ⟨p, q, hA0, hV, rfl, hfz, hnd⟩ := hW
  have hA : DataW.TrodAll enc Try.prog W 0 (fun _ => true) true Try.f4.params.toList args.toList ds p := hA0
  have hK := fun W' hb => args_kept (W' := W') laidOut (by decide +kernel) hA hb
  rw [Try.params4] at hA hval hsz
  obtain ⟨v0, vs0, d0, ds0, p0, q0, hargs, rfl, rfl, h0, r0⟩ := trodAll_cons hA
  obtain ⟨v1, vs1, d1, ds1, p1, q1, rfl, rfl, rfl, h1, r1⟩ := trodAll_cons r0
  obtain ⟨rfl, rfl, rfl⟩ := trodAll_nil r1
  obtain rfl : args = #[v0, v1] := by cases args; simp_all
  obtain ⟨rfl, rfl⟩ := trodVars_none hV
  obtain ⟨r, hr0, hs0⟩ := open_rotator (hval 0 _ v0 rfl rfl) h0 (fit_arg hsz (j := 0) rfl rfl)
  obtain ⟨s, hr1, hs1⟩ := open_rotator (hval 1 _ v1 rfl rfl) h1 (fit_arg hsz (j := 1) rfl rfl)
  clear hA0 hval0
  refine (walk v0 r v1 s W hr0 hs0 hr1 hs1).mono fun e W' ⟨he, bel⟩ => ?_
  subst he
  exact ⟨_, rfl, _, _, _, [], _, [], hW', trodAll_mk1 (shut_bool Try.underlying4 _), hK W' bel, rfl, bel.frame _, fun h => by cases h⟩

theorem over : Rows.fnExactThenRotatorRow.holds Try.pinned (OpenSpec.ofChange Rows.fnExactThenRotatorSpec) :=
  OpenClaim.holds_of_wide 4 Try.f4 rfl rfl rfl rfl rfl rfl rfl ⟨rfl, rfl, rfl, rfl, rfl⟩ rfl rfl rfl rfl rfl (by kernel_rfl) Try.func4 (by kernel_rfl)
    (of_decide_eq_true (by kernel_rfl)) (by unfold Func.isWrapper; first | (rw [if_pos (by decide +kernel)]; kernel_rfl) | (rw [if_neg (by decide +kernel)]; exact ⟨rfl, rfl⟩))
    (fun os started H enc _ => lifted os started H enc)

theorem holds : Rows.FnExactThenRotatorSaid := over
#print axioms holds
end Go.Proofs.Ytklljaeoimgmnaa.thenRotator
