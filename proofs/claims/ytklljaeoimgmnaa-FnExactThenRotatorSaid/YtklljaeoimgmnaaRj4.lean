/-
  One rotator behind another: the program's walk.
-/
import Derived.Test.YtklljaeoimgmnaaRj3
import Derived.Deep.CutRange
namespace Go.Proofs.Ytklljaeoimgmnaa
open Go.RowKit

set_option maxRecDepth 100000 in
set_option maxHeartbeats 6400000 in
theorem implRj_own (v u : Value) (r s : OData) (w : World) (h : RdO w v r) (k : RdO w u s) :
    Calls Try.prog 15 #[v, u] w fun e w' => ∃ x bs, e = .returned (.tuple #[x, .int .i64 (rjRes r s).2]) ∧ OwO w' w.heap.size x (rjRes r s).1 bs ∧ Below w.heap.size w w' := by
  obtain ⟨ii, hii, hzi0, hzi1, hzi2⟩ := info_parts infoI64
  obtain ⟨is, his, hzs0, hzs1, hzs2⟩ := info_parts infoIs
  have HRD := Lib.hid (show _ ∧ _ from ⟨h, k⟩)
  obtain ⟨A, ka, B, kb, rfl⟩ := h.shape
  obtain ⟨C, kc, D, kd, rfl⟩ := k.shape
  have HB := Lib.hid (below_step (below_step (below_alloc w (.cells #[.int .i64 r.L, .int .i64 r.S, .slice A r.next.length ka, .slice B r.fin.length kb] 40)) (below_alloc _ (.cells #[.int .i64 s.L, .int .i64 s.S, .slice C s.next.length kc, .slice D s.fin.length kd] 40))) (below_alloc _ (.cells #[.int .i64 0, .int .i64 0, .slice none 0 0, .slice none 0 0] 40)))
  have HR := Lib.hid (((Row.new w [.int .i64 r.L, .int .i64 r.S, .slice A r.next.length ka, .slice B r.fin.length kb] 40).alloc (.cells #[.int .i64 s.L, .int .i64 s.S, .slice C s.next.length kc, .slice D s.fin.length kd] 40)).alloc (.cells #[.int .i64 0, .int .i64 0, .slice none 0 0, .slice none 0 0] 40))
  have hs := (Row.new (w.alloc (.cells #[.int .i64 r.L, .int .i64 r.S, .slice A r.next.length ka, .slice B r.fin.length kb] 40)) [.int .i64 s.L, .int .i64 s.S, .slice C s.next.length kc, .slice D s.fin.length kd] 40).alloc (.cells #[.int .i64 0, .int .i64 0, .slice none 0 0, .slice none 0 0] 40)
  have HSS := Lib.hid (show Row _ (w.heap.size + 1) _ _ by simpa using hs)
  have hz := Row.new ((w.alloc (.cells #[.int .i64 r.L, .int .i64 r.S, .slice A r.next.length ka, .slice B r.fin.length kb] 40)).alloc (.cells #[.int .i64 s.L, .int .i64 s.S, .slice C s.next.length kc, .slice D s.fin.length kd] 40)) [.int .i64 0, .int .i64 0, .slice none 0 0, .slice none 0 0] 40
  have HZ := Lib.hid (show Row _ (w.heap.size + 2) _ _ by simpa using hz)
  have HV1 := Lib.hid (fun W (hb : Below w.heap.size w W) => ValidRotator_any _ r W (keepsO _ _ _ _ h hb))
  have HV2 := Lib.hid (fun W (hb : Below w.heap.size w W) => ValidRotator_any _ s W (keepsO _ _ _ _ k hb))
  clear h k hz hs
  by_cases ok1 : okO r = true
  · by_cases ok2 : okO s = true
    · have HOK := Lib.hid (show _ ∧ _ from ⟨ok1, ok2⟩)
      obtain ⟨⟨l1, l2⟩, ⟨n1, n2⟩, ⟨s1, s2⟩, m1, -⟩ := okO_parts ok1
      obtain ⟨⟨l3, l4⟩, ⟨n3, n4⟩, ⟨s3, s4⟩, m3, -⟩ := okO_parts ok2
      have HRES := Lib.hid (show rjRes r s = if r.L = s.L then (if r.next.length + s.next.length ≤ 6 then (rjO r s, 0) else (⟨0, 0, [], []⟩, 3)) else (⟨0, 0, [], []⟩, 2) by rw [rjRes, if_pos ⟨ok1, ok2⟩])
      have HM := Lib.hid (show _ ∧ _ from ⟨m1, m3⟩)
      rw [ok1] at HV1
      rw [ok2] at HV2
      clear ok1 ok2 m1 m3
      go_enter Try.func15, Try.ntmps15
      go_wp2_with fail
      refine (HV1.out _ HB.out).mono ?_
      rintro e w1 ⟨rfl, hb1⟩
      have HR1 := Lib.hid (HR.out.below hb1 HR.out.lt)
      have HS1 := Lib.hid (HSS.out.below hb1 HSS.out.lt)
      have HZ1 := Lib.hid (HZ.out.below hb1 HZ.out.lt)
      have HB1 := Lib.hid (below_step HB.out hb1)
      clear hb1 HR HSS HZ HB
      obtain ⟨⟨b0, b1, b2, b3⟩, -⟩ := HS1.out.four
      have ls := HS1.out.lt
      go_wp2_with fail
      refine (HV2.out _ HB1.out).mono ?_
      rintro e w2 ⟨rfl, hb2⟩
      have HR2 := Lib.hid (HR1.out.below hb2 HR1.out.lt)
      have HS2 := Lib.hid (HS1.out.below hb2 HS1.out.lt)
      have HZ2 := Lib.hid (HZ1.out.below hb2 HZ1.out.lt)
      have HB2 := Lib.hid (below_step HB1.out hb2)
      clear hb2 HR1 HS1 HZ1 HB1 b0 b1 b2 b3 ls
      obtain ⟨⟨a0, a1, a2, a3⟩, -⟩ := HR2.out.four
      obtain ⟨⟨b0, b1, b2, b3⟩, -⟩ := HS2.out.four
      have lr := HR2.out.lt
      have ls := HS2.out.lt
      by_cases hL : r.L = s.L
      · have e1 : (r.L != s.L) = false := by simp [hL]
        by_cases h6 : r.next.length + s.next.length ≤ 6
        · have HE := Lib.hid (show rjRes r s = (rjO r s, 0) by rw [HRES.out, if_pos hL, if_pos h6])
          have HL := Lib.hid hL
          have h6' : (r.next.length : Int) + s.next.length ≤ 6 := by omega
          have hn3 := Row.new w2 [.int .i64 (r.next.length : Int)] 2
          have hb3 := below_alloc w2 (.cells #[.int .i64 (r.next.length : Int)] 2)
          have H3 := Lib.hid (show _ ∧ _ ∧ _ ∧ _ ∧ _ from ⟨hn3, HR2.out.below hb3 HR2.out.lt, HS2.out.below hb3 HS2.out.lt, HZ2.out.below hb3 HZ2.out.lt, below_step HB2.out hb3⟩)
          clear hL hn3 hb3
          go_upto_region 8 with fail
          clear a0 a1 a2 a3 b0 b1 b2 b3 lr ls h6' e1
          obtain ⟨p, hp⟩ : ∃ p, p = w2.heap.size := ⟨_, rfl⟩
          rw [← hp] at H3 ⊢
          clear hp
          generalize w2.alloc (.cells #[.int .i64 (r.next.length : Int)] 2) = w3 at *
          obtain ⟨⟨a0, a1, a2, a3⟩, -⟩ := H3.out.2.1.four
          have lr := H3.out.2.1.lt
          have HC1 := Lib.hid (changedJ1_own _ r 0 p (w.heap.size + 1) (rjF1 (r.next.length : Int) s.S) w3 (keepsO _ _ _ _ HRD.out.1 H3.out.2.2.2.2) HOK.out.1 (by omega) (by omega) (fun W hb x _ => rjC1_any p (w.heap.size + 1) (r.next.length : Int) s.S x W (below_keep hb H3.out.1.one.1) (below_keep hb H3.out.2.2.1.four.1.2.1) (by omega) (by omega) (by omega) (by omega)))
          go_wp2_with fail
          refine HC1.out.mono ?_
          rintro e w4 ⟨u4, b4, rfl, hu4, hb4⟩
          clear HC1 a0 a1 a2 a3 lr
          have hc1 : chgO 0 (rjF1 (r.next.length : Int) s.S) r = ⟨r.L, r.S, addRows 0 r.next, r.fin.map (rjF1 r.next.length s.S)⟩ := by simp [chgO]
          rw [hc1] at hu4
          obtain ⟨A0, k0, A1, k1, rfl⟩ := hu4.rd.shape
          simp only [addRows_len, List.length_map] at hu4 ⊢
          have H4 := Lib.hid (show _ ∧ _ from ⟨hu4, hb4⟩)
          have hb7 := below_alloc w4 (.cells #[.int .i64 r.L, .int .i64 r.S, .slice A0 r.next.length k0, .slice A1 r.fin.length k1] 40)
          have H5 := Lib.hid (show _ ∧ _ ∧ _ from ⟨H3.out.1.below (below_step hb4 hb7) H3.out.1.lt, H3.out.2.2.1.below (below_step hb4 hb7) H3.out.2.2.1.lt, below_step H3.out.2.2.2.2 (below_step hb4 hb7)⟩)
          clear hu4 hb4 hb7 hc1
          go_upto_region 9 with fail
          obtain ⟨W4, hW4⟩ : ∃ W4, w4.alloc (.cells #[.int .i64 r.L, .int .i64 r.S, .slice A0 r.next.length k0, .slice A1 r.fin.length k1] 40) = W4 := ⟨_, rfl⟩
          rw [hW4] at H5 ⊢
          have HW4 := Lib.hid hW4
          clear hW4
          obtain ⟨⟨b0, b1, b2, b3⟩, -⟩ := H5.out.2.1.four
          have ls := H5.out.2.1.lt
          obtain ⟨cn, -⟩ := H5.out.1.one
          have HC2 := Lib.hid (changedJ2_own _ s (r.next.length : Int) p (rjF2 (r.next.length : Int)) W4 (keepsO _ _ _ _ HRD.out.2 H5.out.2.2) HOK.out.2 (by omega) (by omega) (fun W hb x hx => rjC2_any p (r.next.length : Int) x W (below_keep hb H5.out.1.one.1) (by omega) (by omega) (by
            obtain ⟨i, hi⟩ := List.mem_iff_getElem?.1 hx
            have := okO_fin HOK.out.2 hi
            omega)))
          go_wp2_with fail
          refine HC2.out.mono ?_
          rintro e w5 ⟨u5, b5, rfl, hu5, hb5⟩
          clear HC2 b0 b1 b2 b3 ls cn
          have hc2 : chgO (r.next.length : Int) (rjF2 (r.next.length : Int)) s = ⟨s.L, s.S + r.next.length, addRows (r.next.length : Int) s.next, s.fin.map (rjF2 r.next.length)⟩ := by simp [chgO]
          rw [hc2] at hu5
          obtain ⟨C0, q0, C1, q1, rfl⟩ := hu5.rd.shape
          simp only [addRows_len, List.length_map] at hu5 ⊢
          rw [← HW4.out] at hu5 hb5
          obtain ⟨bA, bB, bC, bD, hJ⟩ := jn_make H3.out.2.2.2.2 H3.out.2.2.2.1 (by omega) H4.out.1 H4.out.2 hu5 hb5
          have HJ := Lib.hid hJ
          clear hu5 hb5 hc2 hJ
          go_upto_region 10 with fail
          generalize w5.alloc (.cells #[.int .i64 s.L, .int .i64 (s.S + (r.next.length : Int)), .slice C0 s.next.length q0, .slice C1 s.fin.length q1] 40) = W5 at *
          have hys : addRows (r.next.length : Int) s.next ≠ [] := fun h => by
            have := congrArg List.length h
            rw [addRows_len] at this
            simp at this
            rw [this] at n3
            simp at n3
          have hgs : s.fin.map (rjF2 (r.next.length : Int)) ≠ [] := fun h => by
            have := congrArg List.length h
            have hm := HM.out.2
            simp at this
            rw [this] at hm
            simp at hm
            omega
          obtain ⟨An, ak, eA, cg, ck, eC, vs, us, hown, hul, hnews, hone, hp7, hp8, hnext⟩ := HJ.out.next hys
          rw [addRows_len, addRows_len] at hnext
          rw [addRows_len] at eA eC hown hul
          have HN := Lib.hid (show _ ∧ _ ∧ _ ∧ _ ∧ _ from ⟨hown, hnews, hone, hp7, hnext⟩)
          have HUL := Lib.hid hul
          obtain ⟨⟨c0, c1, c2, c3⟩, cf⟩ := HJ.out.r7.four
          obtain ⟨⟨d0, d1, d2, d3⟩, -⟩ := HJ.out.r8.four
          have l7 := HJ.out.r7.lt
          have l8 := HJ.out.r8.lt
          have f2 := cf 2
          have HC := Lib.hid eC
          have hlo : w3.heap.size ≤ W5.heap.size := by have := HJ.out.l7; omega
          rw [eC] at d2
          clear eA eC hown hul hnews hone hp7 hp8 hnext hys cf
          go_upto_region 11 with (at_builtin; refine wpList_append_lies _ rfl _ _ 35 rfl w3.heap.size 36 is _ 1 24 Try.underlying35 his hzs0 hzs1 hzs2 rfl (by decide) (.slice A0 r.next.length k0) r.next.length _ rfl HN.out.1 ⟨cg, 0, none⟩ s.next.length ck us rfl (by rw [HUL.out]; simp) HN.out.2.1 HN.out.2.2.1 (by omega) (by unfold maxLen; omega) (by omega) hlo W5.heap.size rfl ?_; intro g cap w6 hown6 hgrow6 hat6 hlt6; have p1 := grown_cell hgrow6 HN.out.2.2.2.1 c2; have p2 := grown_free hgrow6 HN.out.2.2.2.1 l7 f2; have HE1 := Lib.hid (HN.out.2.2.2.2 w6 g cap hgrow6 hown6 hat6); clear hown6 hgrow6 hat6 hlt6)
          clear p1 p2 c0 c1 c2 c3 d0 d1 d2 d3 l7 l8 f2 HN
          obtain ⟨bA2, hM⟩ := HE1.out
          generalize w6.setCell ⟨w4.heap.size, 2, none⟩ (.slice (some ⟨g, 0, none⟩) (r.next.length + s.next.length) cap) = W6 at *
          obtain ⟨-, Bn, bk, eB, dg, dk, eD, hown, hnews, hp7, hlast⟩ := hM.last hgs
          simp only [List.length_map] at eB eD hown hlast
          have HN := Lib.hid (show _ ∧ _ ∧ _ ∧ _ from ⟨hown, hnews, hp7, hlast⟩)
          obtain ⟨⟨c0, c1, c2, c3⟩, cf⟩ := hM.r7.four
          obtain ⟨⟨d0, d1, d2, d3⟩, -⟩ := hM.r8.four
          have l7 := hM.r7.lt
          have l8 := hM.r8.lt
          have f3 := cf 3
          have hlo6 : w3.heap.size ≤ W6.heap.size := by have := hM.l7; omega
          have hfl : (r.fin.length : Int) ≤ 6 ∧ (s.fin.length : Int) ≤ 6 ∧ (0 : Int) < s.fin.length := by have := HM.out; omega
          obtain ⟨f61, f62, f63⟩ := hfl
          rw [eD] at d3
          clear eB eD hown hnews hp7 hlast cf hM HE1 HJ hgs
          go_upto_region 12 with (at_builtin; refine wpList_append_lies _ rfl _ _ 36 rfl w3.heap.size 2 ii _ 1 8 Try.underlying36 hii hzi0 hzi1 hzi2 rfl (by decide) (.slice A1 r.fin.length k1) r.fin.length _ rfl HN.out.1 ⟨dg, 0, none⟩ s.fin.length dk (ints (s.fin.map (rjF2 (r.next.length : Int)))) rfl (by simp [ints]) HN.out.2.1 (by intro u hu; obtain ⟨_, _, rfl⟩ := List.mem_map.1 hu; rfl) (by omega) (by unfold maxLen; omega) (by omega) hlo6 W6.heap.size rfl ?_; intro g2 cap2 w7 hown7 hgrow7 hat7 hlt7; have p1 := grown_cell hgrow7 HN.out.2.2.1 c3; have p2 := grown_free hgrow7 HN.out.2.2.1 l7 f3; have HE2 := Lib.hid (HN.out.2.2.2 w7 g2 cap2 hgrow7 hown7 hat7); clear hown7 hgrow7 hat7 hlt7)
          obtain ⟨W7, hW7, hbW, hzW, hrW, bsW, hOW⟩ := HE2.out
          rw [← hW7]
          clear p1 p2 c0 c1 c2 c3 d0 d1 d2 d3 l7 l8 f3 hW7 HE2 HN
          obtain ⟨⟨c0, c1, c2, c3⟩, -⟩ := hrW.four
          obtain ⟨⟨z0, z1, z2, z3⟩, zf⟩ := hzW.four
          have lc := hrW.lt
          have lz := hzW.lt
          have HF := Lib.hid (show _ ∧ _ ∧ _ from ⟨hbW, hzW, hOW⟩)
          have hpl : w.heap.size + 2 < w3.heap.size := H3.out.2.2.2.1.lt
          clear hbW hzW hrW hOW
          go_wp2
          obtain ⟨W8, hW8, ⟨y0, y1, y2, y3⟩, eO, eB⟩ := stored4O HF.out.2.1 HF.out.2.2 hpl (by omega) HF.out.1
          rw [← hW8]
          clear hW8
          refine bodyPost_ret (v := .tuple #[.agg #[.int .i64 r.L, .int .i64 r.S, .slice (some ⟨g, 0, none⟩) (r.next.length + s.next.length) cap, .slice (some ⟨g2, 0, none⟩) (r.fin.length + s.fin.length) cap2], .int .i64 0]) (by simp [results, Try.results15, go_sem, y0, y1, y2, y3]) rfl ?_
          rw [HE.out]
          first | exact ⟨_, rfl, ⟨_, eO⟩, eB⟩ | exact ⟨_, _, rfl, eO, eB⟩
        · have HE := Lib.hid (show rjRes r s = (⟨0, 0, [], []⟩, 3) by rw [HRES.out, if_pos hL, if_neg h6])
          have h6' : (6 : Int) < (r.next.length : Int) + s.next.length := by omega
          clear hL
          have hb3 := below_alloc w2 (.cells #[.int .i64 (r.next.length : Int)] 2)
          have HZ3 := Lib.hid (HZ2.out.below hb3 HZ2.out.lt)
          have HB3 := Lib.hid (below_step HB2.out hb3)
          clear hb3
          obtain ⟨⟨z0, z1, z2, z3⟩, zf⟩ := HZ3.out.four
          have lz := HZ3.out.lt
          go_wp2
          obtain ⟨WZ, hWZ, ⟨y0, y1, y2, y3⟩, eO, eB⟩ := stored4O HZ3.out (owO_zero _ (w.heap.size + 3)) (Nat.lt_succ_self _) (by omega) HB3.out
          rw [← hWZ]
          clear hWZ
          refine bodyPost_ret (v := .tuple #[.agg #[.int .i64 0, .int .i64 0, .slice none 0 0, .slice none 0 0], .int .i64 3]) (by simp [results, Try.results15, go_sem, y0, y1, y2, y3]) rfl ?_
          rw [HE.out]
          first | exact ⟨_, rfl, ⟨_, eO⟩, eB⟩ | exact ⟨_, _, rfl, eO, eB⟩
      · have HE := Lib.hid (show rjRes r s = (⟨0, 0, [], []⟩, 2) by rw [HRES.out, if_neg hL])
        have e1 : (r.L != s.L) = true := by simp [hL]
        obtain ⟨⟨z0, z1, z2, z3⟩, zf⟩ := HZ2.out.four
        have lz := HZ2.out.lt
        go_wp2
        obtain ⟨WZ, hWZ, ⟨y0, y1, y2, y3⟩, eO, eB⟩ := stored4O HZ2.out (owO_zero _ (w.heap.size + 3)) (Nat.lt_succ_self _) (by omega) HB2.out
        rw [← hWZ]
        clear hWZ
        refine bodyPost_ret (v := .tuple #[.agg #[.int .i64 0, .int .i64 0, .slice none 0 0, .slice none 0 0], .int .i64 2]) (by simp [results, Try.results15, go_sem, y0, y1, y2, y3]) rfl ?_
        rw [HE.out]
        first | exact ⟨_, rfl, ⟨_, eO⟩, eB⟩ | exact ⟨_, _, rfl, eO, eB⟩
    · have ok2' : okO s = false := by simpa using ok2
      have HE := Lib.hid (show rjRes r s = (⟨0, 0, [], []⟩, 1) by rw [rjRes, if_neg (fun h => ok2 h.2)])
      rw [ok1] at HV1
      rw [ok2'] at HV2
      clear ok1 ok2 ok2'
      go_enter Try.func15, Try.ntmps15
      go_wp2_with fail
      refine (HV1.out _ HB.out).mono ?_
      rintro e w1 ⟨rfl, hb1⟩
      have HR1 := Lib.hid (HR.out.below hb1 HR.out.lt)
      have HS1 := Lib.hid (HSS.out.below hb1 HSS.out.lt)
      have HZ1 := Lib.hid (HZ.out.below hb1 HZ.out.lt)
      have HB1 := Lib.hid (below_step HB.out hb1)
      clear hb1 HR HSS HZ HB
      obtain ⟨⟨b0, b1, b2, b3⟩, -⟩ := HS1.out.four
      have ls := HS1.out.lt
      go_wp2_with fail
      refine (HV2.out _ HB1.out).mono ?_
      rintro e w2 ⟨rfl, hb2⟩
      have HR2 := Lib.hid (HR1.out.below hb2 HR1.out.lt)
      have HS2 := Lib.hid (HS1.out.below hb2 HS1.out.lt)
      have HZ2 := Lib.hid (HZ1.out.below hb2 HZ1.out.lt)
      have HB2 := Lib.hid (below_step HB1.out hb2)
      clear hb2 HR1 HS1 HZ1 HB1 b0 b1 b2 b3 ls
      obtain ⟨⟨a0, a1, a2, a3⟩, -⟩ := HR2.out.four
      obtain ⟨⟨b0, b1, b2, b3⟩, -⟩ := HS2.out.four
      have lr := HR2.out.lt
      have ls := HS2.out.lt
      obtain ⟨⟨z0, z1, z2, z3⟩, zf⟩ := HZ2.out.four
      have lz := HZ2.out.lt
      go_wp2
      obtain ⟨WZ, hWZ, ⟨y0, y1, y2, y3⟩, eO, eB⟩ := stored4O HZ2.out (owO_zero _ (w.heap.size + 3)) (Nat.lt_succ_self _) (by omega) HB2.out
      rw [← hWZ]
      clear hWZ
      refine bodyPost_ret (v := .tuple #[.agg #[.int .i64 0, .int .i64 0, .slice none 0 0, .slice none 0 0], .int .i64 1]) (by simp [results, Try.results15, go_sem, y0, y1, y2, y3]) rfl ?_
      rw [HE.out]
      first | exact ⟨_, rfl, ⟨_, eO⟩, eB⟩ | exact ⟨_, _, rfl, eO, eB⟩
  · have ok1' : okO r = false := by simpa using ok1
    have HE := Lib.hid (show rjRes r s = (⟨0, 0, [], []⟩, 1) by rw [rjRes, if_neg (fun h => ok1 h.1)])
    rw [ok1'] at HV1
    clear ok1 ok1'
    go_enter Try.func15, Try.ntmps15
    go_wp2_with fail
    refine (HV1.out _ HB.out).mono ?_
    rintro e w2 ⟨rfl, hb1⟩
    have HZ2 := Lib.hid (HZ.out.below hb1 HZ.out.lt)
    have HB2 := Lib.hid (below_step HB.out hb1)
    clear hb1
    obtain ⟨⟨z0, z1, z2, z3⟩, zf⟩ := HZ2.out.four
    have lz := HZ2.out.lt
    go_wp2
    obtain ⟨WZ, hWZ, ⟨y0, y1, y2, y3⟩, eO, eB⟩ := stored4O HZ2.out (owO_zero _ (w.heap.size + 3)) (Nat.lt_succ_self _) (by omega) HB2.out
    rw [← hWZ]
    clear hWZ
    refine bodyPost_ret (v := .tuple #[.agg #[.int .i64 0, .int .i64 0, .slice none 0 0, .slice none 0 0], .int .i64 1]) (by simp [results, Try.results15, go_sem, y0, y1, y2, y3]) rfl ?_
    rw [HE.out]
    first | exact ⟨_, rfl, ⟨_, eO⟩, eB⟩ | exact ⟨_, _, rfl, eO, eB⟩
end Go.Proofs.Ytklljaeoimgmnaa
