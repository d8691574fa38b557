/-
  ManyOfCycles: the model's answer.
-/
import Derived.Test.YtjojmlaipcbmkaaMc2
import Derived.Test.YtjojmlaipcbmkaaT6
import Derived.Deep.RegionLaw
import Derived.Deep.CutRange
namespace Go.Proofs.Ytjojmlaipcbmkaa
open Go.RowKit
theorem McI.drew {w : World} {lo po : Nat} {m : MData} {wr : World} (h : McI w lo po m wr) : McI w lo po m wr.drew := h.below (below_drew _)

set_option maxRecDepth 100000 in
set_option maxHeartbeats 6400000 in
theorem specMoc_rd (v : Value) (cs : List (List Bool)) (w : World) (h : RdBB w v cs) (hs : BBSmall cs) :
    Calls Try.prog 40 #[v] w fun e w' => ∃ u, e = .returned (.tuple #[u, .int .i64 (cycsRes cs).2]) ∧ RdM w' u (cycsRes cs).1 ∧ Below w.heap.size w w' := by
  obtain ⟨ii, hii, hzi0, hzi1, hzi2⟩ := info_parts infoI64
  obtain ⟨ib, hib, hzb0, hzb1, hzb2⟩ := info_parts infoBool
  obtain ⟨il, hil, hzl0, hzl1, hzl2⟩ := info_parts infoIIs
  have hn : (cs.length : Int) ≤ 11728124029610 := by have := hs.1; omega
  have hcl : ∀ c ∈ cs, (c.length : Int) ≤ 281474976710656 := fun c hc => by have := hs.2 c hc; omega
  obtain ⟨A, kA, rfl, a1, a2, a3⟩ := RdL.open h
  unfold maxLen at a2
  have HZ0 := Lib.hid (show _ ∧ _ from ⟨below_alloc w (.cells #[.int .i64 0, .slice none 0 0, .slice none 0 0, .slice none 0 0] 60), Row.new w [.int .i64 0, .slice none 0 0, .slice none 0 0, .slice none 0 0] 60⟩)
  have HBX := Lib.hid (show McI w (w.heap.size + 1) (w.heap.size + 1) ⟨1, [], [], []⟩ ((w.alloc (.cells #[.int .i64 0, .slice none 0 0, .slice none 0 0, .slice none 0 0] 60)).alloc (.cells #[.int .i64 1, .slice none 0 0, .slice none 0 0, .slice none 0 0] 60)) from by
    have hst := BoxM.start (w.alloc (.cells #[.int .i64 0, .slice none 0 0, .slice none 0 0, .slice none 0 0] 60)) 1 (w.heap.size + 1)
    rw [show (w.alloc (.cells #[.int .i64 0, .slice none 0 0, .slice none 0 0, .slice none 0 0] 60)).heap.size = w.heap.size + 1 by simp] at hst
    exact ⟨below_step (below_alloc _ _) (below_alloc _ _), (Row.new w _ _).alloc _, hst⟩)
  have HCL := Lib.hid hcl
  clear h hs hcl
  have HIN := Lib.hid (fun W => l00In_w (cs.length : Int) 1 4 W)
  by_cases hok : within (cs.length : Int) 1 4 = true
  · have HOK := Lib.hid hok
    have n4 : cs.length ≤ 4 := by simp only [within, decide_eq_true_eq] at hok; omega
    rw [hok] at HIN
    clear hok
    go_enter Try.func40, Try.ntmps40
    go_wp2_with (go_at_call 78; (with_reducible refine (HIN.out _).mono ?_); rintro e w' ⟨rfl, rfl⟩)
    generalize hw0 : (w.alloc (.cells #[.int .i64 0, .slice none 0 0, .slice none 0 0, .slice none 0 0] 60)) = w0 at *
    have HW0 := Lib.hid hw0
    clear hw0
    go_loop [4, 5, 6] (fun ok s i => ∃ k n : Nat, ∃ y : Bool, k ≤ cs.length ∧ i = .int .i64 k ∧ ok = .bool y ∧ s = .int .i64 n ∧ (cs.take k).all okCyc = y ∧ (y = true → n = (manyC (cs.take k)).acc.length) ∧ (n : Int) ≤ 281474976710656 * k) (fun _ _ i => cs.length - (intOf i).toNat)
    case atStart => exact ⟨0, 0, true, Nat.zero_le _, rfl, rfl, rfl, by simp, by simp [manyC], by simp⟩
    case round =>
      obtain ⟨k, n, y, hk, rfl, rfl, rfl, hall, hsum, hbd⟩ := hrel
      have HS := Lib.hid (show _ ∧ _ from ⟨hall, hsum⟩)
      clear hall hsum
      cases y
      · have HE := Lib.hid (show cycsRes cs = (⟨0, [], [], []⟩, 2) by
          have h1 : cs.all okCyc = false := by
            rw [← Bool.not_eq_true]; intro hall
            have h4 := HS.out.1
            rw [List.all_eq_false] at h4
            obtain ⟨c, hc, hc2⟩ := h4
            exact hc2 (List.all_eq_true.1 hall c (List.mem_of_mem_take hc))
          rw [cycsRes, if_neg]; rw [okCycs, h1]; simp)
        by_cases hlt : k < cs.length
        · clear a3
          obtain ⟨⟨z0, z1, z2, z3⟩, zf⟩ := HZ0.out.2.four
          have lz := HZ0.out.2.lt
          go_wp2
          obtain ⟨W2, hW2, ⟨y0, y1, y2, y3⟩, eO, eB⟩ := stored4M HZ0.out.2 (owM_zero w0 (w.heap.size + 1)) (Nat.lt_succ_self _) (Nat.le_refl _) HZ0.out.1
          rw [← hW2]
          clear hW2
          refine bodyPost_ret (v := .tuple #[.agg #[.int .i64 0, .slice none 0 0, .slice none 0 0, .slice none 0 0], .int .i64 2]) (by simp [results, Try.results40, go_sem, y0, y1, y2, y3]) rfl ?_
          rw [HE.out]
          exact ⟨_, rfl, eO.rd, eB⟩
        · clear a3
          obtain ⟨⟨z0, z1, z2, z3⟩, zf⟩ := HZ0.out.2.four
          have lz := HZ0.out.2.lt
          go_wp2
          obtain ⟨W2, hW2, ⟨y0, y1, y2, y3⟩, eO, eB⟩ := stored4M HZ0.out.2 (owM_zero w0 (w.heap.size + 1)) (Nat.lt_succ_self _) (Nat.le_refl _) HZ0.out.1
          rw [← hW2]
          clear hW2
          refine bodyPost_ret (v := .tuple #[.agg #[.int .i64 0, .slice none 0 0, .slice none 0 0, .slice none 0 0], .int .i64 2]) (by simp [results, Try.results40, go_sem, y0, y1, y2, y3]) rfl ?_
          rw [HE.out]
          exact ⟨_, rfl, eO.rd, eB⟩
      · by_cases hlt : k < cs.length
        · obtain ⟨b, off, u, c, rfl, hx, hc0, hR⟩ := a3 k hlt
          have hc0' : w0.cell? ⟨b, off + k, none⟩ = some u := below_keep HZ0.out.1 hc0
          obtain ⟨Ac, kc, rfl, r1, r2, -⟩ := RdB.open hR
          unfold maxLen at r2
          have hcn := HCL.out c (List.mem_of_getElem? hx)
          have HX := Lib.hid hx
          have HINc := Lib.hid (fun W => l00In_w (c.length : Int) 1 12 W)
          have i1 : (0 : Int) ≤ k := by omega
          have i2 : (k : Int) < cs.length := by omega
          have i3 : (k : Int) ≤ 4 := by omega
          clear a3 hc0 hx hR
          go_wp2_with (go_at_call 78; refine (HINc.out _).mono ?_; rintro e w' ⟨rfl, rfl⟩)
          go_round
          case rel => exact ⟨k + 1, n + c.length, within (c.length : Int) 1 12, by omega, by go_num, rfl, by go_num, by rw [take_succ_of HX.out, List.all_append, HS.out.1]; simp [okCyc], fun _ => by have h1 := HS.out.2 (by first | rfl | trivial); rw [manyC_succ HX.out]; simp [addCycle]; omega, by omega⟩
          case measure => simp [intOf]; omega
        · have ek : k = cs.length := by omega
          subst ek
          have hall : ∀ c ∈ cs, okCyc c = true := by have h1 := HS.out.1; rw [List.take_length] at h1; simpa [List.all_eq_true] using h1
          have hn2 : n = (manyC cs).acc.length := by have h1 := HS.out.2 rfl; rwa [List.take_length] at h1
          have hinv := manyC_inv hall
          have hok2 : okCycs cs = true := by rw [okCycs, HOK.out]; simpa [List.all_eq_true] using hall
          have HE0 := Lib.hid (show cycsRes cs = if 10 < n then (⟨0, [], [], []⟩, 3) else (manyC cs, 0) by rw [cycsRes, if_pos hok2, hn2])
          have HALL := Lib.hid hall
          have hnb : n ≤ 48 := by omega
          clear hn2 hinv hok2 hall
          by_cases h10 : (10 : Int) < (n : Int)
          · have HE := Lib.hid (show cycsRes cs = (⟨0, [], [], []⟩, 3) by rw [HE0.out, if_pos (by omega)])
            clear a3
            obtain ⟨⟨z0, z1, z2, z3⟩, zf⟩ := HZ0.out.2.four
            have lz := HZ0.out.2.lt
            go_wp2
            obtain ⟨W2, hW2, ⟨y0, y1, y2, y3⟩, eO, eB⟩ := stored4M HZ0.out.2 (owM_zero w0 (w.heap.size + 1)) (Nat.lt_succ_self _) (Nat.le_refl _) HZ0.out.1
            rw [← hW2]
            clear hW2
            refine bodyPost_ret (v := .tuple #[.agg #[.int .i64 0, .slice none 0 0, .slice none 0 0, .slice none 0 0], .int .i64 3]) (by simp [results, Try.results40, go_sem, y0, y1, y2, y3]) rfl ?_
            rw [HE.out]
            exact ⟨_, rfl, eO.rd, eB⟩
          · have HE := Lib.hid (show cycsRes cs = (manyC cs, 0) by rw [HE0.out, if_neg (by omega)])
            have hz0 : w0.heap.size = w.heap.size + 1 := by rw [← HW0.out]; simp
            have HZS := Lib.hid hz0
            clear hz0
            go_wp2
            rw [HZS.out]
            generalize w0.alloc (.cells #[.int .i64 1, .slice none 0 0, .slice none 0 0, .slice none 0 0] 60) = w1 at *
            go_loopw [8] (fun i wr => ∃ k : Nat, k ≤ cs.length ∧ i = .int .i64 k ∧ McI w (w.heap.size + 1) (w.heap.size + 1) (manyC (cs.take k)) wr) (fun i _ => cs.length - (intOf i).toNat)
            case atStart => exact ⟨0, Nat.zero_le _, rfl, HBX.out⟩
            case round =>
              obtain ⟨k, hk, rfl, hI⟩ := hrel
              by_cases hlt : k < cs.length
              · obtain ⟨b, off, u, c, hA, hx, hc0, hR⟩ := a3 k hlt
                obtain ⟨Ac, kc, rfl, r1, r2, r3⟩ := RdB.open hR
                unfold maxLen at r2
                have HX := Lib.hid hx
                have hcp := okCyc_parts (HALL.out c (List.mem_of_getElem? hx))
                have i1 : (0 : Int) ≤ k := by omega
                have i2 : (k : Int) < cs.length := by omega
                obtain ⟨m, hm⟩ : ∃ m, manyC (cs.take k) = m := ⟨_, rfl⟩
                have hinv := manyC_inv (cs := cs.take k) (fun c hc => HALL.out c (List.mem_of_mem_take hc))
                rw [hm] at hinv hI
                have HM := Lib.hid hm
                clear hm
                obtain ⟨L, st, acc, next⟩ := m
                simp only at hinv
                obtain ⟨v1, v2, v3, v4⟩ := hinv
                subst v4
                have t1 : (cs.take k).length ≤ 4 := by rw [List.length_take]; omega
                have b1 : acc.length ≤ 48 := by omega
                have b2 : st.length ≤ 4 := by omega
                have b3 : next.length ≤ 48 := by omega
                have HADD := Lib.hid (show manyC (cs.take (k + 1)) = ⟨1, st ++ [(acc.length : Int)], acc ++ c, next ++ ringRows acc.length c.length c.length⟩ by rw [manyC_succ HX.out, HM.out]; rfl)
                subst hA
                have HC0 := Lib.hid hc0
                have HR3 := Lib.hid r3
                clear v1 v2 v3 t1 hx r3 hR hc0
                have hsz := hI.1.size
                obtain ⟨eBs, eks, eBa, eka, eBn, ekn, evs, eho, er1, er2, er3, eqq, es1, es2, es3⟩ := McI.open hI (Nat.lt_succ_self _) (Nat.le_refl _)
                have eHS := Lib.hid (show _ ∧ _ ∧ _ from ⟨es1, es2, es3⟩)
                have eHR := Lib.hid (show _ ∧ _ ∧ _ ∧ _ from ⟨er1, er2, er3, eqq⟩)
                have ec := eho.four
                obtain ⟨⟨eo0, eo1, eo2, eo3⟩, ef⟩ := ec
                have elt := eho.lt
                clear es1 es2 es3 er1 er2 er3 eqq eho
                clear hI
                go_wp2_with (at_builtin; refine wpList_append_lies _ rfl _ _ 47 rfl (w.heap.size + 1) 2 ii _ 1 8 Try.underlying47 hii hzi0 hzi1 hzi2 rfl (by decide) (.slice eBs st.length eks) st.length _ rfl (rows_below eHR.out.1 (below_alloc _ _)) ⟨wr.heap.size, 0, none⟩ 1 1 [.int .i64 (acc.length : Int)] rfl rfl (World.news_of_block (cs := #[.int .i64 (acc.length : Int)]) (t := 2) (fr := (0, 0)) (heap_alloc_new wr _)) (by simp [Value.oneCell']) (by omega) (by unfold maxLen; omega) (by omega) (by simp; omega) (wr.heap.size + 1) (by simp) ?_; intro g1 cap1 w5 hown5 hgrow5 hat5 hlt5; have p1 := grown_cell hgrow5 eHR.out.2.2.2.1 (below_keep (below_alloc _ _) eo1); have p2 := grown_free hgrow5 eHR.out.2.2.2.1 (by simp; omega) (below_keepf (below_alloc _ _) elt (ef 1)); have p3 := World.block_lt_of_cell? _ _ p1; have HS1 := Lib.hid (show McI w (w.heap.size + 1) (w.heap.size + 1) ⟨1, st ++ [(acc.length : Int)], acc, next⟩ (w5.setCell ⟨w.heap.size + 1, 1, none⟩ (.slice (some ⟨g1, 0, none⟩) (st.length + 1) cap1)) from eHS.out.1 [(acc.length : Int)] _ w5 g1 cap1 _ (below_alloc _ _) hgrow5 hown5 hat5 (by simp)); clear hown5 hgrow5 hat5 hlt5; clear eo0 eo1 eo2 eo3 ef elt)
                clear p1 p2 p3
                generalize (w5.setCell ⟨w.heap.size + 1, 1, none⟩ (.slice (some ⟨g1, 0, none⟩) (st.length + 1) cap1)) = W3 at *
                go_loopw [10] (fun i wr => ∃ t : Nat, t ≤ c.length ∧ i = .int .i64 t ∧ McI w (w.heap.size + 1) (w.heap.size + 1) ⟨1, st ++ [(acc.length : Int)], acc ++ c.take t, next ++ ringRows acc.length c.length t⟩ wr) (fun i _ => c.length - (intOf i).toNat)
                case atStart => exact ⟨0, Nat.zero_le _, rfl, by simpa [ringRows] using HS1.out⟩
                case round =>
                  obtain ⟨t, ht, rfl, hI2⟩ := hrel
                  have hcc := below_keep hI2.1 HC0.out
                  by_cases hjl : t < c.length
                  · obtain ⟨bc, oc, z, rfl, hz, hcz⟩ := HR3.out t hjl
                    have hcz2 := below_keep hI2.1 hcz
                    obtain ⟨nx, hnx⟩ : ∃ nx, next ++ ringRows acc.length c.length t = nx := ⟨_, rfl⟩
                    obtain ⟨ac, hac⟩ : ∃ ac, acc ++ c.take t = ac := ⟨_, rfl⟩
                    have hnl : nx.length ≤ 60 := by rw [← hnx, List.length_append, ringRows_len]; omega
                    have hal : ac.length ≤ 60 := by rw [← hac, List.length_append, List.length_take]; omega
                    rw [hnx, hac] at hI2
                    have HNX := Lib.hid (show next ++ ringRows acc.length c.length (t + 1) = nx ++ [[[ringTo acc.length c.length t]]] by rw [ringRows_succ, ← List.append_assoc, hnx])
                    have HAC := Lib.hid (show acc ++ c.take (t + 1) = ac ++ [z] by rw [take_succ_of hz, ← List.append_assoc, hac])
                    have hsz2 := hI2.1.size
                    clear hnx hac hcz hz
                    have j1 : (0 : Int) ≤ t := by omega
                    have j2 : (t : Int) < c.length := by omega
                    have hbl : b < w.heap.size := World.block_lt_of_cell? _ _ HC0.out
                    obtain ⟨gBs, gks, gBa, gka, gBn, gkn, gvs, gho, gr1, gr2, gr3, gqq, gs1, gs2, gs3⟩ := McI.open hI2 (Nat.lt_succ_self _) (Nat.le_refl _)
                    have gHS := Lib.hid (show _ ∧ _ ∧ _ from ⟨gs1, gs2, gs3⟩)
                    have gHR := Lib.hid (show _ ∧ _ ∧ _ ∧ _ from ⟨gr1, gr2, gr3, gqq⟩)
                    have gc := gho.four
                    obtain ⟨⟨go0, go1, go2, go3⟩, gf⟩ := gc
                    have glt := gho.lt
                    clear gs1 gs2 gs3 gr1 gr2 gr3 gqq gho
                    have HI2 := Lib.hid hI2
                    clear hI2
                    obtain ⟨tg, hto⟩ : ∃ tg, ringTo acc.length c.length t = tg := ⟨_, rfl⟩
                    rw [hto] at HNX
                    by_cases hlast : t + 1 = c.length
                    · have de : ((t : Int) + 1 == (c.length : Int)) = true := by rw [beq_iff_eq]; omega
                      obtain rfl : (acc.length : Int) = tg := by rw [ringTo, if_pos hlast] at hto; exact hto
                      clear hto hlast
                      go_upto_region 24 with fail
                      clear de
                      go_cut [9] from 81 to 92 (fun s9 wx => s9 = .int .i64 (acc.length : Int) ∧ McI w (w.heap.size + 1) (w.heap.size + 1) ⟨1, st ++ [(acc.length : Int)], ac ++ [z], nx⟩ wx)
                      case first =>
                        go_region_law
                          ((refine step_append_lies _ (by rfl) _ _ _ (by rfl) (w.heap.size + 1) 4 ib _ 1 1 Try.underlying22 hib hzb0 hzb1 hzb2 rfl (by omega) (.slice gBa ac.length gka) ac.length (bools ac) (by rfl) (rows_below gHR.out.2.1 (by first | exact below_alloc _ _ | exact (below_alloc _ _).drew | exact (below_alloc _ _).drew.drew | exact (below_alloc _ _).drew.drew.drew))
                              ⟨wr.heap.size, 0, none⟩ 1 1 [.bool z] (by rfl) (by rfl) (World.news_of_block (cs := #[.bool z]) (t := 4) (fr := (0, 0)) (heap_alloc_new wr _)) (by simp [Value.oneCell'])
                              (by omega) (by unfold maxLen; omega) (by omega) (by simp; omega) (wr.heap.size + 1) (by simp) ?_; intro g2 cap2 w6 hown6 hgrow6 hat6 hlt6;
                             have p4 := grown_cell hgrow6 gHR.out.2.2.2.2.1 (below_keep (by first | exact below_alloc _ _ | exact (below_alloc _ _).drew | exact (below_alloc _ _).drew.drew | exact (below_alloc _ _).drew.drew.drew) go2); have p5 := grown_free hgrow6 gHR.out.2.2.2.2.1 (by simp; omega) (below_keepf (by first | exact below_alloc _ _ | exact (below_alloc _ _).drew | exact (below_alloc _ _).drew.drew | exact (below_alloc _ _).drew.drew.drew) glt (gf 2))))
                        all_goals
                          go_wp2_with fail
                          go_meet
                          have hg : (wr.alloc (.cells #[.bool z] 4)).grownBy w6 (Value.slice gBa ac.length gka).ownBlock := (by first | exact hgrow6 | exact undrew hgrow6 | exact undrew (undrew hgrow6) | exact undrew (undrew (undrew hgrow6)))
                          have hres := gHS.out.2.1 [z] _ w6 g2 cap2 _ (below_alloc _ _) hg hown6 hat6 (by simp)
                          first | exact ⟨rfl, hres⟩ | exact ⟨rfl, hres.drew⟩ | exact ⟨rfl, hres.drew.drew⟩ | exact ⟨rfl, hres.drew.drew.drew⟩
                      case rest =>
                        obtain ⟨rfl, hI3⟩ := hcut
                        clear go0 go1 go2 go3 gf glt gHS gHR hcc hcz2 HI2
                        have hsz3 := hI3.1.size
                        obtain ⟨dBs, dks, dBa, dka, dBn, dkn, dvs, dho, dr1, dr2, dr3, dqq, ds1, ds2, ds3⟩ := McI.open hI3 (Nat.lt_succ_self _) (Nat.le_refl _)
                        have dHS := Lib.hid (show _ ∧ _ ∧ _ from ⟨ds1, ds2, ds3⟩)
                        have dHR := Lib.hid (show _ ∧ _ ∧ _ ∧ _ from ⟨dr1, dr2, dr3, dqq⟩)
                        have dc := dho.four
                        obtain ⟨⟨do0, do1, do2, do3⟩, df⟩ := dc
                        have dlt := dho.lt
                        clear ds1 ds2 ds3 dr1 dr2 dr3 dqq dho
                        clear hI3
                        go_wp2_with (at_builtin; refine wpList_append_lies _ rfl _ _ 58 rfl (w.heap.size + 1) 23 il _ 1 24 Try.underlying58 hil hzl0 hzl1 hzl2 rfl (by decide) (.slice dBn nx.length dkn) nx.length dvs rfl (rows_below (rows_below (rows_below dHR.out.2.2.1 (below_alloc _ _)) (below_alloc _ _)) (below_alloc _ _)) ⟨wc.heap.size + 1 + 1, 0, none⟩ 1 1 [.slice (some ⟨wc.heap.size + 1, 0, none⟩) 1 1] rfl rfl (World.news_of_block (cs := #[.slice (some ⟨wc.heap.size + 1, 0, none⟩) 1 1]) (t := 23) (fr := (0, 0)) (by simpa using heap_alloc_new ((wc.alloc (.cells #[.int .i64 (acc.length : Int)] 2)).alloc (.cells #[.slice (some ⟨wc.heap.size, 0, none⟩) 1 1] 47)) (.cells #[.slice (some ⟨wc.heap.size + 1, 0, none⟩) 1 1] 23))) (by simp [Value.oneCell']) (by omega) (by unfold maxLen; omega) (by omega) (by simp; omega) (wc.heap.size + 1 + 1 + 1) (by simp) ?_; intro g7 cap7 w7 hown7 hgrow7 hat7 hlt7; have p7 := grown_cell hgrow7 dHR.out.2.2.2.2.2 (below_keep (below_step (below_step (below_alloc wc _) (below_alloc _ _)) (below_alloc _ _)) do3); have p8 := grown_free hgrow7 dHR.out.2.2.2.2.2 (by simp; omega) (below_keepf (below_step (below_step (below_alloc wc _) (below_alloc _ _)) (below_alloc _ _)) dlt (df 3)); have p9 := World.block_lt_of_cell? _ _ p7; have HS4 := Lib.hid (dHS.out.2.2 (acc.length : Int) w7 g7 cap7 hgrow7 hown7 hat7); clear hown7 hgrow7 hat7 hlt7)
                        clear do0 do1 do2 do3 df dlt p7 p8 p9
                        go_roundw
                        case rel => exact ⟨t + 1, by omega, by go_num, by rw [HAC.out, HNX.out]; exact HS4.out⟩
                        case measure => simp [intOf]; omega
                    · have de : ((t : Int) + 1 == (c.length : Int)) = false := by rw [beq_eq_false_iff_ne]; omega
                      obtain rfl : (acc.length : Int) + (t : Int) + 1 = tg := by rw [ringTo, if_neg hlast] at hto; exact hto
                      clear hto hlast
                      go_upto_region 24 with fail
                      clear de
                      go_cut [9] from 81 to 92 (fun s9 wx => s9 = .int .i64 (acc.length : Int) ∧ McI w (w.heap.size + 1) (w.heap.size + 1) ⟨1, st ++ [(acc.length : Int)], ac ++ [z], nx⟩ wx)
                      case first =>
                        go_region_law
                          ((refine step_append_lies _ (by rfl) _ _ _ (by rfl) (w.heap.size + 1) 4 ib _ 1 1 Try.underlying22 hib hzb0 hzb1 hzb2 rfl (by omega) (.slice gBa ac.length gka) ac.length (bools ac) (by rfl) (rows_below gHR.out.2.1 (by first | exact below_alloc _ _ | exact (below_alloc _ _).drew | exact (below_alloc _ _).drew.drew | exact (below_alloc _ _).drew.drew.drew))
                              ⟨wr.heap.size, 0, none⟩ 1 1 [.bool z] (by rfl) (by rfl) (World.news_of_block (cs := #[.bool z]) (t := 4) (fr := (0, 0)) (heap_alloc_new wr _)) (by simp [Value.oneCell'])
                              (by omega) (by unfold maxLen; omega) (by omega) (by simp; omega) (wr.heap.size + 1) (by simp) ?_; intro g2 cap2 w6 hown6 hgrow6 hat6 hlt6;
                             have p4 := grown_cell hgrow6 gHR.out.2.2.2.2.1 (below_keep (by first | exact below_alloc _ _ | exact (below_alloc _ _).drew | exact (below_alloc _ _).drew.drew | exact (below_alloc _ _).drew.drew.drew) go2); have p5 := grown_free hgrow6 gHR.out.2.2.2.2.1 (by simp; omega) (below_keepf (by first | exact below_alloc _ _ | exact (below_alloc _ _).drew | exact (below_alloc _ _).drew.drew | exact (below_alloc _ _).drew.drew.drew) glt (gf 2))))
                        all_goals
                          go_wp2_with fail
                          go_meet
                          have hg : (wr.alloc (.cells #[.bool z] 4)).grownBy w6 (Value.slice gBa ac.length gka).ownBlock := (by first | exact hgrow6 | exact undrew hgrow6 | exact undrew (undrew hgrow6) | exact undrew (undrew (undrew hgrow6)))
                          have hres := gHS.out.2.1 [z] _ w6 g2 cap2 _ (below_alloc _ _) hg hown6 hat6 (by simp)
                          first | exact ⟨rfl, hres⟩ | exact ⟨rfl, hres.drew⟩ | exact ⟨rfl, hres.drew.drew⟩ | exact ⟨rfl, hres.drew.drew.drew⟩
                      case rest =>
                        obtain ⟨rfl, hI3⟩ := hcut
                        clear go0 go1 go2 go3 gf glt gHS gHR hcc hcz2 HI2
                        have hsz3 := hI3.1.size
                        obtain ⟨dBs, dks, dBa, dka, dBn, dkn, dvs, dho, dr1, dr2, dr3, dqq, ds1, ds2, ds3⟩ := McI.open hI3 (Nat.lt_succ_self _) (Nat.le_refl _)
                        have dHS := Lib.hid (show _ ∧ _ ∧ _ from ⟨ds1, ds2, ds3⟩)
                        have dHR := Lib.hid (show _ ∧ _ ∧ _ ∧ _ from ⟨dr1, dr2, dr3, dqq⟩)
                        have dc := dho.four
                        obtain ⟨⟨do0, do1, do2, do3⟩, df⟩ := dc
                        have dlt := dho.lt
                        clear ds1 ds2 ds3 dr1 dr2 dr3 dqq dho
                        clear hI3
                        go_wp2_with (at_builtin; refine wpList_append_lies _ rfl _ _ 58 rfl (w.heap.size + 1) 23 il _ 1 24 Try.underlying58 hil hzl0 hzl1 hzl2 rfl (by decide) (.slice dBn nx.length dkn) nx.length dvs rfl (rows_below (rows_below (rows_below dHR.out.2.2.1 (below_alloc _ _)) (below_alloc _ _)) (below_alloc _ _)) ⟨wc.heap.size + 1 + 1, 0, none⟩ 1 1 [.slice (some ⟨wc.heap.size + 1, 0, none⟩) 1 1] rfl rfl (World.news_of_block (cs := #[.slice (some ⟨wc.heap.size + 1, 0, none⟩) 1 1]) (t := 23) (fr := (0, 0)) (by simpa using heap_alloc_new ((wc.alloc (.cells #[.int .i64 ((acc.length : Int) + (t : Int) + 1)] 2)).alloc (.cells #[.slice (some ⟨wc.heap.size, 0, none⟩) 1 1] 47)) (.cells #[.slice (some ⟨wc.heap.size + 1, 0, none⟩) 1 1] 23))) (by simp [Value.oneCell']) (by omega) (by unfold maxLen; omega) (by omega) (by simp; omega) (wc.heap.size + 1 + 1 + 1) (by simp) ?_; intro g7 cap7 w7 hown7 hgrow7 hat7 hlt7; have p7 := grown_cell hgrow7 dHR.out.2.2.2.2.2 (below_keep (below_step (below_step (below_alloc wc _) (below_alloc _ _)) (below_alloc _ _)) do3); have p8 := grown_free hgrow7 dHR.out.2.2.2.2.2 (by simp; omega) (below_keepf (below_step (below_step (below_alloc wc _) (below_alloc _ _)) (below_alloc _ _)) dlt (df 3)); have p9 := World.block_lt_of_cell? _ _ p7; have HS4 := Lib.hid (dHS.out.2.2 ((acc.length : Int) + (t : Int) + 1) w7 g7 cap7 hgrow7 hown7 hat7); clear hown7 hgrow7 hat7 hlt7)
                        clear do0 do1 do2 do3 df dlt p7 p8 p9
                        go_roundw
                        case rel => exact ⟨t + 1, by omega, by go_num, by rw [HAC.out, HNX.out]; exact HS4.out⟩
                        case measure => simp [intOf]; omega
                  · have et : t = c.length := by omega
                    subst et
                    rw [List.take_length] at hI2
                    have HI2 := Lib.hid hI2
                    clear hI2
                    go_wp2
                    go_roundw
                    case rel => exact ⟨k + 1, by omega, by go_num, by rw [HADD.out]; exact HI2.out⟩
                    case measure => simp [intOf]; omega
              · have ek : k = cs.length := by omega
                subst ek
                rw [List.take_length] at hI
                obtain ⟨m, hm⟩ : ∃ m, manyC cs = m := ⟨_, rfl⟩
                rw [hm] at hI HE
                clear hm a3
                obtain ⟨L, st, acc, next⟩ := m
                have HI := Lib.hid hI
                clear hI
                obtain ⟨⟨z0, z1, z2, z3⟩, zf⟩ := HI.out.2.1.four
                have lz := HI.out.2.1.lt
                obtain ⟨hbx, hzx, Xs, xs, Xa, xa, Xn, xn, ys, ya, yn, hox, hx1, hx2, hx3, hdx, hpx⟩ := HI.out
                obtain ⟨⟨x0, x1, x2, x3⟩, -⟩ := hox.four
                have lx := hox.lt
                have HXX := Lib.hid (show OwM wr (w.heap.size + 1) (.agg #[.int .i64 L, .slice Xs st.length xs, .slice Xa acc.length xa, .slice Xn next.length xn]) ⟨L, st, acc, next⟩ _ from ⟨_, _, _, ys, ya, yn, rfl, hx1, hx2, hx3, rfl, by simpa [List.append_assoc] using hdx⟩)
                clear hbx hzx hox hx1 hx2 hx3 hdx hpx
                go_wp2
                obtain ⟨W2, hW2, ⟨y0, y1, y2, y3⟩, eO, eB⟩ := stored4M HI.out.2.1 HXX.out (Nat.lt_succ_self _) (Nat.le_refl _) HI.out.1
                rw [← hW2]
                clear hW2
                refine bodyPost_ret (v := .tuple #[.agg #[.int .i64 L, .slice Xs st.length xs, .slice Xa acc.length xa, .slice Xn next.length xn], .int .i64 0]) (by simp [results, Try.results40, go_sem, y0, y1, y2, y3]) rfl ?_
                rw [HE.out]
                exact ⟨_, rfl, eO.rd, eB⟩
  · have hok' : within (cs.length : Int) 1 4 = false := by simpa using hok
    have HE := Lib.hid (show cycsRes cs = (⟨0, [], [], []⟩, 2) by rw [cycsRes, okCycs, hok']; rfl)
    rw [hok'] at HIN
    clear hok hok' a3
    have HO := Lib.hid (owM_zero (w.alloc (.cells #[.int .i64 0, .slice none 0 0, .slice none 0 0, .slice none 0 0] 60)) w.heap.size)
    obtain ⟨⟨y0, y1, y2, y3⟩, -⟩ := HZ0.out.2.four
    go_enter Try.func40, Try.ntmps40
    go_wp2_with (go_at_call 78; (with_reducible refine (HIN.out _).mono ?_); rintro e w' ⟨rfl, rfl⟩)
    refine wp_loop_rounds 1 ?_
    rw [rounds_succ]
    by_cases h0 : (0 : Int) < cs.length
    · go_wp2
      refine bodyPost_ret (v := .tuple #[.agg #[.int .i64 0, .slice none 0 0, .slice none 0 0, .slice none 0 0], .int .i64 2]) (by simp [results, Try.results40, go_sem, y0, y1, y2, y3]) rfl ?_
      rw [HE.out]
      exact ⟨_, rfl, HO.out.rd, HZ0.out.1⟩
    · go_wp2
      refine bodyPost_ret (v := .tuple #[.agg #[.int .i64 0, .slice none 0 0, .slice none 0 0, .slice none 0 0], .int .i64 2]) (by simp [results, Try.results40, go_sem, y0, y1, y2, y3]) rfl ?_
      rw [HE.out]
      exact ⟨_, rfl, HO.out.rd, HZ0.out.1⟩
end Go.Proofs.Ytjojmlaipcbmkaa
