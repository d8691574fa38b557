/-
  ManyOfCycles: the program's answer.
-/
import Derived.Test.YtjojmlaipcbmkaaMc1
import Derived.Test.YtjojmlaipcbmkaaCl
namespace Go.Proofs.Ytjojmlaipcbmkaa
open Go.RowKit

/-- An automaton's four values stored into a box below all that it leads to. -/
theorem stored4M {w wr : World} {z lo : Nat} {L : Int} {A0 A1 A2 : Option Addr} {n0 n1 n2 k0 k1 k2 : Nat} {r : MData} {bs : List Nat} {z0 z1 z2 z3 : Value}
    (hz : Row wr z 60 [z0, z1, z2, z3]) (hO : OwM wr lo (.agg #[.int .i64 L, .slice A0 n0 k0, .slice A1 n1 k1, .slice A2 n2 k2]) r bs) (hlo : z < lo) (hw : w.heap.size ≤ z) (hb : Below w.heap.size w wr) :
    ∃ W2, W2 = ((((wr.setCell ⟨z, 0, none⟩ (.int .i64 L)).setCell ⟨z, 1, none⟩ (.slice A0 n0 k0)).setCell ⟨z, 2, none⟩ (.slice A1 n1 k1)).setCell ⟨z, 3, none⟩ (.slice A2 n2 k2)) ∧
      (W2.cell? ⟨z, 0, none⟩ = some (.int .i64 L) ∧ W2.cell? ⟨z, 1, none⟩ = some (.slice A0 n0 k0) ∧ W2.cell? ⟨z, 2, none⟩ = some (.slice A1 n1 k1) ∧ W2.cell? ⟨z, 3, none⟩ = some (.slice A2 n2 k2)) ∧
      OwM W2 w.heap.size (.agg #[.int .i64 L, .slice A0 n0 k0, .slice A1 n1 k1, .slice A2 n2 k2]) r bs ∧ Below w.heap.size w W2 := by
  have rF := ((((hz.stored 0 (.int .i64 L)).stored 1 (.slice A0 n0 k0)).stored 2 (.slice A1 n1 k1)).stored 3 (.slice A2 n2 k2))
  have eO := (goodM.under (a := ⟨z, 3, none⟩) (goodM.under (a := ⟨z, 2, none⟩) (goodM.under (a := ⟨z, 1, none⟩) (goodM.under (a := ⟨z, 0, none⟩) hO hlo (.int .i64 L)) hlo (.slice A0 n0 k0)) hlo (.slice A1 n1 k1)) hlo (.slice A2 n2 k2))
  have eB := ((((hb.setCell (p := ⟨z, 0, none⟩) hw (.int .i64 L)).setCell (p := ⟨z, 1, none⟩) hw (.slice A0 n0 k0)).setCell (p := ⟨z, 2, none⟩) hw (.slice A1 n1 k1)).setCell (p := ⟨z, 3, none⟩) hw (.slice A2 n2 k2))
  obtain ⟨⟨y0, y1, y2, y3⟩, -⟩ := Row.four (a := .int .i64 L) (b := .slice A0 n0 k0) (c := .slice A1 n1 k1) (d := .slice A2 n2 k2) rF
  exact ⟨_, rfl, ⟨y0, y1, y2, y3⟩, goodM.mono eO (by omega), eB⟩
theorem owM_zero (w : World) (lo : Nat) : OwM w lo (.agg #[.int .i64 0, .slice none 0 0, .slice none 0 0, .slice none 0 0]) ⟨0, [], [], []⟩ [] :=
  ⟨_, _, _, [], [], [], rfl, owV_nil ints [] rfl _ _ _, owV_nil bools [] rfl _ _ _, owL_nil _ _ _ _, rfl, by simp⟩

set_option maxRecDepth 100000 in
set_option maxHeartbeats 6400000 in
theorem implMoc_own (v : Value) (cs : List (List Bool)) (w : World) (h : RdBB w v cs) (hs : BBSmall cs) :
    Calls Try.prog 42 #[v] w fun e w' => ∃ u bs, e = .returned (.tuple #[u, .int .i64 (cycsRes cs).2]) ∧ OwM w' w.heap.size u (cycsRes cs).1 bs ∧ Below w.heap.size w w' := by
  obtain ⟨ii, hii, hzi0, hzi1, hzi2⟩ := info_parts infoI64
  obtain ⟨ib, hib, hzb0, hzb1, hzb2⟩ := info_parts infoBool
  obtain ⟨il, hil, hzl0, hzl1, hzl2⟩ := info_parts infoIIs
  have hn : (cs.length : Int) ≤ 11728124029610 := by have := hs.1; omega
  have hcl : ∀ c ∈ cs, (c.length : Int) ≤ 281474976710656 := fun c hc => by have := hs.2 c hc; omega
  obtain ⟨A, kA, rfl, a1, a2, a3⟩ := RdL.open h
  unfold maxLen at a2
  have HZ0 := Lib.hid (show _ ∧ _ from ⟨below_alloc w (.cells #[.int .i64 0, .slice none 0 0, .slice none 0 0, .slice none 0 0] 60), Row.new w [.int .i64 0, .slice none 0 0, .slice none 0 0, .slice none 0 0] 60⟩)
  have HBX := Lib.hid (show McI w (w.heap.size + 1) (w.heap.size + 1) ⟨1, [], [], []⟩ ((w.alloc (.cells #[.int .i64 0, .slice none 0 0, .slice none 0 0, .slice none 0 0] 60)).alloc (.cells #[.int .i64 1, .slice none 0 0, .slice none 0 0, .slice none 0 0] 60)) from by
    have hst := BoxM.start (w.alloc (.cells #[.int .i64 0, .slice none 0 0, .slice none 0 0, .slice none 0 0] 60)) 1 (w.heap.size + 1)
    rw [show (w.alloc (.cells #[.int .i64 0, .slice none 0 0, .slice none 0 0, .slice none 0 0] 60)).heap.size = w.heap.size + 1 by simp] at hst
    exact ⟨below_step (below_alloc _ _) (below_alloc _ _), (Row.new w _ _).alloc _, hst⟩)
  have HCL := Lib.hid hcl
  clear h hs hcl
  have HIC := Lib.hid (fun W => isCountI_any (cs.length : Int) 4 W)
  by_cases hok : within (cs.length : Int) 1 4 = true
  · have HOK := Lib.hid hok
    have n4 : cs.length ≤ 4 := by simp only [within, decide_eq_true_eq] at hok; omega
    rw [hok] at HIC
    clear hok
    go_enter Try.func42, Try.ntmps42
    go_wp2_with (go_at_call 82; refine (HIC.out _).mono ?_; rintro e w' ⟨rfl, rfl⟩)
    generalize (w.alloc (.cells #[.int .i64 0, .slice none 0 0, .slice none 0 0, .slice none 0 0] 60)).alloc (.cells #[.int .i64 1, .slice none 0 0, .slice none 0 0, .slice none 0 0] 60) = w1 at *
    go_loopw [17] (fun i wr => ∃ k : Nat, k ≤ cs.length ∧ i = .int .i64 k ∧ (∀ c ∈ cs.take k, okCyc c = true) ∧ McI w (w.heap.size + 1) (w.heap.size + 1) (manyC (cs.take k)) wr) (fun i _ => cs.length - (intOf i).toNat)
    case atStart => exact ⟨0, Nat.zero_le _, rfl, by simp, HBX.out⟩
    case round =>
      obtain ⟨k, hk, rfl, hall, hI⟩ := hrel
      have HALL := Lib.hid hall
      by_cases hlt : k < cs.length
      · obtain ⟨b, off, u, c, rfl, hx, hc0, hR⟩ := a3 k hlt
        have hc0' := below_keep hI.1 hc0
        have hRc := keepsB _ _ _ _ hR hI.1
        have hRw := hR
        obtain ⟨Ac, kc, rfl, r1, r2, r3⟩ := RdB.open hR
        unfold maxLen at r2
        have hcn := HCL.out c (List.mem_of_getElem? hx)
        have HX := Lib.hid hx
        have HI := Lib.hid hI
        have HICc := Lib.hid (fun W => isCountI_any (c.length : Int) 12 W)
        have i1 : (0 : Int) ≤ k := by omega
        have i2 : (k : Int) < cs.length := by omega
        obtain ⟨y, hy⟩ : ∃ y, okCyc c = y := ⟨_, rfl⟩
        have hy2 : within (c.length : Int) 1 12 = y := hy
        rw [hy2] at HICc
        have HY := Lib.hid hy
        clear hy hy2 hc0 hx hR
        cases y
        · have HE := Lib.hid (show cycsRes cs = (⟨0, [], [], []⟩, 2) by
            rw [cycsRes, if_neg]
            rw [okCycs, List.all_eq_false.2 ⟨c, List.mem_of_getElem? HX.out, by simp [HY.out]⟩]; simp)
          have HZ := Lib.hid (show _ ∧ _ from ⟨hI.1, hI.2.1⟩)
          clear hI a3 r3 hRc
          obtain ⟨⟨z0, z1, z2, z3⟩, zf⟩ := HZ.out.2.four
          have lz := HZ.out.2.lt
          go_wp2_with (go_at_call 82; refine (HICc.out _).mono ?_; rintro e w' ⟨rfl, rfl⟩)
          obtain ⟨W2, hW2, ⟨y0, y1, y2, y3⟩, eO, eB⟩ := stored4M HZ.out.2 (owM_zero wr (w.heap.size + 1)) (Nat.lt_succ_self _) (Nat.le_refl _) HZ.out.1
          rw [← hW2]
          clear hW2
          refine bodyPost_ret (v := .tuple #[.agg #[.int .i64 0, .slice none 0 0, .slice none 0 0, .slice none 0 0], .int .i64 2]) (by simp [results, Try.results42, go_sem, y0, y1, y2, y3]) rfl ?_
          rw [HE.out]
          first | exact ⟨_, _, rfl, eO, eB⟩ | exact ⟨_, rfl, ⟨_, eO⟩, eB⟩
        · have hcp := okCyc_parts HY.out
          obtain ⟨m, hm⟩ : ∃ m, manyC (cs.take k) = m := ⟨_, rfl⟩
          have hinv := manyC_inv hall
          rw [hm] at hinv hI
          have HM := Lib.hid hm
          clear hm hall HI
          obtain ⟨L, st, acc, next⟩ := m
          simp only at hinv
          obtain ⟨v1, v2, v3, v4⟩ := hinv
          subst v4
          have t1 : (cs.take k).length ≤ 4 := by rw [List.length_take]; omega
          have b1 : acc.length ≤ 48 := by omega
          have b2 : st.length ≤ 4 := by omega
          have b3 : next.length ≤ 48 := by omega
          have hadd : manyC (cs.take (k + 1)) = ⟨1, st ++ [(acc.length : Int)], acc ++ c, next ++ ringRows acc.length c.length c.length⟩ := by rw [manyC_succ HX.out, HM.out]; rfl
          have HADD := Lib.hid hadd
          clear hadd v1 v2 v3 t1
          obtain ⟨cb, co, z0, rfl, -, -⟩ := r3 0 (by omega)
          have HKC := Lib.hid hRw
          have HB0 := Lib.hid hI.1
          have hsz := hI.1.size
          obtain ⟨eBs, eks, eBa, eka, eBn, ekn, evs, eho, er1, er2, er3, eqq, es1, es2, es3⟩ := McI.open hI (Nat.lt_succ_self _) (Nat.le_refl _)
          have eHS := Lib.hid (show _ ∧ _ ∧ _ from ⟨es1, es2, es3⟩)
          have eHR := Lib.hid (show _ ∧ _ ∧ _ ∧ _ from ⟨er1, er2, er3, eqq⟩)
          have ec := eho.four
          obtain ⟨⟨eo0, eo1, eo2, eo3⟩, ef⟩ := ec
          have elt := eho.lt
          clear es1 es2 es3 er1 er2 er3 eqq eho
          clear hI hRc r3 a3
          go_wp2_with (first
            | (go_at_call 82; refine (HICc.out _).mono ?_; rintro e w' ⟨rfl, rfl⟩)
            | (at_builtin; first
              | (refine wpList_append_lies _ rfl _ _ 47 rfl (w.heap.size + 1) 2 ii _ 1 8 Try.underlying47 hii hzi0 hzi1 hzi2 rfl (by decide) (.slice eBs st.length eks) st.length _ rfl (rows_below eHR.out.1 (below_alloc _ _)) ⟨wr.heap.size, 0, none⟩ 1 1 [.int .i64 (acc.length : Int)] rfl rfl (World.news_of_block (cs := #[.int .i64 (acc.length : Int)]) (t := 2) (fr := (0, 0)) (heap_alloc_new wr _)) (by simp [Value.oneCell']) (by omega) (by unfold maxLen; omega) (by omega) (by simp; omega) (wr.heap.size + 1) (by simp) ?_; intro g1 cap1 w5 hown5 hgrow5 hat5 hlt5; have p1 := grown_cell hgrow5 eHR.out.2.2.2.1 (below_keep (below_alloc _ _) eo1); have p2 := grown_free hgrow5 eHR.out.2.2.2.1 (by simp; omega) (below_keepf (below_alloc _ _) elt (ef 1)); have p3 := World.block_lt_of_cell? _ _ p1; have HS1 := Lib.hid (show McI w (w.heap.size + 1) (w.heap.size + 1) ⟨1, st ++ [(acc.length : Int)], acc, next⟩ (w5.setCell ⟨w.heap.size + 1, 1, none⟩ (.slice (some ⟨g1, 0, none⟩) (st.length + 1) cap1)) from eHS.out.1 [(acc.length : Int)] _ w5 g1 cap1 _ (below_alloc _ _) hgrow5 hown5 hat5 (by simp)); clear hown5 hgrow5 hat5 hlt5; have hS1 := HS1.out; obtain ⟨dBs, dks, dBa, dka, dBn, dkn, dvs, dho, dr1, dr2, dr3, dqq, ds1, ds2, ds3⟩ := McI.open hS1 (Nat.lt_succ_self _) (Nat.le_refl _); have dHS := Lib.hid (show _ ∧ _ ∧ _ from ⟨ds1, ds2, ds3⟩); have dHR := Lib.hid (show _ ∧ _ ∧ _ ∧ _ from ⟨dr1, dr2, dr3, dqq⟩); have dc := dho.four; obtain ⟨⟨do0, do1, do2, do3⟩, df⟩ := dc; have dlt := dho.lt; clear ds1 ds2 ds3 dr1 dr2 dr3 dqq dho; have HNW := Lib.hid (show Rd _ (.slice (some ⟨cb, co, none⟩) c.length kc) (bools c) from keepsB _ _ _ _ HKC.out hS1.1); have sz5 := hS1.1.size; clear hS1 eo0 eo1 eo2 eo3 ef elt)
              | (refine wpList_append_lies _ rfl _ _ 22 rfl (w.heap.size + 1) 4 ib _ 1 1 Try.underlying22 hib hzb0 hzb1 hzb2 rfl (by decide) (.slice dBa acc.length dka) acc.length _ rfl dHR.out.2.1 ⟨cb, co, none⟩ c.length kc (bools c) rfl (by rw [bools_len, Nat.mul_one]) (rd_news HNW.out) (by intro u hu; obtain ⟨_, _, rfl⟩ := List.mem_map.1 hu; rfl) (by omega) (by unfold maxLen; omega) (by omega) (by omega) ((w5.setCell ⟨w.heap.size + 1, 1, none⟩ (.slice (some ⟨g1, 0, none⟩) (st.length + 1) cap1)).heap.size) (by simp) ?_; intro g2 cap2 w6 hown6 hgrow6 hat6 hlt6; have p4 := grown_cell hgrow6 dHR.out.2.2.2.2.1 do2; have p5 := grown_free hgrow6 dHR.out.2.2.2.2.1 dlt (df 2); have p6 := World.block_lt_of_cell? _ _ p4; have HS2 := Lib.hid (dHS.out.2.1 c _ w6 g2 cap2 _ (Below.refl _ _) hgrow6 hown6 hat6 (Nat.le_refl _)); clear hown6 hgrow6 hat6 hlt6; have hS2 := HS2.out; have o2r := hS2.2.2; clear do0 do1 do2 do3 df dlt)))
          obtain ⟨acc2, hacc2⟩ : ∃ a, acc ++ c = a := ⟨_, rfl⟩
          have HL2 := Lib.hid (show acc2.length = acc.length + c.length by rw [← hacc2, List.length_append])
          rw [hacc2] at HADD
          have hS3 := HS2.out
          rw [hacc2] at hS3
          have HS3 := Lib.hid hS3
          clear hS3 hS2 o2r p1 p2 p3 p4 p5 p6 sz5 hacc2 HS2 HS1 dHS dHR eHS eHR HNW
          generalize (w6.setCell ⟨w.heap.size + 1, 2, none⟩ (.slice (some ⟨g2, 0, none⟩) (acc.length + c.length) cap2)) = W3 at *
          go_loopw [8] (fun i wr => ∃ t : Nat, t + 1 ≤ c.length ∧ i = .int .i64 ((acc.length : Int) + (t : Int) + 1) ∧ McI w (w.heap.size + 1) (w.heap.size + 1) ⟨1, st ++ [(acc.length : Int)], acc2, next ++ ringRows acc.length c.length t⟩ wr) (fun i _ => acc.length + c.length - (intOf i).toNat)
          case atStart => exact ⟨0, by omega, by go_num, by simpa [ringRows] using HS3.out⟩
          case round =>
            obtain ⟨t, ht, rfl, hI2⟩ := hrel
            obtain ⟨nx, hnx⟩ : ∃ nx, next ++ ringRows acc.length c.length t = nx := ⟨_, rfl⟩
            have hnl : nx.length ≤ 60 := by rw [← hnx, List.length_append, ringRows_len]; omega
            rw [hnx] at hI2
            have HNX := Lib.hid (show next ++ ringRows acc.length c.length (t + 1) = nx ++ [[[ringTo acc.length c.length t]]] by rw [ringRows_succ, ← List.append_assoc, hnx])
            have hsz2 := hI2.1.size
            clear hnx
            obtain ⟨gBs, gks, gBa, gka, gBn, gkn, gvs, gho, gr1, gr2, gr3, gqq, gs1, gs2, gs3⟩ := McI.open hI2 (Nat.lt_succ_self _) (Nat.le_refl _)
            have gHS := Lib.hid (show _ ∧ _ ∧ _ from ⟨gs1, gs2, gs3⟩)
            have gHR := Lib.hid (show _ ∧ _ ∧ _ ∧ _ from ⟨gr1, gr2, gr3, gqq⟩)
            have gc := gho.four
            obtain ⟨⟨go0, go1, go2, go3⟩, gf⟩ := gc
            have glt := gho.lt
            clear gs1 gs2 gs3 gr1 gr2 gr3 gqq gho
            clear hI2
            by_cases hjl : ((acc.length : Int) + (t : Int) + 1) < (acc2.length : Int)
            · have HTO := Lib.hid (show t + 2 ≤ c.length ∧ ringTo acc.length c.length t = (acc.length : Int) + (t : Int) + 1 from by have e := HL2.out; exact ⟨by omega, by rw [ringTo, if_neg (by omega)]⟩)
              go_wp2_with (at_builtin; refine wpList_append_lies _ rfl _ _ 58 rfl (w.heap.size + 1) 23 il _ 1 24 Try.underlying58 hil hzl0 hzl1 hzl2 rfl (by decide) (.slice gBn nx.length gkn) nx.length gvs rfl (rows_below (rows_below (rows_below gHR.out.2.2.1 (below_alloc _ _)) (below_alloc _ _)) (below_alloc _ _)) ⟨wr.heap.size + 1 + 1, 0, none⟩ 1 1 [.slice (some ⟨wr.heap.size + 1, 0, none⟩) 1 1] rfl rfl (World.news_of_block (cs := #[.slice (some ⟨wr.heap.size + 1, 0, none⟩) 1 1]) (t := 23) (fr := (0, 0)) (by simpa using heap_alloc_new ((wr.alloc (.cells #[.int .i64 ((acc.length : Int) + (t : Int) + 1)] 2)).alloc (.cells #[.slice (some ⟨wr.heap.size, 0, none⟩) 1 1] 47)) (.cells #[.slice (some ⟨wr.heap.size + 1, 0, none⟩) 1 1] 23))) (by simp [Value.oneCell']) (by omega) (by unfold maxLen; omega) (by omega) (by simp; omega) (wr.heap.size + 1 + 1 + 1) (by simp) ?_; intro g7 cap7 w7 hown7 hgrow7 hat7 hlt7; have p7 := grown_cell hgrow7 gHR.out.2.2.2.2.2 (below_keep (below_step (below_step (below_alloc wr _) (below_alloc _ _)) (below_alloc _ _)) go3); have p8 := grown_free hgrow7 gHR.out.2.2.2.2.2 (by simp; omega) (below_keepf (below_step (below_step (below_alloc wr _) (below_alloc _ _)) (below_alloc _ _)) glt (gf 3)); have p9 := World.block_lt_of_cell? _ _ p7; have HS4 := Lib.hid (gHS.out.2.2 ((acc.length : Int) + (t : Int) + 1) w7 g7 cap7 hgrow7 hown7 hat7); clear hown7 hgrow7 hat7 hlt7)
              clear go0 go1 go2 go3 gf glt p7 p8 p9
              go_roundw
              case rel => exact ⟨t + 1, by have e := HTO.out.1; omega, by go_num, by rw [HNX.out, HTO.out.2]; exact HS4.out⟩
              case measure => have e := HTO.out.1; simp [intOf]; omega
            · have e1 : t + 1 = c.length := by have e := HL2.out; omega
              have HTO := Lib.hid (show t + 1 = c.length ∧ ringTo acc.length c.length t = (acc.length : Int) from ⟨e1, by rw [ringTo, if_pos e1]⟩)
              clear e1
              go_wp2_with (at_builtin; refine wpList_append_lies _ rfl _ _ 58 rfl (w.heap.size + 1) 23 il _ 1 24 Try.underlying58 hil hzl0 hzl1 hzl2 rfl (by decide) (.slice gBn nx.length gkn) nx.length gvs rfl (rows_below (rows_below (rows_below gHR.out.2.2.1 (below_alloc _ _)) (below_alloc _ _)) (below_alloc _ _)) ⟨wr.heap.size + 1 + 1, 0, none⟩ 1 1 [.slice (some ⟨wr.heap.size + 1, 0, none⟩) 1 1] rfl rfl (World.news_of_block (cs := #[.slice (some ⟨wr.heap.size + 1, 0, none⟩) 1 1]) (t := 23) (fr := (0, 0)) (by simpa using heap_alloc_new ((wr.alloc (.cells #[.int .i64 (acc.length : Int)] 2)).alloc (.cells #[.slice (some ⟨wr.heap.size, 0, none⟩) 1 1] 47)) (.cells #[.slice (some ⟨wr.heap.size + 1, 0, none⟩) 1 1] 23))) (by simp [Value.oneCell']) (by omega) (by unfold maxLen; omega) (by omega) (by simp; omega) (wr.heap.size + 1 + 1 + 1) (by simp) ?_; intro g7 cap7 w7 hown7 hgrow7 hat7 hlt7; have p7 := grown_cell hgrow7 gHR.out.2.2.2.2.2 (below_keep (below_step (below_step (below_alloc wr _) (below_alloc _ _)) (below_alloc _ _)) go3); have p8 := grown_free hgrow7 gHR.out.2.2.2.2.2 (by simp; omega) (below_keepf (below_step (below_step (below_alloc wr _) (below_alloc _ _)) (below_alloc _ _)) glt (gf 3)); have p9 := World.block_lt_of_cell? _ _ p7; have HS4 := Lib.hid (gHS.out.2.2 (acc.length : Int) w7 g7 cap7 hgrow7 hown7 hat7); clear hown7 hgrow7 hat7 hlt7)
              clear go0 go1 go2 go3 gf glt p7 p8 p9
              go_roundw
              case rel => exact ⟨k + 1, by omega, by go_num, by
                intro x hxm
                rw [take_succ_of HX.out] at hxm
                rcases List.mem_append.1 hxm with h | h
                · exact HALL.out x h
                · rw [List.mem_singleton.1 h]; exact HY.out, by
                have e5 := HNX.out
                rw [HTO.out.1, HTO.out.2] at e5
                rw [HADD.out, e5]
                exact HS4.out⟩
              case measure => simp [intOf]; omega
      · have ek : k = cs.length := by omega
        subst ek
        rw [List.take_length] at hI hall
        have hok2 : okCycs cs = true := by rw [okCycs, HOK.out]; simpa [List.all_eq_true] using hall
        obtain ⟨m, hm⟩ : ∃ m, manyC cs = m := ⟨_, rfl⟩
        have hinv := manyC_inv hall
        rw [hm] at hI hinv
        have HE0 := Lib.hid (show cycsRes cs = if 10 < m.acc.length then (⟨0, [], [], []⟩, 3) else (m, 0) by rw [cycsRes, if_pos hok2, hm])
        clear hm hok2 hall HALL a3 hinv
        obtain ⟨L, st, acc, next⟩ := m
        simp only at HE0
        have HI := Lib.hid hI
        obtain ⟨eBs, eks, eBa, eka, eBn, ekn, evs, eho, er1, er2, er3, eqq, es1, es2, es3⟩ := McI.open hI (Nat.lt_succ_self _) (Nat.le_refl _)
        have eHS := Lib.hid (show _ ∧ _ ∧ _ from ⟨es1, es2, es3⟩)
        have eHR := Lib.hid (show _ ∧ _ ∧ _ ∧ _ from ⟨er1, er2, er3, eqq⟩)
        have ec := eho.four
        obtain ⟨⟨eo0, eo1, eo2, eo3⟩, ef⟩ := ec
        have elt := eho.lt
        clear es1 es2 es3 er1 er2 er3 eqq eho
        clear hI
        by_cases h10 : (10 : Int) < (acc.length : Int)
        · have HE := Lib.hid (show cycsRes cs = (⟨0, [], [], []⟩, 3) by rw [HE0.out, if_pos (by omega)])
          have HZ := Lib.hid (show _ ∧ _ from ⟨HI.out.1, HI.out.2.1⟩)
          obtain ⟨⟨z0, z1, z2, z3⟩, zf⟩ := HZ.out.2.four
          have lz := HZ.out.2.lt
          go_wp2
          obtain ⟨W2, hW2, ⟨y0, y1, y2, y3⟩, eO, eB⟩ := stored4M HZ.out.2 (owM_zero wr (w.heap.size + 1)) (Nat.lt_succ_self _) (Nat.le_refl _) HZ.out.1
          rw [← hW2]
          clear hW2
          refine bodyPost_ret (v := .tuple #[.agg #[.int .i64 0, .slice none 0 0, .slice none 0 0, .slice none 0 0], .int .i64 3]) (by simp [results, Try.results42, go_sem, y0, y1, y2, y3]) rfl ?_
          rw [HE.out]
          first | exact ⟨_, _, rfl, eO, eB⟩ | exact ⟨_, rfl, ⟨_, eO⟩, eB⟩
        · have HE := Lib.hid (show cycsRes cs = (⟨L, st, acc, next⟩, 0) by rw [HE0.out, if_neg (by omega)])
          obtain ⟨⟨z0, z1, z2, z3⟩, zf⟩ := HI.out.2.1.four
          have lz := HI.out.2.1.lt
          clear eo0 eo1 eo2 eo3 ef elt eHR eHS
          obtain ⟨hbx, hzx, Xs, xs, Xa, xa, Xn, xn, ys, ya, yn, hox, hx1, hx2, hx3, hdx, hpx⟩ := HI.out
          obtain ⟨⟨x0, x1, x2, x3⟩, -⟩ := hox.four
          have lx := hox.lt
          have HXX := Lib.hid (show OwM wr (w.heap.size + 1) (.agg #[.int .i64 L, .slice Xs st.length xs, .slice Xa acc.length xa, .slice Xn next.length xn]) ⟨L, st, acc, next⟩ _ from ⟨_, _, _, ys, ya, yn, rfl, hx1, hx2, hx3, rfl, by simpa [List.append_assoc] using hdx⟩)
          clear hbx hzx hox hx1 hx2 hx3 hdx hpx
          go_wp2
          obtain ⟨W2, hW2, ⟨y0, y1, y2, y3⟩, eO, eB⟩ := stored4M HI.out.2.1 HXX.out (Nat.lt_succ_self _) (Nat.le_refl _) HI.out.1
          rw [← hW2]
          clear hW2
          refine bodyPost_ret (v := .tuple #[.agg #[.int .i64 L, .slice Xs st.length xs, .slice Xa acc.length xa, .slice Xn next.length xn], .int .i64 0]) (by simp [results, Try.results42, go_sem, y0, y1, y2, y3]) rfl ?_
          rw [HE.out]
          first | exact ⟨_, _, rfl, eO, eB⟩ | exact ⟨_, rfl, ⟨_, eO⟩, eB⟩
  · have hok' : within (cs.length : Int) 1 4 = false := by simpa using hok
    have HE := Lib.hid (show cycsRes cs = (⟨0, [], [], []⟩, 2) by rw [cycsRes, okCycs, hok']; rfl)
    rw [hok'] at HIC
    clear hok hok' a3
    have HO := Lib.hid (owM_zero (w.alloc (.cells #[.int .i64 0, .slice none 0 0, .slice none 0 0, .slice none 0 0] 60)) w.heap.size)
    obtain ⟨⟨y0, y1, y2, y3⟩, -⟩ := HZ0.out.2.four
    go_enter Try.func42, Try.ntmps42
    go_wp2_with (go_at_call 82; refine (HIC.out _).mono ?_; rintro e w' ⟨rfl, rfl⟩)
    refine bodyPost_ret (v := .tuple #[.agg #[.int .i64 0, .slice none 0 0, .slice none 0 0, .slice none 0 0], .int .i64 2]) (by simp [results, Try.results42, go_sem, y0, y1, y2, y3]) rfl ?_
    rw [HE.out]
    first | exact ⟨_, _, rfl, HO.out, HZ0.out.1⟩ | exact ⟨_, rfl, ⟨_, HO.out⟩, HZ0.out.1⟩
end Go.Proofs.Ytjojmlaipcbmkaa
