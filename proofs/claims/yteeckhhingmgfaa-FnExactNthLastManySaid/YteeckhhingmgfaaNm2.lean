/-
  Words with a certain letter from the end, as an automaton with many ways: the model's answer.
-/
import Derived.Test.YteeckhhingmgfaaNm1
import Derived.Deep.CutRange
namespace Go.Proofs.Yteeckhhingmgfaa
open Go.RowKit

theorem rowLit (w : World) (xs : List Int) (h : xs.length ≤ maxLen) : OwV ints 2 (w.alloc (.cells (ints xs).toArray 2)) w.heap.size (.slice (some ⟨w.heap.size, 0, none⟩) xs.length xs.length) xs [w.heap.size] := by
  have hr : Row (w.alloc (.cells (ints xs).toArray 2)) w.heap.size 2 (ints xs) := Row.new w (ints xs) 2
  have := hr.own (Nat.le_refl _) (by rw [ints_len]; exact h)
  rw [ints_len] at this
  exact ⟨this, by simp [blks, Value.ownBlock]⟩
theorem nthL_00 (n : Nat) : nthL n 0 0 = [0, 1] := rfl
theorem nthL_0 {n s l : Nat} (h : s = 0) (h2 : ¬ l = 0) : nthL n s l = [0] := by rw [nthL, if_pos h, if_neg h2]
theorem nthL_lt {n s l : Nat} (h : ¬ s = 0) (h2 : s < n) : nthL n s l = [(s : Int) + 1] := by rw [nthL, if_neg h, if_pos h2]
theorem nthL_ge {n s l : Nat} (h : ¬ s = 0) (h2 : ¬ s < n) : nthL n s l = [] := by rw [nthL, if_neg h, if_neg h2]

set_option maxRecDepth 100000 in
set_option maxHeartbeats 6400000 in
theorem specNm_rd (L n : Int) (w : World) :
    Calls Try.prog 24 #[.int .i64 L, .int .i64 n] w fun e w' => ∃ u, e = .returned (.tuple #[u, .int .i64 (nthMRes L n).2]) ∧ RdM w' u (nthMRes L n).1 ∧ Below w.heap.size w w' := by
  obtain ⟨ii, hii, hzi0, hzi1, hzi2⟩ := info_parts infoI64
  obtain ⟨is, his, hzs0, hzs1, hzs2⟩ := info_parts infoIs
  obtain ⟨ib, hib, hzb0, hzb1, hzb2⟩ := info_parts infoBool
  obtain ⟨il, hil, hzl0, hzl1, hzl2⟩ := info_parts infoIIs
  have HN := Lib.hid (fun W => l06Nth_any L n W)
  by_cases hok : okNth L n = true
  · rw [hok] at HN
    obtain ⟨⟨l1, l2⟩, n1, n2⟩ := okNth_parts hok
    have hres : nthMRes L n = (nthM L.toNat n.toNat (n.toNat + 1), 0) := by rw [nthMRes, if_pos hok]
    obtain ⟨l, rfl⟩ : ∃ l : Nat, L = l := ⟨L.toNat, by omega⟩
    obtain ⟨m, rfl⟩ : ∃ m : Nat, n = m := ⟨n.toNat, by omega⟩
    have HE := Lib.hid (show nthMRes (l : Int) (m : Int) = (nthM l m (m + 1), 0) by rw [hres]; simp)
    have HS := Lib.hid (show NmI w (w.heap.size + 1) (w.heap.size + 2) (nthM l m 0) _ from NmI.start w (l : Int))
    have hsz : (((w.alloc (.cells #[.int .i64 0, .slice none 0 0, .slice none 0 0, .slice none 0 0] 43)).alloc (.cells #[.int .i64 0] 2)).alloc (.cells #[.int .i64 (l : Int), .slice (some ⟨w.heap.size + 1, 0, none⟩) 1 1, .slice none 0 0, .slice none 0 0] 43)).heap.size = w.heap.size + 3 := by simp
    have HSZ := Lib.hid hsz
    clear hok hres hsz
    go_enter Try.func24, Try.ntmps24
    go_wp2_with (go_at_call 63; refine (HN.out _).mono ?_; rintro e w' ⟨rfl, rfl⟩)
    generalize ((w.alloc (.cells #[.int .i64 0, .slice none 0 0, .slice none 0 0, .slice none 0 0] 43)).alloc (.cells #[.int .i64 0] 2)).alloc (.cells #[.int .i64 (l : Int), .slice (some ⟨w.heap.size + 1, 0, none⟩) 1 1, .slice none 0 0, .slice none 0 0] 43) = W0 at *
    go_loopw [7] (fun i wr => ∃ k : Nat, k ≤ m + 1 ∧ i = .int .i64 k ∧ NmI w (w.heap.size + 1) (w.heap.size + 2) (nthM l m k) wr) (fun i _ => m + 1 - (intOf i).toNat)
    case atStart => exact ⟨0, Nat.zero_le _, rfl, HS.out⟩
    case round =>
      clear HS HSZ
      obtain ⟨wo, hwo⟩ : ∃ wo, wo = wr := ⟨wr, rfl⟩
      subst hwo
      obtain ⟨k, hk, rfl, hI⟩ := hrel
      by_cases hlt : k ≤ m
      · have HI := Lib.hid hI
        have H0 := Lib.hid (rowsI0 wo)
        have i1 : (0 : Int) ≤ k := by omega
        have i2 : (k : Int) ≤ m := by omega
        clear hI
        go_wp2
        have HB0 := Lib.hid (below_alloc wo (.cells #[] 23))
        generalize wo.alloc (.cells #[] 23) = W1 at *
        go_loopw [8, 9] (fun vl i wi => ∃ (c cl : Nat) (Bl : Option Addr), c ≤ l ∧ i = .int .i64 c ∧ vl = .slice Bl c cl ∧ Below wo.heap.size wo wi ∧ ∃ bs, OwL (OwV ints 2) 23 wi wo.heap.size (.slice Bl c cl) (nthRowM m k c) bs) (fun _ i _ => l - (intOf i).toNat)
        case atStart => exact ⟨0, 0, _, Nat.zero_le _, rfl, rfl, HB0.out, H0.out⟩
        case round =>
          clear H0 HB0
          obtain ⟨c, cl, Bl, hc, rfl, rfl, hb, bs, hO⟩ := hrel
          by_cases hlc : c < l
          · have HTC := Lib.hid (nthRowM_succ m k c)
            have hsz := hb.size
            have j1 : (0 : Int) ≤ c := by omega
            have j2 : (c : Int) < l := by omega
            by_cases k0 : k = 0
            · have e0 : ((k : Int) == 0) = true := by rw [beq_iff_eq]; omega
              by_cases c0 : c = 0
              · have e1 : ((c : Int) == 0) = true := by rw [beq_iff_eq]; omega
                have hv : nthL m k c = [0, 1] := by subst k0; subst c0; rfl
                clear k0 c0
                rw [hv] at HTC
                obtain ⟨vs, hown, hnext⟩ := addRowL hb hO (nthRowM_len m k c) (below_alloc wr (.cells #[.int .i64 0, .int .i64 1] 2)) (rowLit wr [0, 1] (by simp [maxLen])) (.cells #[.slice (some ⟨wr.heap.size, 0, none⟩) 2 2] 23)
                have HG := Lib.hid (show _ ∧ _ from ⟨hown, hnext⟩)
                clear hO hown hnext hb hv
                go_wp2_with (at_builtin; refine wpList_append_lies _ rfl _ _ 22 rfl wo.heap.size 23 is _ 1 24 Try.underlying22 his hzs0 hzs1 hzs2 rfl (by decide) (.slice Bl c cl) c _ rfl HG.out.1 ⟨wr.heap.size + 1, 0, none⟩ 1 1 [.slice (some ⟨wr.heap.size, 0, none⟩) 2 2] rfl rfl (World.news_of_block (cs := #[.slice (some ⟨wr.heap.size, 0, none⟩) 2 2]) (t := 23) (fr := (0, 0)) (by simpa using heap_alloc_new (wr.alloc (.cells #[.int .i64 0, .int .i64 1] 2)) (.cells #[.slice (some ⟨wr.heap.size, 0, none⟩) 2 2] 23))) (by simp [Value.oneCell']) (by omega) (by unfold maxLen; omega) (by omega) (by simp; omega) (wr.heap.size + 2) (by simp) ?_; intro g cap w5 hown5 hgrow5 hat5 hlt5; have HE := Lib.hid (HG.out.2 w5 g cap hgrow5 hown5 (hat5.imp id (fun h => h.trans (by simp)))); clear hown5 hgrow5 hat5 hlt5)
                go_roundw
                case rel => exact ⟨c + 1, _, _, by omega, by go_num, rfl, HE.out.1, by rw [HTC.out]; exact HE.out.2⟩
                case measure => simp [intOf]; omega
              · have e1 : ((c : Int) == 0) = false := by rw [beq_eq_false_iff_ne]; omega
                have hv : nthL m k c = [0] := nthL_0 k0 c0
                clear k0
                rw [hv] at HTC
                obtain ⟨vs, hown, hnext⟩ := addRowL hb hO (nthRowM_len m k c) (below_alloc wr (.cells #[.int .i64 0] 2)) (rowLit wr [0] (by simp [maxLen])) (.cells #[.slice (some ⟨wr.heap.size, 0, none⟩) 1 1] 23)
                have HG := Lib.hid (show _ ∧ _ from ⟨hown, hnext⟩)
                clear hO hown hnext hb hv
                go_wp2_with (at_builtin; refine wpList_append_lies _ rfl _ _ 22 rfl wo.heap.size 23 is _ 1 24 Try.underlying22 his hzs0 hzs1 hzs2 rfl (by decide) (.slice Bl c cl) c _ rfl HG.out.1 ⟨wr.heap.size + 1, 0, none⟩ 1 1 [.slice (some ⟨wr.heap.size, 0, none⟩) 1 1] rfl rfl (World.news_of_block (cs := #[.slice (some ⟨wr.heap.size, 0, none⟩) 1 1]) (t := 23) (fr := (0, 0)) (by simpa using heap_alloc_new (wr.alloc (.cells #[.int .i64 0] 2)) (.cells #[.slice (some ⟨wr.heap.size, 0, none⟩) 1 1] 23))) (by simp [Value.oneCell']) (by omega) (by unfold maxLen; omega) (by omega) (by simp; omega) (wr.heap.size + 2) (by simp) ?_; intro g cap w5 hown5 hgrow5 hat5 hlt5; have HE := Lib.hid (HG.out.2 w5 g cap hgrow5 hown5 (hat5.imp id (fun h => h.trans (by simp)))); clear hown5 hgrow5 hat5 hlt5)
                go_roundw
                case rel => exact ⟨c + 1, _, _, by omega, by go_num, rfl, HE.out.1, by rw [HTC.out]; exact HE.out.2⟩
                case measure => simp [intOf]; omega
            · have e0 : ((k : Int) == 0) = false := by rw [beq_eq_false_iff_ne]; omega
              by_cases kn : k < m
              · have e1 : (k : Int) < m := by omega
                have hv : nthL m k c = [(k : Int) + 1] := nthL_lt k0 kn
                rw [hv] at HTC
                obtain ⟨vs, hown, hnext⟩ := addRowL hb hO (nthRowM_len m k c) (below_alloc wr (.cells #[.int .i64 ((k : Int) + 1)] 2)) (rowLit wr [(k : Int) + 1] (by simp [maxLen])) (.cells #[.slice (some ⟨wr.heap.size, 0, none⟩) 1 1] 23)
                have HG := Lib.hid (show _ ∧ _ from ⟨hown, hnext⟩)
                clear hO hown hnext hb hv
                go_wp2_with (at_builtin; refine wpList_append_lies _ rfl _ _ 22 rfl wo.heap.size 23 is _ 1 24 Try.underlying22 his hzs0 hzs1 hzs2 rfl (by decide) (.slice Bl c cl) c _ rfl HG.out.1 ⟨wr.heap.size + 1, 0, none⟩ 1 1 [.slice (some ⟨wr.heap.size, 0, none⟩) 1 1] rfl rfl (World.news_of_block (cs := #[.slice (some ⟨wr.heap.size, 0, none⟩) 1 1]) (t := 23) (fr := (0, 0)) (by simpa using heap_alloc_new (wr.alloc (.cells #[.int .i64 ((k : Int) + 1)] 2)) (.cells #[.slice (some ⟨wr.heap.size, 0, none⟩) 1 1] 23))) (by simp [Value.oneCell']) (by omega) (by unfold maxLen; omega) (by omega) (by simp; omega) (wr.heap.size + 2) (by simp) ?_; intro g cap w5 hown5 hgrow5 hat5 hlt5; have HE := Lib.hid (HG.out.2 w5 g cap hgrow5 hown5 (hat5.imp id (fun h => h.trans (by simp)))); clear hown5 hgrow5 hat5 hlt5)
                go_roundw
                case rel => exact ⟨c + 1, _, _, by omega, by go_num, rfl, HE.out.1, by rw [HTC.out]; exact HE.out.2⟩
                case measure => simp [intOf]; omega
              · have e1 : ¬ (k : Int) < m := by omega
                have hv : nthL m k c = [] := nthL_ge k0 kn
                rw [hv] at HTC
                obtain ⟨vs, hown, hnext⟩ := addRowL hb hO (nthRowM_len m k c) (below_alloc wr (.cells #[] 2)) (rowLit wr [] (by simp [maxLen])) (.cells #[.slice (some ⟨wr.heap.size, 0, none⟩) 0 0] 23)
                have HG := Lib.hid (show _ ∧ _ from ⟨hown, hnext⟩)
                clear hO hown hnext hb hv
                go_wp2_with (at_builtin; refine wpList_append_lies _ rfl _ _ 22 rfl wo.heap.size 23 is _ 1 24 Try.underlying22 his hzs0 hzs1 hzs2 rfl (by decide) (.slice Bl c cl) c _ rfl HG.out.1 ⟨wr.heap.size + 1, 0, none⟩ 1 1 [.slice (some ⟨wr.heap.size, 0, none⟩) 0 0] rfl rfl (World.news_of_block (cs := #[.slice (some ⟨wr.heap.size, 0, none⟩) 0 0]) (t := 23) (fr := (0, 0)) (by simpa using heap_alloc_new (wr.alloc (.cells #[] 2)) (.cells #[.slice (some ⟨wr.heap.size, 0, none⟩) 0 0] 23))) (by simp [Value.oneCell']) (by omega) (by unfold maxLen; omega) (by omega) (by simp; omega) (wr.heap.size + 2) (by simp) ?_; intro g cap w5 hown5 hgrow5 hat5 hlt5; have HE := Lib.hid (HG.out.2 w5 g cap hgrow5 hown5 (hat5.imp id (fun h => h.trans (by simp)))); clear hown5 hgrow5 hat5 hlt5)
                go_roundw
                case rel => exact ⟨c + 1, _, _, by omega, by go_num, rfl, HE.out.1, by rw [HTC.out]; exact HE.out.2⟩
                case measure => simp [intOf]; omega
          · obtain rfl : c = l := by omega
            obtain ⟨ac, hac⟩ : ∃ ac, (nthM c m k).acc = ac := ⟨_, rfl⟩
            obtain ⟨nx, hnx⟩ : ∃ nx, (nthM c m k).next = nx := ⟨_, rfl⟩
            have hM : nthM c m k = ⟨(c : Int), [0], ac, nx⟩ := by rw [← hac, ← hnx]; rfl
            have hal : ac.length = k := by rw [← hac]; simp [nthM]
            have hnl : nx.length = k := by rw [← hnx]; simp [nthM]
            have HM := Lib.hid (show nthM c m (k + 1) = ⟨(c : Int), [0], ac ++ [decide (k = m)], nx ++ [nthRowM m k c]⟩ by rw [nthM_succ, hac, hnx])
            rw [hM] at HI
            have lpo := HI.out.2.2.lt
            have hsz := hb.size
            have hwz := HI.out.1.size
            obtain ⟨Bs, ks, Ba, ka, Bn, kn, vs, ho, pn, hown, hnext⟩ := HI.out.next (Nat.lt_succ_self _) (Nat.le_succ _) hb hO
            have HG := Lib.hid (show _ ∧ _ ∧ _ from ⟨pn, hown, hnext⟩)
            obtain ⟨⟨-, -, -, o3⟩, of⟩ := ho.four
            have f3 := of 3
            have lo := ho.lt
            rw [hal] at ho
            rw [hnl] at o3 HG
            have HKE := Lib.hid (below_keep (below_alloc wr (.cells #[.slice Bl c cl] 22)) o3)
            have HKF := Lib.hid (below_keepf (below_alloc wr (.cells #[.slice Bl c cl] 22)) lo f3)
            clear hac hnx hM pn hown hnext of hO hb ho
            go_upto_region 19 with (at_builtin; refine wpList_append_lies _ rfl _ _ 41 rfl (w.heap.size + 1) 22 il _ 1 24 Try.underlying41 hil hzl0 hzl1 hzl2 rfl (by decide) (.slice Bn k kn) k _ rfl HG.out.2.1 ⟨wr.heap.size, 0, none⟩ 1 1 [.slice Bl c cl] rfl rfl (World.news_of_block (cs := #[.slice Bl c cl]) (t := 22) (fr := (0, 0)) (heap_alloc_new wr _)) (by simp [Value.oneCell']) (by omega) (by unfold maxLen; omega) (by omega) (by simp; omega) (wr.heap.size + 1) (by simp) ?_; intro g cap w5 hown5 hgrow5 hat5 hlt5; have p1 := grown_cell hgrow5 HG.out.1 HKE.out; have p2 := grown_free hgrow5 HG.out.1 (by simp; omega) HKF.out; have HE1 := Lib.hid (HG.out.2.2 w5 g cap hgrow5 hown5 hat5); clear hown5 hgrow5 hat5 hlt5)
            clear p1 p2 o3 f3 lo HG HKE HKF
            generalize w5.setCell ⟨w.heap.size + 2, 3, none⟩ _ = W3 at *
            obtain ⟨Bs2, ks2, Ba2, ka2, Bn2, kn2, ho2, pa, hacc⟩ := HE1.out.acc (Nat.lt_succ_self _) (Nat.le_succ _)
            have HA := Lib.hid (show _ ∧ _ from ⟨pa, hacc⟩)
            obtain ⟨⟨-, -, o2, -⟩, of⟩ := ho2.four
            have f2 := of 2
            have lo2 := ho2.lt
            rw [hal] at o2 HA
            clear pa hacc of ho2
            by_cases kz : k = m
            · have ez : ((k : Int) == (m : Int)) = true := by rw [beq_iff_eq]; omega
              rw [decide_eq_true kz] at HM
              clear kz
              have HKE := Lib.hid (below_keep (below_alloc W3 (.cells #[.bool true] 4)) o2)
              have HKF := Lib.hid (below_keepf (below_alloc W3 (.cells #[.bool true] 4)) lo2 f2)
              have hw3 := HE1.out.1.size
              go_wp2_with (at_builtin; refine wpList_append_lies _ rfl _ _ 40 rfl (w.heap.size + 1) 4 ib _ 1 1 Try.underlying40 hib hzb0 hzb1 hzb2 rfl (by decide) (.slice Ba2 k ka2) k _ rfl (HA.out.2 true).1 ⟨W3.heap.size, 0, none⟩ 1 1 [.bool true] rfl rfl (World.news_of_block (cs := #[.bool true]) (t := 4) (fr := (0, 0)) (heap_alloc_new W3 _)) (by simp [Value.oneCell']) (by omega) (by unfold maxLen; omega) (by omega) (by simp; omega) (W3.heap.size + 1) (by simp) ?_; intro g2 cap2 w6 hown6 hgrow6 hat6 hlt6; have p1 := grown_cell hgrow6 HA.out.1 HKE.out; have p2 := grown_free hgrow6 HA.out.1 (by simp; omega) HKF.out; have HE2 := Lib.hid ((HA.out.2 true).2 w6 g2 cap2 hgrow6 hown6 hat6); clear hown6 hgrow6 hat6 hlt6)
              go_roundw
              case rel => exact ⟨k + 1, by omega, by go_num, by rw [HM.out]; exact HE2.out⟩
              case measure => simp [intOf]; omega
            · have ez : ((k : Int) == (m : Int)) = false := by rw [beq_eq_false_iff_ne]; omega
              rw [decide_eq_false kz] at HM
              have HKE := Lib.hid (below_keep (below_alloc W3 (.cells #[.bool false] 4)) o2)
              have HKF := Lib.hid (below_keepf (below_alloc W3 (.cells #[.bool false] 4)) lo2 f2)
              have hw3 := HE1.out.1.size
              go_wp2_with (at_builtin; refine wpList_append_lies _ rfl _ _ 40 rfl (w.heap.size + 1) 4 ib _ 1 1 Try.underlying40 hib hzb0 hzb1 hzb2 rfl (by decide) (.slice Ba2 k ka2) k _ rfl (HA.out.2 false).1 ⟨W3.heap.size, 0, none⟩ 1 1 [.bool false] rfl rfl (World.news_of_block (cs := #[.bool false]) (t := 4) (fr := (0, 0)) (heap_alloc_new W3 _)) (by simp [Value.oneCell']) (by omega) (by unfold maxLen; omega) (by omega) (by simp; omega) (W3.heap.size + 1) (by simp) ?_; intro g2 cap2 w6 hown6 hgrow6 hat6 hlt6; have p1 := grown_cell hgrow6 HA.out.1 HKE.out; have p2 := grown_free hgrow6 HA.out.1 (by simp; omega) HKF.out; have HE2 := Lib.hid ((HA.out.2 false).2 w6 g2 cap2 hgrow6 hown6 hat6); clear hown6 hgrow6 hat6 hlt6)
              go_roundw
              case rel => exact ⟨k + 1, by omega, by go_num, by rw [HM.out]; exact HE2.out⟩
              case measure => simp [intOf]; omega
      · obtain rfl : k = m + 1 := by omega
        have HI := Lib.hid hI
        obtain ⟨hb, hz, Bs, ks, Ba, ka, Bn, kn, bs, ba, bn, ho, h1, h2, h3, hd, hp⟩ := hI
        obtain ⟨⟨x0, x1, x2, x3⟩, -⟩ := ho.four
        have lx := ho.lt
        obtain ⟨⟨z0, z1, z2, z3⟩, zf⟩ := hz.four
        have lz := hz.lt
        have HXX := Lib.hid (show OwM wo (w.heap.size + 1) (.agg #[.int .i64 (nthM l m (m + 1)).L, .slice Bs (nthM l m (m + 1)).st.length ks, .slice Ba (nthM l m (m + 1)).acc.length ka, .slice Bn (nthM l m (m + 1)).next.length kn]) (nthM l m (m + 1)) _ from ⟨_, _, _, bs, ba, bn, rfl, h1, h2, h3, rfl, by simpa [List.append_assoc] using hd⟩)
        clear hb hz ho h1 h2 h3 hd hp
        go_wp2
        obtain ⟨W2, hW2, ⟨y0, y1, y2, y3⟩, eO, eB⟩ := stored4M HI.out.2.1 HXX.out (Nat.lt_succ_self _) (Nat.le_refl _) HI.out.1
        rw [← hW2]
        clear hW2
        refine bodyPost_ret (v := .tuple #[.agg #[.int .i64 (nthM l m (m + 1)).L, .slice Bs (nthM l m (m + 1)).st.length ks, .slice Ba (nthM l m (m + 1)).acc.length ka, .slice Bn (nthM l m (m + 1)).next.length kn], .int .i64 0]) (by simp [results, Try.results24, go_sem, y0, y1, y2, y3]) rfl ?_
        rw [HE.out]
        exact ⟨_, rfl, eO.rd, eB⟩
  · have hok' : okNth L n = false := by simpa using hok
    rw [hok'] at HN
    have HE := Lib.hid (show nthMRes L n = (⟨0, [], [], []⟩, 2) by rw [nthMRes, if_neg hok])
    clear hok hok'
    have HZ := Lib.hid (show _ ∧ _ from ⟨Row.new w [.int .i64 0, .slice none 0 0, .slice none 0 0, .slice none 0 0] 43, below_alloc w (.cells #[.int .i64 0, .slice none 0 0, .slice none 0 0, .slice none 0 0] 43)⟩)
    go_enter Try.func24, Try.ntmps24
    go_wp2_with (go_at_call 63; refine (HN.out _).mono ?_; rintro e w' ⟨rfl, rfl⟩)
    have HO := Lib.hid (owM_zero (w.alloc (.cells #[.int .i64 0, .slice none 0 0, .slice none 0 0, .slice none 0 0] 43)) w.heap.size)
    obtain ⟨⟨y0, y1, y2, y3⟩, -⟩ := HZ.out.1.four
    have lz := HZ.out.1.lt
    go_wp2
    refine bodyPost_ret (v := .tuple #[.agg #[.int .i64 0, .slice none 0 0, .slice none 0 0, .slice none 0 0], .int .i64 2]) (by simp [results, Try.results24, go_sem, y0, y1, y2, y3]) rfl ?_
    rw [HE.out]
    exact ⟨_, rfl, HO.out.rd, HZ.out.2⟩
end Go.Proofs.Yteeckhhingmgfaa
