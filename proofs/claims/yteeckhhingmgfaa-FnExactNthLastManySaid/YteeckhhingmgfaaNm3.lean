/-
  Words with a certain letter from the end, as an automaton with many ways: the program's answer.
-/
import Derived.Test.YteeckhhingmgfaaNm2
import Derived.Test.YteeckhhingmgfaaNm4
namespace Go.Proofs.Yteeckhhingmgfaa
open Go.RowKit

/-- A state's lists so far, the others being empty. -/
def partM (f : Nat → List Int) (l c : Nat) : List (List Int) := (List.range c).map f ++ List.replicate (l - c) []
theorem partM_len {f : Nat → List Int} {l c : Nat} (h : c ≤ l) : (partM f l c).length = l := by simp [partM]; omega
theorem partM_zero (f : Nat → List Int) (l : Nat) : partM f l 0 = List.replicate l [] := by simp [partM]
theorem partM_full (n k l : Nat) : partM (nthL n k) l l = nthRowM n k l := by simp [partM, nthRowM]
theorem partM_at {f : Nat → List Int} {l c : Nat} (h : c < l) : (partM f l c)[c]? = some [] := by
  rw [partM, List.getElem?_append_right (by simp)]
  simp only [List.length_map, List.length_range, Nat.sub_self, List.getElem?_replicate]
  rw [if_pos (by omega)]
theorem partM_set {f : Nat → List Int} {l c : Nat} (h : c < l) : (partM f l c).set c (f c) = partM f l (c + 1) := by
  have e : l - c = (l - (c + 1)) + 1 := by omega
  rw [partM, partM, List.set_append, if_neg (by simp), e, List.replicate_succ]
  simp [List.range_succ]
theorem partM_keep {f : Nat → List Int} {l c : Nat} (h : c < l) (hf : f c = []) : partM f l c = partM f l (c + 1) := by
  have e : l - c = (l - (c + 1)) + 1 := by omega
  rw [partM, partM, List.range_succ, List.map_append, e, List.replicate_succ]
  simp [hf]

set_option maxRecDepth 100000 in
set_option maxHeartbeats 6400000 in
theorem implNm_own (L n : Int) (w : World) :
    Calls Try.prog 25 #[.int .i64 L, .int .i64 n] w fun e w' => ∃ u bs, e = .returned (.tuple #[u, .int .i64 (nthMRes L n).2]) ∧ OwM w' w.heap.size u (nthMRes L n).1 bs ∧ Below w.heap.size w w' := by
  obtain ⟨ii, hii, hzi0, hzi1, hzi2⟩ := info_parts infoI64
  obtain ⟨is, his, hzs0, hzs1, hzs2⟩ := info_parts infoIs
  obtain ⟨ib, hib, hzb0, hzb1, hzb2⟩ := info_parts infoBool
  obtain ⟨il, hil, hzl0, hzl1, hzl2⟩ := info_parts infoIIs
  have HN := Lib.hid (fun W => isNth_any L n W)
  by_cases hok : okNth L n = true
  · rw [hok] at HN
    obtain ⟨⟨l1, l2⟩, n1, n2⟩ := okNth_parts hok
    have hres : nthMRes L n = (nthM L.toNat n.toNat (n.toNat + 1), 0) := by rw [nthMRes, if_pos hok]
    obtain ⟨l, rfl⟩ : ∃ l : Nat, L = l := ⟨L.toNat, by omega⟩
    obtain ⟨m, rfl⟩ : ∃ m : Nat, n = m := ⟨n.toNat, by omega⟩
    have HE := Lib.hid (show nthMRes (l : Int) (m : Int) = (nthM l m (m + 1), 0) by rw [hres]; simp)
    have HS := Lib.hid (show NmI w (w.heap.size + 1) (w.heap.size + 2) (nthM l m 0) _ from NmI.start w (l : Int))
    clear hok hres
    go_enter Try.func25, Try.ntmps25
    go_wp2_with (go_at_call 64; refine (HN.out _).mono ?_; rintro e w' ⟨rfl, rfl⟩)
    generalize ((w.alloc (.cells #[.int .i64 0, .slice none 0 0, .slice none 0 0, .slice none 0 0] 43)).alloc (.cells #[.int .i64 0] 2)).alloc (.cells #[.int .i64 (l : Int), .slice (some ⟨w.heap.size + 1, 0, none⟩) 1 1, .slice none 0 0, .slice none 0 0] 43) = W0 at *
    go_loopw [20] (fun i wr => ∃ k : Nat, k ≤ m + 1 ∧ i = .int .i64 k ∧ NmI w (w.heap.size + 1) (w.heap.size + 2) (nthM l m k) wr) (fun i _ => m + 1 - (intOf i).toNat)
    case atStart => exact ⟨0, Nat.zero_le _, rfl, HS.out⟩
    case round =>
      clear HS
      obtain ⟨wo, hwo⟩ : ∃ wo, wo = wr := ⟨wr, rfl⟩
      subst hwo
      obtain ⟨k, hk, rfl, hI⟩ := hrel
      by_cases hlt : k ≤ m
      · have HI := Lib.hid hI
        have i1 : (0 : Int) ≤ k := by omega
        have i2 : (k : Int) < m + 1 := by omega
        have i3 : (k : Int) ≤ 8 := by omega
        clear hI
        have hmk := run_make_row' (P := Try.prog) 22 23 (.slice none 0 0) 24 Try.underlying22 infoIs rfl .i64 .i64 l (by omega) (by omega)
        have h0 := fam_whole (goodV ints 2) (lo := wo.heap.size) (Row.made wo (.slice none 0 0) l 23) (xs := partM (nthL m k) l 0) (bss := List.replicate l []) (by rw [partM_zero]; simp) (by simp) (by simp; unfold maxLen; omega) (fun i u y bb hu hy hbb => by
          rw [partM_zero] at hy
          simp only [List.getElem?_replicate] at hu hy hbb
          split at hu
          · rw [if_pos (by assumption)] at hy hbb
            cases hu; cases hy; cases hbb
            exact owV_nil ints [] rfl _ _ _
          · cases hu) (by simp) (Nat.le_refl _)
        rw [partM_len (Nat.zero_le _)] at h0
        have H0 := Lib.hid (show ∃ bs, OwIIm (wo.alloc (.cells (madeCells #[.slice none 0 0] l) 23)) wo.heap.size (.slice (some ⟨wo.heap.size, 0, none⟩) l l) (partM (nthL m k) l 0) bs from ⟨_, h0⟩)
        clear h0
        go_wp2
        clear hmk
        have HBM := Lib.hid (below_alloc wo (.cells (madeCells #[.slice none 0 0] l) 23))
        generalize wo.alloc (.cells (madeCells #[.slice none 0 0] l) 23) = W4 at *
        go_loopw [27] (fun i wi => ∃ c : Nat, c ≤ l ∧ i = .int .i64 c ∧ Below wo.heap.size wo wi ∧ ∃ bs, OwIIm wi wo.heap.size (.slice (some ⟨wo.heap.size, 0, none⟩) l l) (partM (nthL m k) l c) bs) (fun i _ => l - (intOf i).toNat)
        case atStart => exact ⟨0, Nat.zero_le _, rfl, HBM.out, H0.out⟩
        case round =>
          clear H0 HBM
          obtain ⟨c, hc, rfl, hb, bs, hO⟩ := hrel
          by_cases hlc : c < l
          · have hsz := hb.size
            have j1 : (0 : Int) ≤ c := by omega
            have j2 : (c : Int) < l := by omega
            have HP := Lib.hid (show (partM (nthL m k) l c).set c (nthL m k c) = partM (nthL m k) l (c + 1) from partM_set hlc)
            have hpl := partM_len (f := nthL m k) (Nat.le_of_lt hlc)
            have HQ := Lib.hid (show _ ∧ _ from ⟨hb, hO⟩)
            by_cases k0 : k = 0
            · have e0 : ((k : Int) == 0) = true := by rw [beq_iff_eq]; omega
              have e3 : ¬ (0 : Int) < k := by omega
              obtain ⟨g', cap', u, bu, hv, hcu, hfu, hgl, hlo, hRu, hgb, hsub, hset⟩ := OwL.memberNew (goodV ints 2) hO (partM_at hlc)
              rw [hpl] at hv
              cases hv
              obtain ⟨bs', hO', -⟩ := hset _ _ _ _ ((goodV ints 2).mono (rowLit wr [0] (by simp [maxLen])) (show wo.heap.size ≤ wr.heap.size by omega)) (fun k hk _ => (below_alloc wr (.cells #[.int .i64 0] 2)).block k hk) (fun c hc => by simp at hc; omega)
              have hbe := (below_step HQ.out.1 (below_alloc wr (.cells #[.int .i64 0] 2))).setCell (p := ⟨wo.heap.size, c, none⟩) (Nat.le_refl _) (.slice (some ⟨wr.heap.size, 0, none⟩) 1 1)
              have he2 := World.setCell_alloc_past (w := wr) (.cells #[.int .i64 0] 2) wo.heap.size c (.slice (some ⟨wr.heap.size, 0, none⟩) 1 1) (by omega)
              rw [show ((wr.alloc (.cells (ints [0]).toArray 2)).setCell ⟨wo.heap.size, c, none⟩ (.slice (some ⟨wr.heap.size, 0, none⟩) ([0] : List Int).length ([0] : List Int).length)) = _ from he2] at hO'
              rw [he2] at hbe
              by_cases c0 : c = 0
              · have e1 : ((c : Int) == 0) = true := by rw [beq_iff_eq]; omega
                have hv : nthL m k c = [0, 1] := by subst k0; subst c0; rfl
                have HK1 := Lib.hid (show ([0] : List Int) ++ [(k : Int) + 1] = [0, 1] by subst k0; rfl)
                rw [hv] at HP
                have HE1 := Lib.hid (show _ ∧ _ from ⟨hbe, hO'⟩)
                clear k0 c0 hO hRu hgb hsub hset hO' hbe he2 hv hb HQ
                go_upto_region 14 with fail
                clear hcu hfu hgl hlo
                generalize (wr.setCell ⟨wo.heap.size, c, none⟩ (.slice (some ⟨wr.heap.size, 0, none⟩) 1 1)).alloc (.cells #[.int .i64 0] 2) = W5 at *
                have hpl1 : ((partM (nthL m k) l c).set c [0]).length = l := by rw [List.length_set, hpl]
                have hat1 : ((partM (nthL m k) l c).set c [0])[c]? = some [0] := List.getElem?_set_self (by omega)
                obtain ⟨hgl, hlo, B, cb, hcu, hfu, hgb, hlb, hown, hset⟩ := memApp (show OwIIm W5 wo.heap.size (.slice (some ⟨wo.heap.size, 0, none⟩) ((partM (nthL m k) l c).set c [0]).length l) ((partM (nthL m k) l c).set c [0]) bs' by rw [hpl1]; exact HE1.out.2) hat1 ((k : Int) + 1)
                have hsz5 := HE1.out.1.size
                have HG := Lib.hid (show _ ∧ _ ∧ _ ∧ _ ∧ _ ∧ _ from ⟨hgb, hlb, hown, hset, below_keep (below_alloc W5 (.cells #[.int .i64 ((k : Int) + 1)] 2)) hcu, below_keepf (below_alloc W5 (.cells #[.int .i64 ((k : Int) + 1)] 2)) hgl hfu⟩)
                clear hgb hlb hown hset
                go_wp2_with (at_builtin; refine wpList_append_lies _ rfl _ _ 23 rfl wo.heap.size 2 ii _ 1 8 Try.underlying23 hii hzi0 hzi1 hzi2 rfl (by decide) (.slice B 1 cb) 1 _ rfl HG.out.2.2.1 ⟨W5.heap.size, 0, none⟩ 1 1 [.int .i64 ((k : Int) + 1)] rfl rfl (World.news_of_block (cs := #[.int .i64 ((k : Int) + 1)]) (t := 2) (fr := (0, 0)) (heap_alloc_new W5 _)) (by simp [Value.oneCell']) (by omega) (by unfold maxLen; omega) (by omega) (by simp; omega) (W5.heap.size + 1) (by simp) ?_; intro g3 cap3 w3 hown3 hgrow3 hat3 hlt3; have p1 := grown_cell hgrow3 HG.out.1 HG.out.2.2.2.2.1; have p2 := grown_free hgrow3 HG.out.1 (by simp; omega) HG.out.2.2.2.2.2; have HE3 := Lib.hid (show Below wo.heap.size wo (w3.setCell ⟨wo.heap.size, c, none⟩ (.slice (some ⟨g3, 0, none⟩) (1 + 1) cap3)) ∧ _ from ⟨((below_step HE1.out.1 (below_alloc W5 _)).trans (grown_below hgrow3 (by have := HE1.out.1.size; simp; omega) HG.out.2.1)).setCell (p := ⟨wo.heap.size, c, none⟩) (Nat.le_refl _) _, HG.out.2.2.2.1 w3 g3 cap3 hown3 hgrow3 hat3⟩); clear hown3 hgrow3 hat3 hlt3)
                go_roundw
                case rel =>
                  obtain ⟨hb3, bs3, hO3⟩ := HE3.out
                  rw [hpl1, List.set_set, HK1.out, HP.out] at hO3
                  exact ⟨c + 1, by omega, by go_num, hb3, bs3, hO3⟩
                case measure => simp [intOf]; omega
              · have e1 : ((c : Int) == 0) = false := by rw [beq_eq_false_iff_ne]; omega
                have hv : nthL m k c = [0] := nthL_0 k0 c0
                rw [hv] at HP
                rw [HP.out] at hO'
                have HE1 := Lib.hid (show _ ∧ _ from ⟨hbe, hO'⟩)
                clear k0 hO hRu hgb hsub hset hO' hbe he2 hv hb HQ
                go_wp2
                go_roundw
                case rel => exact ⟨c + 1, by omega, by go_num, HE1.out.1, _, HE1.out.2⟩
                case measure => simp [intOf]; omega
            · have e0 : ((k : Int) == 0) = false := by rw [beq_eq_false_iff_ne]; omega
              have e3 : (0 : Int) < k := by omega
              by_cases kn : k < m
              · have e1 : (k : Int) < m := by omega
                have hv : nthL m k c = [(k : Int) + 1] := nthL_lt k0 kn
                rw [hv] at HP
                clear hv hb hO
                go_upto_region 14 with fail
                obtain ⟨hgl, hlo, B, cb, hcu, hfu, hgb, hlb, hown, hset⟩ := memApp (show OwIIm wr wo.heap.size (.slice (some ⟨wo.heap.size, 0, none⟩) (partM (nthL m k) l c).length l) (partM (nthL m k) l c) bs by rw [hpl]; exact HQ.out.2) (partM_at hlc) ((k : Int) + 1)
                have HG := Lib.hid (show _ ∧ _ ∧ _ ∧ _ ∧ _ ∧ _ from ⟨hgb, hlb, hown, hset, below_keep (below_alloc wr (.cells #[.int .i64 ((k : Int) + 1)] 2)) hcu, below_keepf (below_alloc wr (.cells #[.int .i64 ((k : Int) + 1)] 2)) hgl hfu⟩)
                clear hgb hlb hown hset
                go_wp2_with (at_builtin; refine wpList_append_lies _ rfl _ _ 23 rfl wo.heap.size 2 ii _ 1 8 Try.underlying23 hii hzi0 hzi1 hzi2 rfl (by decide) (.slice B 0 cb) 0 _ rfl HG.out.2.2.1 ⟨wr.heap.size, 0, none⟩ 1 1 [.int .i64 ((k : Int) + 1)] rfl rfl (World.news_of_block (cs := #[.int .i64 ((k : Int) + 1)]) (t := 2) (fr := (0, 0)) (heap_alloc_new wr _)) (by simp [Value.oneCell']) (by omega) (by unfold maxLen; omega) (by omega) (by simp; omega) (wr.heap.size + 1) (by simp) ?_; intro g3 cap3 w3 hown3 hgrow3 hat3 hlt3; have p1 := grown_cell hgrow3 HG.out.1 HG.out.2.2.2.2.1; have p2 := grown_free hgrow3 HG.out.1 (by simp; omega) HG.out.2.2.2.2.2; have HE3 := Lib.hid (show Below wo.heap.size wo (w3.setCell ⟨wo.heap.size, c, none⟩ (.slice (some ⟨g3, 0, none⟩) (0 + 1) cap3)) ∧ _ from ⟨((below_step HQ.out.1 (below_alloc wr _)).trans (grown_below hgrow3 (by have := HQ.out.1.size; simp; omega) HG.out.2.1)).setCell (p := ⟨wo.heap.size, c, none⟩) (Nat.le_refl _) _, HG.out.2.2.2.1 w3 g3 cap3 hown3 hgrow3 hat3⟩); clear hown3 hgrow3 hat3 hlt3)
                go_roundw
                case rel =>
                  obtain ⟨hb3, bs3, hO3⟩ := HE3.out
                  rw [hpl, List.nil_append, HP.out] at hO3
                  exact ⟨c + 1, by omega, by go_num, hb3, bs3, hO3⟩
                case measure => simp [intOf]; omega
              · have e1 : ¬ (k : Int) < m := by omega
                have hv : nthL m k c = [] := nthL_ge k0 kn
                rw [partM_keep hlc hv] at HQ
                clear hv hb hO
                go_wp2
                go_roundw
                case rel => exact ⟨c + 1, by omega, by go_num, HQ.out.1, _, HQ.out.2⟩
                case measure => simp [intOf]; omega
          · obtain rfl : c = l := by omega
            obtain ⟨ac, hac⟩ : ∃ ac, (nthM c m k).acc = ac := ⟨_, rfl⟩
            obtain ⟨nx, hnx⟩ : ∃ nx, (nthM c m k).next = nx := ⟨_, rfl⟩
            have hM : nthM c m k = ⟨(c : Int), [0], ac, nx⟩ := by rw [← hac, ← hnx]; rfl
            have hal : ac.length = k := by rw [← hac]; simp [nthM]
            have hnl : nx.length = k := by rw [← hnx]; simp [nthM]
            have HM := Lib.hid (show nthM c m (k + 1) = ⟨(c : Int), [0], ac ++ [decide (k = m)], nx ++ [nthRowM m k c]⟩ by rw [nthM_succ, hac, hnx])
            rw [hM] at HI
            rw [partM_full] at hO
            have hIw := HI.out.below hb
            have HO := Lib.hid (show OwIIm wr wo.heap.size (.slice (some ⟨wo.heap.size, 0, none⟩) c c) (nthRowM m k c) bs ∧ wo.heap.size ≤ wr.heap.size from ⟨hO, hb.size⟩)
            have lpo := HI.out.2.2.lt
            clear hac hnx hM hO
            obtain ⟨Bs, ks, Ba, ka, Bn, kn, ho, pa, hacc⟩ := HI.out.both (Nat.lt_succ_self _) (Nat.le_succ _) hb HO.out.1
            have hwz := HI.out.1.size
            have hsz := hb.size
            have HA := Lib.hid (show _ ∧ _ from ⟨pa, hacc⟩)
            obtain ⟨⟨-, -, o2, -⟩, of⟩ := ho.four
            have f2 := of 2
            have lo2 := ho.lt
            rw [hal] at o2 HA
            rw [hnl] at HA
            clear pa hacc of ho hb hIw
            by_cases kz : k = m
            · have ez : ((k : Int) == (m : Int)) = true := by rw [beq_iff_eq]; omega
              rw [decide_eq_true kz] at HM
              clear kz
              have HKE := Lib.hid (below_keep (below_alloc wr (.cells #[.bool true] 4)) o2)
              have HKF := Lib.hid (below_keepf (below_alloc wr (.cells #[.bool true] 4)) lo2 f2)
              go_upto_region 17 with (at_builtin; refine wpList_append_lies _ rfl _ _ 40 rfl (w.heap.size + 1) 4 ib _ 1 1 Try.underlying40 hib hzb0 hzb1 hzb2 rfl (by decide) (.slice Ba k ka) k _ rfl (HA.out.2 true).1 ⟨wr.heap.size, 0, none⟩ 1 1 [.bool true] rfl rfl (World.news_of_block (cs := #[.bool true]) (t := 4) (fr := (0, 0)) (heap_alloc_new wr _)) (by simp [Value.oneCell']) (by omega) (by unfold maxLen; omega) (by omega) (by simp; omega) (wr.heap.size + 1) (by simp) ?_; intro g2 cap2 w6 hown6 hgrow6 hat6 hlt6; have p1 := grown_cell hgrow6 HA.out.1 HKE.out; have p2 := grown_free hgrow6 HA.out.1 (by simp; omega) HKF.out; have HE2 := Lib.hid ((HA.out.2 true).2 w6 g2 cap2 hgrow6 hown6 hat6); clear hown6 hgrow6 hat6 hlt6)
              obtain ⟨W3, hW3, hs3, hr3, pn, vs, hown3, hnext⟩ := HE2.out
              rw [← hW3]
              clear hW3 p1 p2 o2 f2 lo2 HE2 HKE HKF
              have HG := Lib.hid (show _ ∧ _ ∧ _ from ⟨pn, hown3, hnext⟩)
              obtain ⟨⟨-, -, -, o3⟩, of⟩ := hr3.four
              have f3 := of 3
              have lo3 := hr3.lt
              have HKE := Lib.hid (below_keep (below_alloc W3 (.cells #[.slice (some ⟨wo.heap.size, 0, none⟩) c c] 22)) o3)
              have HKF := Lib.hid (below_keepf (below_alloc W3 (.cells #[.slice (some ⟨wo.heap.size, 0, none⟩) c c] 22)) lo3 f3)
              clear pn hown3 hnext of hr3
              go_wp2_with (at_builtin; refine wpList_append_lies _ rfl _ _ 41 rfl (w.heap.size + 1) 22 il _ 1 24 Try.underlying41 hil hzl0 hzl1 hzl2 rfl (by decide) (.slice Bn k kn) k _ rfl HG.out.2.1 ⟨W3.heap.size, 0, none⟩ 1 1 [.slice (some ⟨wo.heap.size, 0, none⟩) c c] rfl rfl (World.news_of_block (cs := #[.slice (some ⟨wo.heap.size, 0, none⟩) c c]) (t := 22) (fr := (0, 0)) (heap_alloc_new W3 _)) (by simp [Value.oneCell']) (by omega) (by unfold maxLen; omega) (by omega) (by simp; omega) (W3.heap.size + 1) (by simp) ?_; intro g5 cap5 w5 hown5 hgrow5 hat5 hlt5; have p1 := grown_cell hgrow5 HG.out.1 HKE.out; have p2 := grown_free hgrow5 HG.out.1 (by simp; omega) HKF.out; have HE5 := Lib.hid (HG.out.2.2 w5 g5 cap5 hgrow5 hown5 hat5); clear hown5 hgrow5 hat5 hlt5)
              go_roundw
              case rel => exact ⟨k + 1, by omega, by go_num, by rw [HM.out]; exact HE5.out⟩
              case measure => simp [intOf]; omega
            · have ez : ((k : Int) == (m : Int)) = false := by rw [beq_eq_false_iff_ne]; omega
              rw [decide_eq_false kz] at HM
              have HKE := Lib.hid (below_keep (below_alloc wr (.cells #[.bool false] 4)) o2)
              have HKF := Lib.hid (below_keepf (below_alloc wr (.cells #[.bool false] 4)) lo2 f2)
              go_upto_region 17 with (at_builtin; refine wpList_append_lies _ rfl _ _ 40 rfl (w.heap.size + 1) 4 ib _ 1 1 Try.underlying40 hib hzb0 hzb1 hzb2 rfl (by decide) (.slice Ba k ka) k _ rfl (HA.out.2 false).1 ⟨wr.heap.size, 0, none⟩ 1 1 [.bool false] rfl rfl (World.news_of_block (cs := #[.bool false]) (t := 4) (fr := (0, 0)) (heap_alloc_new wr _)) (by simp [Value.oneCell']) (by omega) (by unfold maxLen; omega) (by omega) (by simp; omega) (wr.heap.size + 1) (by simp) ?_; intro g2 cap2 w6 hown6 hgrow6 hat6 hlt6; have p1 := grown_cell hgrow6 HA.out.1 HKE.out; have p2 := grown_free hgrow6 HA.out.1 (by simp; omega) HKF.out; have HE2 := Lib.hid ((HA.out.2 false).2 w6 g2 cap2 hgrow6 hown6 hat6); clear hown6 hgrow6 hat6 hlt6)
              obtain ⟨W3, hW3, hs3, hr3, pn, vs, hown3, hnext⟩ := HE2.out
              rw [← hW3]
              clear hW3 p1 p2 o2 f2 lo2 HE2 HKE HKF
              have HG := Lib.hid (show _ ∧ _ ∧ _ from ⟨pn, hown3, hnext⟩)
              obtain ⟨⟨-, -, -, o3⟩, of⟩ := hr3.four
              have f3 := of 3
              have lo3 := hr3.lt
              have HKE := Lib.hid (below_keep (below_alloc W3 (.cells #[.slice (some ⟨wo.heap.size, 0, none⟩) c c] 22)) o3)
              have HKF := Lib.hid (below_keepf (below_alloc W3 (.cells #[.slice (some ⟨wo.heap.size, 0, none⟩) c c] 22)) lo3 f3)
              clear pn hown3 hnext of hr3
              go_wp2_with (at_builtin; refine wpList_append_lies _ rfl _ _ 41 rfl (w.heap.size + 1) 22 il _ 1 24 Try.underlying41 hil hzl0 hzl1 hzl2 rfl (by decide) (.slice Bn k kn) k _ rfl HG.out.2.1 ⟨W3.heap.size, 0, none⟩ 1 1 [.slice (some ⟨wo.heap.size, 0, none⟩) c c] rfl rfl (World.news_of_block (cs := #[.slice (some ⟨wo.heap.size, 0, none⟩) c c]) (t := 22) (fr := (0, 0)) (heap_alloc_new W3 _)) (by simp [Value.oneCell']) (by omega) (by unfold maxLen; omega) (by omega) (by simp; omega) (W3.heap.size + 1) (by simp) ?_; intro g5 cap5 w5 hown5 hgrow5 hat5 hlt5; have p1 := grown_cell hgrow5 HG.out.1 HKE.out; have p2 := grown_free hgrow5 HG.out.1 (by simp; omega) HKF.out; have HE5 := Lib.hid (HG.out.2.2 w5 g5 cap5 hgrow5 hown5 hat5); clear hown5 hgrow5 hat5 hlt5)
              go_roundw
              case rel => exact ⟨k + 1, by omega, by go_num, by rw [HM.out]; exact HE5.out⟩
              case measure => simp [intOf]; omega
      · obtain rfl : k = m + 1 := by omega
        have HI := Lib.hid hI
        obtain ⟨hb, hz, Bs, ks, Ba, ka, Bn, kn, bs, ba, bn, ho, h1, h2, h3, hd, hp⟩ := hI
        obtain ⟨⟨x0, x1, x2, x3⟩, -⟩ := ho.four
        have lx := ho.lt
        obtain ⟨⟨z0, z1, z2, z3⟩, zf⟩ := hz.four
        have lz := hz.lt
        have HXX := Lib.hid (show OwM wo (w.heap.size + 1) (.agg #[.int .i64 (nthM l m (m + 1)).L, .slice Bs (nthM l m (m + 1)).st.length ks, .slice Ba (nthM l m (m + 1)).acc.length ka, .slice Bn (nthM l m (m + 1)).next.length kn]) (nthM l m (m + 1)) _ from ⟨_, _, _, bs, ba, bn, rfl, h1, h2, h3, rfl, by simpa [List.append_assoc] using hd⟩)
        clear hb hz ho h1 h2 h3 hd hp
        go_wp2
        obtain ⟨W2, hW2, ⟨y0, y1, y2, y3⟩, eO, eB⟩ := stored4M HI.out.2.1 HXX.out (Nat.lt_succ_self _) (Nat.le_refl _) HI.out.1
        rw [← hW2]
        clear hW2
        refine bodyPost_ret (v := .tuple #[.agg #[.int .i64 (nthM l m (m + 1)).L, .slice Bs (nthM l m (m + 1)).st.length ks, .slice Ba (nthM l m (m + 1)).acc.length ka, .slice Bn (nthM l m (m + 1)).next.length kn], .int .i64 0]) (by simp [results, Try.results25, go_sem, y0, y1, y2, y3]) rfl ?_
        rw [HE.out]
        exact ⟨_, _, rfl, eO, eB⟩
  · have hok' : okNth L n = false := by simpa using hok
    rw [hok'] at HN
    have HE := Lib.hid (show nthMRes L n = (⟨0, [], [], []⟩, 2) by rw [nthMRes, if_neg hok])
    clear hok hok'
    have HZ := Lib.hid (show _ ∧ _ from ⟨Row.new w [.int .i64 0, .slice none 0 0, .slice none 0 0, .slice none 0 0] 43, below_alloc w (.cells #[.int .i64 0, .slice none 0 0, .slice none 0 0, .slice none 0 0] 43)⟩)
    go_enter Try.func25, Try.ntmps25
    go_wp2_with (go_at_call 64; refine (HN.out _).mono ?_; rintro e w' ⟨rfl, rfl⟩)
    have HO := Lib.hid (owM_zero (w.alloc (.cells #[.int .i64 0, .slice none 0 0, .slice none 0 0, .slice none 0 0] 43)) w.heap.size)
    obtain ⟨⟨y0, y1, y2, y3⟩, -⟩ := HZ.out.1.four
    have lz := HZ.out.1.lt
    go_wp2
    refine bodyPost_ret (v := .tuple #[.agg #[.int .i64 0, .slice none 0 0, .slice none 0 0, .slice none 0 0], .int .i64 2]) (by simp [results, Try.results25, go_sem, y0, y1, y2, y3]) rfl ?_
    rw [HE.out]
    exact ⟨_, _, rfl, HO.out, HZ.out.2⟩
end Go.Proofs.Yteeckhhingmgfaa
