/-
  ReaderOfShape: the model's answer.
-/
import Derived.Test.YtjojmlaipcbmkaaRs2
import Derived.Test.YtjojmlaipcbmkaaT6
namespace Go.Proofs.Ytjojmlaipcbmkaa
open Go.RowKit

set_option maxRecDepth 100000 in
set_option maxHeartbeats 3200000 in
theorem specReaderOfShape_rd (tail : Int) (v : Value) (acc : List Bool) (w : World) (h : RdB w v acc) (hs : BSmall acc) :
    Calls Try.prog 35 #[.int .i64 tail, v] w fun e w' => ∃ u, e = .returned (.tuple #[u, .int .i64 (shapeRes tail acc).2]) ∧ RdR w' u (shapeRes tail acc).1 ∧ Below w.heap.size w w' := by
  obtain ⟨isl, his, hzs0, hzs1, hzs2⟩ := info_parts infoIs
  obtain ⟨ib, hib, hzb0, hzb1, hzb2⟩ := info_parts infoBool
  have hB0 := below_alloc w (.cells #[.int .i64 0, .int .i64 0, .slice none 0 0, .slice none 0 0] 29)
  have hz0 := Row.new w [.int .i64 0, .int .i64 0, .slice none 0 0, .slice none 0 0] 29
  have hsz0 : (w.alloc (.cells #[.int .i64 0, .int .i64 0, .slice none 0 0, .slice none 0 0] 29)).heap.size = w.heap.size + 1 := by simp
  have hn : (acc.length : Int) ≤ 281474976710656 := by unfold BSmall at hs; omega
  by_cases hok : shapeOk tail acc.length = true
  · have hok2 := hok
    simp only [shapeOk, within, Bool.and_eq_true, decide_eq_true_eq] at hok2
    obtain ⟨⟨n1, n2⟩, t0, t1⟩ := hok2
    have dd : within (acc.length : Int) 1 300 = true ∧ within tail 0 ((acc.length : Int) - 1) = true := by simpa only [shapeOk, Bool.and_eq_true] using hok
    have HRES := Lib.hid (show shapeRes tail acc = (⟨1, 0, acc, shapeRows tail acc.length⟩, 0) by rw [shapeRes, if_pos hok])
    have h0 := keepsB _ _ _ _ h hB0
    obtain ⟨A, cap, rfl, h1, h2, h3⟩ := h.open
    unfold maxLen at h2
    obtain ⟨b, off, z, rfl, -, -⟩ := h3 0 (by omega)
    have ho0 := World.ownsRow_lit (base := (w.alloc (.cells #[.int .i64 0, .int .i64 0, .slice none 0 0, .slice none 0 0] 29)).heap.size) (e := 4) (size := 1) (w.alloc (.cells #[.int .i64 0, .int .i64 0, .slice none 0 0, .slice none 0 0] 29)) #[] 0 (Nat.le_refl _) (by unfold maxLen; omega) rfl
    have hN := rd_news (show Rd ((w.alloc (.cells #[.int .i64 0, .int .i64 0, .slice none 0 0, .slice none 0 0] 29)).alloc (.cells #[] 4)) (.slice (some ⟨b, off, none⟩) acc.length cap) (bools acc) from by have := Rd.below h0 (below_alloc _ (.cells #[] 4)); exact this)
    rw [hsz0] at ho0
    have HN := Lib.hid hN
    have HO := Lib.hid ho0
    have HI0 := Lib.hid (show _ ∧ _ ∧ _ from ⟨hB0, hz0, hsz0⟩)
    have HIN1 := Lib.hid (fun W => l00In_w (acc.length : Int) 1 300 W)
    have HIN2 := Lib.hid (fun W => l00In_w tail 0 ((acc.length : Int) - 1) W)
    rw [dd.1] at HIN1
    rw [dd.2] at HIN2
    clear hB0 hz0 hsz0 hok h h0 h3 ho0 hN dd
    go_enter Try.func35, Try.ntmps35
    go_wp2_with (first
      | (go_at_call 78; (with_reducible refine (HIN1.out _).mono ?_); rintro e w' ⟨rfl, rfl⟩)
      | (go_at_call 78; (with_reducible refine (HIN2.out _).mono ?_); rintro e w' ⟨rfl, rfl⟩)
      | (at_builtin; refine wpList_append_own _ rfl _ _ 22 rfl (w.heap.size + 1) 4 ib (.bool false) 1 1 Try.underlying22 hib hzb0 hzb1 hzb2 rfl (by decide) _ 0 [] rfl HO.out ⟨b, off, none⟩ acc.length cap (bools acc) rfl (by rw [bools_len, Nat.mul_one]) HN.out (by intro u hu; obtain ⟨_, _, rfl⟩ := List.mem_map.1 hu; rfl) (by rw [Nat.zero_add]; unfold maxLen; omega) (by omega) (by simp) ?_; intro v' w1 hown hgrow hnil; have hu : OwV bools 4 w1 (w.heap.size + 1) v' acc (blks v') := ⟨by simpa [Own, bools_len] using hown, rfl⟩; have hshp := owB_shape hu; obtain ⟨Au, ku, rfl⟩ := hshp; have HU := Lib.hid hu; have HG := Lib.hid (show ((w.alloc (.cells #[.int .i64 0, .int .i64 0, .slice none 0 0, .slice none 0 0] 29)).alloc (.cells #[] 4)).grownBy w1 (some (w.heap.size + 1)) from hgrow); clear hown hgrow hnil hu))
    have HB1 := Lib.hid (show _ ∧ _ ∧ w.heap.size + 1 ≤ w1.heap.size from by
      have hg := HG.out
      have ha := below_alloc (w.alloc (.cells #[.int .i64 0, .int .i64 0, .slice none 0 0, .slice none 0 0] 29)) (.cells #[] 4)
      have hbz := (below_step HI0.out.1 ha).grown hg (by simp; omega) (fun k hk => by have hk' : some (w.heap.size + 1) = some k := by simpa using hk
                                                                                      cases hk'; omega)
      have hrow : Row w1 w.heap.size 29 [.int .i64 0, .int .i64 0, .slice none 0 0, .slice none 0 0] := (hg.block _ (by simp; omega) (by simp)).trans (HI0.out.2.1.alloc (.cells #[] 4))
      exact (⟨hbz, hrow, by have := hg.size; simp at this; omega⟩ : Below w.heap.size w w1 ∧ Row w1 w.heap.size 29 [.int .i64 0, .int .i64 0, .slice none 0 0, .slice none 0 0] ∧ w.heap.size + 1 ≤ w1.heap.size))
    have HBX := Lib.hid (show RsI w (w.heap.size + 1) w1.heap.size acc ((shapeRows tail acc.length).take 0) (w1.alloc (.cells #[.int .i64 1, .int .i64 0, .slice Au acc.length ku, .slice none 0 0] 29)) from
      ⟨below_step HB1.out.1 (below_alloc _ _), HB1.out.2.1.alloc _, _, _, _, [], Row.new w1 _ _, (goodV bools 4).below HU.out (below_alloc _ _), owL_nil _ _ _ _, by simpa using (goodV bools 4).nodup HU.out, fun hm => by have := ((goodV bools 4).lt HU.out (by simpa using hm)).2; omega⟩)
    have HP := Lib.hid HB1.out.2.2
    clear HG
    generalize w1.alloc (.cells #[.int .i64 1, .int .i64 0, .slice Au acc.length ku, .slice none 0 0] 29) = w2 at *
    generalize w1.heap.size = po at *
    go_loopw [8] (fun i wr => ∃ k : Nat, k ≤ acc.length ∧ i = .int .i64 k ∧ RsI w (w.heap.size + 1) po acc ((shapeRows tail acc.length).take k) wr) (fun i _ => acc.length - (intOf i).toNat)
    case atStart => exact ⟨0, by omega, rfl, HBX.out⟩
    case round =>
      obtain ⟨k, hk, rfl, hI⟩ := hrel
      have HI := Lib.hid hI
      by_cases hlt : k < acc.length
      · obtain ⟨Aa, kaa, Bn, kn, vs, ho, hv, hpn, hstep⟩ := hI.row (Nat.lt_succ_self _) HP.out
        have hlen : ((shapeRows tail acc.length).take k).length = k := by rw [List.length_take, shapeRows_len]; omega
        rw [hlen] at ho hv hpn hstep
        have HST := Lib.hid hstep
        have HV := Lib.hid (show _ ∧ _ from ⟨hv, hpn⟩)
        obtain ⟨⟨o0, o1, o2, o3⟩, -⟩ := ho.four
        have of3 := ho.free 3
        have lo3 := ho.lt
        have hw2 := hI.1.size
        have HPP := HP.out
        have i1 : (0 : Int) ≤ k := by omega
        have i2 : (k : Int) < acc.length := by omega
        have hk3 : k ≤ 300 := by omega
        obtain ⟨to, hto⟩ : ∃ to : Int, (if k + 1 = acc.length then tail else (k : Int) + 1) = to := ⟨_, rfl⟩
        have HTK := Lib.hid (show (shapeRows tail acc.length).take (k + 1) = (shapeRows tail acc.length).take k ++ [[to]] by rw [shapeRows_take tail (by omega), hto])
        clear hI ho hv hpn hstep hlen
        by_cases hlast : k + 1 = acc.length
        · obtain rfl : tail = to := by rw [if_pos hlast] at hto; exact hto
          have de : ((k : Int) + 1 == (acc.length : Int)) = true := by simp; omega
          clear hto hlast
          go_wp2_with (at_builtin; refine wpList_append_lies _ rfl _ _ 23 rfl (w.heap.size + 1) 47 isl _ 1 24 Try.underlying23 his hzs0 hzs1 hzs2 rfl (by decide) (.slice Bn k kn) k vs rfl (rows_below (rows_below HV.out.1 (below_alloc _ _)) (below_alloc _ _)) ⟨wr.heap.size + 1, 0, none⟩ 1 1 [.slice (some ⟨wr.heap.size, 0, none⟩) 1 1] rfl rfl (World.news_of_block (cs := #[.slice (some ⟨wr.heap.size, 0, none⟩) 1 1]) (t := 47) (fr := (0, 0)) (by simpa using heap_alloc_new (wr.alloc (.cells #[.int .i64 tail] 2)) (.cells #[.slice (some ⟨wr.heap.size, 0, none⟩) 1 1] 47))) (by simp [Value.oneCell']) (by omega) (by unfold maxLen; omega) (by omega) (by simp; omega) (wr.heap.size + 1 + 1) (by simp) ?_; intro g cap w5 hown5 hgrow5 hat5 hlt5; have p1 := grown_cell hgrow5 HV.out.2 (below_keep (below_step (below_alloc wr _) (below_alloc _ _)) o3); have p2 := grown_free hgrow5 HV.out.2 (by simp; omega) (below_keepf (below_step (below_alloc wr _) (below_alloc _ _)) lo3 of3); have p3 := World.block_lt_of_cell? _ _ p1)
          have HE := Lib.hid (HST.out tail w5 g cap hown5 hgrow5 hat5)
          clear hown5 hgrow5 hat5 hlt5 p1 p2 p3 o0 o1 o2 o3 of3
          go_roundw
          case rel => exact ⟨k + 1, by omega, by go_num, by rw [HTK.out]; exact HE.out⟩
          case measure => simp [intOf]; omega
        · obtain rfl : (k : Int) + 1 = to := by rw [if_neg hlast] at hto; exact hto
          have de : ((k : Int) + 1 == (acc.length : Int)) = false := by simp; omega
          clear hto hlast
          go_wp2_with (at_builtin; refine wpList_append_lies _ rfl _ _ 23 rfl (w.heap.size + 1) 47 isl _ 1 24 Try.underlying23 his hzs0 hzs1 hzs2 rfl (by decide) (.slice Bn k kn) k vs rfl (rows_below (rows_below HV.out.1 (below_alloc _ _)) (below_alloc _ _)) ⟨wr.heap.size + 1, 0, none⟩ 1 1 [.slice (some ⟨wr.heap.size, 0, none⟩) 1 1] rfl rfl (World.news_of_block (cs := #[.slice (some ⟨wr.heap.size, 0, none⟩) 1 1]) (t := 47) (fr := (0, 0)) (by simpa using heap_alloc_new (wr.alloc (.cells #[.int .i64 ((k : Int) + 1)] 2)) (.cells #[.slice (some ⟨wr.heap.size, 0, none⟩) 1 1] 47))) (by simp [Value.oneCell']) (by omega) (by unfold maxLen; omega) (by omega) (by simp; omega) (wr.heap.size + 1 + 1) (by simp) ?_; intro g cap w5 hown5 hgrow5 hat5 hlt5; have p1 := grown_cell hgrow5 HV.out.2 (below_keep (below_step (below_alloc wr _) (below_alloc _ _)) o3); have p2 := grown_free hgrow5 HV.out.2 (by simp; omega) (below_keepf (below_step (below_alloc wr _) (below_alloc _ _)) lo3 of3); have p3 := World.block_lt_of_cell? _ _ p1)
          have HE := Lib.hid (HST.out ((k : Int) + 1) w5 g cap hown5 hgrow5 hat5)
          clear hown5 hgrow5 hat5 hlt5 p1 p2 p3 o0 o1 o2 o3 of3
          go_roundw
          case rel => exact ⟨k + 1, by omega, by go_num, by rw [HTK.out]; exact HE.out⟩
          case measure => simp [intOf]; omega
      · have ht : (shapeRows tail acc.length).take k = shapeRows tail acc.length := List.take_of_length_le (by rw [shapeRows_len]; omega)
        rw [ht] at hI
        obtain ⟨Ax, kx, Bx, kbx, bax, vsx, bssx, hox, hax, hvx, ex1, ex2, ex3, ex5, hdx, hpx⟩ := hI.2.2.open
        obtain ⟨⟨x0, x1, x2, x3⟩, -⟩ := hox.four
        obtain ⟨⟨z0, z1, z2, z3⟩, zf⟩ := hI.2.1.four
        have lz := hI.2.1.lt
        have lx := hox.lt
        have HXX := Lib.hid (show _ ∧ _ ∧ _ from ⟨hI.1, hI.2.1, (show OwR _ (w.heap.size + 1) (.agg #[.int .i64 1, .int .i64 0, .slice Ax acc.length kx, .slice Bx _ kbx]) ⟨1, 0, acc, _⟩ _ from ⟨_, _, _, _, rfl, hax, ⟨vsx, bssx, hvx, ex1, ex2, ex3, rfl, ex5⟩, rfl, hdx⟩)⟩)
        clear hI ht hox hax hvx ex1 ex2 ex3 ex5 hdx hpx
        go_wp2
        obtain ⟨hbx, hzx, hOx⟩ := HXX.out
        obtain ⟨⟨y0, y1, y2, y3⟩, eO, eB⟩ := stored4R hzx hOx (Nat.lt_succ_self _) (Nat.le_refl _) hbx
        generalize ((((wr.setCell ⟨w.heap.size, 0, none⟩ (.int .i64 1)).setCell ⟨w.heap.size, 1, none⟩ (.int .i64 0)).setCell ⟨w.heap.size, 2, none⟩ (.slice Ax acc.length kx)).setCell ⟨w.heap.size, 3, none⟩ (.slice Bx (shapeRows tail acc.length).length kbx)) = W2 at *
        refine bodyPost_ret (v := .tuple #[.agg #[.int .i64 1, .int .i64 0, .slice Ax acc.length kx, .slice Bx (shapeRows tail acc.length).length kbx], .int .i64 0]) (by simp [results, Try.results35, go_sem, y0, y1, y2, y3]) rfl ?_
        rw [HRES.out]
        exact ⟨_, rfl, eO.rd, eB⟩
  · have hok' : shapeOk tail acc.length = false := by simpa using hok
    have HRES := Lib.hid (show shapeRes tail acc = (⟨0, 0, [], []⟩, 2) by rw [shapeRes, if_neg hok])
    obtain ⟨A, ka, rfl⟩ := rdB_shape h
    have hO : OwR (w.alloc (.cells #[.int .i64 0, .int .i64 0, .slice none 0 0, .slice none 0 0] 29)) w.heap.size (.agg #[.int .i64 0, .int .i64 0, .slice none 0 0, .slice none 0 0]) ⟨0, 0, [], []⟩ [] := ⟨_, _, [], [], rfl, owV_nil bools [] rfl _ _ _, owL_nil _ _ _ _, rfl, by simp⟩
    have HI0 := Lib.hid (show _ ∧ _ from ⟨hB0, hO⟩)
    obtain ⟨⟨y0, y1, y2, y3⟩, -⟩ := hz0.four
    have HIN1 := Lib.hid (fun W => l00In_w (acc.length : Int) 1 300 W)
    have HIN2 := Lib.hid (fun W => l00In_w tail 0 ((acc.length : Int) - 1) W)
    clear hB0 hsz0 hok h hO hz0
    by_cases h300 : within (acc.length : Int) 1 300 = true
    · have hd : within tail 0 ((acc.length : Int) - 1) = false := by rw [shapeOk, h300] at hok'; simpa using hok'
      rw [h300] at HIN1
      rw [hd] at HIN2
      have n1 : 1 ≤ (acc.length : Int) := by simp [within] at h300; omega
      clear hok' hd h300
      go_enter Try.func35, Try.ntmps35
      go_wp2_with (first
        | (go_at_call 78; (with_reducible refine (HIN1.out _).mono ?_); rintro e w' ⟨rfl, rfl⟩)
        | (go_at_call 78; (with_reducible refine (HIN2.out _).mono ?_); rintro e w' ⟨rfl, rfl⟩))
      refine bodyPost_ret (v := .tuple #[.agg #[.int .i64 0, .int .i64 0, .slice none 0 0, .slice none 0 0], .int .i64 2]) (by simp [results, Try.results35, go_sem, y0, y1, y2, y3]) rfl ?_
      rw [HRES.out]
      exact ⟨_, rfl, HI0.out.2.rd, HI0.out.1⟩
    · have hd : within (acc.length : Int) 1 300 = false := by simpa using h300
      rw [hd] at HIN1
      clear hok' hd h300
      go_enter Try.func35, Try.ntmps35
      go_wp2_with (go_at_call 78; (with_reducible refine (HIN1.out _).mono ?_); rintro e w' ⟨rfl, rfl⟩)
      refine bodyPost_ret (v := .tuple #[.agg #[.int .i64 0, .int .i64 0, .slice none 0 0, .slice none 0 0], .int .i64 2]) (by simp [results, Try.results35, go_sem, y0, y1, y2, y3]) rfl ?_
      rw [HRES.out]
      exact ⟨_, rfl, HI0.out.2.rd, HI0.out.1⟩
end Go.Proofs.Ytjojmlaipcbmkaa
