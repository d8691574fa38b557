/-
  The wanderer of a turner: the program's walk.
-/
import Derived.Test.YtncabipncekifaaWf1
namespace Go.Proofs.Ytncabipncekifaa
open Go.RowKit

set_option maxRecDepth 100000 in
set_option maxHeartbeats 6400000 in
theorem implWof_any (v : Value) (t : TData) (w : World) (h : RdT w v t) :
    Calls Try.prog 19 #[v] w fun e w' => ∃ u bs, e = .returned (.tuple #[u, .int .i64 (wofRes t).2]) ∧ OwW w' w.heap.size u (wofRes t).1 bs ∧ Below w.heap.size w w' := by
  obtain ⟨il, hil, hzl0, hzl1, hzl2⟩ := info_parts infoPPsMove
  have HV := Lib.hid (fun W (hb : Below w.heap.size w W) => ValidTurner_any v t W (keepsT _ _ _ _ h hb))
  have HST := Lib.hid (fun W (hb : Below w.heap.size w W) => states_any v t W (keepsT _ _ _ _ h hb))
  obtain ⟨m, rfl, hm⟩ := h
  obtain ⟨A, ca, rfl, a1, a2, a3⟩ := RdL.open hm
  unfold maxLen at a2
  have HB := Lib.hid ((below_alloc w (.cells #[.int .i64 t.L, .int .i64 t.S, .slice A t.mv.length ca] 43)).alloc (by simp) (.cells #[.int .i64 0, .slice none 0 0, .slice none 0 0] 30))
  have hr1 := (Row.new w [.int .i64 t.L, .int .i64 t.S, .slice A t.mv.length ca] 43).alloc (.cells #[.int .i64 0, .slice none 0 0, .slice none 0 0] 30)
  have hr2 : Row ((w.alloc (.cells #[.int .i64 t.L, .int .i64 t.S, .slice A t.mv.length ca] 43)).alloc (.cells #[.int .i64 0, .slice none 0 0, .slice none 0 0] 30)) (w.heap.size + 1) 30 [.int .i64 0, .slice none 0 0, .slice none 0 0] := by
    simpa using Row.new (w.alloc (.cells #[.int .i64 t.L, .int .i64 t.S, .slice A t.mv.length ca] 43)) [.int .i64 0, .slice none 0 0, .slice none 0 0] 30
  have HR := Lib.hid (show _ ∧ _ from ⟨hr1, hr2⟩)
  clear hm hr1 hr2
  go_enter Try.func19, Try.ntmps19
  go_wp2_with fail
  refine (HV.out _ HB.out).mono ?_
  generalize (w.alloc (.cells #[.int .i64 t.L, .int .i64 t.S, .slice A t.mv.length ca] 43)).alloc (.cells #[.int .i64 0, .slice none 0 0, .slice none 0 0] 30) = W0 at *
  rintro e w1 ⟨rfl, hb1⟩
  have HB1 := Lib.hid (below_step HB.out hb1)
  have hR1 : Row w1 (w.heap.size + 1) 30 [.int .i64 0, .slice none 0 0, .slice none 0 0] := HR.out.2.below hb1 HR.out.2.lt
  have HT1 := Lib.hid (HR.out.1.below hb1 HR.out.1.lt)
  clear hb1
  by_cases hok : okT t = true
  · have HOK := Lib.hid (okT_out hok)
    have HR1 := Lib.hid hR1
    obtain ⟨⟨t0, t1, t2⟩, -⟩ := HT1.out.three
    clear hR1
    go_wp2_with fail
    refine (HST.out _ HB1.out).mono ?_
    rintro e w2 ⟨rfl, hb2⟩
    have HB2 := Lib.hid (below_step HB1.out hb2)
    have HR2 := Lib.hid (HR1.out.below hb2 HR1.out.lt)
    have HT2 := Lib.hid (HT1.out.below hb2 HT1.out.lt)
    clear hb2 t0 t1 t2
    by_cases hn : t.mv.length ≤ 5
    · have d1 : decide (5 < (t.mv.length : Int)) = false := by simp; omega
      have HRES := Lib.hid (show wofRes t = (⟨t.L, [t.S], t.mv.map rowW⟩, 0) by unfold wofRes; rw [if_pos hok, if_pos hn])
      have HLN := Lib.hid (show ∀ (s : Nat) x, t.mv[s]? = some x → (x.length : Int) = t.L + 2 from HOK.out.len)
      have hl2 := HOK.out.l2
      have HI0 := Lib.hid (WofI.start (Nat.le_succ _) HB2.out HR2.out t.L t.S)
      obtain ⟨⟨t0, t1, t2⟩, -⟩ := HT2.out.three
      have tl := HT2.out.lt
      clear hok
      go_wp2
      have HTW := Lib.hid (show Row ((w2.alloc (.cells #[.int .i64 t.S] 2)).alloc (.cells #[.int .i64 t.L, .slice (some ⟨w2.heap.size, 0, none⟩) 1 1, .slice none 0 0] 30)) w.heap.size _ _ from (HT2.out.alloc _).alloc _)
      generalize (w2.alloc (.cells #[.int .i64 t.S] 2)).alloc (.cells #[.int .i64 t.L, .slice (some ⟨w2.heap.size, 0, none⟩) 1 1, .slice none 0 0] 30) = W3 at *
      clear t0 t1 t2 tl
      go_loopw [27] (fun i wr => ∃ (k : Nat) (vm : Value), k ≤ t.mv.length ∧ i = .int .i64 k ∧ WofI w wr (w.heap.size + 1) (w2.heap.size + 1) (w2.heap.size + 2) t.L t.S (.slice (some ⟨w2.heap.size, 0, none⟩) 1 1) vm ((t.mv.map rowW).take k)) (fun i _ => t.mv.length - (intOf i).toNat)
      case atStart => exact ⟨0, _, Nat.zero_le _, rfl, by simpa using HI0.out⟩
      case round =>
        clear HI0
        obtain ⟨wo, hwo⟩ : ∃ wo, wo = wr := ⟨wr, rfl⟩
        subst hwo
        obtain ⟨k, vm, hk, rfl, hI⟩ := hrel
        by_cases hlt : k < t.mv.length
        · obtain ⟨b, off, ux, x, rfl, hx, hc, hRx⟩ := a3 k hlt
          have hxl := HLN.out k x hx
          have hx5 : x.length ≤ 5 := by omega
          obtain ⟨C, cx, rfl, x1, x2, x3⟩ := RdP.open hRx
          unfold maxLen at x2
          have gc := below_keep hI.bel hc
          have HTK := Lib.hid (show (t.mv.map rowW).take (k + 1) = (t.mv.map rowW).take k ++ [rowW x] from take_succ_of (by simp [hx]))
          have hylen : ((t.mv.map rowW).take k).length = k := by simp; omega
          have HI := Lib.hid hI
          have HYL := Lib.hid hylen
          have hmk := run_make_row' (P := Try.prog) 41 76 (.slice none 0 0) 24 Try.underlying41 infoPsMove rfl .i64 .i64 x.length (by omega) (by omega)
          have h0 := fam_whole (goodP 86) (lo := wo.heap.size) (Row.made wo (.slice none 0 0) x.length 76) (xs := partW x 0) (bss := List.replicate x.length []) (by rw [partW_zero]; simp) (by simp) (by simp; unfold maxLen; omega) (fun i u y bb hu hy hbb => by
            rw [partW_zero] at hy
            simp only [List.getElem?_replicate] at hu hy hbb
            split at hu
            · rw [if_pos (by assumption)] at hy hbb
              cases hu; cases hy; cases hbb
              exact owP_nil _ _ _
            · cases hu) (by simp) (Nat.le_refl _)
          rw [partW_len (Nat.zero_le _)] at h0
          have H0 := Lib.hid (show ∃ bs, OwL (OwP 86) 76 (wo.alloc (.cells (madeCells #[.slice none 0 0] x.length) 76)) wo.heap.size (.slice (some ⟨wo.heap.size, 0, none⟩) x.length x.length) (partW x 0) bs from ⟨_, h0⟩)
          have HXB := Lib.hid hI.bel
          have i1 : (0 : Int) ≤ k := by omega
          have i2 : (k : Int) < t.mv.length := by omega
          clear hx hc hRx hI hylen h0 hxl
          go_wp2
          clear hmk gc
          have HBM := Lib.hid (below_alloc wo (.cells (madeCells #[.slice none 0 0] x.length) 76))
          generalize wo.alloc (.cells (madeCells #[.slice none 0 0] x.length) 76) = W4 at *
          go_loopw [36] (fun i wi => ∃ c : Nat, c ≤ x.length ∧ i = .int .i64 c ∧ Below wo.heap.size wo wi ∧ ∃ bs, OwL (OwP 86) 76 wi wo.heap.size (.slice (some ⟨wo.heap.size, 0, none⟩) x.length x.length) (partW x c) bs) (fun i _ => x.length - (intOf i).toNat)
          case atStart => exact ⟨0, Nat.zero_le _, rfl, HBM.out, H0.out⟩
          case round =>
            clear H0 HBM
            obtain ⟨c, hc, rfl, hb, bs, hO⟩ := hrel
            have HQ := Lib.hid (show _ ∧ _ from ⟨hb, hO⟩)
            by_cases hlc : c < x.length
            · obtain ⟨bt, offt, tx, ty, rfl, ht, hct, hdt⟩ := x3 c hlc
              have hbw := below_step HXB.out hb
              have gt := below_keep hbw hct
              have gd := below_keep hbw hdt
              have HT := Lib.hid ht
              have j1 : (0 : Int) ≤ c := by omega
              have j2 : (c : Int) < x.length := by omega
              clear ht hct hdt hb hbw
              by_cases htx : tx = -2
              · have d2 : (tx != -2) = false := by simp [htx]
                have HS := Lib.hid (partW_same HT.out htx)
                clear htx hO
                go_wp2
                go_roundw
                case rel => exact ⟨c + 1, by omega, by go_num, below_step HQ.out.1 (below_alloc _ _), bs, by rw [HS.out]; exact (goodL (goodP _) _).below HQ.out.2 (below_alloc _ _)⟩
                case measure => simp [intOf]; omega
              · have d2 : (tx != -2) = true := by simpa using htx
                have hone : oneW (tx, ty) = [(tx, ty)] := by simp [oneW, htx]
                have HS := Lib.hid (partW_set HT.out)
                obtain ⟨g', cap', u, bu, hv, hcu, hfu, hgl, hlo, hRu, hgb, hsub, hset⟩ := OwL.memberNew (goodP 86) hO (partW_at hlc)
                rw [partW_len hc] at hv
                cases hv
                have hnew : OwP 86 ((wr.alloc (.cells #[.int .i64 tx, .int .i64 ty] 86)).alloc (.cells #[.int .i64 tx, .int .i64 ty] 86)) wo.heap.size (.slice (some ⟨wr.heap.size + 1, 0, none⟩) 1 1) [(tx, ty)] [wr.heap.size + 1] := by
                  have hrw : Row ((wr.alloc (.cells #[.int .i64 tx, .int .i64 ty] 86)).alloc (.cells #[.int .i64 tx, .int .i64 ty] 86)) (wr.heap.size + 1) 86 (pcells [(tx, ty)]) := by
                    simpa [pcells, pcell] using Row.new (wr.alloc (.cells #[.int .i64 tx, .int .i64 ty] 86)) [.int .i64 tx, .int .i64 ty] 86
                  exact hrw.pairs (by have := HQ.out.1.size; omega) (by simp [maxLen])
                obtain ⟨bs', hO', -⟩ := hset _ _ _ _ hnew (fun k hk _ => ((below_alloc (wr.alloc (.cells #[.int .i64 tx, .int .i64 ty] 86)) (.cells #[.int .i64 tx, .int .i64 ty] 86)).block k (by simp; omega)).trans ((below_alloc wr (.cells #[.int .i64 tx, .int .i64 ty] 86)).block k hk)) (fun c hc => by simp at hc; omega)
                rw [← hone, HS.out] at hO'
                have hbe := (below_step (below_step HQ.out.1 (below_alloc wr (.cells #[.int .i64 tx, .int .i64 ty] 86))) (below_alloc _ (.cells #[.int .i64 tx, .int .i64 ty] 86))).setCell (p := ⟨wo.heap.size, c, none⟩) (Nat.le_refl _) (.slice (some ⟨wr.heap.size + 1, 0, none⟩) 1 1)
                have he1 := World.setCell_alloc_past (w := wr.alloc (.cells #[.int .i64 tx, .int .i64 ty] 86)) (.cells #[.int .i64 tx, .int .i64 ty] 86) wo.heap.size c (.slice (some ⟨wr.heap.size + 1, 0, none⟩) 1 1) (by simp; omega)
                have he2 := World.setCell_alloc_past (w := wr) (.cells #[.int .i64 tx, .int .i64 ty] 86) wo.heap.size c (.slice (some ⟨wr.heap.size + 1, 0, none⟩) 1 1) (by omega)
                rw [he1, he2] at hbe hO'
                have HE := Lib.hid (show _ ∧ _ from ⟨hbe, hO'⟩)
                clear he1 he2
                clear htx hone hO hRu hgb hsub hset hnew hO' hbe
                go_wp2
                go_roundw
                case rel => exact ⟨c + 1, by omega, by go_num, HE.out.1, bs', HE.out.2⟩
                case measure => simp [intOf]; omega
            · obtain rfl : c = x.length := by omega
              rw [partW_full] at hO
              have hIw := HI.out.below hb
              obtain ⟨⟨b0, b1, b2⟩, -⟩ := hIw.box.three
              have bf := hIw.box.free 2
              have lbx := hIw.box.lt
              obtain ⟨⟨Bv, cv, hvm⟩, hpo, vs, how, hbv, hgrow⟩ := HI.out.grow
              rw [HYL.out] at hvm how hgrow
              subst hvm
              have HH := Lib.hid (show _ ∧ _ ∧ _ ∧ _ ∧ _ ∧ _ from ⟨hpo, rows_below how hb, hbv, hgrow, hb, hO⟩)
              have hsz := hb.size
              have hl3 := HI.out.lt3
              clear hpo how hbv hgrow hb hO hIw x3
              go_wp2_with (at_builtin; refine wpList_append_lies _ rfl _ _ 28 rfl (w2.heap.size + 2) 41 il _ 1 24 Try.underlying28 hil hzl0 hzl1 hzl2 rfl (by decide) (.slice Bv k cv) k _ rfl (HH.out.2.1.alloc _) ⟨wr.heap.size, 0, none⟩ 1 1 [.slice (some ⟨wo.heap.size, 0, none⟩) x.length x.length] rfl rfl (World.news_of_block (cs := #[.slice (some ⟨wo.heap.size, 0, none⟩) x.length x.length]) (t := 41) (fr := (0, 0)) (heap_alloc_new wr _)) (by simp [Value.oneCell']) (by omega) (by unfold maxLen; omega) (by omega) (by simp; omega) (wr.heap.size + 1) (by simp) ?_; intro g cap w5 hown5 hgrow5 hat5 hlt5; have r1 := grown_cell hgrow5 HH.out.1 (below_keep (below_alloc _ _) b2); have r2 := grown_free hgrow5 HH.out.1 (by simp; omega) (below_keepf (below_alloc _ _) lbx bf); have r3 := World.block_lt_of_cell? _ _ r1; have HE := Lib.hid (HH.out.2.2.2.1 wr _ _ _ HH.out.2.2.2.2.1 HH.out.2.2.2.2.2 _ w5 g (k + 1) cap hgrow5 hown5 hat5); clear hown5 hgrow5 hat5 hlt5)
              go_roundw
              case rel => exact ⟨k + 1, _, by omega, by go_num, by rw [HTK.out]; exact HE.out⟩
              case measure => simp [intOf]; omega
        · obtain rfl : k = t.mv.length := by omega
          obtain ⟨Bv, nv, cv, rfl⟩ : ∃ Bv nv cv, vm = .slice Bv nv cv := by
            obtain ⟨bs0, hO0⟩ := hI.mv
            obtain ⟨B, c, e⟩ := OwL.shape hO0
            exact ⟨_, _, _, e⟩
          obtain ⟨⟨b0, b1, b2⟩, -⟩ := hI.box.three
          have lb := hI.box.lt
          obtain ⟨⟨z0, z1, z2⟩, zf⟩ := hI.res.three
          have lz := hI.res.lt
          have HI := Lib.hid hI
          clear hI a3
          go_wp2
          obtain ⟨⟨y0, y1, y2⟩, ⟨bo, hO⟩, hbz⟩ := HI.out.stored
          generalize ((wo.setCell ⟨w.heap.size + 1, 0, none⟩ (.int .i64 t.L)).setCell ⟨w.heap.size + 1, 1, none⟩ (.slice (some ⟨w2.heap.size, 0, none⟩) 1 1)).setCell ⟨w.heap.size + 1, 2, none⟩ (.slice Bv nv cv) = WF at *
          refine bodyPost_ret (v := .tuple #[.agg #[.int .i64 t.L, .slice (some ⟨w2.heap.size, 0, none⟩) 1 1, .slice Bv nv cv], .int .i64 0]) (by simp [results, Try.results19, go_sem, y0, y1, y2]) rfl ?_
          rw [HRES.out]
          rw [List.take_of_length_le (by simp)] at hO
          exact ⟨_, _, rfl, hO, hbz⟩
    · have d1 : decide (5 < (t.mv.length : Int)) = true := by simp; omega
      have d2 : decide (5 < t.mv.length) = true := by simp; omega
      have HRES := Lib.hid (show wofRes t = (⟨0, [], []⟩, 3) by unfold wofRes; rw [if_pos hok, if_neg hn])
      clear hok hn a3
      obtain ⟨⟨z0, z1, z2⟩, zf⟩ := HR2.out.three
      have lz := HR2.out.lt
      have HRZ := Lib.hid HR2.out
      go_wp2
      have hrow := ((HRZ.out.stored 0 (.int .i64 0)).stored 1 (.slice none 0 0)).stored 2 (.slice none 0 0)
      obtain ⟨⟨y0, y1, y2⟩, -⟩ := (show Row _ _ 30 [.int .i64 0, .slice none 0 0, .slice none 0 0] from hrow).three
      have hbz := ((HB2.out.setCell (p := ⟨w.heap.size + 1, 0, none⟩) (by show w.heap.size ≤ w.heap.size + 1; omega) (.int .i64 0)).setCell (p := ⟨w.heap.size + 1, 1, none⟩) (by show w.heap.size ≤ w.heap.size + 1; omega) (.slice none 0 0)).setCell (p := ⟨w.heap.size + 1, 2, none⟩) (by show w.heap.size ≤ w.heap.size + 1; omega) (.slice none 0 0)
      refine bodyPost_ret (v := .tuple #[.agg #[.int .i64 0, .slice none 0 0, .slice none 0 0], .int .i64 3]) (by simp [results, Try.results19, go_sem, y0, y1, y2]) rfl ?_
      rw [HRES.out]
      exact ⟨_, [], rfl, ⟨_, _, [], [], rfl, owV_nil ints [] rfl _ _ _, owL_nil _ _ _ _, rfl, by simp⟩, hbz⟩
  · have hok' : okT t = false := by simpa using hok
    have HRES := Lib.hid (show wofRes t = (⟨0, [], []⟩, 1) by unfold wofRes; rw [if_neg hok])
    clear hok a3
    obtain ⟨⟨z0, z1, z2⟩, zf⟩ := hR1.three
    have lz := hR1.lt
    have HRZ := Lib.hid hR1
    go_wp2
    have hrow := ((HRZ.out.stored 0 (.int .i64 0)).stored 1 (.slice none 0 0)).stored 2 (.slice none 0 0)
    obtain ⟨⟨y0, y1, y2⟩, -⟩ := (show Row _ _ 30 [.int .i64 0, .slice none 0 0, .slice none 0 0] from hrow).three
    have hbz := ((HB1.out.setCell (p := ⟨w.heap.size + 1, 0, none⟩) (by show w.heap.size ≤ w.heap.size + 1; omega) (.int .i64 0)).setCell (p := ⟨w.heap.size + 1, 1, none⟩) (by show w.heap.size ≤ w.heap.size + 1; omega) (.slice none 0 0)).setCell (p := ⟨w.heap.size + 1, 2, none⟩) (by show w.heap.size ≤ w.heap.size + 1; omega) (.slice none 0 0)
    refine bodyPost_ret (v := .tuple #[.agg #[.int .i64 0, .slice none 0 0, .slice none 0 0], .int .i64 1]) (by simp [results, Try.results19, go_sem, y0, y1, y2]) rfl ?_
    rw [HRES.out]
    exact ⟨_, [], rfl, ⟨_, _, [], [], rfl, owV_nil ints [] rfl _ _ _, owL_nil _ _ _ _, rfl, by simp⟩, hbz⟩
end Go.Proofs.Ytncabipncekifaa
