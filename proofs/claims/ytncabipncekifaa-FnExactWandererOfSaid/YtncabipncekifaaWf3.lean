/-
  The wanderer of a turner: the model's walk.
-/
import Derived.Test.YtncabipncekifaaWf2
namespace Go.Proofs.Ytncabipncekifaa
open Go.RowKit

/-- No lists yet. -/
theorem lists0 (w : World) : ∃ bs, OwL (OwP 86) 76 (w.alloc (.cells #[] 76)) w.heap.size (.slice (some ⟨w.heap.size, 0, none⟩) 0 0) [] bs :=
  ⟨_, [], [], World.ownsRow_lit (base := w.heap.size) (e := 76) (size := 1) w #[] 0 (Nat.le_refl _) (by unfold maxLen; omega) rfl, rfl, rfl, fun i u x b hi => by simp at hi, rfl, by simpa using blks_nodup _⟩

/-- No move yet. -/
theorem list0 (w : World) : OwP 86 (w.alloc (.cells #[] 86)) w.heap.size (.slice (some ⟨w.heap.size, 0, none⟩) 0 0) [] [w.heap.size] :=
  ⟨World.ownsRow_lit (base := w.heap.size) (e := 86) (size := 2) w #[] 0 (Nat.le_refl _) (by unfold maxLen; omega) rfl, rfl⟩
/-- One move. -/
theorem oneList (w : World) (tx ty : Int) {w4 : World} {g cap : Nat} (hg : ((w.alloc (.cells #[] 86)).alloc (.cells #[.int .i64 tx, .int .i64 ty] 86)).grownBy w4 (Value.slice (some ⟨w.heap.size, 0, none⟩) 0 0).ownBlock)
    (hown : w4.ownsRow w.heap.size 86 2 (.slice (some ⟨g, 0, none⟩) 1 cap) 1 ([] ++ [.int .i64 tx, .int .i64 ty])) : Below w.heap.size w w4 ∧ OwP 86 w4 w.heap.size (.slice (some ⟨g, 0, none⟩) 1 cap) [(tx, ty)] [g] ∧ w.heap.size + 2 ≤ w4.heap.size := by
  have h1 : Below w.heap.size w ((w.alloc (.cells #[] 86)).alloc (.cells #[.int .i64 tx, .int .i64 ty] 86)) := below_step (below_alloc _ _) (below_alloc _ _)
  refine ⟨h1.trans (grown_below hg h1.size (fun b hb => by simp [blks, Value.ownBlock] at hb; omega)), OwP.snoc hown (by simp [pcells, pcell]) rfl rfl, by have := hg.size; simpa using this⟩
/-- One list more. -/
theorem addList {wo wr W : World} {Bl : Option Addr} {c cl : Nat} {ys : List (List (Int × Int))} {bs : List Nat} (hb : Below wo.heap.size wo wr) (hO : OwL (OwP 86) 76 wr wo.heap.size (.slice Bl c cl) ys bs) (hlen : ys.length = c) (hW : Below wr.heap.size wr W)
    {u0 : Value} {x0 : List (Int × Int)} {b0 : List Nat} (hu : OwP 86 W wr.heap.size u0 x0 b0) (o : Obj) :
    ∃ vs, (W.alloc o).ownsRow wo.heap.size 76 1 (.slice Bl c cl) c vs ∧ ∀ (w5 : World) (g cap : Nat), (W.alloc o).grownBy w5 (Value.slice Bl c cl).ownBlock → w5.ownsRow wo.heap.size 76 1 (.slice (some ⟨g, 0, none⟩) (c + 1) cap) (c + 1) (vs ++ [u0]) → ((Value.slice Bl c cl).ownBlock = some g ∨ g = (W.alloc o).heap.size) →
      Below wo.heap.size wo w5 ∧ ∃ bs', OwL (OwP 86) 76 w5 wo.heap.size (.slice (some ⟨g, 0, none⟩) (c + 1) cap) (ys ++ [x0]) bs' := by
  obtain ⟨vs, how, hbv, hnext⟩ := OwL.grow (goodP 86) hO
  rw [hlen] at how hnext
  have hW' := below_step hW (below_alloc W o)
  refine ⟨vs, rows_below how hW', fun w5 g cap hg hown hat => ⟨?_, ?_⟩⟩
  · have h1 := below_step hb hW'
    exact h1.trans (grown_below hg h1.size (fun b hb => (hbv b hb).1))
  · exact hnext W u0 x0 b0 hW ((goodP _).mono hu hb.size) (fun c hc => ((goodP _).lt hu hc).1) o w5 g (c + 1) cap hg hown (hat.imp id (fun h => h.trans (by simp)))

set_option maxRecDepth 100000 in
set_option maxHeartbeats 6400000 in
theorem specWof_any (v : Value) (t : TData) (w : World) (h : RdT w v t) :
    Calls Try.prog 17 #[v] w fun e w' => ∃ u, e = .returned (.tuple #[u, .int .i64 (wofRes t).2]) ∧ RdW w' u (wofRes t).1 ∧ Below w.heap.size w w' := by
  obtain ⟨il, hil, hzl0, hzl1, hzl2⟩ := info_parts infoPPsMove
  obtain ⟨ik, hik, hzk0, hzk1, hzk2⟩ := info_parts infoPsMove
  obtain ⟨im, him, hzm0, hzm1, hzm2⟩ := info_parts infoMove
  obtain ⟨m, rfl, hm⟩ := h
  obtain ⟨A, ca, rfl, -, a2, -⟩ := RdL.open hm
  unfold maxLen at a2
  have HT0 := Lib.hid (below_alloc w (.cells #[.int .i64 t.L, .int .i64 t.S, .slice A t.mv.length ca] 43))
  have HTW := Lib.hid (Row.new w [.int .i64 t.L, .int .i64 t.S, .slice A t.mv.length ca] 43)
  have HM := Lib.hid (keepsPP _ _ _ _ hm HT0.out)
  have HSZ := Lib.hid (show w.heap.size ≤ (w.alloc (.cells #[.int .i64 t.L, .int .i64 t.S, .slice A t.mv.length ca] 43)).heap.size from HT0.out.size)
  have HST := Lib.hid (show w.heap.size + 1 = (w.alloc (.cells #[.int .i64 t.L, .int .i64 t.S, .slice A t.mv.length ca] 43)).heap.size by simp)
  clear hm
  go_enter Try.func17, Try.ntmps17
  go_wp2_with fail
  rw [HST.out]
  generalize w.alloc (.cells #[.int .i64 t.L, .int .i64 t.S, .slice A t.mv.length ca] 43) = wT at *
  have hsz := HSZ.out
  have HR := Lib.hid (Row.new wT [.int .i64 0, .slice none 0 0, .slice none 0 0] 30)
  have HB := Lib.hid (below_alloc wT (.cells #[.int .i64 0, .slice none 0 0, .slice none 0 0] 30))
  have hm' := HM.out
  clear HM
  obtain ⟨A', ca', e0, a1, -, a3⟩ := RdL.open hm'
  cases e0
  refine (specValidTurner_any _ t _ (keepsT _ _ _ _ ⟨_, rfl, hm'⟩ HB.out)).mono ?_
  generalize wT.alloc (.cells #[.int .i64 0, .slice none 0 0, .slice none 0 0] 30) = W0 at *
  rintro e w1 ⟨rfl, hb1⟩
  have HB1 := Lib.hid (below_step HB.out hb1)
  have HR1 := Lib.hid (show Row w1 wT.heap.size 30 [.int .i64 0, .slice none 0 0, .slice none 0 0] from HR.out.below hb1 HR.out.lt)
  clear hb1 hm'
  by_cases hok : okT t = true
  · have HOK := Lib.hid (okT_out hok)
    obtain ⟨⟨t0, t1, t2⟩, -⟩ := (HTW.out.below HB1.out HTW.out.lt).three
    by_cases hn : t.mv.length ≤ 5
    · have d1 : decide (5 < (t.mv.length : Int)) = false := by simp; omega
      have HRES := Lib.hid (show wofRes t = (⟨t.L, [t.S], t.mv.map rowW⟩, 0) by unfold wofRes; rw [if_pos hok, if_pos hn])
      have HLN := Lib.hid (show ∀ (s : Nat) x, t.mv[s]? = some x → (x.length : Int) = t.L + 2 from HOK.out.len)
      have hl2 := HOK.out.l2
      have HI0 := Lib.hid (WofI.start (Nat.le_refl _) HB1.out HR1.out t.L t.S)
      have tl := (HTW.out.below HB1.out HTW.out.lt).lt
      go_wp2
      generalize (w1.alloc (.cells #[.int .i64 t.S] 2)).alloc (.cells #[.int .i64 t.L, .slice (some ⟨w1.heap.size, 0, none⟩) 1 1, .slice none 0 0] 30) = W3 at *
      clear t0 t1 t2 tl hok
      go_loopw [5] (fun i wr => ∃ (k : Nat) (vm : Value), k ≤ t.mv.length ∧ i = .int .i64 k ∧ WofI wT wr wT.heap.size (w1.heap.size + 1) (w1.heap.size + 2) t.L t.S (.slice (some ⟨w1.heap.size, 0, none⟩) 1 1) vm ((t.mv.map rowW).take k)) (fun i _ => t.mv.length - (intOf i).toNat)
      case atStart => exact ⟨0, _, Nat.zero_le _, rfl, by simpa using HI0.out⟩
      case round =>
        clear HI0
        obtain ⟨wo, hwo⟩ : ∃ wo, wo = wr := ⟨wr, rfl⟩
        subst hwo
        obtain ⟨k, vm, hk, rfl, hI⟩ := hrel
        by_cases hlt : k < t.mv.length
        · obtain ⟨b, off, ux, x, rfl, hx, hc, hRx⟩ := a3 k hlt
          have hxl := HLN.out k x hx
          have hx5 : x.length ≤ 5 := by omega
          obtain ⟨C, cx, rfl, x1, x2, x3⟩ := RdP.open hRx
          unfold maxLen at x2
          have HTK := Lib.hid (show (t.mv.map rowW).take (k + 1) = (t.mv.map rowW).take k ++ [rowW x] from take_succ_of (by simp [hx]))
          have hylen : ((t.mv.map rowW).take k).length = k := by simp; omega
          have HI := Lib.hid hI
          have HYL := Lib.hid hylen
          have HC := Lib.hid hc
          have H0 := Lib.hid (lists0 wo)
          obtain ⟨⟨t0, t1, t2⟩, -⟩ := (HTW.out.below hI.bel HTW.out.lt).three
          have i1 : (0 : Int) ≤ k := by omega
          have i2 : (k : Int) < t.mv.length := by omega
          clear hc hRx hI hylen hxl hx
          go_wp2
          clear t0 t1 t2
          have HBM := Lib.hid (below_alloc wo (.cells #[] 76))
          generalize wo.alloc (.cells #[] 76) = W4 at *
          go_loopw [6, 7] (fun vl i wi => ∃ (c cl : Nat) (Bl : Option Addr), c ≤ x.length ∧ i = .int .i64 c ∧ vl = .slice Bl c cl ∧ Below wo.heap.size wo wi ∧ ∃ bs, OwL (OwP 86) 76 wi wo.heap.size (.slice Bl c cl) ((rowW x).take c) bs) (fun _ i _ => x.length - (intOf i).toNat)
          case atStart => exact ⟨0, 0, _, Nat.zero_le _, rfl, rfl, HBM.out, H0.out⟩
          case round =>
            clear H0 HBM
            obtain ⟨c, cl, Bl, hc, rfl, rfl, hb, bs, hO⟩ := hrel
            have hbw := below_step HI.out.bel hb
            have gx := below_keep hbw HC.out
            obtain ⟨⟨t0, t1, t2⟩, -⟩ := (HTW.out.below hbw HTW.out.lt).three
            have HQ := Lib.hid (show _ ∧ _ ∧ _ from ⟨hb, hO, hbw⟩)
            by_cases hlc : c < x.length
            · obtain ⟨bt, offt, tx, ty, rfl, ht, hct, hdt⟩ := x3 c hlc
              have gt := below_keep hbw hct
              have gd := below_keep hbw hdt
              have HT := Lib.hid ht
              have j1 : (0 : Int) ≤ c := by omega
              have j2 : (c : Int) < x.length := by omega
              have tl := (HTW.out.below hbw HTW.out.lt).lt
              have lx := World.block_lt_of_cell? _ _ gx
              have lgt := World.block_lt_of_cell? _ _ gt
              clear ht hct hdt hb hbw
              have hlen : ((rowW x).take c).length = c := by simp [rowW_len]; omega
              have hszb := HQ.out.1.size
              by_cases htx : tx = -2
              · have d2 : (tx != -2) = false := by simp [htx]
                have HTC := Lib.hid (show (rowW x).take (c + 1) = (rowW x).take c ++ [[]] from take_succ_of (by simp [rowW, HT.out, oneW, htx]))
                obtain ⟨vs, hown, hnext⟩ := addList HQ.out.1 hO hlen (below_alloc wr (.cells #[] 86)) (list0 wr) (.cells #[.slice (some ⟨wr.heap.size, 0, none⟩) 0 0] 76)
                have HG := Lib.hid (show _ ∧ _ from ⟨hown, hnext⟩)
                clear htx hO hlen hown hnext
                go_wp2_with (at_builtin; refine wpList_append_lies _ rfl _ _ 41 rfl wo.heap.size 76 ik _ 1 24 Try.underlying41 hik hzk0 hzk1 hzk2 rfl (by decide) (.slice Bl c cl) c _ rfl HG.out.1 ⟨wr.heap.size + 1, 0, none⟩ 1 1 [.slice (some ⟨wr.heap.size, 0, none⟩) 0 0] rfl rfl (World.news_of_block (cs := #[.slice (some ⟨wr.heap.size, 0, none⟩) 0 0]) (t := 76) (fr := (0, 0)) (by simpa using heap_alloc_new (wr.alloc (.cells #[] 86)) (.cells #[.slice (some ⟨wr.heap.size, 0, none⟩) 0 0] 76))) (by simp [Value.oneCell']) (by omega) (by unfold maxLen; omega) (by omega) (by simp; omega) (wr.heap.size + 2) (by simp) ?_; intro g cap w5 hown5 hgrow5 hat5 hlt5; have HE := Lib.hid (HG.out.2 w5 g cap hgrow5 hown5 (hat5.imp id (fun h => h.trans (by simp)))); clear hown5 hgrow5 hat5 hlt5)
                go_roundw
                case rel => exact ⟨c + 1, _, _, by omega, by go_num, rfl, HE.out.1, by rw [HTC.out]; exact HE.out.2⟩
                case measure => simp [intOf]; omega
              · have d2 : (tx != -2) = true := by simpa using htx
                have HTC := Lib.hid (show (rowW x).take (c + 1) = (rowW x).take c ++ [[(tx, ty)]] from take_succ_of (by simp [rowW, HT.out, oneW, htx]))
                have HO := Lib.hid (show _ ∧ _ from ⟨hO, hlen⟩)
                clear htx hO hlen
                go_wp2_with (at_builtin; first
                  | (refine wpList_append_lies _ rfl _ _ 76 rfl wr.heap.size 86 im _ 2 16 Try.underlying76 him hzm0 hzm1 hzm2 rfl (by decide) (.slice (some ⟨wr.heap.size, 0, none⟩) 0 0) 0 [] rfl ((list0 wr).1.alloc _) ⟨wr.heap.size + 1, 0, none⟩ 1 1 [.int .i64 tx, .int .i64 ty] rfl rfl (World.news_of_block (cs := #[.int .i64 tx, .int .i64 ty]) (t := 86) (fr := (0, 0)) (by simpa using heap_alloc_new (wr.alloc (.cells #[] 86)) (.cells #[.int .i64 tx, .int .i64 ty] 86))) (by simp [Value.oneCell']) (by omega) (by unfold maxLen; omega) (by omega) (by simp; omega) (wr.heap.size + 2) (by simp) ?_; intro g4 cap4 w4 hown4 hgrow4 hat4 hlt4; obtain ⟨hW4, hu4, hz4⟩ := oneList wr tx ty hgrow4 hown4; obtain ⟨vs, hown, hnext⟩ := addList HQ.out.1 HO.out.1 HO.out.2 hW4 hu4 (.cells #[.slice (some ⟨g4, 0, none⟩) 1 cap4] 76); have HG := Lib.hid (show _ ∧ _ from ⟨hown, hnext⟩); clear hown hnext hown4 hgrow4 hat4 hlt4 hW4 hu4)
                  | (refine wpList_append_lies _ rfl _ _ 41 rfl wo.heap.size 76 ik _ 1 24 Try.underlying41 hik hzk0 hzk1 hzk2 rfl (by decide) (.slice Bl c cl) c _ rfl HG.out.1 ⟨w4.heap.size, 0, none⟩ 1 1 [.slice (some ⟨g4, 0, none⟩) 1 cap4] rfl rfl (World.news_of_block (cs := #[.slice (some ⟨g4, 0, none⟩) 1 cap4]) (t := 76) (fr := (0, 0)) (heap_alloc_new w4 _)) (by simp [Value.oneCell']) (by omega) (by unfold maxLen; omega) (by omega) (by simp; omega) (w4.heap.size + 1) (by simp) ?_; intro g cap w5 hown5 hgrow5 hat5 hlt5; have HE := Lib.hid (HG.out.2 w5 g cap hgrow5 hown5 (hat5.imp id (fun h => h.trans (by simp)))); clear hown5 hgrow5 hat5 hlt5))
                go_roundw
                case rel => exact ⟨c + 1, _, _, by omega, by go_num, rfl, HE.out.1, by rw [HTC.out]; exact HE.out.2⟩
                case measure => simp [intOf]; omega
            · obtain rfl : c = x.length := by omega
              rw [List.take_of_length_le (by rw [rowW_len]; exact Nat.le_refl _)] at hO
              have hIw := HI.out.below hb
              obtain ⟨⟨b0, b1, b2⟩, -⟩ := hIw.box.three
              have bf := hIw.box.free 2
              have lbx := hIw.box.lt
              obtain ⟨⟨Bv, cv, hvm⟩, hpo, vs, how, hbv, hgrow⟩ := HI.out.grow
              rw [HYL.out] at hvm how hgrow
              subst hvm
              have HH := Lib.hid (show _ ∧ _ ∧ _ ∧ _ ∧ _ ∧ _ from ⟨hpo, rows_below how hb, hbv, hgrow, hb, hO⟩)
              have hsz2 := hb.size
              have hl3 := HI.out.lt3
              clear hpo how hbv hgrow hb hO hIw x3 hbw
              go_wp2_with (at_builtin; refine wpList_append_lies _ rfl _ _ 28 rfl (w1.heap.size + 2) 41 il _ 1 24 Try.underlying28 hil hzl0 hzl1 hzl2 rfl (by decide) (.slice Bv k cv) k _ rfl (HH.out.2.1.alloc _) ⟨wr.heap.size, 0, none⟩ 1 1 [.slice Bl x.length cl] rfl rfl (World.news_of_block (cs := #[.slice Bl x.length cl]) (t := 41) (fr := (0, 0)) (heap_alloc_new wr _)) (by simp [Value.oneCell']) (by omega) (by unfold maxLen; omega) (by omega) (by simp; omega) (wr.heap.size + 1) (by simp) ?_; intro g cap w5 hown5 hgrow5 hat5 hlt5; have r1 := grown_cell hgrow5 HH.out.1 (below_keep (below_alloc _ _) b2); have r2 := grown_free hgrow5 HH.out.1 (by simp; omega) (below_keepf (below_alloc _ _) lbx bf); have r3 := World.block_lt_of_cell? _ _ r1; have HE := Lib.hid (HH.out.2.2.2.1 wr _ _ _ HH.out.2.2.2.2.1 HH.out.2.2.2.2.2 _ w5 g (k + 1) cap hgrow5 hown5 hat5); clear hown5 hgrow5 hat5 hlt5)
              go_roundw
              case rel => exact ⟨k + 1, _, by omega, by go_num, by rw [HTK.out]; exact HE.out⟩
              case measure => simp [intOf]; omega

        · obtain rfl : k = t.mv.length := by omega
          obtain ⟨⟨t0, t1, t2⟩, -⟩ := (HTW.out.below hI.bel HTW.out.lt).three
          obtain ⟨Bv, nv, cv, rfl⟩ : ∃ Bv nv cv, vm = .slice Bv nv cv := by
            obtain ⟨bs0, hO0⟩ := hI.mv
            obtain ⟨B, c, e⟩ := OwL.shape hO0
            exact ⟨_, _, _, e⟩
          obtain ⟨⟨b0, b1, b2⟩, -⟩ := hI.box.three
          have lb := hI.box.lt
          obtain ⟨⟨z0, z1, z2⟩, zf⟩ := hI.res.three
          have lz := hI.res.lt
          have HI := Lib.hid hI
          clear hI a3
          go_wp2
          obtain ⟨⟨y0, y1, y2⟩, ⟨bo, hO⟩, hbz⟩ := HI.out.stored
          generalize ((wo.setCell ⟨wT.heap.size, 0, none⟩ (.int .i64 t.L)).setCell ⟨wT.heap.size, 1, none⟩ (.slice (some ⟨w1.heap.size, 0, none⟩) 1 1)).setCell ⟨wT.heap.size, 2, none⟩ (.slice Bv nv cv) = WF at *
          refine bodyPost_ret (v := .tuple #[.agg #[.int .i64 t.L, .slice (some ⟨w1.heap.size, 0, none⟩) 1 1, .slice Bv nv cv], .int .i64 0]) (by simp [results, Try.results17, go_sem, y0, y1, y2]) rfl ?_
          rw [HRES.out]
          rw [List.take_of_length_le (by simp)] at hO
          exact ⟨_, rfl, hO.rd, HT0.out.trans (hbz.mono hsz)⟩
    · have d1 : decide (5 < (t.mv.length : Int)) = true := by simp; omega
      have HRES := Lib.hid (show wofRes t = (⟨0, [], []⟩, 3) by unfold wofRes; rw [if_pos hok, if_neg hn])
      clear hn a3
      obtain ⟨⟨z0, z1, z2⟩, zf⟩ := HR1.out.three
      have lz := HR1.out.lt
      go_wp2
      have hrow := ((HR1.out.stored 0 (.int .i64 0)).stored 1 (.slice none 0 0)).stored 2 (.slice none 0 0)
      obtain ⟨⟨y0, y1, y2⟩, -⟩ := (show Row _ _ 30 [.int .i64 0, .slice none 0 0, .slice none 0 0] from hrow).three
      have hbz := (((HT0.out.trans (HB1.out.mono hsz)).setCell (p := ⟨wT.heap.size, 0, none⟩) (by show w.heap.size ≤ wT.heap.size; omega) (.int .i64 0)).setCell (p := ⟨wT.heap.size, 1, none⟩) (by show w.heap.size ≤ wT.heap.size; omega) (.slice none 0 0)).setCell (p := ⟨wT.heap.size, 2, none⟩) (by show w.heap.size ≤ wT.heap.size; omega) (.slice none 0 0)
      refine bodyPost_ret (v := .tuple #[.agg #[.int .i64 0, .slice none 0 0, .slice none 0 0], .int .i64 3]) (by simp [results, Try.results17, go_sem, y0, y1, y2]) rfl ?_
      rw [HRES.out]
      exact ⟨_, rfl, OwW.rd (lo := 0) (bs := []) ⟨_, _, [], [], rfl, owV_nil ints [] rfl _ _ _, owL_nil _ _ _ _, rfl, by simp⟩, hbz⟩
  · have hok' : okT t = false := by simpa using hok
    have HRES := Lib.hid (show wofRes t = (⟨0, [], []⟩, 1) by unfold wofRes; rw [if_neg hok])
    clear hok a3
    obtain ⟨⟨z0, z1, z2⟩, zf⟩ := HR1.out.three
    have lz := HR1.out.lt
    go_wp2
    have hrow := ((HR1.out.stored 0 (.int .i64 0)).stored 1 (.slice none 0 0)).stored 2 (.slice none 0 0)
    obtain ⟨⟨y0, y1, y2⟩, -⟩ := (show Row _ _ 30 [.int .i64 0, .slice none 0 0, .slice none 0 0] from hrow).three
    have hbz := (((HT0.out.trans (HB1.out.mono hsz)).setCell (p := ⟨wT.heap.size, 0, none⟩) (by show w.heap.size ≤ wT.heap.size; omega) (.int .i64 0)).setCell (p := ⟨wT.heap.size, 1, none⟩) (by show w.heap.size ≤ wT.heap.size; omega) (.slice none 0 0)).setCell (p := ⟨wT.heap.size, 2, none⟩) (by show w.heap.size ≤ wT.heap.size; omega) (.slice none 0 0)
    refine bodyPost_ret (v := .tuple #[.agg #[.int .i64 0, .slice none 0 0, .slice none 0 0], .int .i64 1]) (by simp [results, Try.results17, go_sem, y0, y1, y2]) rfl ?_
    rw [HRES.out]
    exact ⟨_, rfl, OwW.rd (lo := 0) (bs := []) ⟨_, _, [], [], rfl, owV_nil ints [] rfl _ _ _, owL_nil _ _ _ _, rfl, by simp⟩, hbz⟩
end Go.Proofs.Ytncabipncekifaa
