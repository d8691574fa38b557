/-
  The pebbler of a turner: the model's answer.
-/
import Derived.Test.YtidnohgjbbnadaaPo1
import Derived.Test.YtidnohgjbbnadaaV4
import Derived.BigRegion
import Derived.Deep.CutRange
namespace Go.Proofs.Ytidnohgjbbnadaa
open Go.RowKit

set_option maxRecDepth 100000 in
set_option maxHeartbeats 6400000 in
theorem specPo_rd (v : Value) (t : TData) (w : World) (h : RdT w v t) :
    Calls Try.prog 30 #[v] w fun e w' => ∃ u, e = .returned (.tuple #[u, .int .i64 (pebRes t).2]) ∧ RdPb w' u (pebRes t).1 ∧ Below w.heap.size w w' := by
  obtain ⟨im, him, hzm0, hzm1, hzm2⟩ := info_parts infoPebbleMove
  obtain ⟨is, his, hzs0, hzs1, hzs2⟩ := info_parts infoTrS
  have HV := Lib.hid (fun W (hb : Below w.heap.size w W) => specValidTurner_any v t W (keepsT _ _ _ _ h hb))
  obtain ⟨L, S, mv⟩ := t
  obtain ⟨vm, rfl, hm⟩ := h
  simp only at hm
  obtain ⟨A, ka, rfl, a1, a2, a3⟩ := RdL.open hm
  unfold maxLen at a2
  have HB := Lib.hid (below_step (below_alloc w (.cells #[.int .i64 L, .int .i64 S, .slice A mv.length ka] 29)) (below_alloc _ (.cells #[.int .i64 0, .int .i64 0, .slice none 0 0] 48)))
  have HR := Lib.hid ((Row.new w [.int .i64 L, .int .i64 S, .slice A mv.length ka] 29).alloc (.cells #[.int .i64 0, .int .i64 0, .slice none 0 0] 48))
  have hz := Row.new (w.alloc (.cells #[.int .i64 L, .int .i64 S, .slice A mv.length ka] 29)) [.int .i64 0, .int .i64 0, .slice none 0 0] 48
  have HZ := Lib.hid (show Row _ (w.heap.size + 1) _ _ by simpa using hz)
  clear hm hz
  by_cases hok : okT ⟨L, S, mv⟩ = true
  · rw [hok] at HV
    have HK := Lib.hid (okT_out hok)
    have hk2 := HK.out.n2
    have hk1 := HK.out.n1
    have hl2 := HK.out.l2
    have hl1 := HK.out.l1
    simp only at hk1 hk2 hl1 hl2
    by_cases h8 : mv.length ≤ 8
    · have HRES := Lib.hid (show pebRes ⟨L, S, mv⟩ = (⟨L, S, mv.map dblRow⟩, 0) by rw [pebRes, if_pos hok, if_pos h8]; rfl)
      have d8 : ¬ (8 : Int) < mv.length := by omega
      clear hok
      go_enter Try.func30, Try.ntmps30
      go_wp2_with fail
      refine (HV.out _ HB.out).mono ?_
      rintro e w1 ⟨rfl, hb1⟩
      have HR1 := Lib.hid (HR.out.below hb1 HR.out.lt)
      have HZ1 := Lib.hid (HZ.out.below hb1 HZ.out.lt)
      have HB1 := Lib.hid (below_step HB.out hb1)
      obtain ⟨⟨c0, c1, c2⟩, -⟩ := HR1.out.three
      have lt1 := HR1.out.lt
      clear hb1 HR HZ HB
      have HI := Lib.hid (show PoI w w1.heap.size [.int .i64 L, .int .i64 S, .slice A mv.length ka] ⟨L, S, []⟩ (w1.alloc (.cells #[.int .i64 L, .int .i64 S, .slice none 0 0] 48)) from by
        refine ⟨below_step HB1.out (below_alloc _ _), HR1.out.alloc _, HZ1.out.alloc _, by have := HZ1.out.lt; omega, _, [], Row.new w1 [.int .i64 L, .int .i64 S, .slice none 0 0] _, owL_nil _ _ _ _, by simp⟩)
      go_wp2
      generalize hpo : w1.heap.size = po at *
      clear d8
      clear hpo c0 c1 c2 lt1 HR1 HZ1 HB1
      generalize w1.alloc (.cells #[.int .i64 L, .int .i64 S, .slice none 0 0] 48) = W0 at *
      go_loopw [5] (fun i wr => ∃ q : Nat, q ≤ mv.length ∧ i = .int .i64 q ∧ PoI w po [.int .i64 L, .int .i64 S, .slice A mv.length ka] ⟨L, S, (mv.map dblRow).take q⟩ wr) (fun i _ => mv.length - (intOf i).toNat)
      case atStart => exact ⟨0, Nat.zero_le _, rfl, by simpa using HI.out⟩
      case round =>
        clear HI
        obtain ⟨wo, hwo⟩ : ∃ wo, wo = wr := ⟨wr, rfl⟩
        subst hwo
        obtain ⟨q, hq, rfl, hI⟩ := hrel
        have HI2 := Lib.hid hI
        obtain ⟨⟨c0, c1, c2⟩, -⟩ := hI.2.1.three
        have ltc := hI.2.1.lt
        clear hI
        by_cases hlt : q < mv.length
        · obtain ⟨b, off, ux, x, rfl, hx, hcx, hRx⟩ := a3 q hlt
          have hxl := HK.out.len q x hx
          simp only at hxl
          obtain ⟨C, kc, rfl, x1, x2, x3⟩ := RdP.open hRx
          unfold maxLen at x2
          have HCX := Lib.hid hcx
          have HTK := Lib.hid (show (mv.map dblRow).take (q + 1) = (mv.map dblRow).take q ++ [dblRow x] from take_succ_of (by simp [hx]))
          obtain ⟨ms, hms⟩ : ∃ ms, (mv.map dblRow).take q = ms := ⟨_, rfl⟩
          have hml : ms.length = q := by rw [← hms, List.length_take, List.length_map]; omega
          rw [hms] at HTK HI2
          have i1 : (0 : Int) ≤ q := by omega
          have i2 : (q : Int) < mv.length := by omega
          have hx5 : x.length ≤ 5 := by omega
          have H1 := Lib.hid (trisI0 wo)
          clear hx hcx hRx hms hxl
          go_wp2
          have HB1 := Lib.hid (below_alloc wo (.cells #[] 102))
          generalize wo.alloc (.cells #[] 102) = W1 at *
          clear c0 c1 c2 ltc
          go_loopw [6, 7] (fun vl i wi => ∃ (j dn dl : Nat) (Bd : Option Addr), j ≤ x.length ∧ i = .int .i64 j ∧ dn = 2 * j ∧ vl = .slice Bd dn dl ∧ Below wo.heap.size wo wi ∧ ∃ bs, Ow3 102 wi wo.heap.size (.slice Bd dn dl) (dblRow (x.take j)) bs) (fun _ i _ => x.length - (intOf i).toNat)
          case atStart => exact ⟨0, 0, 0, _, Nat.zero_le _, rfl, rfl, rfl, HB1.out, _, by simpa [dblRow] using H1.out⟩
          case round =>
            clear H1 HB1
            obtain ⟨j, dn, dl, Bd, hj, rfl, hdn, rfl, hbd, bsd, hOd⟩ := hrel
            have HDN := Lib.hid hdn
            have hdn2 : dn ≤ 10 := by omega
            have HD := Lib.hid (show _ ∧ _ from ⟨hbd, hOd⟩)
            have hsd := hbd.size
            have hI2 := HI2.out.below hbd
            obtain ⟨⟨c0, c1, c2⟩, -⟩ := hI2.2.1.three
            have gx := below_keep hI2.1 HCX.out
            have lw := hI2.2.1.lt
            have lb := World.block_lt_of_cell? _ _ gx
            clear hI2
            by_cases hjl : j < x.length
            · obtain ⟨bt, offt, tx, ty, rfl, ht, hct, hdt⟩ := x3 j hjl
              have gt := below_keep (below_step HI2.out.1 hbd) hct
              have gd := below_keep (below_step HI2.out.1 hbd) hdt
              have HTJ := Lib.hid (dblRow_take ht)
              have j1 : (0 : Int) ≤ j := by omega
              have j2 : (j : Int) < x.length := by omega
              have HO2 := Lib.hid hOd
              have lbt := World.block_lt_of_cell? _ _ gt
              clear ht hct hdt hOd x3 hdn hbd
              go_upto_region 13 with fail
              go_region
              obtain ⟨wx, hwx⟩ : ∃ wx, (wr.alloc (.cells #[.int .i64 tx, .int .i64 ty, .int .i64 0] 102)).drew = wx := ⟨_, rfl⟩
              have HWX := Lib.hid (show Below wr.heap.size wr wx by rw [← hwx]; exact (below_alloc _ _).drew)
              obtain ⟨⟨e0, e1, e2⟩, -⟩ := (show Row wx wr.heap.size 102 [.int .i64 tx, .int .i64 ty, .int .i64 0] by rw [← hwx]; exact (Row.new wr _ _).drew).three
              have HG := Lib.hid (addTris HD.out.1 HD.out.2 (by have := HDN.out; rw [dblRow_len, List.length_take]; omega) (below_step HWX.out (below_alloc wx (.cells #[.int .i64 tx, .int .i64 ty, .int .i64 0, .int .i64 tx, .int .i64 ty, .int .i64 0] 102))))
              have hsx := HWX.out.size
              rw [hwx]
              clear hwx gt gd gx c0 c1 c2
              go_wp2_with (at_builtin; refine wpList_append_lies _ rfl _ _ 100 rfl wo.heap.size 102 im _ 3 24 Try.underlying100 him hzm0 hzm1 hzm2 rfl (by decide) (.slice Bd dn dl) dn _ rfl HG.out.1 ⟨wx.heap.size, 0, none⟩ 2 2 [.int .i64 tx, .int .i64 ty, .int .i64 0, .int .i64 tx, .int .i64 ty, .int .i64 0] rfl rfl (World.news_of_block (cs := #[.int .i64 tx, .int .i64 ty, .int .i64 0, .int .i64 tx, .int .i64 ty, .int .i64 0]) (t := 102) (fr := (0, 0)) (by simpa using heap_alloc_new (wx) (.cells #[.int .i64 tx, .int .i64 ty, .int .i64 0, .int .i64 tx, .int .i64 ty, .int .i64 0] 102))) (by simp [Value.oneCell']) (by omega) (by unfold maxLen; omega) (by omega) (by simp; omega) (wx.heap.size + 1) (by simp) ?_; intro g5 cap5 w5 hown5 hgrow5 hat5 hlt5; have HE := Lib.hid (HG.out.2 w5 g5 cap5 (dn + 2) [(tx, ty, 0), (tx, ty, 0)] (by simp) hgrow5 (by rw [tri2]; exact hown5)); clear hown5 hgrow5 hat5 hlt5)
              go_roundw
              case rel => exact ⟨j + 1, dn + 2, _, _, by omega, by go_num, by have := HDN.out; omega, rfl, HE.out.1, by rw [HTJ.out]; exact HE.out.2⟩
              case measure => simp [intOf]; omega
            · obtain rfl : j = x.length := by omega
              rw [List.take_length] at hOd HD
              obtain ⟨Bm, km, vs, ho, hrn, pn, vn1, gN⟩ := (BoxPb.open HI2.out.2.2.2.2)
              rw [hml] at ho hrn pn vn1 gN
              have HO := Lib.hid (show _ ∧ _ ∧ _ ∧ _ ∧ _ from ⟨ho, hrn, pn, vn1, gN⟩)
              have lpo := ho.lt
              have hlo2 := HI2.out.2.2.2.1
              have o2 := below_keep hbd (ho.three.1.2.2)
              have f2 := below_keepf hbd lpo (ho.free 2)
              have o2' := below_keep (below_alloc wr (.cells #[.slice Bd dn dl] 100)) o2
              have f2' := below_keepf (below_alloc wr (.cells #[.slice Bd dn dl] 100)) (Nat.lt_of_lt_of_le lpo hsd) f2
              clear ho hrn pn vn1 gN hOd hbd x3 hdn
              go_wp2_with (at_builtin; refine wpList_append_lies _ rfl _ _ 46 rfl (w.heap.size + 2) 100 is _ 1 24 Try.underlying46 his hzs0 hzs1 hzs2 rfl (by decide) (.slice Bm q km) q _ rfl (rows_below HO.out.2.1 (below_step HD.out.1 (below_alloc _ _))) ⟨wr.heap.size, 0, none⟩ 1 1 [.slice Bd dn dl] rfl rfl (World.news_of_block (cs := #[.slice Bd dn dl]) (t := 100) (fr := (0, 0)) (heap_alloc_new wr _)) (by simp [Value.oneCell']) (by omega) (by unfold maxLen; omega) (by omega) (by simp; omega) (wr.heap.size + 1) (by simp) ?_; intro g6 cap6 w6 hown6 hgrow6 hat6 hlt6; have p2 := grown_cell hgrow6 HO.out.2.2.1 o2'; have q2 := grown_free hgrow6 HO.out.2.2.1 (by simp; omega) f2'; have HN := Lib.hid (HI2.out.more HD.out.1 HD.out.2 HO.out.2.2.2.1 HO.out.2.2.2.2 hgrow6 hown6 hat6); clear hown6 hgrow6 hat6 hlt6)
              go_roundw
              case rel => exact ⟨q + 1, by omega, by go_num, by rw [HTK.out]; exact HN.out⟩
              case measure => simp [intOf]; omega
        · obtain rfl : q = mv.length := by omega
          rw [List.take_of_length_le (by simp)] at HI2
          clear c0 c1 c2 ltc
          obtain ⟨Bm, km, bs, hrow, hOw⟩ := (BoxPb.own HI2.out.2.2.2.2)
          simp only [List.length_map] at hrow hOw
          obtain ⟨⟨x0, x1, x2⟩, -⟩ := hrow.three
          obtain ⟨⟨z0, z1, z2⟩, zf⟩ := HI2.out.2.2.1.three
          obtain ⟨⟨c0, c1, c2⟩, -⟩ := HI2.out.2.1.three
          have lx := hrow.lt
          have lz := HI2.out.2.2.1.lt
          have lc := HI2.out.2.1.lt
          have HXX := Lib.hid hOw
          clear hrow hOw a3
          go_wp2
          obtain ⟨W2, hW2, ⟨y0, y1, y2⟩, eO, eB⟩ := stored3Pb HI2.out.2.2.1 HXX.out (Nat.lt_succ_self _) (Nat.le_succ _) HI2.out.1
          rw [← hW2]
          clear hW2
          refine bodyPost_ret (v := .tuple #[.agg #[.int .i64 L, .int .i64 S, .slice Bm mv.length km], .int .i64 0]) (by simp [results, Try.results30, go_sem, y0, y1, y2]) rfl ?_
          rw [HRES.out]
          exact ⟨_, rfl, eO.rd, eB⟩
    · have HRES := Lib.hid (show pebRes ⟨L, S, mv⟩ = (⟨0, 0, []⟩, 3) by rw [pebRes, if_pos hok, if_neg h8])
      have d8 : (8 : Int) < mv.length := by omega
      clear hok a3
      go_enter Try.func30, Try.ntmps30
      go_wp2_with fail
      refine (HV.out _ HB.out).mono ?_
      rintro e w1 ⟨rfl, hb1⟩
      have HR1 := Lib.hid (HR.out.below hb1 HR.out.lt)
      have HZ1 := Lib.hid (HZ.out.below hb1 HZ.out.lt)
      have HB1 := Lib.hid (below_step HB.out hb1)
      obtain ⟨⟨c0, c1, c2⟩, -⟩ := HR1.out.three
      have lt1 := HR1.out.lt
      clear hb1 HR HZ HB
      obtain ⟨⟨z0, z1, z2⟩, zf⟩ := HZ1.out.three
      have lz := HZ1.out.lt
      go_wp2
      obtain ⟨W2, hW2, ⟨y0, y1, y2⟩, eO, eB⟩ := stored3Pb HZ1.out (owPb_zero _ (w.heap.size + 2)) (Nat.lt_succ_self _) (Nat.le_succ _) HB1.out
      rw [← hW2]
      clear hW2
      refine bodyPost_ret (v := .tuple #[.agg #[.int .i64 0, .int .i64 0, .slice none 0 0], .int .i64 3]) (by simp [results, Try.results30, go_sem, y0, y1, y2]) rfl ?_
      rw [HRES.out]
      exact ⟨_, rfl, eO.rd, eB⟩
  · have hok' : okT ⟨L, S, mv⟩ = false := by simpa using hok
    rw [hok'] at HV
    have HRES := Lib.hid (show pebRes ⟨L, S, mv⟩ = (⟨0, 0, []⟩, 1) by rw [pebRes, if_neg hok])
    clear hok hok' a3
    go_enter Try.func30, Try.ntmps30
    go_wp2_with fail
    refine (HV.out _ HB.out).mono ?_
    rintro e w1 ⟨rfl, hb1⟩
    have HR1 := Lib.hid (HR.out.below hb1 HR.out.lt)
    have HZ1 := Lib.hid (HZ.out.below hb1 HZ.out.lt)
    have HB1 := Lib.hid (below_step HB.out hb1)
    obtain ⟨⟨c0, c1, c2⟩, -⟩ := HR1.out.three
    have lt1 := HR1.out.lt
    clear hb1 HR HZ HB
    clear c0 c1 c2
    obtain ⟨⟨z0, z1, z2⟩, zf⟩ := HZ1.out.three
    have lz := HZ1.out.lt
    go_wp2
    obtain ⟨W2, hW2, ⟨y0, y1, y2⟩, eO, eB⟩ := stored3Pb HZ1.out (owPb_zero _ (w.heap.size + 2)) (Nat.lt_succ_self _) (Nat.le_succ _) HB1.out
    rw [← hW2]
    clear hW2
    refine bodyPost_ret (v := .tuple #[.agg #[.int .i64 0, .int .i64 0, .slice none 0 0], .int .i64 1]) (by simp [results, Try.results30, go_sem, y0, y1, y2]) rfl ?_
    rw [HRES.out]
    exact ⟨_, rfl, eO.rd, eB⟩
end Go.Proofs.Ytidnohgjbbnadaa
