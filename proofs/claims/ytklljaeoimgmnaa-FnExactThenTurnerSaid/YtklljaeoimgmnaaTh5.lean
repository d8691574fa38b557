/-
  One turner after another: the model's answer.
-/
import Derived.Test.YtklljaeoimgmnaaTh4
import Derived.Test.YtklljaeoimgmnaaThA
import Derived.BigRegion
import Derived.Test.YtklljaeoimgmnaaSt1
import Derived.Deep.CutRange
namespace Go.Proofs.Ytklljaeoimgmnaa
open Go.RowKit

/-- A box of one move that a region has made. -/
def AtBoxP (W : World) (m : Int × Int) (s : Value) (wx : World) : Prop := ∃ ph, s = .pointer (some ⟨ph, 0, none⟩) ∧ Row wx ph 51 [.int .i64 m.1, .int .i64 m.2] ∧ Below W.heap.size W wx
theorem AtBoxP.drew {W : World} {m : Int × Int} {s : Value} {wx : World} (k : AtBoxP W m s wx) : AtBoxP W m s wx.drew := by
  obtain ⟨ph, a, b, c⟩ := k
  exact ⟨ph, a, b, c.drew⟩
theorem atBoxP_new {W wb : World} {m : Int × Int} (k : Below W.heap.size W wb) : AtBoxP W m (.pointer (some ⟨wb.heap.size, 0, none⟩)) (wb.alloc (.cells #[.int .i64 m.1, .int .i64 m.2] 51)) :=
  ⟨_, rfl, Row.new wb [.int .i64 m.1, .int .i64 m.2] 51, below_step k (below_alloc _ _)⟩
theorem atBoxP_old {W wb : World} {po : Nat} {m : Int × Int} {x y : Value} (k : Row wb po 51 [x, y]) (hp : W.heap.size ≤ po) (h0 : Below W.heap.size W wb) : AtBoxP W m (.pointer (some ⟨po, 0, none⟩)) ((wb.setCell ⟨po, 0, none⟩ (.int .i64 m.1)).setCell ⟨po, 1, none⟩ (.int .i64 m.2)) :=
  ⟨_, rfl, (k.stored 0 _).stored 1 _, (h0.setCell (p := ⟨po, 0, none⟩) hp _).setCell (p := ⟨po, 1, none⟩) hp _⟩

set_option maxRecDepth 100000 in
set_option maxHeartbeats 25600000 in
theorem specTh_own (v0 v1 : Value) (t u : TData) (w : World) (h0 : RdT w v0 t) (h1 : RdT w v1 u) :
    Calls Try.prog 6 #[v0, v1] w fun e w' => ∃ x bs, e = .returned (.tuple #[x, .int .i64 (thRes t u).2]) ∧ OwT w' w.heap.size x (thRes t u).1 bs ∧ Below w.heap.size w w' := by
  obtain ⟨m0, rfl, -⟩ := atT_box h0 28
  obtain ⟨_, e0, hm0⟩ := h0
  cases e0
  obtain ⟨A, ca, rfl⟩ := RdL.shape (show RdPP _ m0 t.mv from hm0)
  obtain ⟨m1, rfl, -⟩ := atT_box h1 28
  obtain ⟨_, e1, hm1⟩ := h1
  cases e1
  obtain ⟨B, cb, rfl⟩ := RdL.shape (show RdPP _ m1 u.mv from hm1)
  have HM0 := Lib.hid (show RdPP w (.slice A t.mv.length ca) t.mv from hm0)
  have HM1 := Lib.hid (show RdPP w (.slice B u.mv.length cb) u.mv from hm1)
  have HI0 := Lib.hid (ThI.start w [.int .i64 t.L, .int .i64 t.S, .slice A t.mv.length ca] [.int .i64 u.L, .int .i64 u.S, .slice B u.mv.length cb])
  simp only [List.toArray] at HI0
  have HV0 := Lib.hid (fun (W : World) (hI : ThI w [.int .i64 t.L, .int .i64 t.S, .slice A t.mv.length ca] [.int .i64 u.L, .int .i64 u.S, .slice B u.mv.length cb] W) => l02Ok_any _ t W (Row.atT hI.2.1 (keepsPP _ _ _ _ HM0.out hI.1)))
  have HV1 := Lib.hid (fun (W : World) (hI : ThI w [.int .i64 t.L, .int .i64 t.S, .slice A t.mv.length ca] [.int .i64 u.L, .int .i64 u.S, .slice B u.mv.length cb] W) => l02Ok_any _ u W (Row.atT hI.2.2.1 (keepsPP _ _ _ _ HM1.out hI.1)))
  clear hm0 hm1
  have HERR := Lib.hid (fun (W : World) (hI : ThI w [.int .i64 t.L, .int .i64 t.S, .slice A t.mv.length ca] [.int .i64 u.L, .int .i64 u.S, .slice B u.mv.length cb] W) => own_storedT (w := w) (A := none) (n := 0) (k := 0) (L := 0) (S := 0) hI.2.2.2 hI.1 (by omega) hI.2.2.2.lt (t := ⟨0, 0, []⟩) ⟨_, [], rfl, owL_nil _ _ _ _, rfl, by simp⟩)
  by_cases hok : okT t = true
  · by_cases hoku : okT u = true
    · have HK := Lib.hid (show _ ∧ _ from ⟨okT_out hok, okT_out hoku⟩)
      have HOK := Lib.hid (show _ ∧ _ from ⟨hok, hoku⟩)
      rw [hok] at HV0
      rw [hoku] at HV1
      clear hok hoku
      go_enter Try.func6, Try.ntmps6
      go_wp2_with fail
      refine (HV0.out _ HI0.out).mono ?_
      generalize (((w.alloc (.cells #[.int .i64 t.L, .int .i64 t.S, .slice A t.mv.length ca] 28)).alloc (.cells #[.int .i64 u.L, .int .i64 u.S, .slice B u.mv.length cb] 28)).alloc (.cells #[.int .i64 0, .int .i64 0, .slice none 0 0] 28)) = W0 at *
      rintro e w1 ⟨rfl, hb1⟩
      have HI1 := Lib.hid (HI0.out.below hb1)
      clear hb1 HI0
      go_wp2_with fail
      refine (HV1.out _ HI1.out).mono ?_
      rintro e w2 ⟨rfl, hb2⟩
      have HI2 := Lib.hid (HI1.out.below hb2)
      clear hb2 HI1
      by_cases hL : t.L = u.L
      · have HLE := Lib.hid hL
        have dL : (t.L != u.L) = false := by simpa using hL
        clear hL
        obtain ⟨Lu, hLu⟩ : ∃ Lu : Nat, u.L = Lu := ⟨u.L.toNat, by have := HK.out.2.l1; omega⟩
        obtain ⟨Su, hSu⟩ : ∃ Su : Nat, u.S = Su := ⟨u.S.toNat, by have := HK.out.2.s1; omega⟩
        obtain ⟨b, off, rfl⟩ := rd_box HM1.out HK.out.2
        have n12 : t.mv.length ≤ 12 := by have := HK.out.1.n2; omega
        have m12 : u.mv.length ≤ 12 := by have := HK.out.2.n2; omega
        obtain ⟨⟨a0, a1, a2⟩, -⟩ := HI2.out.2.1.three
        obtain ⟨⟨b0, b1, b2⟩, -⟩ := HI2.out.2.2.1.three
        have lt0 := HI2.out.2.1.lt
        have lt1 := HI2.out.2.2.1.lt
        have HJ3 := Lib.hid (show ThI w [.int .i64 t.L, .int .i64 t.S, .slice A t.mv.length ca] [.int .i64 u.L, .int .i64 u.S, .slice (some ⟨b, off, none⟩) u.mv.length cb] (w2.alloc (.cells #[.int .i64 ((t.mv.length : Int) + u.mv.length), .int .i64 (-1)] 51)) ∧ Row (w2.alloc (.cells #[.int .i64 ((t.mv.length : Int) + u.mv.length), .int .i64 (-1)] 51)) w2.heap.size 51 [.int .i64 ((t.mv.length : Int) + u.mv.length), .int .i64 (-1)] from ⟨HI2.out.below (below_alloc _ _), Row.new w2 [.int .i64 ((t.mv.length : Int) + u.mv.length), .int .i64 (-1)] 51⟩)
        have HLU := Lib.hid (show _ ∧ _ from ⟨hLu, hSu⟩)
        clear hLu hSu
        go_upto_region 7 with fail
        generalize w2.alloc (.cells #[.int .i64 ((t.mv.length : Int) + u.mv.length), .int .i64 (-1)] 51) = w3 at *
        generalize w2.heap.size = p7 at *
        clear a0 a1 a2 b0 b1 b2 lt0 lt1 HI2
        obtain ⟨⟨b0, b1, b2⟩, -⟩ := HJ3.out.1.2.2.1.three
        rw [HLU.out.1] at b0
        rw [HLU.out.2] at b1
        have s2 : Su < u.mv.length := by have := HK.out.2.s2; have := HLU.out.2; omega
        obtain ⟨bx, offx, cx, cd, e0, e1, e2, e3, e4, e5⟩ := rd_at (keepsPP _ _ _ _ HM1.out HJ3.out.1.1) HK.out.2 s2 (k := Lu) (by have := HLU.out.1; omega)
        unfold maxLen at e3
        have lt3 := HJ3.out.1.2.2.1.lt
        have ltb := World.block_lt_of_cell? _ _ e0
        have ltx := World.block_lt_of_cell? _ _ e4
        obtain ⟨x0, m, -, -, hat, hmv, -⟩ := HK.out.2.at (q := Su) (k := Lu) s2 (by have := HLU.out.1; omega)
        have hin := okMove_out hmv
        have HRA := Lib.hid (fun W => l02Raised_any m.1 m.2 t.mv.length W (by omega) (by omega) n12)
        rw [← hat] at HRA
        have HBG := Lib.hid (show thBegin t u = raiseM t.mv.length ((moveAt u Su Lu).1, (moveAt u Su Lu).2) by unfold thBegin; rw [show u.S.toNat = Su by have := HLU.out.2; omega, show u.L.toNat = Lu by have := HLU.out.1; omega])
        have i1 : (0 : Int) ≤ Su := by omega
        have i2 : (Su : Int) < u.mv.length := by omega
        have i3 : (0 : Int) ≤ Lu := by omega
        have i4 : (Lu : Int) < cx := by have := HLU.out.1; omega
        have i5 : (Su : Int) ≤ 12 := by omega
        have i6 : cx ≤ 5 := by have := HK.out.2.l2; omega
        clear hat hmv hin e1
        go_cut [8] from 39 to 50 (fun s8 wx => AtBoxP w3 (thBegin t u) s8 wx)
        case first =>
          go_region_held3 (fun W => W.cell? ⟨w.heap.size + 1, 0, none⟩ = some (.int .i64 (Lu : Int)) ∧ W.cell? ⟨w.heap.size + 1, 1, none⟩ = some (.int .i64 (Su : Int)) ∧ W.cell? ⟨w.heap.size + 1, 2, none⟩ = some (.slice (some ⟨b, off, none⟩) u.mv.length cb) ∧ W.cell? ⟨b, off + Su, none⟩ = some (.slice (some ⟨bx, offx, none⟩) cx cd) ∧ W.cell? ⟨bx, offx + Lu * 2, none⟩ = some (.int .i64 (moveAt u Su Lu).1) ∧ W.cell? ⟨bx, offx + Lu * 2 + 1, none⟩ = some (.int .i64 (moveAt u Su Lu).2))
            (first | (go_split_ands; refine ⟨?_, ?_, ?_, ?_, ?_, ?_⟩ <;> (first | assumption | exact below_keep hbk (by assumption) | exact below_keep (below_alloc _ _) (by assumption) | exact below_keep ((below_alloc _ _).drew) (by assumption) | exact keep_reallocT (by omega) (by assumption) | exact keep_two (by omega) (by assumption) | exact keep_two_drew (by omega) (by assumption))) | go_keep)
            (first
              | (go_at_call 21; (with_reducible refine (HRA.out _).mono ?_); rintro e wb ⟨rfl, hbk⟩; have HCb := Lib.hid (show Below w3.heap.size w3 wb from below_step (by (first | with_reducible exact (Below.refl _ _) | with_reducible exact (Below.refl _ _).drew | with_reducible exact (below_step (Below.refl _ _) (below_alloc _ _)) | with_reducible exact (below_step (Below.refl _ _) (below_alloc _ _)).drew)) hbk); have hszb := HCb.out.size; (first | (have HZn := Lib.hid (show Row wb w3.heap.size 51 [.int .i64 0, .int .i64 0] from Row.below (Row.new w3 [.int .i64 0, .int .i64 0] 51) hbk (Row.lt (Row.new w3 [.int .i64 0, .int .i64 0] 51)))) | (have HZn := Lib.hid (show Row wb w3.heap.size 51 [.int .i64 0, .int .i64 0] from Row.below (Row.new w3 [.int .i64 0, .int .i64 0] 51).drew hbk (Row.lt (Row.new w3 [.int .i64 0, .int .i64 0] 51).drew))) | skip); (first | (obtain ⟨⟨z0, z1⟩, zf⟩ := HZn.out.two; have ltz := HZn.out.lt) | skip)))
          all_goals
            go_wp2_with fail
            go_meet
            rw [HBG.out]
            first | exact atBoxP_new HCb.out | exact (atBoxP_new HCb.out).drew | exact atBoxP_old HZn.out (by omega) HCb.out | exact (atBoxP_old HZn.out (by omega) HCb.out).drew
        case rest =>
          obtain ⟨p8, rfl, hp8, hb4⟩ := hcut
          obtain ⟨im, him, hzm0, hzm1, hzm2⟩ := info_parts infoMove
          obtain ⟨is, his, hzs0, hzs1, hzs2⟩ := info_parts infoMsT
          obtain ⟨c, hc⟩ : ∃ c : Nat, (c : Int) = t.L + 2 := ⟨(t.L + 2).toNat, by have := HK.out.1.l1; omega⟩
          have c3 : 3 ≤ c := by have := HK.out.1.l1; omega
          have c5 : c ≤ 5 := by have := HK.out.1.l2; omega
          have HC := Lib.hid hc
          have nn1 : 1 ≤ t.mv.length := by have := HK.out.1.n1; omega
          have HI4 := Lib.hid (show ThI w [.int .i64 t.L, .int .i64 t.S, .slice A t.mv.length ca] [.int .i64 u.L, .int .i64 u.S, .slice (some ⟨b, off, none⟩) u.mv.length cb] wc ∧ Row wc p7 51 [.int .i64 ((t.mv.length : Int) + u.mv.length), .int .i64 (-1)] ∧ Row wc p8 51 [.int .i64 (thBegin t u).1, .int .i64 (thBegin t u).2] from ⟨HJ3.out.1.below hb4, HJ3.out.2.below hb4 HJ3.out.2.lt, hp8⟩)
          have HCP := Lib.hid (l02Copy_own w.heap.size t wc (Row.atT HI4.out.1.2.1 (keepsPP _ _ _ _ HM0.out HI4.out.1.1)) HK.out.1)
          clear hc hp8 hb4 e0 e2 e3 e4 e5 b0 b1 b2 lt3 ltb ltx i1 i2 i3 i4 i5 i6 s2 HRA HBG HJ3
          go_wp2_with fail
          refine HCP.out.mono ?_
          rintro e w5 ⟨v, bm, rfl, hu, hb⟩
          obtain ⟨sm, bm2, rfl, hm, rfl, hnd⟩ := hu
          obtain ⟨Am, km, rfl⟩ := OwL.shape hm
          have HQ := Lib.hid (show ThQ w [.int .i64 t.L, .int .i64 t.S, .slice A t.mv.length ca] [.int .i64 u.L, .int .i64 u.S, .slice (some ⟨b, off, none⟩) u.mv.length cb] p7 p8 wc.heap.size w5.heap.size ((t.mv.length : Int) + u.mv.length, -1) (thBegin t u) ⟨t.L, t.S, gRows (thG t u) t.mv c 0⟩ (w5.alloc (.cells #[.int .i64 t.L, .int .i64 t.S, .slice Am t.mv.length km] 28)) from
            ⟨(HI4.out.1.below hb).below (below_alloc _ _), (HI4.out.2.1.below hb HI4.out.2.1.lt).alloc _, (HI4.out.2.2.below hb HI4.out.2.2.lt).alloc _, ⟨by have := HI4.out.1.2.2.2.lt; omega, HI4.out.2.1.lt, HI4.out.2.2.lt, hb.size⟩,
             _, bm, Row.new _ _ _, by rw [gRows_zero]; exact (goodL (goodP _) _).below hm (below_alloc _ _), fun hmem => by have := ((goodL (goodP 51) 53).lt hm hmem).2; omega⟩)
          clear hm hnd hb HCP HI4
          go_wp2
          generalize w5.alloc (.cells #[.int .i64 t.L, .int .i64 t.S, .slice Am t.mv.length km] 28) = w6 at *
          generalize w5.heap.size = po at *
          generalize wc.heap.size = lo at *
          go_loopw [10] (fun i wr => ∃ s : Nat, s ≤ t.mv.length ∧ i = .int .i64 s ∧ ThQ w [.int .i64 t.L, .int .i64 t.S, .slice A t.mv.length ca] [.int .i64 u.L, .int .i64 u.S, .slice (some ⟨b, off, none⟩) u.mv.length cb] p7 p8 lo po ((t.mv.length : Int) + u.mv.length, -1) (thBegin t u) ⟨t.L, t.S, gRows (thG t u) t.mv c s⟩ wr) (fun i _ => t.mv.length - (intOf i).toNat)
          case atStart => exact ⟨0, Nat.zero_le _, rfl, HQ.out⟩
          case round =>
            clear HQ
            obtain ⟨wo, hwo⟩ : ∃ wo, wo = wr := ⟨wr, rfl⟩
            subst hwo
            obtain ⟨s, hs, rfl, hI⟩ := hrel
            have HI := Lib.hid hI
            clear hI
            by_cases hlt : s < t.mv.length
            · have hx : t.mv[s]? = some t.mv[s] := List.getElem?_eq_getElem hlt
              generalize t.mv[s] = x at hx
              have hxl : x.length = c := by have := HK.out.1.len s x hx; have := HC.out; omega
              have HX := Lib.hid (show _ ∧ _ from ⟨hx, hxl⟩)
              obtain ⟨g0, km0, gr0, cr0, hrow, -⟩ := BoxT.put HI.out.2.2.2.2 (gRows_at hx) (by omega)
              obtain ⟨⟨d0, d1, d2⟩, -⟩ := hrow.three
              rw [gRows_len _ _ _ hs] at d2
              have i1 : (0 : Int) ≤ s := by omega
              have i2 : (s : Int) < t.mv.length := by omega
              clear hx hxl hrow
              go_wp2
              clear d0 d1 d2
              go_loopw [11] (fun i wr => ∃ k : Nat, k ≤ c ∧ i = .int .i64 k ∧ ThQ w [.int .i64 t.L, .int .i64 t.S, .slice A t.mv.length ca] [.int .i64 u.L, .int .i64 u.S, .slice (some ⟨b, off, none⟩) u.mv.length cb] p7 p8 lo po ((t.mv.length : Int) + u.mv.length, -1) (thBegin t u) ⟨t.L, t.S, (gRows (thG t u) t.mv c s).set s (gRow (thG t u) c s x k)⟩ wr) (fun i _ => c - (intOf i).toNat)
              case atStart => exact ⟨0, Nat.zero_le _, rfl, by rw [gRow_zero, set_sameW (gRows_at HX.out.1)]; exact HI.out⟩
              case round =>
                obtain ⟨wi, hwi⟩ : ∃ wi, wi = wr := ⟨wr, rfl⟩
                subst hwi
                obtain ⟨k, hk, rfl, hI2⟩ := hrel
                have HI2 := Lib.hid hI2
                obtain ⟨⟨a0, a1, a2⟩, -⟩ := hI2.1.2.1.three
                have lta := hI2.1.2.1.lt
                have hL5 : t.L ≤ 3 := HK.out.1.l2
                have hL1 : 1 ≤ t.L := HK.out.1.l1
                by_cases hklt : k < c
                · have hkL : (k : Int) < t.L + 2 := by have := HC.out; omega
                  have hat : ((gRows (thG t u) t.mv c s).set s (gRow (thG t u) c s x k))[s]? = some (gRow (thG t u) c s x k) := List.getElem?_set_self (by rw [gRows_len _ _ _ hs]; exact hlt)
                  have hwl := gRow_len (G := (thG t u)) (s := s) HX.out.2 hk
                  obtain ⟨g, km1, gr, cr, hrow, hcr, h1, h2, hlo, hgl, hgp, hfz, hcell, hput⟩ := BoxT.put hI2.2.2.2.2 hat (by omega)
                  obtain ⟨⟨d0, d1, d2⟩, -⟩ := hrow.three
                  rw [List.length_set, gRows_len _ _ _ hs] at d2
                  rw [hwl] at hcr h1 hput
                  unfold maxLen at h2
                  obtain ⟨x0, m, hx0, hm0', hmat, hmv, -⟩ := HK.out.1.at hlt hkL
                  obtain rfl := Option.some.inj (hx0.symm.trans HX.out.1)
                  have hmo := okMove_out hmv
                  obtain ⟨c0, c1⟩ := hcell k m (gRow_at HX.out.2 hm0')
                  have gf := hfz (k * 2)
                  have gf1 := hfz (k * 2 + 1)
                  have ltd := hrow.lt
                  have j1 : (0 : Int) ≤ k := by omega
                  have j2 : (k : Int) < c := by omega
                  have HMAT := Lib.hid (show _ ∧ _ from ⟨hmat, hm0'⟩)
                  obtain ⟨mx, my⟩ := m
                  simp only at c0 c1 hmo
                  obtain ⟨⟨f0, f1⟩, -⟩ := hI2.2.1.two
                  obtain ⟨⟨z0, z1⟩, -⟩ := hI2.2.2.1.two
                  have lt7 := hI2.2.1.lt
                  have lt8 := hI2.2.2.1.lt
                  have lq := hI2.2.2.2.1
                  clear hx0 hmat hmv hcell hfz hrow hat
                  by_cases hm1 : mx = -1
                  · subst hm1
                    by_cases hkk : (k : Int) = t.L
                    · have HG := Lib.hid (show thG t u s k = thBegin t u by rw [thG_low hlt, HMAT.out.1, if_pos rfl, thOn, if_pos hkk])
                      have hq1 := hI2.put2 hlo (.int .i64 ((t.mv.length : Int) + u.mv.length)) (.int .i64 (-1)) (hput k ((t.mv.length : Int) + u.mv.length, -1) hklt)
                      rw [List.set_set] at hq1
                      have HQ1 := Lib.hid (hq1.below (below_drew _))
                      have dk : ((k : Int) == t.L) = true := by simpa using hkk
                      clear hq1 hput hI2 hkk hmo
                      go_wp2
                      go_region
                      all_goals
                        generalize ((wi.setCell ⟨gr, k * 2, none⟩ (.int .i64 ((t.mv.length : Int) + u.mv.length))).setCell ⟨gr, k * 2 + 1, none⟩ (.int .i64 (-1))).drew = wj at *
                        clear a0 a1 a2 lta d0 d1 d2 hcr h1 h2 hgl hgp c0 c1 gf gf1 ltd f0 f1 z0 z1 lt7 lt8
                        obtain ⟨⟨a0, a1, a2⟩, -⟩ := HQ1.out.1.2.1.three
                        have lta := HQ1.out.1.2.1.lt
                        have hat : ((gRows (thG t u) t.mv c s).set s ((gRow (thG t u) c s x0 k).set k ((t.mv.length : Int) + u.mv.length, -1)))[s]? = some ((gRow (thG t u) c s x0 k).set k ((t.mv.length : Int) + u.mv.length, -1)) := List.getElem?_set_self (by rw [gRows_len _ _ _ hs]; exact hlt)
                        have hwl2 : ((gRow (thG t u) c s x0 k).set k ((t.mv.length : Int) + u.mv.length, -1)).length = c := by rw [List.length_set, hwl]
                        obtain ⟨g', km1', gr', cr', hrow, hcr, h1, h2, hlo', hgl, hgp, hfz, hcell, hput⟩ := BoxT.put HQ1.out.2.2.2.2 hat (by omega)
                        obtain ⟨⟨d0, d1, d2⟩, -⟩ := hrow.three
                        rw [List.length_set, gRows_len _ _ _ hs] at d2
                        rw [hwl2] at hcr h1 hput
                        unfold maxLen at h2
                        obtain ⟨c0, c1⟩ := hcell k ((t.mv.length : Int) + u.mv.length, -1) (List.getElem?_set_self (by omega))
                        have gf := hfz (k * 2)
                        have gf1 := hfz (k * 2 + 1)
                        have ltd := hrow.lt
                        obtain ⟨⟨z0, z1⟩, -⟩ := HQ1.out.2.2.1.two
                        have lt8 := HQ1.out.2.2.1.lt
                        have hq2 := HQ1.out.put2 hlo' (.int .i64 (thBegin t u).1) (.int .i64 (thBegin t u).2) (hput k (thBegin t u) hklt)
                        rw [List.set_set, List.set_set, ← HG.out, gRow_step HX.out.2 hklt] at hq2
                        rw [HG.out] at hq2
                        have HQ2 := Lib.hid (hq2.below (below_drew _))
                        clear hq2 hput hrow hat hwl2 hcell hfz
                        go_wp2
                        go_region
                      all_goals
                        generalize ((wj.setCell ⟨gr', k * 2, none⟩ (.int .i64 (thBegin t u).1)).setCell ⟨gr', k * 2 + 1, none⟩ (.int .i64 (thBegin t u).2)).drew = wl at *
                        (try go_wp2)
                        go_roundw
                        case rel => exact ⟨k + 1, by omega, by go_num, HQ2.out⟩
                        case measure => simp [intOf]; omega
                    · have HG := Lib.hid (show thG t u s k = ((t.mv.length : Int) + u.mv.length, -1) by rw [thG_low hlt, HMAT.out.1, if_pos rfl, thOn, if_neg hkk]; unfold thHome; simp)
                      have hq1 := hI2.put2 hlo (.int .i64 ((t.mv.length : Int) + u.mv.length)) (.int .i64 (-1)) (hput k ((t.mv.length : Int) + u.mv.length, -1) hklt)
                      rw [List.set_set, ← HG.out, gRow_step HX.out.2 hklt] at hq1
                      rw [HG.out] at hq1
                      have HQ1 := Lib.hid (hq1.below (below_drew _))
                      have dk : ((k : Int) == t.L) = false := by simpa using hkk
                      clear hq1 hput hI2 hkk hmo
                      go_wp2
                      go_region
                      all_goals
                        generalize ((wi.setCell ⟨gr, k * 2, none⟩ (.int .i64 ((t.mv.length : Int) + u.mv.length))).setCell ⟨gr, k * 2 + 1, none⟩ (.int .i64 (-1))).drew = wj at *
                        clear a0 a1 a2 lta
                        obtain ⟨⟨a0, a1, a2⟩, -⟩ := HQ1.out.1.2.1.three
                        go_wp2
                        go_roundw
                        case rel => exact ⟨k + 1, by omega, by go_num, HQ1.out⟩
                        case measure => simp [intOf]; omega
                  · have HG := Lib.hid (show thG t u s k = (mx, my) by rw [thG_low hlt, HMAT.out.1, if_neg hm1])
                    have HQ1 := Lib.hid (show ThQ w [.int .i64 t.L, .int .i64 t.S, .slice A t.mv.length ca] [.int .i64 u.L, .int .i64 u.S, .slice (some ⟨b, off, none⟩) u.mv.length cb] p7 p8 lo po ((t.mv.length : Int) + u.mv.length, -1) (thBegin t u) ⟨t.L, t.S, (gRows (thG t u) t.mv c s).set s (gRow (thG t u) c s x0 (k + 1))⟩ wi from by rw [← gRow_same HX.out.2 (by rw [HG.out]; exact HMAT.out.2)]; exact hI2)
                    have dm : (mx != -1) = true := by simpa using hm1
                    clear hput hI2 hm1 hmo
                    go_wp2
                    go_roundw
                    case rel => exact ⟨k + 1, by omega, by go_num, HQ1.out⟩
                    case measure => simp [intOf]; omega
                · obtain rfl : k = c := by omega
                  have HI3 := Lib.hid (show ThQ w [.int .i64 t.L, .int .i64 t.S, .slice A t.mv.length ca] [.int .i64 u.L, .int .i64 u.S, .slice (some ⟨b, off, none⟩) u.mv.length cb] p7 p8 lo po ((t.mv.length : Int) + u.mv.length, -1) (thBegin t u) ⟨t.L, t.S, gRows (thG t u) t.mv k (s + 1)⟩ wi from by have := hI2; rwa [gRow_full HX.out.2, gRows_step hlt] at this)
                  have hkn : ¬ (k : Int) < t.L + 2 := by have := HC.out; omega
                  clear hI2
                  go_wp2
                  go_roundw
                  case rel => exact ⟨s + 1, by omega, by go_num, HI3.out⟩
                  case measure => simp [intOf]; omega
            · obtain rfl : s = t.mv.length := by omega
              have HI3 := Lib.hid (show ThQ w [.int .i64 t.L, .int .i64 t.S, .slice A t.mv.length ca] [.int .i64 u.L, .int .i64 u.S, .slice (some ⟨b, off, none⟩) u.mv.length cb] p7 p8 lo po ((t.mv.length : Int) + u.mv.length, -1) (thBegin t u) ⟨t.L, t.S, tableOf (thG t u) c (t.mv.length + 0)⟩ wo from by have := HI.out; rwa [gRows_full] at this)
              obtain ⟨Bq, kq, vq, hoq, -, -, -, -⟩ := HI.out.2.2.2.2.open
              obtain ⟨⟨d0, d1, d2⟩, -⟩ := hoq.three
              rw [gRows_len _ _ _ hs] at d2
              have sn : ¬ (t.mv.length : Int) < t.mv.length := by omega
              have ltd := hoq.lt
              clear hoq HI
              go_wp2
              clear d0 d1 d2 ltd
              go_loopw [12] (fun i wr => ∃ q : Nat, q ≤ u.mv.length ∧ i = .int .i64 q ∧ ThQ w [.int .i64 t.L, .int .i64 t.S, .slice A t.mv.length ca] [.int .i64 u.L, .int .i64 u.S, .slice (some ⟨b, off, none⟩) u.mv.length cb] p7 p8 lo po ((t.mv.length : Int) + u.mv.length, -1) (thBegin t u) ⟨t.L, t.S, tableOf (thG t u) c (t.mv.length + q)⟩ wr) (fun i _ => u.mv.length - (intOf i).toNat)
              case atStart => exact ⟨0, Nat.zero_le _, rfl, HI3.out⟩
              case round =>
                clear HI3
                obtain ⟨wo, hwo⟩ : ∃ wo, wo = wr := ⟨wr, rfl⟩
                subst hwo
                obtain ⟨q, hq, rfl, hI⟩ := hrel
                have HI := Lib.hid hI
                obtain ⟨⟨a0, a1, a2⟩, -⟩ := hI.1.2.1.three
                obtain ⟨⟨b0, b1, b2⟩, -⟩ := hI.1.2.2.1.three
                have lta := hI.1.2.1.lt
                have ltb := hI.1.2.2.1.lt
                have q0 : (0 : Int) ≤ q := by omega
                have H1 := Lib.hid (movesI0 wo)
                clear hI
                by_cases hlt : q < u.mv.length
                · have q1 : (q : Int) < u.mv.length := by omega
                  obtain ⟨bx, offx, cx, cd, e0, e1, e2, e3, -, -⟩ := rd_at (keepsPP _ _ _ _ HM1.out HI.out.1.1) HK.out.2 hlt (k := 0) (by have := HK.out.2.l1; omega)
                  obtain rfl : cx = c := by have := HC.out; have := HLE.out; omega
                  unfold maxLen at e3
                  clear e0 e1
                  go_wp2
                  have HB1 := Lib.hid (below_alloc wo (.cells #[] 51))
                  clear a0 a1 a2 lta b0 b1 b2 ltb
                  generalize wo.alloc (.cells #[] 51) = W1 at *
                  go_loopw [13, 14] (fun vl i wi => ∃ (d dl : Nat) (Bd : Option Addr), d ≤ cx ∧ i = .int .i64 d ∧ vl = .slice Bd d dl ∧ Below wo.heap.size wo wi ∧ ∃ bs, OwP 51 wi wo.heap.size (.slice Bd d dl) ((rowOf (thG t u) cx (t.mv.length + q)).take d) bs) (fun _ i _ => cx - (intOf i).toNat)
                  case atStart => exact ⟨0, 0, _, Nat.zero_le _, rfl, rfl, HB1.out, _, H1.out⟩
                  case round =>
                    clear H1 HB1
                    obtain ⟨d, dl, Bd, hd, rfl, rfl, hbd, bsd, hOd⟩ := hrel
                    have hlend : ((rowOf (thG t u) cx (t.mv.length + q)).take d).length = d := by rw [List.length_take, rowOf_len]; omega
                    have HD := Lib.hid (show _ ∧ _ from ⟨hbd, hOd⟩)
                    have HIr := Lib.hid (HI.out.below hbd)
                    have hsd := hbd.size
                    obtain ⟨⟨a0, a1, a2⟩, -⟩ := HIr.out.1.2.1.three
                    obtain ⟨⟨b0, b1, b2⟩, -⟩ := HIr.out.1.2.2.1.three
                    have lta := HIr.out.1.2.1.lt
                    have ltb := HIr.out.1.2.2.1.lt
                    have k0 : (0 : Int) ≤ d := by omega
                    by_cases hdl : d < cx
                    · have k1 : (d : Int) < cx := by omega
                      obtain ⟨bx2, offx2, cx2, cd2, e0, e1, e2', e3', e4, e5⟩ := rd_at (keepsPP _ _ _ _ HM1.out HIr.out.1.1) HK.out.2 hlt (k := d) (by have := HC.out; have := HLE.out; omega)
                      obtain rfl : cx2 = cx := by have := HC.out; have := HLE.out; omega
                      unfold maxLen at e3'
                      obtain ⟨x0, m, -, -, hat, hmv, -⟩ := HK.out.2.at (q := q) (k := d) hlt (by have := HC.out; have := HLE.out; omega)
                      have hmo := okMove_out hmv
                      rw [hat] at e4 e5
                      obtain ⟨mx, my⟩ := m
                      simp only at hmo e4 e5
                      have HRA := Lib.hid (fun W => l02Raised_any mx my t.mv.length W (by omega) (by omega) n12)
                      have HTK := Lib.hid (show (rowOf (thG t u) cx2 (t.mv.length + q)).take (d + 1) = (rowOf (thG t u) cx2 (t.mv.length + q)).take d ++ [raiseM t.mv.length (mx, my)] from by rw [take_succ_of (rowOf_get (thG t u) (by omega)), thG_mid hlt, hat])
                      have ltx := World.block_lt_of_cell? _ _ e0
                      have lty := World.block_lt_of_cell? _ _ e4
                      clear hat hmv hmo hbd hOd e1
                      go_wp2_with fail
                      refine (HRA.out _).mono ?_
                      rintro e wa ⟨rfl, hba⟩
                      have HG := Lib.hid (addMoves (below_step HD.out.1 hba) ((goodP 51).below HD.out.2 hba) hlend (below_alloc wa (.cells #[.int .i64 (raiseM t.mv.length (mx, my)).1, .int .i64 (raiseM t.mv.length (mx, my)).2] 51)))
                      have hsa := hba.size
                      clear hba hlend a0 a1 a2 b0 b1 b2 e0 e4 e5 lta ltb ltx lty
                      go_wp2_with (at_builtin; refine wpList_append_lies _ rfl _ _ 53 rfl wo.heap.size 51 im _ 2 16 Try.underlying53 him hzm0 hzm1 hzm2 rfl (by decide) (.slice Bd d dl) d _ rfl HG.out.1 ⟨wa.heap.size, 0, none⟩ 1 1 [.int .i64 (raiseM t.mv.length (mx, my)).1, .int .i64 (raiseM t.mv.length (mx, my)).2] rfl rfl (World.news_of_block (cs := #[.int .i64 (raiseM t.mv.length (mx, my)).1, .int .i64 (raiseM t.mv.length (mx, my)).2]) (t := 51) (fr := (0, 0)) (heap_alloc_new wa _)) (by simp [Value.oneCell']) (by omega) (by unfold maxLen; omega) (by omega) (by simp; omega) (wa.heap.size + 1) (by simp) ?_; intro g5 cap5 w7 hown5 hgrow5 hat5 hlt5; have HE5 := Lib.hid (HG.out.2 w7 g5 cap5 (d + 1) [raiseM t.mv.length (mx, my)] (by simp) hgrow5 (by simpa [pcells, pcell] using hown5)); clear hown5 hgrow5 hat5 hlt5)
                      go_roundw
                      case rel => exact ⟨d + 1, _, _, by omega, by go_num, rfl, HE5.out.1, by rw [HTK.out]; exact HE5.out.2⟩
                      case measure => simp [intOf]; omega
                    · obtain rfl : d = cx := by omega
                      have k1 : ¬ (d : Int) < d := by omega
                      have hfull : (rowOf (thG t u) d (t.mv.length + q)).take d = rowOf (thG t u) d (t.mv.length + q) := List.take_of_length_le (by rw [rowOf_len]; omega)
                      rw [hfull] at hOd
                      obtain ⟨g5, hBd⟩ : ∃ g5, Bd = some ⟨g5, 0, none⟩ := by
                        rcases hOd.nil_or with ⟨_, h0⟩ | ⟨gr, cr, hu, -, -, -⟩
                        · have := congrArg List.length h0; rw [rowOf_len] at this; simp at this; omega
                        · simp only [Value.slice.injEq] at hu; exact ⟨gr, hu.1⟩
                      subst hBd
                      have HE7 := Lib.hid (show Below wo.heap.size wo wr ∧ ∃ bs', OwP 51 wr wo.heap.size (.slice (some ⟨g5, 0, none⟩) d dl) (rowOf (thG t u) d (t.mv.length + q)) bs' from ⟨hbd, _, hOd⟩)
                      obtain ⟨bx2, offx2, cx2, cd2, e0, e1, e2', e3', -, -⟩ := rd_at (keepsPP _ _ _ _ HM1.out HIr.out.1.1) HK.out.2 hlt (k := 0) (by have := HK.out.2.l1; omega)
                      obtain rfl : cx2 = d := by have := HC.out; have := HLE.out; omega
                      unfold maxLen at e3'
                      have ltx := World.block_lt_of_cell? _ _ e0
                      have hpo := HI.out.2.2.2.1
                      obtain ⟨Bm, km, vs, ho, hrn, pn, vn1, gN⟩ := HI.out.2.2.2.2.open
                      rw [tableOf_len] at ho hrn pn vn1 gN
                      have lpo := ho.lt
                      have o2 := below_keep hbd ho.three.1.2.2
                      have f2 := below_keepf hbd lpo (ho.free 2)
                      have HO := Lib.hid (show _ ∧ _ ∧ _ ∧ _ ∧ _ ∧ _ from ⟨rows_below hrn (below_step hbd (below_alloc wr (.cells #[.slice (some ⟨g5, 0, none⟩) cx2 dl] 53))), pn, vn1, gN, below_keep (below_alloc wr (.cells #[.slice (some ⟨g5, 0, none⟩) cx2 dl] 53)) o2, below_keepf (below_alloc wr (.cells #[.slice (some ⟨g5, 0, none⟩) cx2 dl] 53)) (Nat.lt_of_lt_of_le lpo hsd) f2⟩)
                      have q24 : t.mv.length + q ≤ 24 := by omega
                      have hlow : lo ≤ po := hpo.2.2.2
                      clear ho hrn pn vn1 gN hbd hOd f2 e1 hlend
                      go_wp2_with (at_builtin; refine wpList_append_lies _ rfl _ _ 26 rfl lo 53 is _ 1 24 Try.underlying26 his hzs0 hzs1 hzs2 rfl (by decide) (.slice Bm (t.mv.length + q) km) (t.mv.length + q) _ rfl HO.out.1 ⟨wr.heap.size, 0, none⟩ 1 1 [.slice (some ⟨g5, 0, none⟩) cx2 dl] rfl rfl (World.news_of_block (cs := #[.slice (some ⟨g5, 0, none⟩) cx2 dl]) (t := 53) (fr := (0, 0)) (heap_alloc_new wr _)) (by simp [Value.oneCell']) (by omega) (by unfold maxLen; omega) (by omega) (by simp; omega) (wr.heap.size + 1) (by simp) ?_; go_loud (intro g6 cap6 w8 hown6 hgrow6 hat6 hlt6; have p2 := grown_cell hgrow6 HO.out.2.1 HO.out.2.2.2.2.1; have q2 := grown_free hgrow6 HO.out.2.1 (by simp; omega) HO.out.2.2.2.2.2; have HN := Lib.hid (thMore HI.out HE7.out HO.out.2.2.1 HO.out.2.2.2.1 hgrow6 hown6 hat6); clear hown6 hgrow6 hat6 hlt6))
                      go_roundw
                      case rel => exact ⟨q + 1, by omega, by go_num, by have := HN.out; rw [← Nat.add_assoc, tableOf_succ]; exact this⟩
                      case measure => simp [intOf]; omega
                · obtain rfl : q = u.mv.length := by omega
                  have q1 : ¬ (u.mv.length : Int) < u.mv.length := by omega
                  obtain ⟨l, hl⟩ : ∃ l : Nat, t.L = l := ⟨t.L.toNat, by have := HK.out.1.l1; omega⟩
                  have HL := Lib.hid (show c = l + 2 from by have := HC.out; omega)
                  have HLL := Lib.hid hl
                  rw [hl] at a0
                  clear hl
                  go_wp2
                  have HB1 := Lib.hid (below_alloc wo (.cells #[] 51))
                  clear a0 a1 a2 lta b0 b1 b2 ltb
                  generalize wo.alloc (.cells #[] 51) = W1 at *
                  go_loopw [15, 16] (fun vl i wi => ∃ (d dl : Nat) (Bd : Option Addr), d ≤ l ∧ i = .int .i64 d ∧ vl = .slice Bd d dl ∧ Below wo.heap.size wo wi ∧ ∃ bs, OwP 51 wi wo.heap.size (.slice Bd d dl) ((rowOf (thG t u) (l + 2) (t.mv.length + u.mv.length)).take d) bs) (fun _ i _ => l - (intOf i).toNat)
                  case atStart => exact ⟨0, 0, _, Nat.zero_le _, rfl, rfl, HB1.out, _, H1.out⟩
                  case round =>
                    clear H1 HB1
                    obtain ⟨d, dl, Bd, hd, rfl, rfl, hbd, bsd, hOd⟩ := hrel
                    have hlend : ((rowOf (thG t u) (l + 2) (t.mv.length + u.mv.length)).take d).length = d := by rw [List.length_take, rowOf_len]; omega
                    have HD := Lib.hid (show _ ∧ _ from ⟨hbd, hOd⟩)
                    have HIr := Lib.hid (HI.out.below hbd)
                    have hsd := hbd.size
                    obtain ⟨⟨a0, a1, a2⟩, -⟩ := HIr.out.1.2.1.three
                    rw [HLL.out] at a0
                    have lta := HIr.out.1.2.1.lt
                    obtain ⟨⟨f0, f1⟩, -⟩ := HIr.out.2.1.two
                    have lt7 := HIr.out.2.1.lt
                    have k0 : (0 : Int) ≤ d := by omega
                    have l5 : l ≤ 3 := by have := HL.out; omega
                    by_cases hdl : d < l
                    · have k1 : (d : Int) < l := by omega
                      have hv : thG t u (t.mv.length + u.mv.length) d = ((t.mv.length : Int) + u.mv.length, -1) := by rw [thG_last, thOn, if_neg (by have := HLL.out; omega)]; unfold thHome; simp
                      have HTK := Lib.hid (show (rowOf (thG t u) (l + 2) (t.mv.length + u.mv.length)).take (d + 1) = (rowOf (thG t u) (l + 2) (t.mv.length + u.mv.length)).take d ++ [((t.mv.length : Int) + u.mv.length, -1)] from by rw [take_succ_of (rowOf_get (thG t u) (by omega)), hv])
                      have HG := Lib.hid (addMoves HD.out.1 HD.out.2 hlend (below_alloc wr (.cells #[.int .i64 ((t.mv.length : Int) + u.mv.length), .int .i64 (-1)] 51)))
                      clear hv hlend hbd hOd
                      go_wp2_with (at_builtin; refine wpList_append_lies _ rfl _ _ 53 rfl wo.heap.size 51 im _ 2 16 Try.underlying53 him hzm0 hzm1 hzm2 rfl (by decide) (.slice Bd d dl) d _ rfl HG.out.1 ⟨wr.heap.size, 0, none⟩ 1 1 [.int .i64 ((t.mv.length : Int) + u.mv.length), .int .i64 (-1)] rfl rfl (World.news_of_block (cs := #[.int .i64 ((t.mv.length : Int) + u.mv.length), .int .i64 (-1)]) (t := 51) (fr := (0, 0)) (heap_alloc_new wr _)) (by simp [Value.oneCell']) (by omega) (by unfold maxLen; omega) (by omega) (by simp; omega) (wr.heap.size + 1) (by simp) ?_; intro g5 cap5 w7 hown5 hgrow5 hat5 hlt5; have HE5 := Lib.hid (HG.out.2 w7 g5 cap5 (d + 1) [((((t.mv.length : Int) + u.mv.length) : Int), ((-1) : Int))] (by simp) hgrow5 (by simpa [pcells, pcell] using hown5)); clear hown5 hgrow5 hat5 hlt5)
                      go_roundw
                      case rel => exact ⟨d + 1, _, _, by omega, by go_num, rfl, HE5.out.1, by rw [HTK.out]; exact HE5.out.2⟩
                      case measure => simp [intOf]; omega
                    · obtain rfl : d = l := by omega
                      have k1 : ¬ (d : Int) < d := by omega
                      obtain rfl : c = d + 2 := HL.out
                      obtain ⟨Bm, km, vs, ho, hrn, pn, vn1, gN⟩ := HI.out.2.2.2.2.open
                      rw [tableOf_len] at ho hrn pn vn1 gN
                      have lpo0 := ho.lt
                      have ho3 := ho.below hbd ho.lt
                      obtain ⟨⟨o0, o1, o2⟩, -⟩ := ho3.three
                      have lpo := ho3.lt
                      have hfz := ho3.free 2
                      obtain ⟨⟨z0, z1⟩, -⟩ := HIr.out.2.2.1.two
                      have lt8 := HIr.out.2.2.1.lt
                      have HOW := Lib.hid (show wr.ownsRow wo.heap.size 51 2 (.slice Bd d dl) d (pcells ((rowOf (thG t u) (d + 2) (t.mv.length + u.mv.length)).take d)) from by have := hOd.1; rwa [hlend] at this)
                      have HNR := Lib.hid (show ∀ b, b < wo.heap.size → b ∉ blks (Value.slice Bd d dl) from fun b hb hm => by
                        have := (World.ownsRow.lt HOW.out b (mem_blks.1 hm)).1
                        omega)
                      have HVS := Lib.hid (rows_below hrn hbd)
                      have HVB := Lib.hid (show ∀ b ∈ blks (Value.slice Bm (t.mv.length + u.mv.length) km), b < wo.heap.size from fun b hb => (World.ownsRow.lt hrn b (mem_blks.1 hb)).2)
                      have HPN := Lib.hid (show _ ∧ _ ∧ _ from ⟨pn, vn1, gN⟩)
                      have HLO := Lib.hid lpo0
                      have HSZ3 := Lib.hid hsd
                      have HG := Lib.hid (addMoves HD.out.1 HD.out.2 hlend (below_alloc wr (.cells #[.int .i64 (thBegin t u).1, .int .i64 (thBegin t u).2, .int .i64 ((t.mv.length : Int) + u.mv.length), .int .i64 (-1)] 51)))
                      have HROW := Lib.hid (thRow_two (thG t u) d (t.mv.length + u.mv.length) (g1 := thBegin t u) (g2 := ((t.mv.length : Int) + u.mv.length, -1)) (by rw [thG_last, thOn, if_pos (by have := HLL.out; omega)]) (by rw [thG_last, thOn, if_neg (by have := HLL.out; omega)]; unfold thHome; simp))
                      have hlow : lo ≤ po := HI.out.2.2.2.1.2.2.2
                      have q24 : t.mv.length + u.mv.length ≤ 24 := by omega
                      clear ho hrn pn vn1 gN ho3 hbd hOd hlend
                      go_upto_region 33 with fail
                      go_cut [16] from 144 to 153 (fun _ wx => ThQ w [.int .i64 t.L, .int .i64 t.S, .slice A t.mv.length ca] [.int .i64 u.L, .int .i64 u.S, .slice (some ⟨b, off, none⟩) u.mv.length cb] p7 p8 lo po ((t.mv.length : Int) + u.mv.length, -1) (thBegin t u) ⟨t.L, t.S, tableOf (thG t u) (d + 2) (t.mv.length + u.mv.length + 1)⟩ wx)
                      case first =>
                        go_region_law
                          (first
                            | (refine step_append_lies _ (by rfl) _ _ _ (by rfl) wo.heap.size 51 im _ 2 16 Try.underlying53 him hzm0 hzm1 hzm2 rfl (by omega) (.slice Bd d dl) d (pcells ((rowOf (thG t u) (d + 2) (t.mv.length + u.mv.length)).take d)) (by rfl) (by first | exact HOW.out.alloc _ | exact (HOW.out.alloc _).drew | exact ((HOW.out.alloc _).drew).drew)
                                  ⟨wr.heap.size, 0, none⟩ 2 2 [.int .i64 (thBegin t u).1, .int .i64 (thBegin t u).2, .int .i64 ((t.mv.length : Int) + u.mv.length), .int .i64 (-1)] (by rfl) (by rfl) (World.news_of_block (cs := #[.int .i64 (thBegin t u).1, .int .i64 (thBegin t u).2, .int .i64 ((t.mv.length : Int) + u.mv.length), .int .i64 (-1)]) (t := 51) (fr := (0, 0)) (heap_alloc_new wr _)) (by simp [Value.oneCell'])
                                  (by omega) (by unfold maxLen; omega) (by omega) (by have := HSZ3.out; simp; omega) (wr.heap.size + 1) (by simp) ?_; intro g1 cap1 w4 hownA hgrowA hatA hltA;
                                have hgA : (wr.alloc (.cells #[.int .i64 (thBegin t u).1, .int .i64 (thBegin t u).2, .int .i64 ((t.mv.length : Int) + u.mv.length), .int .i64 (-1)] 51)).grownBy w4 (Value.slice Bd d dl).ownBlock := (by first | exact hgrowA | exact undrew hgrowA | exact undrew (undrew hgrowA));
                                have p1 := grown_cell hgA (HNR.out _ HLO.out) (below_keep (below_alloc _ _) o2); have p2 := grown_free hgA (HNR.out _ HLO.out) (by simp; omega) (below_keepf (below_alloc _ _) lpo hfz); have hszA : wr.heap.size + 1 ≤ w4.heap.size := (by have := hgA.size; simpa using this); have hloA : po < w4.heap.size := (by omega);
                                have HVS4 := Lib.hid (rows_same (HVS.out.alloc (.cells #[.int .i64 (thBegin t u).1, .int .i64 (thBegin t u).2, .int .i64 ((t.mv.length : Int) + u.mv.length), .int .i64 (-1)] 51)) (fun b hb => hgA.block b (by have := HVB.out b hb; have := HSZ3.out; simp; omega) (fun e => HNR.out b (HVB.out b hb) (mem_blks.2 e.symm)))))
                            | (refine step_append_lies _ (by rfl) _ _ _ (by rfl) lo 53 is _ 1 24 Try.underlying26 his hzs0 hzs1 hzs2 rfl (by omega) (.slice Bm (t.mv.length + u.mv.length) km) (t.mv.length + u.mv.length) vs (by rfl) (by first | exact HVS4.out.alloc _ | exact (HVS4.out.alloc _).drew | exact ((HVS4.out.alloc _).drew).drew)
                                  ⟨w4.heap.size, 0, none⟩ 1 1 [.slice (some ⟨g1, 0, none⟩) (d + 2) cap1] (by rfl) (by rfl) (World.news_of_block (cs := #[.slice (some ⟨g1, 0, none⟩) (d + 2) cap1]) (t := 53) (fr := (0, 0)) (heap_alloc_new w4 _)) (by simp [Value.oneCell'])
                                  (by omega) (by unfold maxLen; omega) (by omega) (by have := HSZ3.out; simp; omega) (w4.heap.size + 1) (by simp) ?_; intro g2 cap2 w8 hownB hgrowB hatB hltB;
                                have hgB : (w4.alloc (.cells #[.slice (some ⟨g1, 0, none⟩) (d + 2) cap1] 53)).grownBy w8 (Value.slice Bm (t.mv.length + u.mv.length) km).ownBlock := (by first | exact hgrowB | exact undrew hgrowB | exact undrew (undrew hgrowB));
                                have r1 := grown_cell hgB HPN.out.1 (below_keep (below_alloc _ _) p1); have r2 := grown_free hgB HPN.out.1 (by simp; omega) (below_keepf (below_alloc _ _) (by omega) p2)))
                        all_goals
                          go_wp2_with fail
                          go_meet
                          have hE := HG.out.2 w4 g1 cap1 (d + 2) [thBegin t u, ((t.mv.length : Int) + u.mv.length, -1)] (by simp) hgA (by simpa [pcells, pcell] using hownA)
                          rw [← HROW.out] at hE
                          have hN := thMore HI.out hE HPN.out.2.1 HPN.out.2.2 hgB hownB hatB
                          have hQ : ThQ w [.int .i64 t.L, .int .i64 t.S, .slice A t.mv.length ca] [.int .i64 u.L, .int .i64 u.S, .slice (some ⟨b, off, none⟩) u.mv.length cb] p7 p8 lo po ((t.mv.length : Int) + u.mv.length, -1) (thBegin t u) ⟨t.L, t.S, tableOf (thG t u) (d + 2) (t.mv.length + u.mv.length + 1)⟩ (w8.setCell ⟨po, 2, none⟩ (.slice (some ⟨g2, 0, none⟩) (t.mv.length + u.mv.length + 1) cap2)) := by
                            rw [tableOf_succ]; exact hN
                          first | exact hQ | exact hQ.below (below_drew _) | exact (hQ.below (below_drew _)).below (below_drew _)
                      case rest =>
                        clear o0 o1 o2 lpo hfz z0 z1 lt8 HOW HNR HVS HVB HPN HLO HSZ3 HG f0 f1 lt7 a0 a1 a2 lta lpo0
                        have HF := Lib.hid hcut
                        obtain ⟨Bo, ko, bo, hro, hOo⟩ := hcut.2.2.2.2.own
                        simp only [tableOf_len] at hro hOo
                        obtain ⟨⟨d0, d1, d2⟩, -⟩ := hro.three
                        have ltd := hro.lt
                        have HT := Lib.hid (l02Told_anyW _ _ wc hOo.rd)
                        have HOO := Lib.hid hOo
                        by_cases h12 : t.mv.length + u.mv.length + 1 ≤ 12
                        · have hokw := okT_tableW (L := t.L) (S := t.S) (G := (thG t u)) (n := t.mv.length + u.mv.length + 1) (c := d + 2) HK.out.1.l1 HK.out.1.l2 (by omega) h12 HK.out.1.s1 (by have := HK.out.1.s2; push_cast; omega) HC.out (fun q k hq hk => by have := thG_ok HK.out.1 HK.out.2 HLE.out (q := q) (k := k) (by unfold thHome; exact hq) (by have := HC.out; omega); unfold thHome at this; exact_mod_cast this)
                          have HRES := Lib.hid (show thRes t u = (⟨t.L, t.S, tableOf (thG t u) (d + 2) (t.mv.length + u.mv.length + 1)⟩, 0) by
                            have e : (t.L + 2).toNat = d + 2 := by have := HC.out; omega
                            simp only [thRes, HOK.out.1, HOK.out.2, Bool.and_self, if_true, if_pos HLE.out, thHome, if_pos h12, e])
                          rw [if_pos hokw, show (toldResW ⟨t.L, t.S, tableOf (thG t u) (d + 2) (t.mv.length + u.mv.length + 1)⟩).2 = 0 by simp [toldResW, hokw]] at HT
                          clear hokw hro hOo
                          go_wp2_with fail
                          refine HT.out.mono ?_
                          rintro e w9 ⟨rfl, hb⟩
                          have HF9 := Lib.hid (HF.out.below hb)
                          have HH := Lib.hid (own_storedT (w := w) HF9.out.1.2.2.2 HF9.out.1.1 (by omega) (by have := HF9.out.2.2.2.1.1; omega) (goodT.below HOO.out hb))
                          obtain ⟨⟨z0, z1, z2⟩, zf⟩ := HF9.out.1.2.2.2.three
                          have lz := HF9.out.1.2.2.2.lt
                          clear hb d0 d1 d2 ltd
                          go_wp2
                          obtain ⟨⟨y0, y1, y2⟩, eO, eB⟩ := HH.out
                          rw [HRES.out]
                          generalize (((w9.setCell ⟨w.heap.size + 2, 0, none⟩ (.int .i64 t.L)).setCell ⟨w.heap.size + 2, 1, none⟩ (.int .i64 t.S)).setCell ⟨w.heap.size + 2, 2, none⟩ (.slice Bo (t.mv.length + u.mv.length + 1) ko)) = W2 at *
                          refine bodyPost_ret (v := .tuple #[.agg #[.int .i64 t.L, .int .i64 t.S, .slice Bo (t.mv.length + u.mv.length + 1) ko], .int .i64 0]) (by simp [results, Try.results6, go_sem, y0, y1, y2]) rfl ?_
                          exact ⟨_, _, rfl, eO, eB⟩
                        · have hokw : okT ⟨t.L, t.S, tableOf (thG t u) (d + 2) (t.mv.length + u.mv.length + 1)⟩ = false := by
                            unfold okT
                            rw [show decide (1 ≤ ((tableOf (thG t u) (d + 2) (t.mv.length + u.mv.length + 1)).length : Int) ∧ ((tableOf (thG t u) (d + 2) (t.mv.length + u.mv.length + 1)).length : Int) ≤ 12) = false from decide_eq_false (by rw [tableOf_len]; omega)]
                            simp
                          have h12' : ¬ thHome t u + 1 ≤ 12 := h12
                          have HRES := Lib.hid (show thRes t u = (⟨0, 0, []⟩, 3) by
                            simp only [thRes, HOK.out.1, HOK.out.2, Bool.and_self, if_true, if_pos HLE.out, if_neg h12'])
                          rw [hokw, show (toldResW ⟨t.L, t.S, tableOf (thG t u) (d + 2) (t.mv.length + u.mv.length + 1)⟩).2 = 3 by simp [toldResW, hokw]] at HT
                          clear hokw hro hOo
                          go_wp2_with fail
                          refine HT.out.mono ?_
                          rintro e w9 ⟨rfl, hb⟩
                          have HF9 := Lib.hid (HF.out.below hb)
                          have HH := Lib.hid (HERR.out _ HF9.out.1)
                          obtain ⟨⟨z0, z1, z2⟩, zf⟩ := HF9.out.1.2.2.2.three
                          have lz := HF9.out.1.2.2.2.lt
                          clear hb d0 d1 d2 ltd
                          simp only [Bool.false_eq_true, if_false]
                          go_wp2
                          obtain ⟨⟨y0, y1, y2⟩, eO, eB⟩ := HH.out
                          rw [HRES.out]
                          generalize (((w9.setCell ⟨w.heap.size + 2, 0, none⟩ (.int .i64 0)).setCell ⟨w.heap.size + 2, 1, none⟩ (.int .i64 0)).setCell ⟨w.heap.size + 2, 2, none⟩ (.slice none 0 0)) = W2 at *
                          refine bodyPost_ret (v := .tuple #[.agg #[.int .i64 0, .int .i64 0, .slice none 0 0], .int .i64 3]) (by simp [results, Try.results6, go_sem, y0, y1, y2]) rfl ?_
                          exact ⟨_, _, rfl, eO, eB⟩
      · have hres : thRes t u = (⟨0, 0, []⟩, 2) := by simp [thRes, HOK.out.1, HOK.out.2, hL]
        have HRES := Lib.hid hres
        have dL : (t.L != u.L) = true := by simpa using hL
        have hI2 := HI2.out
        have HH := Lib.hid (HERR.out _ hI2)
        obtain ⟨⟨a0, a1, a2⟩, -⟩ := hI2.2.1.three
        obtain ⟨⟨b0, b1, b2⟩, -⟩ := hI2.2.2.1.three
        have lt0 := hI2.2.1.lt
        have lt1 := hI2.2.2.1.lt
        clear hL hres
        obtain ⟨⟨z0, z1, z2⟩, zf⟩ := hI2.2.2.2.three
        have lz := hI2.2.2.2.lt
        clear hI2
        go_wp2
        obtain ⟨⟨y0, y1, y2⟩, eO, eB⟩ := HH.out
        rw [HRES.out]
        generalize (((w2.setCell ⟨w.heap.size + 2, 0, none⟩ (.int .i64 0)).setCell ⟨w.heap.size + 2, 1, none⟩ (.int .i64 0)).setCell ⟨w.heap.size + 2, 2, none⟩ (.slice none 0 0)) = W2 at *
        refine bodyPost_ret (v := .tuple #[.agg #[.int .i64 0, .int .i64 0, .slice none 0 0], .int .i64 2]) (by simp [results, Try.results6, go_sem, y0, y1, y2]) rfl ?_
        exact ⟨_, _, rfl, eO, eB⟩
    · have hres : thRes t u = (⟨0, 0, []⟩, 1) := by simp [thRes, hok, hoku]
      have hk : okT u = false := by simpa using hoku
      have HRES := Lib.hid hres
      rw [hok] at HV0
      rw [hk] at HV1
      clear hok hoku hk hres
      go_enter Try.func6, Try.ntmps6
      go_wp2_with fail
      refine (HV0.out _ HI0.out).mono ?_
      generalize (((w.alloc (.cells #[.int .i64 t.L, .int .i64 t.S, .slice A t.mv.length ca] 28)).alloc (.cells #[.int .i64 u.L, .int .i64 u.S, .slice B u.mv.length cb] 28)).alloc (.cells #[.int .i64 0, .int .i64 0, .slice none 0 0] 28)) = W0 at *
      rintro e w1 ⟨rfl, hb1⟩
      have HI1 := Lib.hid (HI0.out.below hb1)
      clear hb1 HI0
      go_wp2_with fail
      refine (HV1.out _ HI1.out).mono ?_
      rintro e w2 ⟨rfl, hb2⟩
      have hI2 := HI1.out.below hb2
      have HH := Lib.hid (HERR.out _ hI2)
      clear hb2
      obtain ⟨⟨z0, z1, z2⟩, zf⟩ := hI2.2.2.2.three
      have lz := hI2.2.2.2.lt
      clear hI2
      go_wp2
      obtain ⟨⟨y0, y1, y2⟩, eO, eB⟩ := HH.out
      rw [HRES.out]
      generalize (((w2.setCell ⟨w.heap.size + 2, 0, none⟩ (.int .i64 0)).setCell ⟨w.heap.size + 2, 1, none⟩ (.int .i64 0)).setCell ⟨w.heap.size + 2, 2, none⟩ (.slice none 0 0)) = W2 at *
      refine bodyPost_ret (v := .tuple #[.agg #[.int .i64 0, .int .i64 0, .slice none 0 0], .int .i64 1]) (by simp [results, Try.results6, go_sem, y0, y1, y2]) rfl ?_
      exact ⟨_, _, rfl, eO, eB⟩
  · have hres : thRes t u = (⟨0, 0, []⟩, 1) := by simp [thRes, hok]
    have hk : okT t = false := by simpa using hok
    have HRES := Lib.hid hres
    rw [hk] at HV0
    clear hok hk hres
    go_enter Try.func6, Try.ntmps6
    go_wp2_with fail
    refine (HV0.out _ HI0.out).mono ?_
    generalize (((w.alloc (.cells #[.int .i64 t.L, .int .i64 t.S, .slice A t.mv.length ca] 28)).alloc (.cells #[.int .i64 u.L, .int .i64 u.S, .slice B u.mv.length cb] 28)).alloc (.cells #[.int .i64 0, .int .i64 0, .slice none 0 0] 28)) = W0 at *
    rintro e w1 ⟨rfl, hb1⟩
    have hI2 := HI0.out.below hb1
    have HH := Lib.hid (HERR.out _ hI2)
    clear hb1
    obtain ⟨⟨z0, z1, z2⟩, zf⟩ := hI2.2.2.2.three
    have lz := hI2.2.2.2.lt
    clear hI2
    go_wp2
    obtain ⟨⟨y0, y1, y2⟩, eO, eB⟩ := HH.out
    rw [HRES.out]
    generalize (((w1.setCell ⟨w.heap.size + 2, 0, none⟩ (.int .i64 0)).setCell ⟨w.heap.size + 2, 1, none⟩ (.int .i64 0)).setCell ⟨w.heap.size + 2, 2, none⟩ (.slice none 0 0)) = W2 at *
    refine bodyPost_ret (v := .tuple #[.agg #[.int .i64 0, .int .i64 0, .slice none 0 0], .int .i64 1]) (by simp [results, Try.results6, go_sem, y0, y1, y2]) rfl ?_
    exact ⟨_, _, rfl, eO, eB⟩
end Go.Proofs.Ytklljaeoimgmnaa
