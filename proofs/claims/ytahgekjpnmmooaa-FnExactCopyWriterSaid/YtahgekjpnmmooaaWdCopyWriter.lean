/-
  What 'writerDoing' makes of the closure of CopyWriter.
-/
import Derived.Test.YtahgekjpnmmooaaBxWr
import Derived.Test.YtahgekjpnmmooaaV5
namespace Go.Proofs.Ytahgekjpnmmooaa
open Go.RowKit

set_option maxRecDepth 100000 in
set_option maxHeartbeats 3200000 in
theorem wdCopyWriter_own (vt : Value) (t : TData) (bt : List Nat) (lo c n pg pl : Nat) (G : Nat → Nat → ByteArray) (w : World) (hlo : lo ≤ w.heap.size) (ht : OwT w lo vt t bt) (h1 : 1 ≤ t.L) (h2 : t.L ≤ 3) (hc : (c : Int) = t.L + 2) (hn : t.mv.length = n) (hn2 : n ≤ 12)
    (hF : ∀ (W : World), Below w.heap.size w W → ∀ q k : Nat, q < n → k < c → Calls Try.prog 43 #[.int .i64 (q : Int), .int .i64 (k : Int), .pointer (some ⟨pg, 0, none⟩), .pointer (some ⟨pl, 0, none⟩)] W fun e w' => e = .returned (.string (G q k)) ∧ Below W.heap.size W w') :
    Calls Try.prog 31 #[vt, .func (.func 43) #[] #[.pointer (some ⟨pg, 0, none⟩), .pointer (some ⟨pl, 0, none⟩)]] w fun e w' =>
      ∃ u bs, e = .returned (.tuple #[u, .int .i64 (wdRes t G c n).2]) ∧ OwWr w' lo u (wdRes t G c n).1 bs ∧ Below w.heap.size w w' := by
  obtain ⟨isl, his, hzs0, hzs1, hzs2⟩ := info_parts infoSo
  obtain ⟨vm, bm, rfl, hm, -, -⟩ := ht
  obtain ⟨A0, k0, rfl⟩ := OwL.shape hm
  have HM := Lib.hid hm
  have HF := Lib.hid hF
  have HC := Lib.hid hc
  have HST := Lib.hid (fun W (hb : Below w.heap.size w W) => (states_any (.agg #[.int .i64 t.L, .int .i64 t.S, .slice A0 t.mv.length k0]) t W ⟨_, rfl, keepsPP _ _ _ _ (OwL.rd (fun h => h.rd) hm) hb⟩).mono (fun e w' h => (⟨h.1.trans (by rw [hn]), h.2⟩ : e = .returned (.int .i64 (n : Int)) ∧ Below W.heap.size W w')))
  have c5 : (c : Int) ≤ 5 := by omega
  have hmk := run_make_row' (P := Try.prog) 44 9 (.string (ByteArray.mk #[])) 16 Try.underlying44 infoStr rfl .i64 .i64 c (by omega) (by omega)
  have HMK := Lib.hid hmk
  have hr0 := ((Row.new w [.int .i64 t.L, .int .i64 t.S, .slice A0 t.mv.length k0] 24).alloc (.cells #[.int .i64 0, .int .i64 0, .slice none 0 0, .slice none 0 0] 27)).alloc (.cells #[.int .i64 t.L, .int .i64 t.S, .slice A0 t.mv.length k0, .slice none 0 0] 27)
  have hz0 := (Row.new (w.alloc (.cells #[.int .i64 t.L, .int .i64 t.S, .slice A0 t.mv.length k0] 24)) [.int .i64 0, .int .i64 0, .slice none 0 0, .slice none 0 0] 27).alloc (.cells #[.int .i64 t.L, .int .i64 t.S, .slice A0 t.mv.length k0, .slice none 0 0] 27)
  have hx0 := Row.new ((w.alloc (.cells #[.int .i64 t.L, .int .i64 t.S, .slice A0 t.mv.length k0] 24)).alloc (.cells #[.int .i64 0, .int .i64 0, .slice none 0 0, .slice none 0 0] 27)) [.int .i64 t.L, .int .i64 t.S, .slice A0 t.mv.length k0, .slice none 0 0] 27
  have hB := ((below_alloc w (.cells #[.int .i64 t.L, .int .i64 t.S, .slice A0 t.mv.length k0] 24)).alloc (by simp) (.cells #[.int .i64 0, .int .i64 0, .slice none 0 0, .slice none 0 0] 27)).alloc (by simp; omega) (.cells #[.int .i64 t.L, .int .i64 t.S, .slice A0 t.mv.length k0, .slice none 0 0] 27)
  have HI0 := Lib.hid (show WdI w t (.slice A0 t.mv.length k0) G c 0 _ from ⟨hB, hr0, (show Row _ (w.heap.size + 1) _ _ by simpa using hz0), BoxWr.start _ (show Row _ (w.heap.size + 2) _ _ by simpa using hx0), fun q' hq => absurd hq (by omega)⟩)
  clear hmk hr0 hz0 hx0 hB hF hc hm hn
  go_enter Try.func31, Try.ntmps31
  go_wp2_with fail
  generalize ((w.alloc (.cells #[.int .i64 t.L, .int .i64 t.S, .slice A0 t.mv.length k0] 24)).alloc (.cells #[.int .i64 0, .int .i64 0, .slice none 0 0, .slice none 0 0] 27)).alloc (.cells #[.int .i64 t.L, .int .i64 t.S, .slice A0 t.mv.length k0, .slice none 0 0] 27) = W0 at *
  refine (HST.out _ HI0.out.bel).mono ?_
  rintro e w1 ⟨rfl, hb1⟩
  have HI := Lib.hid (HI0.out.below hb1)
  clear hb1
  go_wp2
  go_loopw [14] (fun i wr => ∃ q : Nat, q ≤ n ∧ i = .int .i64 q ∧ WdI w t (.slice A0 t.mv.length k0) G c q wr) (fun i _ => n - (intOf i).toNat)
  case atStart => exact ⟨0, Nat.zero_le _, rfl, HI.out⟩
  case round =>
    clear HI0 HI
    obtain ⟨wo, hwo⟩ : ∃ wo, wo = wr := ⟨wr, rfl⟩
    subst hwo
    obtain ⟨q, hq, rfl, hI⟩ := hrel
    have HI := Lib.hid hI
    by_cases hlt : q < n
    · obtain ⟨⟨t0, t1, t2⟩, -⟩ := hI.rt.three
      have lt0 := hI.rt.lt
      have hmk := HMK.out
      have HCS := Lib.hid (fun W => countSigns_any t.L W (by omega) (by omega))
      rw [← HC.out] at HCS
      have i1 : (0 : Int) ≤ q := by omega
      have i2 : (q : Int) < n := by omega
      clear hI
      go_wp2_with (go_at_call 67; refine (HCS.out _).mono ?_; rintro e w' ⟨rfl, rfl⟩)
      clear hmk t0 t1 t2 lt0
      have hM := Row.made wo (.string (ByteArray.mk #[])) c 9
      rw [show c = (strs (rowS G c q)).length by rw [strs_len, rowS_len], ← part_zero, strs_len, rowS_len] at hM
      have HMD := Lib.hid (show _ ∧ _ from ⟨below_alloc wo (.cells (madeCells #[.string (ByteArray.mk #[])] c) 9), hM⟩)
      clear hM
      go_loopw [23] (fun i wi => ∃ k : Nat, k ≤ c ∧ i = .int .i64 k ∧ Below wo.heap.size wo wi ∧ Row wi wo.heap.size 9 (part (strs (rowS G c q)) k (.string (ByteArray.mk #[]))) ∧ (∀ k', k' < k → (G q k').size ≤ 3)) (fun i _ => c - (intOf i).toNat)
      case atStart => exact ⟨0, Nat.zero_le _, rfl, HMD.out.1, HMD.out.2, fun k' hk => absurd hk (by omega)⟩
      case round =>
        obtain ⟨k, hk, rfl, hbi, hR, hfit⟩ := hrel
        have HI2 := Lib.hid (show _ ∧ _ ∧ _ from ⟨hbi, hR, hfit⟩)
        clear hbi hR hfit
        by_cases hklt : k < c
        · have HCL := Lib.hid (HF.out wr (below_step HI.out.bel HI2.out.1) q k hlt hklt)
          have hget := rowS_get G (q := q) hklt
          have j1 : (0 : Int) ≤ k := by omega
          have j2 : (k : Int) < c := by omega
          have HGT := Lib.hid hget
          clear hget
          go_wp2_with fail
          refine HCL.out.mono ?_
          rintro e w2 ⟨rfl, hb2⟩
          have hR := HI2.out.2.1.below hb2 HI2.out.2.1.lt
          have HB2 := Lib.hid (below_step HI2.out.1 hb2)
          have hd' := (hR.cell k).trans (part_get (by rw [strs_len, rowS_len]; exact hklt))
          have hf' := hR.free k
          have hN := part_set (z := .string (ByteArray.mk #[])) (show (strs (rowS G c q))[k]? = some (.string (G q k)) by simp [strs, HGT.out])
          have hS := hR.stored k (.string (G q k))
          rw [hN] at hS
          have HS := Lib.hid (show _ ∧ _ from ⟨hS, HB2.out.setCell (p := ⟨wo.heap.size, k, none⟩) (Nat.le_refl _) (.string (G q k))⟩)
          have lg := hR.lt
          have gS : (w2.setCell ⟨wo.heap.size, k, none⟩ (.string (G q k))).cell? ⟨wo.heap.size, k, none⟩ = some (.string (G q k)) := by
            rw [hS.cell k, part_done_get (show (strs (rowS G c q))[k]? = some (.string (G q k)) by simp [strs, HGT.out])]
          clear hS hR hN hb2
          obtain ⟨x, hx⟩ : ∃ x, G q k = x := ⟨_, rfl⟩
          rw [hx] at HS gS ⊢
          have HX := Lib.hid hx
          clear hx
          by_cases hsz : (x.size : Int) ≤ 3
          · have hsz' : ¬ (3 : Int) < (x.size : Int) := by omega
            go_wp2
            go_roundw
            case rel => exact ⟨k + 1, by omega, by go_num, HS.out.2, HS.out.1, fun k' hk' => by
              rcases Nat.lt_or_ge k' k with h | h
              · exact HI2.out.2.2 k' h
              · obtain rfl : k' = k := by omega
                rw [HX.out]; omega⟩
            case measure => simp [intOf]; omega
          · have hsz' : (3 : Int) < (x.size : Int) := by omega
            have HRES := Lib.hid (show wdRes t G c n = (⟨0, 0, [], []⟩, 3) by rw [wdRes, outsFit_false hlt hklt (by rw [HX.out]; omega)]; rfl)
            have hz3 := (HI.out.rz.below HB2.out HI.out.rz.lt).other (a := ⟨wo.heap.size, k, none⟩) (by show wo.heap.size ≠ _; have := HI.out.rz.lt; omega) (.string x)
            have HZ3 := Lib.hid hz3
            have HBW := Lib.hid (below_step HI.out.bel HB2.out)
            have hwo := HI.out.rz.lt
            obtain ⟨⟨z0, z1, z2, z3⟩, zf⟩ := hz3.four
            have lz := hz3.lt
            clear hz3
            go_wp2
            obtain ⟨W2, hW2, ⟨y0, y1, y2, y3⟩, eO, eB⟩ := stored4Wr (w := w) HZ3.out (owWr_zero _ lo) (by simp) (by omega) (HBW.out.setCell (p := ⟨wo.heap.size, k, none⟩) (by show w.heap.size ≤ wo.heap.size; omega) (.string x))
            rw [← hW2]
            clear hW2
            refine bodyPost_ret (v := .tuple #[.agg #[.int .i64 0, .int .i64 0, .slice none 0 0, .slice none 0 0], .int .i64 3]) (by simp [results, Try.results31, go_sem, y0, y1, y2, y3]) rfl ?_
            rw [HRES.out]
            exact ⟨_, _, rfl, eO, eB⟩
        · have ek : k = c := by omega
          subst ek
          have hRr : Row wr wo.heap.size 9 (strs (rowS G k q)) := by have := HI2.out.2.1; rwa [part_full (by rw [strs_len, rowS_len]; omega)] at this
          have hwo := HI.out.rz.lt
          have hown : OwV strs 9 wr (w.heap.size + 2) (.slice (some ⟨wo.heap.size, 0, none⟩) k k) (rowS G k q) [wo.heap.size] := by
            have := hRr.own (lo := w.heap.size + 2) (by have := HI.out.box.lt; omega) (by rw [strs_len, rowS_len]; unfold maxLen; have := HC.out; omega)
            rw [strs_len, rowS_len] at this
            exact ⟨this, rfl⟩
          obtain ⟨Bm, km, vs, hbx, hbo, hpo, hlb, hnext⟩ := HI.out.box.open
          rw [outTable_len] at hbx hbo hpo hlb hnext
          have hbx2 := hbx.below HI2.out.1 hbx.lt
          have hbo2 := rows_below hbo HI2.out.1
          have lpo := hbx2.lt
          have hfz := hbx2.free 3
          obtain ⟨⟨o0, o1, o2, o3⟩, -⟩ := hbx2.four
          have HNX := Lib.hid (hnext wr (.slice (some ⟨wo.heap.size, 0, none⟩) k k) (rowS G k q) [wo.heap.size] HI2.out.1 hown (by simp))
          have HBO := Lib.hid hbo2
          have HPO := Lib.hid (show _ ∧ _ from ⟨hpo, hlb⟩)
          have HFT := Lib.hid (fun q' (hq' : q' < q + 1) k' (hk' : k' < k) => show (G q' k').size ≤ 3 by
            rcases Nat.lt_or_ge q' q with h | h
            · exact HI.out.fit q' h k' hk'
            · obtain rfl : q' = q := by omega
              exact HI2.out.2.2 k' hk')
          have hsz2 : w.heap.size + 2 ≤ wr.heap.size := by omega
          have q12 : q ≤ 12 := by omega
          clear hRr hown hbx hbo hpo hlb hnext hbx2 hbo2
          go_wp2_with (at_builtin; refine wpList_append_lies _ rfl _ _ 25 rfl (w.heap.size + 2) 44 isl (.slice none 0 0) 1 24 Try.underlying25 his hzs0 hzs1 hzs2 rfl (by decide) (.slice Bm q km) q _ rfl (rows_below HBO.out (below_alloc wr (.cells #[.slice (some ⟨wo.heap.size, 0, none⟩) k k] 44))) ⟨wr.heap.size, 0, none⟩ 1 1 [.slice (some ⟨wo.heap.size, 0, none⟩) k k] rfl rfl (World.news_of_block (cs := #[.slice (some ⟨wo.heap.size, 0, none⟩) k k]) (t := 44) (fr := (0, 0)) (heap_alloc_new wr _)) (by simp [Value.oneCell']) (by omega) (by unfold maxLen; omega) (by omega) (by simp; omega) (wr.heap.size + 1) (by simp) ?_; intro g cap w2 hown1 hgrow hat hlt2; have p1 := grown_cell hgrow HPO.out.1 (below_keep (below_alloc _ _) o3); have p2 := grown_free hgrow HPO.out.1 (by simp; omega) (below_keepf (below_alloc _ _) lpo hfz))
          have hwb := HI.out.rt.lt
          have hnb : ∀ b, b < w.heap.size + 2 → b ∉ blks (.slice Bm q km) := fun b hb hm => by have := HPO.out.2 b hm; omega
          have hb1 : Below w.heap.size w (wr.alloc (.cells #[.slice (some ⟨wo.heap.size, 0, none⟩) k k] 44)) := below_step (below_step HI.out.bel HI2.out.1) (below_alloc _ _)
          have hres : WdI w t (.slice A0 t.mv.length k0) G k (q + 1) (w2.setCell ⟨w.heap.size + 2, 3, none⟩ (.slice (some ⟨g, 0, none⟩) (q + 1) cap)) := by
            refine ⟨(hb1.trans (grown_below hgrow hb1.size (fun b hb => by have := HPO.out.2 b hb; omega))).setCell (p := ⟨w.heap.size + 2, 3, none⟩) (by show w.heap.size ≤ w.heap.size + 2; omega) _, ?_, ?_, ?_, HFT.out⟩
            · exact (grown_row hgrow ((HI.out.rt.below HI2.out.1 HI.out.rt.lt).alloc _) (hnb _ (by omega))).other (a := ⟨w.heap.size + 2, 3, none⟩) (by show w.heap.size + 2 ≠ _; omega) _
            · exact (grown_row hgrow ((HI.out.rz.below HI2.out.1 HI.out.rz.lt).alloc _) (hnb _ (by omega))).other (a := ⟨w.heap.size + 2, 3, none⟩) (by show w.heap.size + 2 ≠ _; omega) _
            · rw [outTable_succ]
              exact HNX.out _ _ _ _ hgrow hown1 hat
          go_roundw
          case rel => exact ⟨q + 1, by omega, by go_num, hres⟩
          case measure => simp [intOf]; omega
    · have eq : q = n := by omega
      subst eq
      have HRES := Lib.hid (show wdRes t G c q = (⟨t.L, t.S, t.mv, outTable G c q⟩, 0) by rw [wdRes, outsFit_true hI.fit]; rfl)
      obtain ⟨Bm, km, bs, hbx, hbo, hpb⟩ := hI.box.own
      obtain ⟨⟨o0, o1, o2, o3⟩, -⟩ := hbx.four
      obtain ⟨⟨z0, z1, z2, z3⟩, zf⟩ := hI.rz.four
      have lz := hI.rz.lt
      have lpo := hbx.lt
      have hmo := (goodL (goodP 55) 51).below HM.out hI.bel
      have hmlt : ∀ b ∈ bm, lo ≤ b ∧ b < w.heap.size := fun b hb => (goodL (goodP 55) 51).lt HM.out hb
      have hblt : ∀ b ∈ bs, w.heap.size + 2 ≤ b := fun b hb => (goodSO.lt hbo hb).1
      have hO : OwWr wo lo (.agg #[.int .i64 t.L, .int .i64 t.S, .slice A0 t.mv.length k0, .slice Bm (outTable G c q).length km]) ⟨t.L, t.S, t.mv, outTable G c q⟩ (bm ++ bs) :=
        ⟨_, _, bm, bs, rfl, hmo, goodSO.mono hbo (by omega), rfl, nodup_two ((goodL (goodP 55) 51).nodup hmo) (goodSO.nodup hbo) (fun x hx => (hmlt x hx).2) (fun x hx => by have := hblt x hx; omega)⟩
      have HO := Lib.hid hO
      have hp : w.heap.size + 1 ∉ bm ++ bs := by
        rw [List.mem_append]
        rintro (h | h)
        · have := (hmlt _ h).2; omega
        · have := hblt _ h; omega
      have HZ := Lib.hid hI.rz
      have HBL := Lib.hid hI.bel
      clear hI hbx hbo hmo hO
      go_wp2
      obtain ⟨W2, hW2, ⟨y0, y1, y2, y3⟩, eO, eB⟩ := stored4Wr (w := w) HZ.out HO.out hp (by omega) HBL.out
      rw [← hW2]
      clear hW2
      refine bodyPost_ret (v := .tuple #[.agg #[.int .i64 t.L, .int .i64 t.S, .slice A0 t.mv.length k0, .slice Bm (outTable G c q).length km], .int .i64 0]) (by simp [results, Try.results31, go_sem, y0, y1, y2, y3]) rfl ?_
      rw [HRES.out]
      exact ⟨_, _, rfl, eO, eB⟩
end Go.Proofs.Ytahgekjpnmmooaa
