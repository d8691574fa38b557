/-
  The writer for turned words: what a valid writer is known for; what the closure writes.
  What 'writerDoing' makes of the closure of MirrorWriter.
  The writer for turned words: the closure's text; the program's answer.
  The writer for turned words: the program's answer.
-/
import Derived.Test.YtahgekjpnmmooaaJ1
import Derived.Test.YtahgekjpnmmooaaWr3
import Derived.Test.YtahgekjpnmmooaaJ2
import Derived.Test.YtahgekjpnmmooaaV5
import Derived.Test.YtahgekjpnmmooaaWr2
import Derived.Test.YtahgekjpnmmooaaZWr
namespace Go.Proofs.Ytahgekjpnmmooaa
open Go.RowKit

structure OkWr (r : WrData) : Prop where
  t : OkT r.t
  n : r.out.length = r.mv.length
  row : ∀ (q : Nat) x, r.out[q]? = some x → (x.length : Int) = r.L + 2 ∧ textsOk x = true
theorem okWr_out {r : WrData} (h : okWr r = true) : OkWr r := by
  simp only [okWr, Bool.and_eq_true, decide_eq_true_eq] at h
  refine ⟨okT_out h.1, by omega, fun q x hx => ?_⟩
  have := List.all_eq_true.1 h.2.2 x (List.mem_of_getElem? hx)
  simpa [okRowWr] using this
/-- The text that is written in the state q above the sign k. -/
def textAt (r : WrData) (q k : Nat) : ByteArray := (r.out.getD q []).getD k noT
theorem OkWr.at {r : WrData} (ok : OkWr r) {q k : Nat} (hq : q < r.mv.length) (hk : (k : Int) < r.L + 2) : ∃ x, r.out[q]? = some x ∧ (x.length : Int) = r.L + 2 ∧ x[k]? = some (textAt r q k) := by
  have hx : r.out[q]? = some (r.out[q]'(by rw [ok.n]; exact hq)) := List.getElem?_eq_getElem _
  obtain ⟨h1, -⟩ := ok.row q _ hx
  have hkl : k < (r.out[q]'(by rw [ok.n]; exact hq)).length := by omega
  refine ⟨_, hx, h1, ?_⟩
  rw [List.getElem?_eq_getElem hkl]
  simp [textAt, List.getD, hx, hkl]
theorem textOk_size {x : ByteArray} (h : textOk x = true) : x.size ≤ 3 := by
  simp only [textOk, Bool.and_eq_true, decide_eq_true_eq] at h
  omega
theorem OkWr.size {r : WrData} (ok : OkWr r) {q k : Nat} (hq : q < r.mv.length) (hk : (k : Int) < r.L + 2) : (textAt r q k).size ≤ 3 := by
  obtain ⟨x, hx, hl, ht⟩ := ok.at hq hk
  have h2 := (ok.row q x hx).2
  unfold textsOk at h2
  exact textOk_size (List.all_eq_true.1 h2 _ (List.mem_of_getElem? ht))

set_option maxHeartbeats 1600000 in
theorem firstOut_any (L S : Int) (A B : Option Addr) (ka kb : Nat) (r : WrData) (w : World) (hL : L = r.L) (hS : S = r.S) (ok : OkWr r) (ho : RdSS w (.slice B r.out.length kb) r.out) :
    Calls Try.prog 57 #[.agg #[.int .i64 L, .int .i64 S, .slice A r.mv.length ka, .slice B r.out.length kb]] w fun e w' => e = .returned (.string (textAt r r.S.toNat r.L.toNat)) ∧ Below w.heap.size w w' := by
  subst hL
  subst hS
  have l1 : 1 ≤ r.L := ok.t.l1
  have l2 : r.L ≤ 3 := ok.t.l2
  have s1 : 0 ≤ r.S := ok.t.s1
  have s2 : r.S ≤ (r.mv.length : Int) - 1 := ok.t.s2
  obtain ⟨x, hx, hxl, ht⟩ := ok.at (q := r.S.toNat) (k := r.L.toNat) (by omega) (by omega)
  obtain ⟨s, hs⟩ : ∃ s : Nat, r.S = s := ⟨r.S.toNat, by omega⟩
  obtain ⟨l, hl⟩ : ∃ l : Nat, r.L = l := ⟨r.L.toNat, by omega⟩
  obtain ⟨z, hz⟩ : ∃ z, textAt r r.S.toNat r.L.toNat = z := ⟨_, rfl⟩
  rw [hz] at ht ⊢
  have hn := ok.n
  have HB := Lib.hid (below_alloc w (.cells #[.int .i64 r.L, .int .i64 r.S, .slice A r.mv.length ka, .slice B r.out.length kb] 80))
  have HR := Lib.hid (Row.new w [.int .i64 r.L, .int .i64 r.S, .slice A r.mv.length ka, .slice B r.out.length kb] 80)
  obtain ⟨B', cap, he, b1, b2, b3⟩ := RdL.open ho
  cases he
  unfold maxLen at b2
  rw [hs] at hx s2
  rw [hl] at ht hxl
  simp only [Int.toNat_natCast] at hx ht
  obtain ⟨b, off, u, y, rfl, hy, hc, hR⟩ := b3 s (by omega)
  obtain rfl := Option.some.inj (hx.symm.trans hy)
  obtain ⟨C, capx, rfl, x1, x2, x3⟩ := RdS.open hR
  unfold maxLen at x2
  obtain ⟨bx, offx, z', rfl, hz', hcz⟩ := x3 l (by omega)
  obtain rfl := Option.some.inj (ht.symm.trans hz')
  have gc := below_keep HB.out hc
  have gz := below_keep HB.out hcz
  have HLM := Lib.hid (fun W => (leftMark_any (l : Int) W).mono (fun e w' (h : _ ∧ _) => (⟨h.1, by rw [h.2]; exact Qt.refl _⟩ : e = .returned (.int .i64 (l : Int)) ∧ Qt W w')))
  have i1 : (0 : Int) ≤ s := by omega
  have i2 : (s : Int) < r.out.length := by omega
  have i3 : (0 : Int) ≤ l := by omega
  have i4 : (l : Int) < x.length := by omega
  rw [hl, hs] at HR HB ⊢
  rw [hl, hs] at gc gz
  clear ok hx ht hy hz' hc hcz hR x3 b3 hs hl hz ho s1 s2 l1 l2 hn hxl
  go_enter Try.func57, Try.ntmps57
  go_wp2_with fail
  obtain ⟨⟨c0, c1, c2, c3⟩, -⟩ := HR.out.four
  go_quiet ((go_at_call 30; exact Calls.quiet_of (HLM.out _)))
  go_wp2
  go_ret
  exact ⟨rfl, below_drewN HB.out _⟩
end Go.Proofs.Ytahgekjpnmmooaa
namespace Go.Proofs.Ytahgekjpnmmooaa
open Go.RowKit

set_option maxRecDepth 100000 in
set_option maxHeartbeats 3200000 in
theorem wdMirrorWriter_own (vt : Value) (t : TData) (bt : List Nat) (lo c n p : Nat) (G : Nat → Nat → ByteArray) (w : World) (hlo : lo ≤ w.heap.size) (ht : OwT w lo vt t bt) (h1 : 1 ≤ t.L) (h2 : t.L ≤ 3) (hc : (c : Int) = t.L + 2) (hn : t.mv.length = n) (hn2 : n ≤ 12)
    (hF : ∀ (W : World), Below w.heap.size w W → ∀ q k : Nat, q < n → k < c → Calls Try.prog 54 #[.int .i64 (q : Int), .int .i64 (k : Int), .pointer (some ⟨p, 0, none⟩)] W fun e w' => e = .returned (.string (G q k)) ∧ Below W.heap.size W w') :
    Calls Try.prog 31 #[vt, .func (.func 54) #[] #[.pointer (some ⟨p, 0, none⟩)]] w fun e w' =>
      ∃ u bs, e = .returned (.tuple #[u, .int .i64 (wdRes t G c n).2]) ∧ OwWr w' lo u (wdRes t G c n).1 bs ∧ Below w.heap.size w w' := by
  obtain ⟨isl, his, hzs0, hzs1, hzs2⟩ := info_parts infoSo
  obtain ⟨vm, bm, rfl, hm, -, -⟩ := ht
  obtain ⟨A0, k0, rfl⟩ := OwL.shape hm
  have HM := Lib.hid hm
  have HF := Lib.hid hF
  have HC := Lib.hid hc
  have HST := Lib.hid (fun W (hb : Below w.heap.size w W) => (states_any (.agg #[.int .i64 t.L, .int .i64 t.S, .slice A0 t.mv.length k0]) t W ⟨_, rfl, keepsPP _ _ _ _ (OwL.rd (fun h => h.rd) hm) hb⟩).mono (fun e w' h => (⟨h.1.trans (by rw [hn]), h.2⟩ : e = .returned (.int .i64 (n : Int)) ∧ Below W.heap.size W w')))
  have c5 : (c : Int) ≤ 5 := by omega
  have hmk := run_make_row' (P := Try.prog) 44 9 (.string (ByteArray.mk #[])) 16 Try.underlying44 infoStr rfl .i64 .i64 c (by omega) (by omega)
  have HMK := Lib.hid hmk
  have hr0 := ((Row.new w [.int .i64 t.L, .int .i64 t.S, .slice A0 t.mv.length k0] 24).alloc (.cells #[.int .i64 0, .int .i64 0, .slice none 0 0, .slice none 0 0] 27)).alloc (.cells #[.int .i64 t.L, .int .i64 t.S, .slice A0 t.mv.length k0, .slice none 0 0] 27)
  have hz0 := (Row.new (w.alloc (.cells #[.int .i64 t.L, .int .i64 t.S, .slice A0 t.mv.length k0] 24)) [.int .i64 0, .int .i64 0, .slice none 0 0, .slice none 0 0] 27).alloc (.cells #[.int .i64 t.L, .int .i64 t.S, .slice A0 t.mv.length k0, .slice none 0 0] 27)
  have hx0 := Row.new ((w.alloc (.cells #[.int .i64 t.L, .int .i64 t.S, .slice A0 t.mv.length k0] 24)).alloc (.cells #[.int .i64 0, .int .i64 0, .slice none 0 0, .slice none 0 0] 27)) [.int .i64 t.L, .int .i64 t.S, .slice A0 t.mv.length k0, .slice none 0 0] 27
  have hB := ((below_alloc w (.cells #[.int .i64 t.L, .int .i64 t.S, .slice A0 t.mv.length k0] 24)).alloc (by simp) (.cells #[.int .i64 0, .int .i64 0, .slice none 0 0, .slice none 0 0] 27)).alloc (by simp; omega) (.cells #[.int .i64 t.L, .int .i64 t.S, .slice A0 t.mv.length k0, .slice none 0 0] 27)
  have HI0 := Lib.hid (show WdI w t (.slice A0 t.mv.length k0) G c 0 _ from ⟨hB, hr0, (show Row _ (w.heap.size + 1) _ _ by simpa using hz0), BoxWr.start _ (show Row _ (w.heap.size + 2) _ _ by simpa using hx0), fun q' hq => absurd hq (by omega)⟩)
  clear hmk hr0 hz0 hx0 hB hF hc hm hn
  go_enter Try.func31, Try.ntmps31
  go_wp2_with fail
  generalize ((w.alloc (.cells #[.int .i64 t.L, .int .i64 t.S, .slice A0 t.mv.length k0] 24)).alloc (.cells #[.int .i64 0, .int .i64 0, .slice none 0 0, .slice none 0 0] 27)).alloc (.cells #[.int .i64 t.L, .int .i64 t.S, .slice A0 t.mv.length k0, .slice none 0 0] 27) = W0 at *
  refine (HST.out _ HI0.out.bel).mono ?_
  rintro e w1 ⟨rfl, hb1⟩
  have HI := Lib.hid (HI0.out.below hb1)
  clear hb1
  go_wp2
  go_loopw [14] (fun i wr => ∃ q : Nat, q ≤ n ∧ i = .int .i64 q ∧ WdI w t (.slice A0 t.mv.length k0) G c q wr) (fun i _ => n - (intOf i).toNat)
  case atStart => exact ⟨0, Nat.zero_le _, rfl, HI.out⟩
  case round =>
    clear HI0 HI
    obtain ⟨wo, hwo⟩ : ∃ wo, wo = wr := ⟨wr, rfl⟩
    subst hwo
    obtain ⟨q, hq, rfl, hI⟩ := hrel
    have HI := Lib.hid hI
    by_cases hlt : q < n
    · obtain ⟨⟨t0, t1, t2⟩, -⟩ := hI.rt.three
      have lt0 := hI.rt.lt
      have hmk := HMK.out
      have HCS := Lib.hid (fun W => countSigns_any t.L W (by omega) (by omega))
      rw [← HC.out] at HCS
      have i1 : (0 : Int) ≤ q := by omega
      have i2 : (q : Int) < n := by omega
      clear hI
      go_wp2_with (go_at_call 67; refine (HCS.out _).mono ?_; rintro e w' ⟨rfl, rfl⟩)
      clear hmk t0 t1 t2 lt0
      have hM := Row.made wo (.string (ByteArray.mk #[])) c 9
      rw [show c = (strs (rowS G c q)).length by rw [strs_len, rowS_len], ← part_zero, strs_len, rowS_len] at hM
      have HMD := Lib.hid (show _ ∧ _ from ⟨below_alloc wo (.cells (madeCells #[.string (ByteArray.mk #[])] c) 9), hM⟩)
      clear hM
      go_loopw [23] (fun i wi => ∃ k : Nat, k ≤ c ∧ i = .int .i64 k ∧ Below wo.heap.size wo wi ∧ Row wi wo.heap.size 9 (part (strs (rowS G c q)) k (.string (ByteArray.mk #[]))) ∧ (∀ k', k' < k → (G q k').size ≤ 3)) (fun i _ => c - (intOf i).toNat)
      case atStart => exact ⟨0, Nat.zero_le _, rfl, HMD.out.1, HMD.out.2, fun k' hk => absurd hk (by omega)⟩
      case round =>
        obtain ⟨k, hk, rfl, hbi, hR, hfit⟩ := hrel
        have HI2 := Lib.hid (show _ ∧ _ ∧ _ from ⟨hbi, hR, hfit⟩)
        clear hbi hR hfit
        by_cases hklt : k < c
        · have HCL := Lib.hid (HF.out wr (below_step HI.out.bel HI2.out.1) q k hlt hklt)
          have hget := rowS_get G (q := q) hklt
          have j1 : (0 : Int) ≤ k := by omega
          have j2 : (k : Int) < c := by omega
          have HGT := Lib.hid hget
          clear hget
          go_wp2_with fail
          refine HCL.out.mono ?_
          rintro e w2 ⟨rfl, hb2⟩
          have hR := HI2.out.2.1.below hb2 HI2.out.2.1.lt
          have HB2 := Lib.hid (below_step HI2.out.1 hb2)
          have hd' := (hR.cell k).trans (part_get (by rw [strs_len, rowS_len]; exact hklt))
          have hf' := hR.free k
          have hN := part_set (z := .string (ByteArray.mk #[])) (show (strs (rowS G c q))[k]? = some (.string (G q k)) by simp [strs, HGT.out])
          have hS := hR.stored k (.string (G q k))
          rw [hN] at hS
          have HS := Lib.hid (show _ ∧ _ from ⟨hS, HB2.out.setCell (p := ⟨wo.heap.size, k, none⟩) (Nat.le_refl _) (.string (G q k))⟩)
          have lg := hR.lt
          have gS : (w2.setCell ⟨wo.heap.size, k, none⟩ (.string (G q k))).cell? ⟨wo.heap.size, k, none⟩ = some (.string (G q k)) := by
            rw [hS.cell k, part_done_get (show (strs (rowS G c q))[k]? = some (.string (G q k)) by simp [strs, HGT.out])]
          clear hS hR hN hb2
          obtain ⟨x, hx⟩ : ∃ x, G q k = x := ⟨_, rfl⟩
          rw [hx] at HS gS ⊢
          have HX := Lib.hid hx
          clear hx
          by_cases hsz : (x.size : Int) ≤ 3
          · have hsz' : ¬ (3 : Int) < (x.size : Int) := by omega
            go_wp2
            go_roundw
            case rel => exact ⟨k + 1, by omega, by go_num, HS.out.2, HS.out.1, fun k' hk' => by
              rcases Nat.lt_or_ge k' k with h | h
              · exact HI2.out.2.2 k' h
              · obtain rfl : k' = k := by omega
                rw [HX.out]; omega⟩
            case measure => simp [intOf]; omega
          · have hsz' : (3 : Int) < (x.size : Int) := by omega
            have HRES := Lib.hid (show wdRes t G c n = (⟨0, 0, [], []⟩, 3) by rw [wdRes, outsFit_false hlt hklt (by rw [HX.out]; omega)]; rfl)
            have hz3 := (HI.out.rz.below HB2.out HI.out.rz.lt).other (a := ⟨wo.heap.size, k, none⟩) (by show wo.heap.size ≠ _; have := HI.out.rz.lt; omega) (.string x)
            have HZ3 := Lib.hid hz3
            have HBW := Lib.hid (below_step HI.out.bel HB2.out)
            have hwo := HI.out.rz.lt
            obtain ⟨⟨z0, z1, z2, z3⟩, zf⟩ := hz3.four
            have lz := hz3.lt
            clear hz3
            go_wp2
            obtain ⟨W2, hW2, ⟨y0, y1, y2, y3⟩, eO, eB⟩ := stored4Wr (w := w) HZ3.out (owWr_zero _ lo) (by simp) (by omega) (HBW.out.setCell (p := ⟨wo.heap.size, k, none⟩) (by show w.heap.size ≤ wo.heap.size; omega) (.string x))
            rw [← hW2]
            clear hW2
            refine bodyPost_ret (v := .tuple #[.agg #[.int .i64 0, .int .i64 0, .slice none 0 0, .slice none 0 0], .int .i64 3]) (by simp [results, Try.results31, go_sem, y0, y1, y2, y3]) rfl ?_
            rw [HRES.out]
            exact ⟨_, _, rfl, eO, eB⟩
        · have ek : k = c := by omega
          subst ek
          have hRr : Row wr wo.heap.size 9 (strs (rowS G k q)) := by have := HI2.out.2.1; rwa [part_full (by rw [strs_len, rowS_len]; omega)] at this
          have hwo := HI.out.rz.lt
          have hown : OwV strs 9 wr (w.heap.size + 2) (.slice (some ⟨wo.heap.size, 0, none⟩) k k) (rowS G k q) [wo.heap.size] := by
            have := hRr.own (lo := w.heap.size + 2) (by have := HI.out.box.lt; omega) (by rw [strs_len, rowS_len]; unfold maxLen; have := HC.out; omega)
            rw [strs_len, rowS_len] at this
            exact ⟨this, rfl⟩
          obtain ⟨Bm, km, vs, hbx, hbo, hpo, hlb, hnext⟩ := HI.out.box.open
          rw [outTable_len] at hbx hbo hpo hlb hnext
          have hbx2 := hbx.below HI2.out.1 hbx.lt
          have hbo2 := rows_below hbo HI2.out.1
          have lpo := hbx2.lt
          have hfz := hbx2.free 3
          obtain ⟨⟨o0, o1, o2, o3⟩, -⟩ := hbx2.four
          have HNX := Lib.hid (hnext wr (.slice (some ⟨wo.heap.size, 0, none⟩) k k) (rowS G k q) [wo.heap.size] HI2.out.1 hown (by simp))
          have HBO := Lib.hid hbo2
          have HPO := Lib.hid (show _ ∧ _ from ⟨hpo, hlb⟩)
          have HFT := Lib.hid (fun q' (hq' : q' < q + 1) k' (hk' : k' < k) => show (G q' k').size ≤ 3 by
            rcases Nat.lt_or_ge q' q with h | h
            · exact HI.out.fit q' h k' hk'
            · obtain rfl : q' = q := by omega
              exact HI2.out.2.2 k' hk')
          have hsz2 : w.heap.size + 2 ≤ wr.heap.size := by omega
          have q12 : q ≤ 12 := by omega
          clear hRr hown hbx hbo hpo hlb hnext hbx2 hbo2
          go_wp2_with (at_builtin; refine wpList_append_lies _ rfl _ _ 25 rfl (w.heap.size + 2) 44 isl (.slice none 0 0) 1 24 Try.underlying25 his hzs0 hzs1 hzs2 rfl (by decide) (.slice Bm q km) q _ rfl (rows_below HBO.out (below_alloc wr (.cells #[.slice (some ⟨wo.heap.size, 0, none⟩) k k] 44))) ⟨wr.heap.size, 0, none⟩ 1 1 [.slice (some ⟨wo.heap.size, 0, none⟩) k k] rfl rfl (World.news_of_block (cs := #[.slice (some ⟨wo.heap.size, 0, none⟩) k k]) (t := 44) (fr := (0, 0)) (heap_alloc_new wr _)) (by simp [Value.oneCell']) (by omega) (by unfold maxLen; omega) (by omega) (by simp; omega) (wr.heap.size + 1) (by simp) ?_; intro g cap w2 hown1 hgrow hat hlt2; have p1 := grown_cell hgrow HPO.out.1 (below_keep (below_alloc _ _) o3); have p2 := grown_free hgrow HPO.out.1 (by simp; omega) (below_keepf (below_alloc _ _) lpo hfz))
          have hwb := HI.out.rt.lt
          have hnb : ∀ b, b < w.heap.size + 2 → b ∉ blks (.slice Bm q km) := fun b hb hm => by have := HPO.out.2 b hm; omega
          have hb1 : Below w.heap.size w (wr.alloc (.cells #[.slice (some ⟨wo.heap.size, 0, none⟩) k k] 44)) := below_step (below_step HI.out.bel HI2.out.1) (below_alloc _ _)
          have hres : WdI w t (.slice A0 t.mv.length k0) G k (q + 1) (w2.setCell ⟨w.heap.size + 2, 3, none⟩ (.slice (some ⟨g, 0, none⟩) (q + 1) cap)) := by
            refine ⟨(hb1.trans (grown_below hgrow hb1.size (fun b hb => by have := HPO.out.2 b hb; omega))).setCell (p := ⟨w.heap.size + 2, 3, none⟩) (by show w.heap.size ≤ w.heap.size + 2; omega) _, ?_, ?_, ?_, HFT.out⟩
            · exact (grown_row hgrow ((HI.out.rt.below HI2.out.1 HI.out.rt.lt).alloc _) (hnb _ (by omega))).other (a := ⟨w.heap.size + 2, 3, none⟩) (by show w.heap.size + 2 ≠ _; omega) _
            · exact (grown_row hgrow ((HI.out.rz.below HI2.out.1 HI.out.rz.lt).alloc _) (hnb _ (by omega))).other (a := ⟨w.heap.size + 2, 3, none⟩) (by show w.heap.size + 2 ≠ _; omega) _
            · rw [outTable_succ]
              exact HNX.out _ _ _ _ hgrow hown1 hat
          go_roundw
          case rel => exact ⟨q + 1, by omega, by go_num, hres⟩
          case measure => simp [intOf]; omega
    · have eq : q = n := by omega
      subst eq
      have HRES := Lib.hid (show wdRes t G c q = (⟨t.L, t.S, t.mv, outTable G c q⟩, 0) by rw [wdRes, outsFit_true hI.fit]; rfl)
      obtain ⟨Bm, km, bs, hbx, hbo, hpb⟩ := hI.box.own
      obtain ⟨⟨o0, o1, o2, o3⟩, -⟩ := hbx.four
      obtain ⟨⟨z0, z1, z2, z3⟩, zf⟩ := hI.rz.four
      have lz := hI.rz.lt
      have lpo := hbx.lt
      have hmo := (goodL (goodP 55) 51).below HM.out hI.bel
      have hmlt : ∀ b ∈ bm, lo ≤ b ∧ b < w.heap.size := fun b hb => (goodL (goodP 55) 51).lt HM.out hb
      have hblt : ∀ b ∈ bs, w.heap.size + 2 ≤ b := fun b hb => (goodSO.lt hbo hb).1
      have hO : OwWr wo lo (.agg #[.int .i64 t.L, .int .i64 t.S, .slice A0 t.mv.length k0, .slice Bm (outTable G c q).length km]) ⟨t.L, t.S, t.mv, outTable G c q⟩ (bm ++ bs) :=
        ⟨_, _, bm, bs, rfl, hmo, goodSO.mono hbo (by omega), rfl, nodup_two ((goodL (goodP 55) 51).nodup hmo) (goodSO.nodup hbo) (fun x hx => (hmlt x hx).2) (fun x hx => by have := hblt x hx; omega)⟩
      have HO := Lib.hid hO
      have hp : w.heap.size + 1 ∉ bm ++ bs := by
        rw [List.mem_append]
        rintro (h | h)
        · have := (hmlt _ h).2; omega
        · have := hblt _ h; omega
      have HZ := Lib.hid hI.rz
      have HBL := Lib.hid hI.bel
      clear hI hbx hbo hmo hO
      go_wp2
      obtain ⟨W2, hW2, ⟨y0, y1, y2, y3⟩, eO, eB⟩ := stored4Wr (w := w) HZ.out HO.out hp (by omega) HBL.out
      rw [← hW2]
      clear hW2
      refine bodyPost_ret (v := .tuple #[.agg #[.int .i64 t.L, .int .i64 t.S, .slice A0 t.mv.length k0, .slice Bm (outTable G c q).length km], .int .i64 0]) (by simp [results, Try.results31, go_sem, y0, y1, y2, y3]) rfl ?_
      rw [HRES.out]
      exact ⟨_, _, rfl, eO, eB⟩
end Go.Proofs.Ytahgekjpnmmooaa
namespace Go.Proofs.Ytahgekjpnmmooaa
open Go.RowKit

/-- What the writer for turned words writes in the state q above the sign k. -/
def mirO (r : WrData) (q k : Nat) : ByteArray := if q < r.mv.length then textAt r q (swapK r.L k) else if (k : Int) = r.L + 1 then textAt r r.S.toNat r.L.toNat else noT
theorem mirO_size {r : WrData} (ok : OkWr r) {q k : Nat} (hk : (k : Int) < r.L + 2) : (mirO r q k).size ≤ 3 := by
  have l1 : 1 ≤ r.L := ok.t.l1
  have s1 : 0 ≤ r.S := ok.t.s1
  have s2 : r.S ≤ (r.mv.length : Int) - 1 := ok.t.s2
  unfold mirO
  split
  · rename_i h; exact ok.size h (swapK_lt l1 hk)
  · split
    · exact ok.size (by omega) (by omega)
    · decide

set_option maxHeartbeats 3200000 in
theorem mwClosure_any (p q k : Nat) (A B : Option Addr) (ka kb : Nat) (r : WrData) (w : World) (hrow : Row w p 80 [.int .i64 r.L, .int .i64 r.S, .slice A r.mv.length ka, .slice B r.out.length kb]) (ok : OkWr r) (hm : RdPP w (.slice A r.mv.length ka) r.mv) (ho : RdSS w (.slice B r.out.length kb) r.out) (hq : q ≤ r.mv.length) (hk : (k : Int) < r.L + 2) :
    Calls Try.prog 54 #[.int .i64 (q : Int), .int .i64 (k : Int), .pointer (some ⟨p, 0, none⟩)] w fun e w' => e = .returned (.string (mirO r q k)) ∧ Below w.heap.size w w' := by
  have l1 : 1 ≤ r.L := ok.t.l1
  have l2 : r.L ≤ 3 := ok.t.l2
  have HST := Lib.hid (fun W (hb : Below w.heap.size w W) => states_any (.agg #[.int .i64 r.L, .int .i64 r.S, .slice A r.mv.length ka]) r.t W ⟨_, rfl, keepsPP _ _ _ _ hm hb⟩)
  have HR := Lib.hid hrow
  obtain ⟨⟨c0, c1, c2, c3⟩, -⟩ := hrow.four
  by_cases hlt : q < r.mv.length
  · have HE := Lib.hid (show mirO r q k = textAt r q (swapK r.L k) by rw [mirO, if_pos hlt])
    obtain ⟨x, hx, hxl, ht⟩ := ok.at hlt (swapK_lt l1 hk)
    have hsw := swapK_lt l1 hk
    have HMS := Lib.hid (fun W => (mirroredSign_any r.L k W l1 l2).mono (fun e w' (h : _ ∧ _) => (⟨h.1, by rw [h.2]; exact Qt.refl _⟩ : e = .returned (.int .i64 (swapK r.L k : Nat)) ∧ Qt W w')))
    have hn := ok.n
    obtain ⟨sk, hsk⟩ : ∃ sk : Nat, swapK r.L k = sk := ⟨_, rfl⟩
    rw [hsk] at ht hsw HMS HE
    obtain ⟨z, hz⟩ : ∃ z, textAt r q sk = z := ⟨_, rfl⟩
    rw [hz] at ht HE
    obtain ⟨B', cap, he, b1, b2, b3⟩ := RdL.open ho
    cases he
    unfold maxLen at b2
    obtain ⟨b, off, u, y, rfl, hy, hc, hR⟩ := b3 q (by omega)
    obtain rfl := Option.some.inj (hx.symm.trans hy)
    obtain ⟨C, capx, rfl, x1, x2, x3⟩ := RdS.open hR
    unfold maxLen at x2
    obtain ⟨bx, offx, z', rfl, hz', hcz⟩ := x3 sk (by omega)
    obtain rfl := Option.some.inj (ht.symm.trans hz')
    have HCC := Lib.hid (show _ ∧ _ from ⟨hc, hcz⟩)
    have i0 : (0 : Int) ≤ q := by omega
    have i1 : (q : Int) < r.mv.length := by omega
    have i2 : (q : Int) < r.out.length := by omega
    have i3 : (0 : Int) ≤ sk := by omega
    have i4 : (sk : Int) < x.length := by omega
    clear ok hx ht hy hz' hc hcz hR x3 b3 hsk hz ho hm hn hxl hsw hrow
    go_enter Try.func54, Try.ntmps54
    go_wp2_with fail
    refine (HST.out _ (Below.refl _ _)).mono ?_
    rintro e w1 ⟨rfl, hb1⟩
    have HB1 := Lib.hid hb1
    clear c0 c1 c2 c3
    obtain ⟨⟨c0, c1, c2, c3⟩, -⟩ := (HR.out.below hb1 HR.out.lt).four
    have gc := below_keep hb1 HCC.out.1
    have gz := below_keep hb1 HCC.out.2
    clear hb1
    have i1' : (q : Int) < (r.t.mv.length : Int) := i1
    go_wp2_with fail
    go_quiet ((go_at_call 56; exact Calls.quiet_of (HMS.out _)))
    go_wp2
    go_ret
    exact ⟨by rw [HE.out]; rfl, below_drewN HB1.out _⟩
  · obtain rfl : q = r.mv.length := by omega
    have i1 : ¬ ((r.mv.length : Int) < (r.t.mv.length : Int)) := by show ¬ ((r.mv.length : Int) < (r.mv.length : Int)); omega
    have HRM := Lib.hid (fun W => rightMark_any r.L W (by omega) (by omega))
    by_cases hkr : (k : Int) = r.L + 1
    · have d1 : ((k : Int) == r.L + 1) = true := by simpa using hkr
      have HE := Lib.hid (show mirO r r.mv.length k = textAt r r.S.toNat r.L.toNat by rw [mirO, if_neg (by omega), if_pos hkr])
      have HFO := Lib.hid (fun W (hb : Below w.heap.size w W) => firstOut_any r.L r.S A B ka kb r W rfl rfl ok (keepsSS _ _ _ _ ho hb))
      clear ok ho hm hkr hlt hrow
      go_enter Try.func54, Try.ntmps54
      go_wp2_with fail
      refine (HST.out _ (Below.refl _ _)).mono ?_
      rintro e w1 ⟨rfl, hb1⟩
      have HB1 := Lib.hid hb1
      clear c0 c1 c2 c3
      obtain ⟨⟨c0, c1, c2, c3⟩, -⟩ := (HR.out.below hb1 HR.out.lt).four
      clear hb1
      go_wp2_with (go_at_call 29; refine (HRM.out _).mono ?_; rintro e w' ⟨rfl, rfl⟩)
      refine (HFO.out _ HB1.out).mono ?_
      rintro e w2 ⟨rfl, hb2⟩
      have HB2 := Lib.hid (below_step HB1.out hb2)
      clear hb2
      go_wp2
      go_ret
      exact ⟨by rw [HE.out]; rfl, HB2.out⟩
    · have d1 : ((k : Int) == r.L + 1) = false := by simpa using hkr
      have HE := Lib.hid (show mirO r r.mv.length k = noT by rw [mirO, if_neg (by omega), if_neg hkr])
      clear ok ho hm hkr hlt hrow
      go_enter Try.func54, Try.ntmps54
      go_wp2_with fail
      refine (HST.out _ (Below.refl _ _)).mono ?_
      rintro e w1 ⟨rfl, hb1⟩
      have HB1 := Lib.hid hb1
      clear c0 c1 c2 c3
      obtain ⟨⟨c0, c1, c2, c3⟩, -⟩ := (HR.out.below hb1 HR.out.lt).four
      clear hb1
      go_wp2_with (go_at_call 29; refine (HRM.out _).mono ?_; rintro e w' ⟨rfl, rfl⟩)
      go_ret
      exact ⟨by rw [HE.out]; rfl, HB1.out⟩

/-- The writer for turned words. -/
def mirW (r : WrData) : WrData := ⟨r.L, r.mv.length, tableOf (mirG r.t) (r.L + 2).toNat (r.mv.length + 1), outTable (mirO r) (r.L + 2).toNat (r.mv.length + 1)⟩
def mirWRes (r : WrData) : WrData × Int := if okWr r = true then (if r.mv.length + 1 ≤ 12 then (mirW r, 0) else (⟨0, 0, [], []⟩, 3)) else (⟨0, 0, [], []⟩, 1)
end Go.Proofs.Ytahgekjpnmmooaa
namespace Go.Proofs.Ytahgekjpnmmooaa
open Go.RowKit

theorem mirW_num (r : WrData) : (numWr (mirWRes r).1 : Int) ≤ 2305843009213693952 := by
  unfold mirWRes
  split
  · rename_i h
    have l2 : r.L ≤ 3 := (okWr_out h).t.l2
    split
    · simp only [numWr, WrData.t, mirW, numT_table, numSS_table]
      have h1 : (r.mv.length + 1) * (2 * (r.L + 2).toNat) ≤ 12 * 10 := Nat.mul_le_mul (by omega) (by omega)
      have h2 : (r.mv.length + 1) * (r.L + 2).toNat ≤ 12 * 5 := Nat.mul_le_mul (by omega) (by omega)
      omega
    · simp [numWr, WrData.t, numT, numSS, numL]
  · simp [numWr, WrData.t, numT, numSS, numL]

set_option maxHeartbeats 3200000 in
theorem implMw_own (v : Value) (r : WrData) (w : World) (h : RdWr w v r) :
    Calls Try.prog 17 #[v] w fun e w' => ∃ u bs, e = .returned (.tuple #[u, .int .i64 (mirWRes r).2]) ∧ OwWr w' w.heap.size u (mirWRes r).1 bs ∧ Below w.heap.size w w' := by
  have HV0 := Lib.hid (fun W (hb : Below w.heap.size w W) => ValidWriter_any v r W (keepsWr _ _ _ _ h hb))
  obtain ⟨vm, vo, rfl, hm, ho⟩ := h
  obtain ⟨A, ka, rfl⟩ := RdL.shape hm
  obtain ⟨B, kb, rfl⟩ := RdL.shape ho
  have HMT := Lib.hid (fun W (hb : Below w.heap.size w W) => implMir_any (.agg #[.int .i64 r.L, .int .i64 r.S, .slice A r.mv.length ka]) r.t W ⟨_, rfl, keepsPP _ _ _ _ hm hb⟩)
  have HMM := Lib.hid hm
  have HOO := Lib.hid ho
  have hz := Row.new (w.alloc (.cells #[.int .i64 r.L, .int .i64 r.S, .slice A r.mv.length ka, .slice B r.out.length kb] 27)) [.int .i64 0, .int .i64 0, .slice none 0 0, .slice none 0 0] 27
  have HZ := Lib.hid (show Row _ (w.heap.size + 1) _ _ by simpa using hz)
  have HX := Lib.hid ((Row.new w [.int .i64 r.L, .int .i64 r.S, .slice A r.mv.length ka, .slice B r.out.length kb] 27).alloc (.cells #[.int .i64 0, .int .i64 0, .slice none 0 0, .slice none 0 0] 27))
  have HB := Lib.hid (below_step (below_alloc w (.cells #[.int .i64 r.L, .int .i64 r.S, .slice A r.mv.length ka, .slice B r.out.length kb] 27)) (below_alloc _ (.cells #[.int .i64 0, .int .i64 0, .slice none 0 0, .slice none 0 0] 27)))
  clear hz hm ho
  cases hok : okWr r
  · have HRES := Lib.hid (show mirWRes r = (⟨0, 0, [], []⟩, 1) by rw [mirWRes, hok]; rfl)
    rw [hok] at HV0
    clear hok
    go_enter Try.func17, Try.ntmps17
    go_wp2_with fail
    refine (HV0.out _ HB.out).mono ?_
    rintro e w1 ⟨rfl, hb1⟩
    have HB1 := Lib.hid (below_step HB.out hb1)
    have hz1 := HZ.out.below hb1 HZ.out.lt
    have HZ1 := Lib.hid hz1
    obtain ⟨⟨z0, z1, z2, z3⟩, zf⟩ := hz1.four
    have lz := hz1.lt
    clear hb1 hz1
    go_wp2
    obtain ⟨W2, hW2, ⟨y0, y1, y2, y3⟩, eO, eB⟩ := stored4Wr (w := w) HZ1.out (owWr_zero _ w.heap.size) (by simp) (by omega) HB1.out
    rw [← hW2]
    clear hW2
    refine bodyPost_ret (v := .tuple #[.agg #[.int .i64 0, .int .i64 0, .slice none 0 0, .slice none 0 0], .int .i64 1]) (by simp [results, Try.results17, go_sem, y0, y1, y2, y3]) rfl ?_
    rw [HRES.out]
    exact ⟨_, _, rfl, eO, eB⟩
  · have ok := okWr_out hok
    have hokt : okT r.t = true := by simp only [okWr, Bool.and_eq_true] at hok; exact hok.1
    rw [hok] at HV0
    have HOK := Lib.hid ok
    have l1 : 1 ≤ r.L := ok.t.l1
    have l2 : r.L ≤ 3 := ok.t.l2
    by_cases h12 : r.mv.length + 1 ≤ 12
    · have HRES := Lib.hid (show mirWRes r = (mirW r, 0) by rw [mirWRes, hok, if_pos rfl, if_pos h12])
      have HMR := Lib.hid (show mirRes r.t = (⟨r.L, r.mv.length, tableOf (mirG r.t) (r.L + 2).toNat (r.mv.length + 1)⟩, 0) by rw [mirRes, if_pos hokt]; exact if_pos h12)
      rw [HMR.out] at HMT
      clear hok ok hokt
      go_enter Try.func17, Try.ntmps17
      go_wp2_with fail
      refine (HV0.out _ HB.out).mono ?_
      rintro e w1 ⟨rfl, hb1⟩
      have HB1 := Lib.hid (below_step HB.out hb1)
      have HZ1 := Lib.hid (HZ.out.below hb1 HZ.out.lt)
      have HX1 := Lib.hid (HX.out.below hb1 HX.out.lt)
      obtain ⟨⟨x0, x1, x2, x3⟩, -⟩ := HX1.out.four
      have hlz : w.heap.size + 1 < w1.heap.size := HZ1.out.lt
      clear hb1
      go_wp2_with fail
      refine (HMT.out _ HB1.out).mono ?_
      rintro e w2 ⟨u, bs, rfl, hu, hb2⟩
      obtain ⟨T, kt, rfl⟩ := hu.rd.shape
      simp only [tableOf_len] at hu
      simp only [tableOf_len]
      have HB2 := Lib.hid (below_step HB1.out hb2)
      have HZ2 := Lib.hid (HZ1.out.below hb2 HZ1.out.lt)
      have HX2 := Lib.hid ((HX1.out.below hb2 HX1.out.lt).alloc (.cells #[.int .i64 r.L, .int .i64 (r.mv.length : Int), .slice T (r.mv.length + 1) kt] 24))
      have HU := Lib.hid hu
      have hs2 := hb2.size
      have HT2 := Lib.hid (Row.new w2 [.int .i64 r.L, .int .i64 (r.mv.length : Int), .slice T (r.mv.length + 1) kt] 24)
      have HA2 := Lib.hid (below_alloc w2 (.cells #[.int .i64 r.L, .int .i64 (r.mv.length : Int), .slice T (r.mv.length + 1) kt] 24))
      clear x0 x1 x2 x3 hu hb2
      obtain ⟨⟨x0, x1, x2, x3⟩, -⟩ := HX2.out.four
      go_wp2_with fail
      refine (scribeOf_any _ _ _ _ _ _ _ _ _).mono ?_
      rintro e w3 ⟨rfl, hb3⟩
      have HB3 := Lib.hid (below_step (below_step HB2.out HA2.out) hb3)
      have HZ3 := Lib.hid ((HZ2.out.below HA2.out HZ2.out.lt).below hb3 (HZ2.out.below HA2.out HZ2.out.lt).lt)
      have HT3 := Lib.hid (HT2.out.below hb3 HT2.out.lt)
      have hs3 := hb3.size
      have hA3 := HA2.out.size
      have HS := Lib.hid (Row.new w3 [.int .i64 r.L, .int .i64 r.S, .slice A r.mv.length ka, .slice B r.out.length kb] 80)
      have HA4 := Lib.hid (below_alloc w3 (.cells #[.int .i64 r.L, .int .i64 r.S, .slice A r.mv.length ka, .slice B r.out.length kb] 80))
      have hu4 := goodT.below (goodT.below (goodT.below HU.out HA2.out) hb3) HA4.out
      have HWD := Lib.hid (wdMirrorWriter_own _ _ bs w1.heap.size (r.L + 2).toNat (r.mv.length + 1) w3.heap.size (mirO r) _ (by have := HA4.out.size; omega) hu4 (by show 1 ≤ r.L; omega) (by show r.L ≤ 3; omega) (by show (((r.L + 2).toNat : Nat) : Int) = r.L + 2; omega) (by show (tableOf (mirG r.t) (r.L + 2).toNat (r.mv.length + 1)).length = _; rw [tableOf_len]) h12
        (fun W hb q k hq hk => mwClosure_any w3.heap.size q k A B ka kb r W (HS.out.below hb HS.out.lt) HOK.out (keepsPP _ _ _ _ HMM.out (below_step (below_step HB3.out HA4.out) hb)) (keepsSS _ _ _ _ HOO.out (below_step (below_step HB3.out HA4.out) hb)) (by omega) (by omega)))
      have HFIT := Lib.hid (show wdRes ⟨r.L, r.mv.length, tableOf (mirG r.t) (r.L + 2).toNat (r.mv.length + 1)⟩ (mirO r) (r.L + 2).toNat (r.mv.length + 1) = (mirW r, 0) by rw [wdRes, outsFit_true (fun q _ k hk => mirO_size HOK.out (by omega))]; rfl)
      rw [HFIT.out] at HWD
      obtain ⟨⟨t0, t1, t2⟩, -⟩ := (HT3.out.alloc (.cells #[.int .i64 r.L, .int .i64 r.S, .slice A r.mv.length ka, .slice B r.out.length kb] 80)).three
      have HB4 := Lib.hid (below_step HB3.out HA4.out)
      have HZ4 := Lib.hid (HZ3.out.below HA4.out HZ3.out.lt)
      have hs4 := HA4.out.size
      clear hu4 hb3 x0 x1 x2 x3
      go_wp2_with fail
      refine HWD.out.mono ?_
      rintro e w5 ⟨v5, b5, rfl, hv, hb5⟩
      obtain ⟨A1, k1, A2, k2, rfl⟩ := hv.rd.shape
      have HB5 := Lib.hid (below_step HB4.out hb5)
      have hz5 := HZ4.out.below hb5 HZ4.out.lt
      have HZ5 := Lib.hid hz5
      have hzn : w.heap.size + 1 ∉ b5 := fun hm => by have := (goodWr.lt hv hm).1; omega
      have hv' := goodWr.mono hv (show w.heap.size ≤ w1.heap.size by omega)
      have HV5 := Lib.hid hv'
      have lz5 := hz5.lt
      obtain ⟨⟨z0, z1, z2, z3⟩, zf⟩ := hz5.four
      clear hv hv' hb5 hz5
      go_wp2
      obtain ⟨W2, hW2, ⟨y0, y1, y2, y3⟩, eO, eB⟩ := stored4Wr (w := w) HZ5.out HV5.out hzn (by omega) HB5.out
      rw [← hW2]
      clear hW2
      refine bodyPost_ret (v := .tuple #[.agg #[.int .i64 (mirW r).L, .int .i64 (mirW r).S, .slice A1 (mirW r).mv.length k1, .slice A2 (mirW r).out.length k2], .int .i64 0]) (by simp [results, Try.results17, go_sem, y0, y1, y2, y3]) rfl ?_
      rw [HRES.out]
      exact ⟨_, _, rfl, eO, eB⟩
    · have HRES := Lib.hid (show mirWRes r = (⟨0, 0, [], []⟩, 3) by rw [mirWRes, hok, if_pos rfl, if_neg h12])
      have HMR := Lib.hid (show mirRes r.t = (⟨0, 0, []⟩, 3) by rw [mirRes, if_pos hokt]; exact if_neg h12)
      rw [HMR.out] at HMT
      clear hok ok hokt
      go_enter Try.func17, Try.ntmps17
      go_wp2_with fail
      refine (HV0.out _ HB.out).mono ?_
      rintro e w1 ⟨rfl, hb1⟩
      have HB1 := Lib.hid (below_step HB.out hb1)
      have HZ1 := Lib.hid (HZ.out.below hb1 HZ.out.lt)
      have HX1 := Lib.hid (HX.out.below hb1 HX.out.lt)
      obtain ⟨⟨x0, x1, x2, x3⟩, -⟩ := HX1.out.four
      clear hb1
      go_wp2_with fail
      refine (HMT.out _ HB1.out).mono ?_
      rintro e w2 ⟨u, bs, rfl, hu, hb2⟩
      obtain ⟨T, kt, rfl⟩ := hu.rd.shape
      have HB2 := Lib.hid (below_step HB1.out hb2)
      have hz2 := HZ1.out.below hb2 HZ1.out.lt
      have HZ2 := Lib.hid hz2
      obtain ⟨⟨z0, z1, z2, z3⟩, zf⟩ := hz2.four
      have lz := hz2.lt
      clear hu hb2 hz2
      go_wp2
      obtain ⟨W2, hW2, -, eO, eB⟩ := stored4Wr (w := w) HZ2.out (owWr_zero _ w.heap.size) (by simp) (by omega) HB2.out
      have r2 : Row W2 (w.heap.size + 1) 27 [.int .i64 0, .int .i64 0, .slice none 0 0, .slice none 0 0] := by
        rw [hW2]
        exact ((((HZ2.out.stored 0 (.int .i64 0)).stored 1 (.int .i64 0)).stored 2 (.slice none 0 0)).stored 3 (.slice none 0 0))
      rw [← hW2]
      clear hW2
      have ba := below_alloc W2 (.cells #[.int .i64 0, .int .i64 0, .slice T 0 kt] 24)
      obtain ⟨⟨y0, y1, y2, y3⟩, -⟩ := (r2.below ba r2.lt).four
      refine bodyPost_ret (v := .tuple #[.agg #[.int .i64 0, .int .i64 0, .slice none 0 0, .slice none 0 0], .int .i64 3]) (by simp only [results, Try.results17]; simp [go_sem, y0, y1, y2, y3]) rfl ?_
      rw [HRES.out]
      exact ⟨_, _, rfl, goodWr.below eO ba, below_step eB ba⟩
end Go.Proofs.Ytahgekjpnmmooaa
