/-
  What 'wideTurner' makes of the closure of CopyWriter.
-/
import Derived.Test.YtahgekjpnmmooaaTd1
import Derived.Test.YtahgekjpnmmooaaV5
namespace Go.Proofs.Ytahgekjpnmmooaa
open Go.RowKit

theorem infoWCopyWriterMs : (Try.prog.info? 51).map (fun i => (i.zero, i.size, i.bytes)) = some (some (.slice none 0 0), 1, 24) := by kernel_rfl

set_option maxRecDepth 100000 in
set_option maxHeartbeats 3200000 in
theorem wideCopyWriter_own (L S : Int) (n c pg pl ps : Nat) (G : Nat → Nat → Int × Int) (w : World) (h1 : 1 ≤ L) (h2 : L ≤ 3) (hc : (c : Int) = L + 2) (hn : n ≤ 12)
    (hD : ∀ q k, q < n → k < c → Deeded (G q k))
    (hF : ∀ (W : World), Below w.heap.size w W → ∀ q k : Nat, q < n → k < c → Calls Try.prog 42 #[.int .i64 (q : Int), .int .i64 (k : Int), .pointer (some ⟨pg, 0, none⟩), .pointer (some ⟨pl, 0, none⟩), .pointer (some ⟨ps, 0, none⟩)] W fun e w' => e = .returned (deedV (G q k)) ∧ Below W.heap.size W w') :
    Calls Try.prog 27 #[.int .i64 L, .int .i64 S, .int .i64 (n : Int), .func (.func 42) #[] #[.pointer (some ⟨pg, 0, none⟩), .pointer (some ⟨pl, 0, none⟩), .pointer (some ⟨ps, 0, none⟩)]] w fun e w' =>
      ∃ u bs, e = .returned u ∧ OwT w' w.heap.size u ⟨L, S, tableOf G c n⟩ bs ∧ Below w.heap.size w w' := by
  obtain ⟨isl, his, hzs0, hzs1, hzs2⟩ := info_parts infoWCopyWriterMs
  have HF := Lib.hid hF
  have HD := Lib.hid hD
  have HC := Lib.hid hc
  have c5 : (c : Int) ≤ 5 := by omega
  have hmk := run_make_pairs (P := Try.prog) 51 55 (.int .i64 0) (.int .i64 0) 16 Try.underlying51 infoMove .i64 .i64 c (by omega) (by omega)
  have HMK := Lib.hid hmk
  have hz := (Row.new w [.int .i64 0, .int .i64 0, .slice none 0 0] 24).alloc (.cells #[.int .i64 L, .int .i64 S, .slice none 0 0] 24)
  have hb : BoxT ((w.alloc (.cells #[.int .i64 0, .int .i64 0, .slice none 0 0] 24)).alloc (.cells #[.int .i64 L, .int .i64 S, .slice none 0 0] 24)) (w.heap.size + 1) (w.heap.size + 1) ⟨L, S, []⟩ := by
    have := BoxT.start (w.alloc (.cells #[.int .i64 0, .int .i64 0, .slice none 0 0] 24)) L S
    simpa using this
  have hB := (below_alloc w (.cells #[.int .i64 0, .int .i64 0, .slice none 0 0] 24)).alloc (by simp) (.cells #[.int .i64 L, .int .i64 S, .slice none 0 0] 24)
  have HI := Lib.hid (show _ ∧ _ ∧ _ from ⟨hB, hz, hb⟩)
  clear hmk hz hb hB hF hD hc
  go_enter Try.func27, Try.ntmps27
  go_wp2
  generalize (w.alloc (.cells #[.int .i64 0, .int .i64 0, .slice none 0 0] 24)).alloc (.cells #[.int .i64 L, .int .i64 S, .slice none 0 0] 24) = W0 at *
  go_loopw [17] (fun i wr => ∃ q : Nat, q ≤ n ∧ i = .int .i64 q ∧ Below w.heap.size w wr ∧ Row wr w.heap.size 24 [.int .i64 0, .int .i64 0, .slice none 0 0] ∧ BoxT wr (w.heap.size + 1) (w.heap.size + 1) ⟨L, S, tableOf G c q⟩) (fun i _ => n - (intOf i).toNat)
  case atStart => exact ⟨0, Nat.zero_le _, rfl, HI.out.1, HI.out.2.1, HI.out.2.2⟩
  case round =>
    obtain ⟨wo, hwo⟩ : ∃ wo, wo = wr := ⟨wr, rfl⟩
    subst hwo
    obtain ⟨q, hq, rfl, hbw, hz, hbx⟩ := hrel
    have HS := Lib.hid (show _ ∧ _ ∧ _ from ⟨hbw, hz, hbx⟩)
    clear hbw hz hbx
    by_cases hlt : q < n
    · have hmk := HMK.out
      have HCS := Lib.hid (fun W => countSigns_any L W (by omega) (by omega))
      rw [← HC.out] at HCS
      have i1 : (0 : Int) ≤ q := by omega
      have i2 : (q : Int) < n := by omega
      go_wp2_with (go_at_call 67; refine (HCS.out _).mono ?_; rintro e w' ⟨rfl, rfl⟩)
      clear hmk
      have hM := Row.madePairs wo c 55
      rw [← rowOf_len G c q, ← partP_zero, rowOf_len] at hM
      have HM := Lib.hid (show _ ∧ _ from ⟨below_alloc wo (.cells (madeCells #[.int .i64 0, .int .i64 0] (c * 2)) 55), hM⟩)
      clear hM
      have HG := Lib.hid (show w.heap.size + 1 < wo.heap.size from HS.out.2.2.lt)
      go_loopw [25] (fun i wi => ∃ k : Nat, k ≤ c ∧ i = .int .i64 k ∧ Below wo.heap.size wo wi ∧ Row wi wo.heap.size 55 (pcells (partP (rowOf G c q) k))) (fun i _ => c - (intOf i).toNat)
      case atStart => exact ⟨0, Nat.zero_le _, rfl, HM.out.1, HM.out.2⟩
      case round =>
        obtain ⟨k, hk, rfl, hbi, hR⟩ := hrel
        have HI2 := Lib.hid (show _ ∧ _ from ⟨hbi, hR⟩)
        clear hbi hR
        by_cases hklt : k < c
        · have HCL := Lib.hid (HF.out wr (below_step HS.out.1 HI2.out.1) q k hlt hklt)
          have hd := HD.out q k hlt hklt
          have hget := rowOf_get G (q := q) hklt
          have j1 : (0 : Int) ≤ k := by omega
          have j2 : (k : Int) < c := by omega
          have HGT := Lib.hid hget
          clear hget
          go_wp2_with fail
          refine HCL.out.mono ?_
          rintro e w2 ⟨rfl, hb2⟩
          have HI3 := Lib.hid (show _ ∧ _ from ⟨below_step HI2.out.1 hb2, HI2.out.2.below hb2 HI2.out.2.lt⟩)
          clear hb2
          generalize G q k = mv at *
          obtain ⟨mx, my⟩ := mv
          rcases hd with ⟨h0 | h0, h9⟩ | h0
          · simp only at h0 h9
            subst h0; subst h9
            rw [show deedV (-1, 0) = .iface 63 (.agg #[.bool true]) from by simp [deedV, stopV]]
            have hm := methodStopMove
            go_wp2_with fail
            refine (stopMove_any true _).mono ?_
            rintro e w3 ⟨rfl, hb3⟩
            have hR := HI3.out.2.below hb3 HI3.out.2.lt
            have HB4 := Lib.hid (below_step HI3.out.1 hb3)
            have hl := partP_len (ms := rowOf G c q) (k := k) (by rw [rowOf_len]; omega)
            have hg := pcells_get (partP_get (ms := rowOf G c q) (k := k) (by rw [rowOf_len]; omega))
            have d0 := (hR.cell (k * 2)).trans hg.1
            have d1 := (hR.cell (k * 2 + 1)).trans hg.2
            have f0 := hR.free (k * 2)
            have f1 := hR.free (k * 2 + 1)
            have hS := hR.pairStored (i := k) (by rw [hl, rowOf_len]; exact hklt) (-1, 0)
            rw [partP_set HGT.out] at hS
            have HSS := Lib.hid (show _ ∧ _ from ⟨hS, (HB4.out.setCell (p := ⟨wo.heap.size, k * 2, none⟩) (Nat.le_refl _) (.int .i64 (-1))).setCell (p := ⟨wo.heap.size, k * 2 + 1, none⟩) (Nat.le_refl _) (.int .i64 (0))⟩)
            have lg := hR.lt
            clear hS hR hl hg hb3 hm
            go_wp2
            go_roundw
            case rel => exact ⟨k + 1, by omega, by go_num, HSS.out.2, HSS.out.1⟩
            case measure => simp [intOf]; omega
          · simp only at h0 h9
            subst h0; subst h9
            rw [show deedV (-2, 0) = .iface 63 (.agg #[.bool false]) from by simp [deedV, stopV]]
            have hm := methodStopMove
            go_wp2_with fail
            refine (stopMove_any false _).mono ?_
            rintro e w3 ⟨rfl, hb3⟩
            have hR := HI3.out.2.below hb3 HI3.out.2.lt
            have HB4 := Lib.hid (below_step HI3.out.1 hb3)
            have hl := partP_len (ms := rowOf G c q) (k := k) (by rw [rowOf_len]; omega)
            have hg := pcells_get (partP_get (ms := rowOf G c q) (k := k) (by rw [rowOf_len]; omega))
            have d0 := (hR.cell (k * 2)).trans hg.1
            have d1 := (hR.cell (k * 2 + 1)).trans hg.2
            have f0 := hR.free (k * 2)
            have f1 := hR.free (k * 2 + 1)
            have hS := hR.pairStored (i := k) (by rw [hl, rowOf_len]; exact hklt) (-2, 0)
            rw [partP_set HGT.out] at hS
            have HSS := Lib.hid (show _ ∧ _ from ⟨hS, (HB4.out.setCell (p := ⟨wo.heap.size, k * 2, none⟩) (Nat.le_refl _) (.int .i64 (-2))).setCell (p := ⟨wo.heap.size, k * 2 + 1, none⟩) (Nat.le_refl _) (.int .i64 (0))⟩)
            have lg := hR.lt
            clear hS hR hl hg hb3 hm
            go_wp2
            go_roundw
            case rel => exact ⟨k + 1, by omega, by go_num, HSS.out.2, HSS.out.1⟩
            case measure => simp [intOf]; omega
          · simp only at h0
            rw [show deedV (mx, my) = .iface 61 (.agg #[.int .i64 mx, .int .i64 my]) from by simp only [deedV, walkV]; rw [if_neg (by omega), if_neg (by omega)]]
            have hm := methodWalkMove
            go_wp2_with fail
            refine (walkMove_any mx my _).mono ?_
            rintro e w3 ⟨rfl, hb3⟩
            have hR := HI3.out.2.below hb3 HI3.out.2.lt
            have HB4 := Lib.hid (below_step HI3.out.1 hb3)
            have hl := partP_len (ms := rowOf G c q) (k := k) (by rw [rowOf_len]; omega)
            have hg := pcells_get (partP_get (ms := rowOf G c q) (k := k) (by rw [rowOf_len]; omega))
            have d0 := (hR.cell (k * 2)).trans hg.1
            have d1 := (hR.cell (k * 2 + 1)).trans hg.2
            have f0 := hR.free (k * 2)
            have f1 := hR.free (k * 2 + 1)
            have hS := hR.pairStored (i := k) (by rw [hl, rowOf_len]; exact hklt) (mx, my)
            rw [partP_set HGT.out] at hS
            have HSS := Lib.hid (show _ ∧ _ from ⟨hS, (HB4.out.setCell (p := ⟨wo.heap.size, k * 2, none⟩) (Nat.le_refl _) (.int .i64 (mx))).setCell (p := ⟨wo.heap.size, k * 2 + 1, none⟩) (Nat.le_refl _) (.int .i64 (my))⟩)
            have lg := hR.lt
            clear hS hR hl hg hb3 hm
            go_wp2
            go_roundw
            case rel => exact ⟨k + 1, by omega, by go_num, HSS.out.2, HSS.out.1⟩
            case measure => simp [intOf]; omega
        · have ek : k = c := by omega
          subst ek
          obtain ⟨hbw, hz, vm, bm, ho, hvm, hpn⟩ := HS.out
          have hblt : ∀ b ∈ bm, b < wo.heap.size := fun b hb => ((goodL (goodP 55) 51).lt hvm hb).2
          obtain ⟨vs, bss, hvs, e1, e2, e3, rfl, e5⟩ := hvm
          simp only at e1 e2 e3 ho
          rw [tableOf_len] at e1 e2
          obtain ⟨Bn, kn, hsn⟩ := hvs.shape
          rw [e1] at hsn
          subst hsn
          have hbi := HI2.out.1
          have hRr : Row wr wo.heap.size 55 (pcells (rowOf G k q)) := by have := HI2.out.2; rwa [partP_full (by rw [rowOf_len]; omega)] at this
          have hown : OwP 55 wr (w.heap.size + 1) (.slice (some ⟨wo.heap.size, 0, none⟩) k k) (rowOf G k q) [wo.heap.size] := by
            have := hRr.pairs (lo := w.heap.size + 1) (by have := HG.out; omega) (by rw [rowOf_len]; unfold maxLen; have := HC.out; omega)
            rwa [rowOf_len] at this
          have ho2 := ho.below hbi ho.lt
          have hvs2 := hvs.below hbi
          have e32 := fun (i : Nat) u x b h1 h2 h3 => (goodP 55).below (e3 i u x b h1 h2 h3) hbi
          have hown0 : wr.ownsRow (w.heap.size + 1) 51 1 (.slice Bn q kn) q vs := by
            have := hvs2
            unfold Own at this
            rwa [e1] at this
          have nb1 : ∀ b, b ≤ w.heap.size + 1 → b ∉ blks (.slice Bn q kn) := fun b hb hm => by
            have := hvs.lt hm
            have e : b = w.heap.size + 1 := by omega
            subst e
            exact hpn (List.mem_append_left _ hm)
          have lpo := ho2.lt
          have hfz := ho2.free 2
          obtain ⟨⟨o0, o1, o2⟩, -⟩ := ho2.three
          have HH := Lib.hid (show _ ∧ _ ∧ _ ∧ _ ∧ _ ∧ _ ∧ _ ∧ _ ∧ _ ∧ _ from ⟨below_step hbw hbi, hz.below hbi hz.lt, ho2, hvs2, e32, e5, hpn, hown, hblt, hown0⟩)
          have HE := Lib.hid (show _ ∧ _ from ⟨e1, e2⟩)
          have HNB := Lib.hid nb1
          have HGL := Lib.hid (show wo.heap.size < wr.heap.size from hRr.lt)
          have q12 : q ≤ 12 := by omega
          clear hbw hz ho hvs e3 e5 hpn hbi hRr hown ho2 hvs2 e32 hown0 nb1 e1 e2 hblt
          go_wp2_with (at_builtin; refine wpList_append_lies _ rfl _ _ 22 rfl (w.heap.size + 1) 51 isl (.slice none 0 0) 1 24 Try.underlying22 his hzs0 hzs1 hzs2 rfl (by decide) (.slice Bn q kn) q _ rfl (HH.out.2.2.2.2.2.2.2.2.2.alloc _) ⟨wr.heap.size, 0, none⟩ 1 1 [.slice (some ⟨wo.heap.size, 0, none⟩) k k] rfl rfl (World.news_of_block (cs := #[.slice (some ⟨wo.heap.size, 0, none⟩) k k]) (t := 51) (fr := (0, 0)) (heap_alloc_new wr _)) (by simp [Value.oneCell']) (by omega) (by unfold maxLen; omega) (by omega) (by simp; omega) (wr.heap.size + 1) (by simp) ?_; intro g cap w2 hown1 hgrow hat hlt2; have p1 := grown_cell hgrow (HNB.out _ (Nat.le_refl _)) (below_keep (below_alloc _ _) o2); have p2 := grown_free hgrow (HNB.out _ (Nat.le_refl _)) (by simp; omega) (below_keepf (below_alloc _ _) lpo hfz))
          obtain ⟨hbw, hz, ho2, hvs2, e32, e5, hpn, hown, hblt, -⟩ := HH.out
          obtain ⟨e1, e2⟩ := HE.out
          have hgl := HGL.out
          have hgo := HG.out
          have hres : Below w.heap.size w (w2.setCell ⟨w.heap.size + 1, 2, none⟩ (.slice (some ⟨g, 0, none⟩) (q + 1) cap)) ∧ Row (w2.setCell ⟨w.heap.size + 1, 2, none⟩ (.slice (some ⟨g, 0, none⟩) (q + 1) cap)) w.heap.size 24 [.int .i64 0, .int .i64 0, .slice none 0 0] ∧
              BoxT (w2.setCell ⟨w.heap.size + 1, 2, none⟩ (.slice (some ⟨g, 0, none⟩) (q + 1) cap)) (w.heap.size + 1) (w.heap.size + 1) ⟨L, S, tableOf G k (q + 1)⟩ := by
            refine ⟨app_below hbw hgrow (fun b hb => by have := hvs2.lt hb; omega) (by omega), app_row hgrow hz (HNB.out _ (by omega)) (by omega), ?_⟩
            rw [tableOf_succ]
            refine BoxT.snoc ho2 hvs2 (by rw [e1, tableOf_len]) (by rw [e2, tableOf_len]) e32 e5 hpn hown (fun b hb hm => ?_) (fun hm => ?_) hgrow hown1 (by rw [tableOf_len]) hat
            · simp only [List.mem_singleton] at hb
              have := hblt b hm
              omega
            · simp only [List.mem_singleton] at hm
              omega
          go_roundw
          case rel => exact ⟨q + 1, by omega, by go_num, hres.1, hres.2.1, hres.2.2⟩
          case measure => simp [intOf]; omega
    · have eq : q = n := by omega
      subst eq
      obtain ⟨hbw, hz, vm, bm, ho, hvm, hpn⟩ := HS.out
      obtain ⟨Am, km, rfl⟩ := OwL.shape hvm
      simp only at ho hvm
      obtain ⟨⟨o0, o1, o2⟩, -⟩ := ho.three
      obtain ⟨⟨z0, z1, z2⟩, zf⟩ := hz.three
      have lz := hz.lt
      have HH := Lib.hid (show _ ∧ _ ∧ _ from ⟨hbw, hz, hvm⟩)
      clear hbw hz ho hvm hpn
      go_wp2
      obtain ⟨hbw, hz, hvm⟩ := HH.out
      have hO : OwT wo (w.heap.size + 1) (.agg #[.int .i64 L, .int .i64 S, .slice Am (tableOf G c q).length km]) ⟨L, S, tableOf G c q⟩ bm := ⟨_, bm, rfl, hvm, rfl, (goodL (goodP _) _).nodup hvm⟩
      have rF := (((hz.stored 0 (.int .i64 L)).stored 1 (.int .i64 S)).stored 2 (.slice Am (tableOf G c q).length km))
      have eO := (goodT.under (a := ⟨w.heap.size, 2, none⟩) (goodT.under (a := ⟨w.heap.size, 1, none⟩) (goodT.under (a := ⟨w.heap.size, 0, none⟩) hO (by show w.heap.size < _; omega) (.int .i64 L)) (by show w.heap.size < _; omega) (.int .i64 S)) (by show w.heap.size < _; omega) (.slice Am (tableOf G c q).length km))
      have eB := (((hbw.setCell (p := ⟨w.heap.size, 0, none⟩) (Nat.le_refl _) (.int .i64 L)).setCell (p := ⟨w.heap.size, 1, none⟩) (Nat.le_refl _) (.int .i64 S)).setCell (p := ⟨w.heap.size, 2, none⟩) (Nat.le_refl _) (.slice Am (tableOf G c q).length km))
      generalize (((wo.setCell ⟨w.heap.size, 0, none⟩ (.int .i64 L)).setCell ⟨w.heap.size, 1, none⟩ (.int .i64 S)).setCell ⟨w.heap.size, 2, none⟩ (.slice Am (tableOf G c q).length km)) = W2 at *
      obtain ⟨⟨y0, y1, y2⟩, -⟩ := Row.three (a := .int .i64 L) (b := .int .i64 S) (c := .slice Am (tableOf G c q).length km) rF
      refine bodyPost_ret (v := .agg #[.int .i64 L, .int .i64 S, .slice Am (tableOf G c q).length km]) (by simp [results, Try.results27, go_sem, y0, y1, y2]) rfl ?_
      first | exact ⟨_, _, rfl, goodT.mono eO (by omega), eB⟩ | exact ⟨_, rfl, ⟨_, goodT.mono eO (by omega)⟩, eB⟩
end Go.Proofs.Ytahgekjpnmmooaa
