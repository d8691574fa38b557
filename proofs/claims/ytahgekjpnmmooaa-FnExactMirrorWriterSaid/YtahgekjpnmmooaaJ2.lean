/-
  What 'wideTurner' and 'turnerDoing' make of the closure of MirrorTurner.
  The mirrored turner: what it does, and the program's closure.
  The mirrored turner: the program's answer.
  The mirrored turner: the model's answer.
  The mirrored turner: the model's answer.
-/
import Derived.Test.YtahgekjpnmmooaaTd1
import Derived.Test.YtahgekjpnmmooaaV5
import Derived.Test.YtahgekjpnmmooaaSt2
import Derived.Test.YtahgekjpnmmooaaCl
import Derived.Deep.RegionLaw
import Derived.Deep.AppendLies
import Derived.Deep.CutRange
import Derived.BigRegion
namespace Go.Proofs.Ytahgekjpnmmooaa
open Go.RowKit

theorem infoMirrorTurnerMs : (Try.prog.info? 51).map (fun i => (i.zero, i.size, i.bytes)) = some (some (.slice none 0 0), 1, 24) := by kernel_rfl

set_option maxRecDepth 100000 in
set_option maxHeartbeats 3200000 in
theorem wideMirrorTurner_own (L S : Int) (n c pf p : Nat) (G : Nat → Nat → Int × Int) (w : World) (h1 : 1 ≤ L) (h2 : L ≤ 3) (hc : (c : Int) = L + 2) (hn : n ≤ 12)
    (hD : ∀ q k, q < n → k < c → Deeded (G q k))
    (hF : ∀ (W : World), Below w.heap.size w W → ∀ q k : Nat, q < n → k < c → Calls Try.prog 79 #[.int .i64 (q : Int), .int .i64 (k : Int), .pointer (some ⟨pf, 0, none⟩), .pointer (some ⟨p, 0, none⟩)] W fun e w' => e = .returned (deedV (G q k)) ∧ Below W.heap.size W w') :
    Calls Try.prog 27 #[.int .i64 L, .int .i64 S, .int .i64 (n : Int), .func (.func 79) #[] #[.pointer (some ⟨pf, 0, none⟩), .pointer (some ⟨p, 0, none⟩)]] w fun e w' =>
      ∃ u bs, e = .returned u ∧ OwT w' w.heap.size u ⟨L, S, tableOf G c n⟩ bs ∧ Below w.heap.size w w' := by
  obtain ⟨isl, his, hzs0, hzs1, hzs2⟩ := info_parts infoMirrorTurnerMs
  have HF := Lib.hid hF
  have HD := Lib.hid hD
  have HC := Lib.hid hc
  have c5 : (c : Int) ≤ 5 := by omega
  have hmk := run_make_pairs (P := Try.prog) 51 55 (.int .i64 0) (.int .i64 0) 16 Try.underlying51 infoMove .i64 .i64 c (by omega) (by omega)
  have HMK := Lib.hid hmk
  have hz := (Row.new w [.int .i64 0, .int .i64 0, .slice none 0 0] 24).alloc (.cells #[.int .i64 L, .int .i64 S, .slice none 0 0] 24)
  have hb : BoxT ((w.alloc (.cells #[.int .i64 0, .int .i64 0, .slice none 0 0] 24)).alloc (.cells #[.int .i64 L, .int .i64 S, .slice none 0 0] 24)) (w.heap.size + 1) (w.heap.size + 1) ⟨L, S, []⟩ := by
    have := BoxT.start (w.alloc (.cells #[.int .i64 0, .int .i64 0, .slice none 0 0] 24)) L S
    simpa using this
  have hB := (below_alloc w (.cells #[.int .i64 0, .int .i64 0, .slice none 0 0] 24)).alloc (by simp) (.cells #[.int .i64 L, .int .i64 S, .slice none 0 0] 24)
  have HI := Lib.hid (show _ ∧ _ ∧ _ from ⟨hB, hz, hb⟩)
  clear hmk hz hb hB hF hD hc
  go_enter Try.func27, Try.ntmps27
  go_wp2
  generalize (w.alloc (.cells #[.int .i64 0, .int .i64 0, .slice none 0 0] 24)).alloc (.cells #[.int .i64 L, .int .i64 S, .slice none 0 0] 24) = W0 at *
  go_loopw [17] (fun i wr => ∃ q : Nat, q ≤ n ∧ i = .int .i64 q ∧ Below w.heap.size w wr ∧ Row wr w.heap.size 24 [.int .i64 0, .int .i64 0, .slice none 0 0] ∧ BoxT wr (w.heap.size + 1) (w.heap.size + 1) ⟨L, S, tableOf G c q⟩) (fun i _ => n - (intOf i).toNat)
  case atStart => exact ⟨0, Nat.zero_le _, rfl, HI.out.1, HI.out.2.1, HI.out.2.2⟩
  case round =>
    obtain ⟨wo, hwo⟩ : ∃ wo, wo = wr := ⟨wr, rfl⟩
    subst hwo
    obtain ⟨q, hq, rfl, hbw, hz, hbx⟩ := hrel
    have HS := Lib.hid (show _ ∧ _ ∧ _ from ⟨hbw, hz, hbx⟩)
    clear hbw hz hbx
    by_cases hlt : q < n
    · have hmk := HMK.out
      have HCS := Lib.hid (fun W => countSigns_any L W (by omega) (by omega))
      rw [← HC.out] at HCS
      have i1 : (0 : Int) ≤ q := by omega
      have i2 : (q : Int) < n := by omega
      go_wp2_with (go_at_call 67; refine (HCS.out _).mono ?_; rintro e w' ⟨rfl, rfl⟩)
      clear hmk
      have hM := Row.madePairs wo c 55
      rw [← rowOf_len G c q, ← partP_zero, rowOf_len] at hM
      have HM := Lib.hid (show _ ∧ _ from ⟨below_alloc wo (.cells (madeCells #[.int .i64 0, .int .i64 0] (c * 2)) 55), hM⟩)
      clear hM
      have HG := Lib.hid (show w.heap.size + 1 < wo.heap.size from HS.out.2.2.lt)
      go_loopw [25] (fun i wi => ∃ k : Nat, k ≤ c ∧ i = .int .i64 k ∧ Below wo.heap.size wo wi ∧ Row wi wo.heap.size 55 (pcells (partP (rowOf G c q) k))) (fun i _ => c - (intOf i).toNat)
      case atStart => exact ⟨0, Nat.zero_le _, rfl, HM.out.1, HM.out.2⟩
      case round =>
        obtain ⟨k, hk, rfl, hbi, hR⟩ := hrel
        have HI2 := Lib.hid (show _ ∧ _ from ⟨hbi, hR⟩)
        clear hbi hR
        by_cases hklt : k < c
        · have HCL := Lib.hid (HF.out wr (below_step HS.out.1 HI2.out.1) q k hlt hklt)
          have hd := HD.out q k hlt hklt
          have hget := rowOf_get G (q := q) hklt
          have j1 : (0 : Int) ≤ k := by omega
          have j2 : (k : Int) < c := by omega
          have HGT := Lib.hid hget
          clear hget
          go_wp2_with fail
          refine HCL.out.mono ?_
          rintro e w2 ⟨rfl, hb2⟩
          have HI3 := Lib.hid (show _ ∧ _ from ⟨below_step HI2.out.1 hb2, HI2.out.2.below hb2 HI2.out.2.lt⟩)
          clear hb2
          generalize G q k = mv at *
          obtain ⟨mx, my⟩ := mv
          rcases hd with ⟨h0 | h0, h9⟩ | h0
          · simp only at h0 h9
            subst h0; subst h9
            rw [show deedV (-1, 0) = .iface 63 (.agg #[.bool true]) from by simp [deedV, stopV]]
            have hm := methodStopMove
            go_wp2_with fail
            refine (stopMove_any true _).mono ?_
            rintro e w3 ⟨rfl, hb3⟩
            have hR := HI3.out.2.below hb3 HI3.out.2.lt
            have HB4 := Lib.hid (below_step HI3.out.1 hb3)
            have hl := partP_len (ms := rowOf G c q) (k := k) (by rw [rowOf_len]; omega)
            have hg := pcells_get (partP_get (ms := rowOf G c q) (k := k) (by rw [rowOf_len]; omega))
            have d0 := (hR.cell (k * 2)).trans hg.1
            have d1 := (hR.cell (k * 2 + 1)).trans hg.2
            have f0 := hR.free (k * 2)
            have f1 := hR.free (k * 2 + 1)
            have hS := hR.pairStored (i := k) (by rw [hl, rowOf_len]; exact hklt) (-1, 0)
            rw [partP_set HGT.out] at hS
            have HSS := Lib.hid (show _ ∧ _ from ⟨hS, (HB4.out.setCell (p := ⟨wo.heap.size, k * 2, none⟩) (Nat.le_refl _) (.int .i64 (-1))).setCell (p := ⟨wo.heap.size, k * 2 + 1, none⟩) (Nat.le_refl _) (.int .i64 (0))⟩)
            have lg := hR.lt
            clear hS hR hl hg hb3 hm
            go_wp2
            go_roundw
            case rel => exact ⟨k + 1, by omega, by go_num, HSS.out.2, HSS.out.1⟩
            case measure => simp [intOf]; omega
          · simp only at h0 h9
            subst h0; subst h9
            rw [show deedV (-2, 0) = .iface 63 (.agg #[.bool false]) from by simp [deedV, stopV]]
            have hm := methodStopMove
            go_wp2_with fail
            refine (stopMove_any false _).mono ?_
            rintro e w3 ⟨rfl, hb3⟩
            have hR := HI3.out.2.below hb3 HI3.out.2.lt
            have HB4 := Lib.hid (below_step HI3.out.1 hb3)
            have hl := partP_len (ms := rowOf G c q) (k := k) (by rw [rowOf_len]; omega)
            have hg := pcells_get (partP_get (ms := rowOf G c q) (k := k) (by rw [rowOf_len]; omega))
            have d0 := (hR.cell (k * 2)).trans hg.1
            have d1 := (hR.cell (k * 2 + 1)).trans hg.2
            have f0 := hR.free (k * 2)
            have f1 := hR.free (k * 2 + 1)
            have hS := hR.pairStored (i := k) (by rw [hl, rowOf_len]; exact hklt) (-2, 0)
            rw [partP_set HGT.out] at hS
            have HSS := Lib.hid (show _ ∧ _ from ⟨hS, (HB4.out.setCell (p := ⟨wo.heap.size, k * 2, none⟩) (Nat.le_refl _) (.int .i64 (-2))).setCell (p := ⟨wo.heap.size, k * 2 + 1, none⟩) (Nat.le_refl _) (.int .i64 (0))⟩)
            have lg := hR.lt
            clear hS hR hl hg hb3 hm
            go_wp2
            go_roundw
            case rel => exact ⟨k + 1, by omega, by go_num, HSS.out.2, HSS.out.1⟩
            case measure => simp [intOf]; omega
          · simp only at h0
            rw [show deedV (mx, my) = .iface 61 (.agg #[.int .i64 mx, .int .i64 my]) from by simp only [deedV, walkV]; rw [if_neg (by omega), if_neg (by omega)]]
            have hm := methodWalkMove
            go_wp2_with fail
            refine (walkMove_any mx my _).mono ?_
            rintro e w3 ⟨rfl, hb3⟩
            have hR := HI3.out.2.below hb3 HI3.out.2.lt
            have HB4 := Lib.hid (below_step HI3.out.1 hb3)
            have hl := partP_len (ms := rowOf G c q) (k := k) (by rw [rowOf_len]; omega)
            have hg := pcells_get (partP_get (ms := rowOf G c q) (k := k) (by rw [rowOf_len]; omega))
            have d0 := (hR.cell (k * 2)).trans hg.1
            have d1 := (hR.cell (k * 2 + 1)).trans hg.2
            have f0 := hR.free (k * 2)
            have f1 := hR.free (k * 2 + 1)
            have hS := hR.pairStored (i := k) (by rw [hl, rowOf_len]; exact hklt) (mx, my)
            rw [partP_set HGT.out] at hS
            have HSS := Lib.hid (show _ ∧ _ from ⟨hS, (HB4.out.setCell (p := ⟨wo.heap.size, k * 2, none⟩) (Nat.le_refl _) (.int .i64 (mx))).setCell (p := ⟨wo.heap.size, k * 2 + 1, none⟩) (Nat.le_refl _) (.int .i64 (my))⟩)
            have lg := hR.lt
            clear hS hR hl hg hb3 hm
            go_wp2
            go_roundw
            case rel => exact ⟨k + 1, by omega, by go_num, HSS.out.2, HSS.out.1⟩
            case measure => simp [intOf]; omega
        · have ek : k = c := by omega
          subst ek
          obtain ⟨hbw, hz, vm, bm, ho, hvm, hpn⟩ := HS.out
          have hblt : ∀ b ∈ bm, b < wo.heap.size := fun b hb => ((goodL (goodP 55) 51).lt hvm hb).2
          obtain ⟨vs, bss, hvs, e1, e2, e3, rfl, e5⟩ := hvm
          simp only at e1 e2 e3 ho
          rw [tableOf_len] at e1 e2
          obtain ⟨Bn, kn, hsn⟩ := hvs.shape
          rw [e1] at hsn
          subst hsn
          have hbi := HI2.out.1
          have hRr : Row wr wo.heap.size 55 (pcells (rowOf G k q)) := by have := HI2.out.2; rwa [partP_full (by rw [rowOf_len]; omega)] at this
          have hown : OwP 55 wr (w.heap.size + 1) (.slice (some ⟨wo.heap.size, 0, none⟩) k k) (rowOf G k q) [wo.heap.size] := by
            have := hRr.pairs (lo := w.heap.size + 1) (by have := HG.out; omega) (by rw [rowOf_len]; unfold maxLen; have := HC.out; omega)
            rwa [rowOf_len] at this
          have ho2 := ho.below hbi ho.lt
          have hvs2 := hvs.below hbi
          have e32 := fun (i : Nat) u x b h1 h2 h3 => (goodP 55).below (e3 i u x b h1 h2 h3) hbi
          have hown0 : wr.ownsRow (w.heap.size + 1) 51 1 (.slice Bn q kn) q vs := by
            have := hvs2
            unfold Own at this
            rwa [e1] at this
          have nb1 : ∀ b, b ≤ w.heap.size + 1 → b ∉ blks (.slice Bn q kn) := fun b hb hm => by
            have := hvs.lt hm
            have e : b = w.heap.size + 1 := by omega
            subst e
            exact hpn (List.mem_append_left _ hm)
          have lpo := ho2.lt
          have hfz := ho2.free 2
          obtain ⟨⟨o0, o1, o2⟩, -⟩ := ho2.three
          have HH := Lib.hid (show _ ∧ _ ∧ _ ∧ _ ∧ _ ∧ _ ∧ _ ∧ _ ∧ _ ∧ _ from ⟨below_step hbw hbi, hz.below hbi hz.lt, ho2, hvs2, e32, e5, hpn, hown, hblt, hown0⟩)
          have HE := Lib.hid (show _ ∧ _ from ⟨e1, e2⟩)
          have HNB := Lib.hid nb1
          have HGL := Lib.hid (show wo.heap.size < wr.heap.size from hRr.lt)
          have q12 : q ≤ 12 := by omega
          clear hbw hz ho hvs e3 e5 hpn hbi hRr hown ho2 hvs2 e32 hown0 nb1 e1 e2 hblt
          go_wp2_with (at_builtin; refine wpList_append_lies _ rfl _ _ 22 rfl (w.heap.size + 1) 51 isl (.slice none 0 0) 1 24 Try.underlying22 his hzs0 hzs1 hzs2 rfl (by decide) (.slice Bn q kn) q _ rfl (HH.out.2.2.2.2.2.2.2.2.2.alloc _) ⟨wr.heap.size, 0, none⟩ 1 1 [.slice (some ⟨wo.heap.size, 0, none⟩) k k] rfl rfl (World.news_of_block (cs := #[.slice (some ⟨wo.heap.size, 0, none⟩) k k]) (t := 51) (fr := (0, 0)) (heap_alloc_new wr _)) (by simp [Value.oneCell']) (by omega) (by unfold maxLen; omega) (by omega) (by simp; omega) (wr.heap.size + 1) (by simp) ?_; intro g cap w2 hown1 hgrow hat hlt2; have p1 := grown_cell hgrow (HNB.out _ (Nat.le_refl _)) (below_keep (below_alloc _ _) o2); have p2 := grown_free hgrow (HNB.out _ (Nat.le_refl _)) (by simp; omega) (below_keepf (below_alloc _ _) lpo hfz))
          obtain ⟨hbw, hz, ho2, hvs2, e32, e5, hpn, hown, hblt, -⟩ := HH.out
          obtain ⟨e1, e2⟩ := HE.out
          have hgl := HGL.out
          have hgo := HG.out
          have hres : Below w.heap.size w (w2.setCell ⟨w.heap.size + 1, 2, none⟩ (.slice (some ⟨g, 0, none⟩) (q + 1) cap)) ∧ Row (w2.setCell ⟨w.heap.size + 1, 2, none⟩ (.slice (some ⟨g, 0, none⟩) (q + 1) cap)) w.heap.size 24 [.int .i64 0, .int .i64 0, .slice none 0 0] ∧
              BoxT (w2.setCell ⟨w.heap.size + 1, 2, none⟩ (.slice (some ⟨g, 0, none⟩) (q + 1) cap)) (w.heap.size + 1) (w.heap.size + 1) ⟨L, S, tableOf G k (q + 1)⟩ := by
            refine ⟨app_below hbw hgrow (fun b hb => by have := hvs2.lt hb; omega) (by omega), app_row hgrow hz (HNB.out _ (by omega)) (by omega), ?_⟩
            rw [tableOf_succ]
            refine BoxT.snoc ho2 hvs2 (by rw [e1, tableOf_len]) (by rw [e2, tableOf_len]) e32 e5 hpn hown (fun b hb hm => ?_) (fun hm => ?_) hgrow hown1 (by rw [tableOf_len]) hat
            · simp only [List.mem_singleton] at hb
              have := hblt b hm
              omega
            · simp only [List.mem_singleton] at hm
              omega
          go_roundw
          case rel => exact ⟨q + 1, by omega, by go_num, hres.1, hres.2.1, hres.2.2⟩
          case measure => simp [intOf]; omega
    · have eq : q = n := by omega
      subst eq
      obtain ⟨hbw, hz, vm, bm, ho, hvm, hpn⟩ := HS.out
      obtain ⟨Am, km, rfl⟩ := OwL.shape hvm
      simp only at ho hvm
      obtain ⟨⟨o0, o1, o2⟩, -⟩ := ho.three
      obtain ⟨⟨z0, z1, z2⟩, zf⟩ := hz.three
      have lz := hz.lt
      have HH := Lib.hid (show _ ∧ _ ∧ _ from ⟨hbw, hz, hvm⟩)
      clear hbw hz ho hvm hpn
      go_wp2
      obtain ⟨hbw, hz, hvm⟩ := HH.out
      have hO : OwT wo (w.heap.size + 1) (.agg #[.int .i64 L, .int .i64 S, .slice Am (tableOf G c q).length km]) ⟨L, S, tableOf G c q⟩ bm := ⟨_, bm, rfl, hvm, rfl, (goodL (goodP _) _).nodup hvm⟩
      have rF := (((hz.stored 0 (.int .i64 L)).stored 1 (.int .i64 S)).stored 2 (.slice Am (tableOf G c q).length km))
      have eO := (goodT.under (a := ⟨w.heap.size, 2, none⟩) (goodT.under (a := ⟨w.heap.size, 1, none⟩) (goodT.under (a := ⟨w.heap.size, 0, none⟩) hO (by show w.heap.size < _; omega) (.int .i64 L)) (by show w.heap.size < _; omega) (.int .i64 S)) (by show w.heap.size < _; omega) (.slice Am (tableOf G c q).length km))
      have eB := (((hbw.setCell (p := ⟨w.heap.size, 0, none⟩) (Nat.le_refl _) (.int .i64 L)).setCell (p := ⟨w.heap.size, 1, none⟩) (Nat.le_refl _) (.int .i64 S)).setCell (p := ⟨w.heap.size, 2, none⟩) (Nat.le_refl _) (.slice Am (tableOf G c q).length km))
      generalize (((wo.setCell ⟨w.heap.size, 0, none⟩ (.int .i64 L)).setCell ⟨w.heap.size, 1, none⟩ (.int .i64 S)).setCell ⟨w.heap.size, 2, none⟩ (.slice Am (tableOf G c q).length km)) = W2 at *
      obtain ⟨⟨y0, y1, y2⟩, -⟩ := Row.three (a := .int .i64 L) (b := .int .i64 S) (c := .slice Am (tableOf G c q).length km) rF
      refine bodyPost_ret (v := .agg #[.int .i64 L, .int .i64 S, .slice Am (tableOf G c q).length km]) (by simp [results, Try.results27, go_sem, y0, y1, y2]) rfl ?_
      first | exact ⟨_, _, rfl, goodT.mono eO (by omega), eB⟩ | exact ⟨_, rfl, ⟨_, goodT.mono eO (by omega)⟩, eB⟩
set_option maxHeartbeats 1600000 in
theorem doingMirrorTurner_own (L S : Int) (n c pf p : Nat) (G : Nat → Nat → Int × Int) (w : World) (h1 : 1 ≤ L) (h2 : L ≤ 3) (hc : (c : Int) = L + 2) (hn : n ≤ 12)
    (hD : ∀ q k, q < n → k < c → Deeded (G q k))
    (hF : ∀ (W : World), Below w.heap.size w W → ∀ q k : Nat, q < n → k < c → Calls Try.prog 79 #[.int .i64 (q : Int), .int .i64 (k : Int), .pointer (some ⟨pf, 0, none⟩), .pointer (some ⟨p, 0, none⟩)] W fun e w' => e = .returned (deedV (G q k)) ∧ Below W.heap.size W w') :
    Calls Try.prog 78 #[.int .i64 L, .int .i64 S, .int .i64 (n : Int), .func (.func 79) #[] #[.pointer (some ⟨pf, 0, none⟩), .pointer (some ⟨p, 0, none⟩)]] w fun e w' =>
      ∃ u bs, e = .returned (.tuple #[u, .int .i64 0]) ∧ OwT w' w.heap.size u ⟨L, S, tableOf G c n⟩ bs ∧ Below w.heap.size w w' := by
  have HW := Lib.hid (wideMirrorTurner_own L S n c pf p G (w.alloc (.cells #[.int .i64 0, .int .i64 0, .slice none 0 0] 24)) h1 h2 hc hn hD (fun W hb => hF W (below_step (below_alloc _ _) hb)))
  have HB := Lib.hid (below_alloc w (.cells #[.int .i64 0, .int .i64 0, .slice none 0 0] 24))
  have HZ := Lib.hid (Row.new w [.int .i64 0, .int .i64 0, .slice none 0 0] 24)
  have n12 : (n : Int) ≤ 12 := by omega
  have hs0 : w.heap.size < (w.alloc (.cells #[.int .i64 0, .int .i64 0, .slice none 0 0] 24)).heap.size := by simp
  clear hD hF hc
  go_enter Try.func78, Try.ntmps78
  go_wp2_with fail
  refine HW.out.mono ?_
  rintro e w1 ⟨u, bs, rfl, hu, hb1⟩
  obtain ⟨Am, km, rfl⟩ := hu.rd.shape
  simp only [tableOf_len] at hu
  simp only [tableOf_len]
  have hz1 := HZ.out.below hb1 HZ.out.lt
  have HZ1 := Lib.hid hz1
  have HB1 := Lib.hid (below_step HB.out hb1)
  have HU := Lib.hid hu
  obtain ⟨⟨z0, z1, z2⟩, zf⟩ := hz1.three
  have lz := hz1.lt
  clear hz1 hu hb1
  go_wp2
  have rF := (((HZ1.out.stored 0 (.int .i64 L)).stored 1 (.int .i64 S)).stored 2 (.slice Am n km))
  have eO := (goodT.under (a := ⟨w.heap.size, 2, none⟩) (goodT.under (a := ⟨w.heap.size, 1, none⟩) (goodT.under (a := ⟨w.heap.size, 0, none⟩) HU.out hs0 (.int .i64 L)) hs0 (.int .i64 S)) hs0 (.slice Am n km))
  have eB := (((HB1.out.setCell (p := ⟨w.heap.size, 0, none⟩) (Nat.le_refl _) (.int .i64 L)).setCell (p := ⟨w.heap.size, 1, none⟩) (Nat.le_refl _) (.int .i64 S)).setCell (p := ⟨w.heap.size, 2, none⟩) (Nat.le_refl _) (.slice Am n km))
  generalize (((w1.setCell ⟨w.heap.size, 0, none⟩ (.int .i64 L)).setCell ⟨w.heap.size, 1, none⟩ (.int .i64 S)).setCell ⟨w.heap.size, 2, none⟩ (.slice Am n km)) = W2 at *
  obtain ⟨⟨y0, y1, y2⟩, -⟩ := Row.three (a := .int .i64 L) (b := .int .i64 S) (c := .slice Am n km) rF
  refine bodyPost_ret (v := .tuple #[.agg #[.int .i64 L, .int .i64 S, .slice Am n km], .int .i64 0]) (by simp [results, Try.results78, go_sem, y0, y1, y2]) rfl ?_
  first | exact ⟨_, _, rfl, goodT.mono eO (by omega), eB⟩ | exact ⟨_, rfl, ⟨_, goodT.mono eO (by omega)⟩, eB⟩
end Go.Proofs.Ytahgekjpnmmooaa
namespace Go.Proofs.Ytahgekjpnmmooaa
open Go.RowKit

def mirM (m : Int × Int) : Int × Int := (m.1, -m.2)
def swapK (L : Int) (k : Nat) : Nat := if (k : Int) = L then (L + 1).toNat else if (k : Int) = L + 1 then L.toNat else k
def mirG (t : TData) (q k : Nat) : Int × Int :=
  if q < t.mv.length then mirM (moveAt t q (swapK t.L k)) else if (k : Int) = t.L + 1 then mirM (moveAt t t.S.toNat t.L.toNat) else ((t.mv.length : Int), 1)
def mirRes (t : TData) : TData × Int :=
  if okT t then (if t.mv.length + 1 ≤ 12 then (⟨t.L, t.mv.length, tableOf (mirG t) (t.L + 2).toNat (t.mv.length + 1)⟩, 0) else (⟨0, 0, []⟩, 3)) else (⟨0, 0, []⟩, 1)

theorem swapK_lt {L : Int} {k : Nat} (l1 : 1 ≤ L) (h : (k : Int) < L + 2) : (swapK L k : Int) < L + 2 := by
  unfold swapK
  split
  · omega
  · split <;> omega
theorem mirM_ok {n L : Int} {k : Nat} {m : Int × Int} (l1 : 1 ≤ L) (h : okMove n L (swapK L k : Nat) m = true) : okMove n L k (mirM m) = true := by
  have hm := okMove_out h
  unfold okMove
  rw [decide_eq_true_iff]
  unfold swapK at hm
  unfold mirM
  simp only
  by_cases h1 : (k : Int) = L
  · rw [if_pos h1] at hm; omega
  · by_cases h2 : (k : Int) = L + 1
    · rw [if_neg h1, if_pos h2] at hm; omega
    · rw [if_neg h1, if_neg h2] at hm; omega
theorem okMove_more {n L k : Int} {m : Int × Int} (h : okMove n L k m = true) : okMove (n + 1) L k m = true := by
  have hm := okMove_out h
  unfold okMove
  rw [decide_eq_true_iff]
  omega
theorem deeded_of {n L k : Int} {m : Int × Int} (h : okMove n L k m = true) : Deeded m := by
  have hm := okMove_out h
  unfold Deeded
  omega
theorem mirG_ok {t : TData} (ok : OkT t) {q k : Nat} (hk : (k : Int) < t.L + 2) : okMove ((t.mv.length : Int) + 1) t.L k (mirG t q k) = true := by
  have l1 := ok.l1
  have s1 := ok.s1
  have s2 := ok.s2
  unfold mirG
  by_cases hq : q < t.mv.length
  · rw [if_pos hq]
    obtain ⟨_, m, _, _, hat, hmv, _⟩ := ok.at hq (swapK_lt l1 hk)
    rw [hat]
    exact okMove_more (mirM_ok l1 hmv)
  · rw [if_neg hq]
    by_cases h2 : (k : Int) = t.L + 1
    · rw [if_pos h2]
      obtain ⟨_, m, _, _, hat, hmv, _⟩ := ok.at (q := t.S.toNat) (k := t.L.toNat) (by omega) (by omega)
      rw [hat]
      have e : swapK t.L k = t.L.toNat := by unfold swapK; rw [if_neg (by omega), if_pos h2]
      exact okMove_more (mirM_ok l1 (by rw [e]; exact hmv))
    · rw [if_neg h2]
      unfold okMove
      rw [decide_eq_true_iff]
      simp only
      omega

theorem methodStopMir (n : Nat) (b : Bool) (w : World) : (method (n + 1) 63 (.agg #[.bool b]) "loop.example/g01134/impl.mirrored").run Try.prog w = .ok (120, .agg #[.bool b]) w := by kernel_rfl
theorem methodWalkMir (n : Nat) (x y : Int) (w : World) : (method (n + 1) 61 (.agg #[.int .i64 x, .int .i64 y]) "loop.example/g01134/impl.mirrored").run Try.prog w = .ok (115, .agg #[.int .i64 x, .int .i64 y]) w := by kernel_rfl
theorem stopMir_any (b : Bool) (w : World) :
    Calls Try.prog 120 #[.agg #[.bool b]] w fun e w' => e = .returned (.iface 63 (.agg #[.bool b])) ∧ Below w.heap.size w w' := by
  have c1 := concStop
  go_enter Try.func120, Try.ntmps120
  go_wp2
  go_ret
  exact ⟨rfl, below_alloc _ _⟩
theorem walkMir_any (x y : Int) (w : World) (h1 : -1 ≤ y) (h2 : y ≤ 1) :
    Calls Try.prog 115 #[.agg #[.int .i64 x, .int .i64 y]] w fun e w' => e = .returned (.iface 61 (.agg #[.int .i64 x, .int .i64 (-y)])) ∧ Below w.heap.size w w' := by
  have c1 := concWalk
  go_enter Try.func115, Try.ntmps115
  go_wp2
  go_ret
  exact ⟨rfl, below_alloc _ _⟩

theorem deedV_walkM (x y : Int) (h : 0 ≤ x) : deedV (x, y) = .iface 61 (.agg #[.int .i64 x, .int .i64 y]) := by
  simp only [deedV, walkV]; rw [if_neg (by omega), if_neg (by omega)]

theorem mirroredSign_any (L : Int) (k : Nat) (w : World) (l1 : 1 ≤ L) (l2 : L ≤ 3) :
    Calls Try.prog 56 #[.int .i64 L, .int .i64 (k : Int)] w fun e w' => e = .returned (.int .i64 (swapK L k : Nat)) ∧ w = w' := by
  have HL := Lib.hid (fun W => leftMark_any L W)
  have HR := Lib.hid (fun W => rightMark_any L W (by omega) (by omega))
  by_cases h1 : (k : Int) = L
  · have d1 : ((k : Int) == L) = true := by simpa using h1
    have HE := Lib.hid (show ((swapK L k : Nat) : Int) = L + 1 by unfold swapK; rw [if_pos h1]; omega)
    clear h1
    go_enter Try.func56, Try.ntmps56
    go_wp2_with (first | (go_at_call 30; refine (HL.out _).mono ?_; rintro e w' ⟨rfl, rfl⟩) | (go_at_call 29; refine (HR.out _).mono ?_; rintro e w' ⟨rfl, rfl⟩))
    go_ret
    exact ⟨by rw [HE.out]; rfl, rfl⟩
  · have d1 : ((k : Int) == L) = false := by simpa using h1
    by_cases h2 : (k : Int) = L + 1
    · have d2 : ((k : Int) == L + 1) = true := by simpa using h2
      have HE := Lib.hid (show ((swapK L k : Nat) : Int) = L by unfold swapK; rw [if_neg h1, if_pos h2]; omega)
      clear h1 h2
      go_enter Try.func56, Try.ntmps56
      go_wp2_with (first | (go_at_call 30; refine (HL.out _).mono ?_; rintro e w' ⟨rfl, rfl⟩) | (go_at_call 29; refine (HR.out _).mono ?_; rintro e w' ⟨rfl, rfl⟩))
      go_ret
      exact ⟨by rw [HE.out]; rfl, rfl⟩
    · have d2 : ((k : Int) == L + 1) = false := by simpa using h2
      have HE := Lib.hid (show ((swapK L k : Nat) : Int) = k by unfold swapK; rw [if_neg h1, if_neg h2])
      clear h1 h2
      go_enter Try.func56, Try.ntmps56
      go_wp2_with (first | (go_at_call 30; refine (HL.out _).mono ?_; rintro e w' ⟨rfl, rfl⟩) | (go_at_call 29; refine (HR.out _).mono ?_; rintro e w' ⟨rfl, rfl⟩))
      go_ret
      exact ⟨by rw [HE.out]; rfl, rfl⟩

set_option maxRecDepth 100000 in
set_option maxHeartbeats 3200000 in
theorem mirrored_any (v : Value) (t : TData) (q k : Nat) (w : World) (h : RdT w v t) (ok : OkT t) (hq : q < t.mv.length) (hk : (k : Int) < t.L + 2) :
    Calls Try.prog 80 #[v, .int .i64 (q : Int), .int .i64 (k : Int)] w fun e w' => e = .returned (deedV (mirM (moveAt t q (swapK t.L k)))) ∧ Below w.heap.size w w' := by
  have l1 := ok.l1
  have l2 := ok.l2
  have hsk := swapK_lt l1 hk
  obtain ⟨x, m, -, -, hat, hmv, -⟩ := ok.at hq hsk
  have hin := okMove_out hmv
  have HD := Lib.hid (fun W (hb : Below w.heap.size w W) => hat ▸ deed_any v t q (swapK t.L k) W (keepsT _ _ _ _ h hb) ok hq hsk)
  have HMS := Lib.hid (fun W => mirroredSign_any t.L k W l1 l2)
  rw [hat]
  obtain ⟨mx, my⟩ := m
  obtain ⟨A, ca, rfl⟩ := h.shape
  have HB := Lib.hid (below_alloc w (.cells #[.int .i64 t.L, .int .i64 t.S, .slice A t.mv.length ca] 24))
  have HR := Lib.hid (Row.new w [.int .i64 t.L, .int .i64 t.S, .slice A t.mv.length ca] 24)
  have hm1 := methodStopMir
  have hm2 := methodWalkMir
  have HIN := Lib.hid hin
  obtain ⟨sk, hsk2⟩ : ∃ sk : Nat, swapK t.L k = sk := ⟨_, rfl⟩
  rw [hsk2] at HMS HD
  clear h ok hmv hat hin hsk hsk2
  rcases HIN.out with ⟨h0 | h0, h9⟩ | ⟨_, h0, _, h5, h6, _, _⟩
  · try simp only at h0 h9
    subst h0; subst h9
    rw [show deedV (-1, 0) = .iface 63 (.agg #[.bool true]) from by simp [deedV, stopV]] at HD
    go_enter Try.func80, Try.ntmps80
    go_wp2_with fail
    generalize w.alloc (.cells #[.int .i64 t.L, .int .i64 t.S, .slice A t.mv.length ca] 24) = W0 at *
    obtain ⟨⟨b0, b1, b2⟩, -⟩ := HR.out.three
    go_region_held3 (fun W => W.cell? ⟨w.heap.size, 0, none⟩ = some (.int .i64 t.L) ∧ W.cell? ⟨w.heap.size, 1, none⟩ = some (.int .i64 t.S) ∧ W.cell? ⟨w.heap.size, 2, none⟩ = some (.slice A t.mv.length ca))
      (first | go_keep | (go_split_ands; refine ⟨?_, ?_, ?_⟩ <;> exact below_keep hbk (by assumption)))
      (first
        | (go_at_call 56; (with_reducible refine (HMS.out _).mono ?_); rintro e wv ⟨rfl, rfl⟩)
        | (go_at_call 61; (with_reducible refine (HD.out _ (below_step HB.out (by first | exact Below.refl _ _ | exact below_drew _ | exact below_drewN' _ _))).mono ?_); rintro e wy ⟨rfl, hbk⟩; have HC1 := Lib.hid (show Below W0.heap.size W0 wy from below_step (by first | exact Below.refl _ _ | exact below_drew _ | exact below_drewN' _ _) hbk))
        | (go_at_call 120; (with_reducible refine (stopMir_any true _).mono ?_); rintro e wz ⟨rfl, hbk⟩; have HC2 := Lib.hid (below_step HC1.out (below_step (by first | exact Below.refl _ _ | exact below_drew _ | exact below_drewN' _ _) hbk))))
    clear b0 b1 b2
    go_wp2
    go_ret
    exact ⟨by simp [mirM, deedV, stopV], below_step HB.out HC2.out⟩
  · try simp only at h0 h9
    subst h0; subst h9
    rw [show deedV (-2, 0) = .iface 63 (.agg #[.bool false]) from by simp [deedV, stopV]] at HD
    go_enter Try.func80, Try.ntmps80
    go_wp2_with fail
    generalize w.alloc (.cells #[.int .i64 t.L, .int .i64 t.S, .slice A t.mv.length ca] 24) = W0 at *
    obtain ⟨⟨b0, b1, b2⟩, -⟩ := HR.out.three
    go_region_held3 (fun W => W.cell? ⟨w.heap.size, 0, none⟩ = some (.int .i64 t.L) ∧ W.cell? ⟨w.heap.size, 1, none⟩ = some (.int .i64 t.S) ∧ W.cell? ⟨w.heap.size, 2, none⟩ = some (.slice A t.mv.length ca))
      (first | go_keep | (go_split_ands; refine ⟨?_, ?_, ?_⟩ <;> exact below_keep hbk (by assumption)))
      (first
        | (go_at_call 56; (with_reducible refine (HMS.out _).mono ?_); rintro e wv ⟨rfl, rfl⟩)
        | (go_at_call 61; (with_reducible refine (HD.out _ (below_step HB.out (by first | exact Below.refl _ _ | exact below_drew _ | exact below_drewN' _ _))).mono ?_); rintro e wy ⟨rfl, hbk⟩; have HC1 := Lib.hid (show Below W0.heap.size W0 wy from below_step (by first | exact Below.refl _ _ | exact below_drew _ | exact below_drewN' _ _) hbk))
        | (go_at_call 120; (with_reducible refine (stopMir_any false _).mono ?_); rintro e wz ⟨rfl, hbk⟩; have HC2 := Lib.hid (below_step HC1.out (below_step (by first | exact Below.refl _ _ | exact below_drew _ | exact below_drewN' _ _) hbk))))
    clear b0 b1 b2
    go_wp2
    go_ret
    exact ⟨by simp [mirM, deedV, stopV], below_step HB.out HC2.out⟩
  · try simp only at h0 h5 h6
    rw [deedV_walkM mx my h0] at HD
    have H0 := Lib.hid h0
    go_enter Try.func80, Try.ntmps80
    go_wp2_with fail
    generalize w.alloc (.cells #[.int .i64 t.L, .int .i64 t.S, .slice A t.mv.length ca] 24) = W0 at *
    obtain ⟨⟨b0, b1, b2⟩, -⟩ := HR.out.three
    go_region_held3 (fun W => W.cell? ⟨w.heap.size, 0, none⟩ = some (.int .i64 t.L) ∧ W.cell? ⟨w.heap.size, 1, none⟩ = some (.int .i64 t.S) ∧ W.cell? ⟨w.heap.size, 2, none⟩ = some (.slice A t.mv.length ca))
      (first | go_keep | (go_split_ands; refine ⟨?_, ?_, ?_⟩ <;> exact below_keep hbk (by assumption)))
      (first
        | (go_at_call 56; (with_reducible refine (HMS.out _).mono ?_); rintro e wv ⟨rfl, rfl⟩)
        | (go_at_call 61; (with_reducible refine (HD.out _ (below_step HB.out (by first | exact Below.refl _ _ | exact below_drew _ | exact below_drewN' _ _))).mono ?_); rintro e wy ⟨rfl, hbk⟩; have HC1 := Lib.hid (show Below W0.heap.size W0 wy from below_step (by first | exact Below.refl _ _ | exact below_drew _ | exact below_drewN' _ _) hbk))
        | (go_at_call 115; (with_reducible refine (walkMir_any mx my _ h5 h6).mono ?_); rintro e wz ⟨rfl, hbk⟩; have HC2 := Lib.hid (below_step HC1.out (below_step (by first | exact Below.refl _ _ | exact below_drew _ | exact below_drewN' _ _) hbk))))
    clear b0 b1 b2
    go_wp2
    go_ret
    refine ⟨?_, below_step HB.out HC2.out⟩
    rw [show mirM (mx, my) = (mx, -my) from rfl, deedV_walkM _ _ H0.out]
    rfl
end Go.Proofs.Ytahgekjpnmmooaa
namespace Go.Proofs.Ytahgekjpnmmooaa
open Go.RowKit

set_option maxRecDepth 100000 in
set_option maxHeartbeats 1600000 in
theorem mirClosure_any (pf p : Nat) (t : TData) (q k : Nat) (w : World) (hpf : w.cell? ⟨pf, 0, none⟩ = some (.int .i64 (t.mv.length : Int))) (h : AtT w p t) (ok : OkT t) (hq : q < t.mv.length + 1) (hk : (k : Int) < t.L + 2) :
    Calls Try.prog 79 #[.int .i64 (q : Int), .int .i64 (k : Int), .pointer (some ⟨pf, 0, none⟩), .pointer (some ⟨p, 0, none⟩)] w fun e w' => e = .returned (deedV (mirG t q k)) ∧ Below w.heap.size w w' := by
  have l1 := ok.l1
  have l2 := ok.l2
  have n2 := ok.n2
  obtain ⟨vm, c0, c1, c2, hR⟩ := h
  have hv : RdT w (.agg #[.int .i64 t.L, .int .i64 t.S, vm]) t := ⟨vm, rfl, hR⟩
  have cc := concWalk
  by_cases h1 : q < t.mv.length
  · have HM := Lib.hid (mirrored_any _ t q k w hv ok h1 hk)
    have hG : mirG t q k = mirM (moveAt t q (swapK t.L k)) := by unfold mirG; rw [if_pos h1]
    rw [hG]
    have i1 : (q : Int) < t.mv.length := by omega
    obtain ⟨A, ca, rfl⟩ := RdL.shape hR
    clear hG ok hv hR h1 hq hk
    go_enter Try.func79, Try.ntmps79
    go_wp2_with fail
    refine HM.out.mono ?_
    rintro e w1 ⟨rfl, hb⟩
    have HB := Lib.hid hb
    clear hb
    go_wp2
    go_ret
    exact ⟨rfl, HB.out⟩
  · obtain rfl : q = t.mv.length := by omega
    by_cases h2 : (k : Int) = t.L + 1
    · obtain ⟨s0, hs0⟩ : ∃ s0 : Nat, t.S = s0 := ⟨t.S.toNat, by have := ok.s1; omega⟩
      have HM := Lib.hid (mirrored_any _ t s0 k w hv ok (by have := ok.s2; omega) hk)
      have hG : mirG t t.mv.length k = mirM (moveAt t s0 (swapK t.L k)) := by
        unfold mirG
        rw [if_neg h1, if_pos h2, show t.S.toNat = s0 by omega, show swapK t.L k = t.L.toNat from by unfold swapK; rw [if_neg (by omega), if_pos h2]]
      rw [hG]
      rw [hs0] at c1 HM
      have i1 : decide ((t.mv.length : Int) < t.mv.length) = false := by simp
      have d2 : ((k : Int) == t.L + 1) = true := by simpa using h2
      obtain ⟨A, ca, rfl⟩ := RdL.shape hR
      clear hG ok hv hR h1 hq hk h2 hs0
      go_enter Try.func79, Try.ntmps79
      go_wp2_with (go_at_call 29; refine (rightMark_any _ _ (by omega) (by omega)).mono ?_; rintro e w' ⟨rfl, rfl⟩)
      refine HM.out.mono ?_
      rintro e w1 ⟨rfl, hb⟩
      have HB := Lib.hid hb
      clear hb
      go_wp2
      go_ret
      exact ⟨rfl, HB.out⟩
    · have hG : mirG t t.mv.length k = ((t.mv.length : Int), 1) := by unfold mirG; rw [if_neg h1, if_neg h2]
      have HG := Lib.hid hG
      have i1 : decide ((t.mv.length : Int) < t.mv.length) = false := by simp
      have d2 : ((k : Int) == t.L + 1) = false := by simpa using h2
      clear hG ok hv hR h1 hq hk h2
      go_enter Try.func79, Try.ntmps79
      go_wp2_with (go_at_call 29; refine (rightMark_any _ _ (by omega) (by omega)).mono ?_; rintro e w' ⟨rfl, rfl⟩)
      go_ret
      refine ⟨?_, Below.refl _ _⟩
      rw [HG.out, deedV_walkM _ _ (by omega)]
      rfl

/-- A turner that a call has made, stored into a box of the caller's own and handed on. -/
theorem own_storedM {w W : World} {b lo : Nat} {L S : Int} {A : Option Addr} {n k : Nat} {t : TData} {bs : List Nat} {z0 z1 z2 : Value}
    (hz : Row W b 24 [z0, z1, z2]) (hb : Below w.heap.size w W) (hlo : w.heap.size ≤ b) (hbl : b < lo) (hO : OwT W lo (.agg #[.int .i64 L, .int .i64 S, .slice A n k]) t bs) :
    let W2 := (((W.setCell ⟨b, 0, none⟩ (.int .i64 L)).setCell ⟨b, 1, none⟩ (.int .i64 S)).setCell ⟨b, 2, none⟩ (.slice A n k));
    (W2.cell? ⟨b, 0, none⟩ = some (.int .i64 L) ∧ W2.cell? ⟨b, 1, none⟩ = some (.int .i64 S) ∧ W2.cell? ⟨b, 2, none⟩ = some (.slice A n k)) ∧ OwT W2 w.heap.size (.agg #[.int .i64 L, .int .i64 S, .slice A n k]) t bs ∧ Below w.heap.size w W2 := by
  intro W2
  have rF := (((hz.stored 0 (.int .i64 L)).stored 1 (.int .i64 S)).stored 2 (.slice A n k))
  have eO := (goodT.under (a := ⟨b, 2, none⟩) (goodT.under (a := ⟨b, 1, none⟩) (goodT.under (a := ⟨b, 0, none⟩) hO hbl (.int .i64 L)) hbl (.int .i64 S)) hbl (.slice A n k))
  have eB := (((hb.setCell (p := ⟨b, 0, none⟩) hlo (.int .i64 L)).setCell (p := ⟨b, 1, none⟩) hlo (.int .i64 S)).setCell (p := ⟨b, 2, none⟩) hlo (.slice A n k))
  exact ⟨(Row.three (a := .int .i64 L) (b := .int .i64 S) (c := .slice A n k) rF).1, goodT.mono eO (by omega), eB⟩

set_option maxRecDepth 100000 in
set_option maxHeartbeats 3200000 in
theorem implMir_any (v : Value) (t : TData) (w : World) (h : RdT w v t) :
    Calls Try.prog 52 #[v] w fun e w' => ∃ u bs, e = .returned (.tuple #[u, .int .i64 (mirRes t).2]) ∧ OwT w' w.heap.size u (mirRes t).1 bs ∧ Below w.heap.size w w' := by
  have hV := fun W (hb : Below w.heap.size w W) => ValidTurner_any v t W (keepsT _ _ _ _ h hb)
  have hS := fun W (hb : Below w.heap.size w W) => states_any v t W (keepsT _ _ _ _ h hb)
  obtain ⟨vm, rfl, hA⟩ := atT_box h 24
  obtain ⟨A, ca, rfl⟩ := RdL.shape (show RdPP _ vm t.mv from by obtain ⟨_, e, hm⟩ := h; cases e; exact hm)
  have hA0 := hA.below (below_alloc _ (.cells #[.int .i64 0, .int .i64 0, .slice none 0 0] 24))
  have HV := Lib.hid hV
  have HST := Lib.hid hS
  have HA := Lib.hid hA0
  have hr := (Row.new w [.int .i64 t.L, .int .i64 t.S, .slice A t.mv.length ca] 24).alloc (.cells #[.int .i64 0, .int .i64 0, .slice none 0 0] 24)
  have hz := Row.new (w.alloc (.cells #[.int .i64 t.L, .int .i64 t.S, .slice A t.mv.length ca] 24)) [.int .i64 0, .int .i64 0, .slice none 0 0] 24
  have HZ := Lib.hid (show Row _ (w.heap.size + 1) _ _ by simpa using hz)
  have HR := Lib.hid hr
  have HB := Lib.hid ((below_alloc w (.cells #[.int .i64 t.L, .int .i64 t.S, .slice A t.mv.length ca] 24)).alloc (by simp) (.cells #[.int .i64 0, .int .i64 0, .slice none 0 0] 24))
  clear hV hS h hA hA0 hr hz
  by_cases hok : okT t = true
  · have HK := Lib.hid (okT_out hok)
    have HOK := Lib.hid hok
    go_enter Try.func52, Try.ntmps52
    go_wp2_with fail
    refine (HV.out _ HB.out).mono ?_
    generalize (w.alloc (.cells #[.int .i64 t.L, .int .i64 t.S, .slice A t.mv.length ca] 24)).alloc (.cells #[.int .i64 0, .int .i64 0, .slice none 0 0] 24) = W0 at *
    rintro e w1 ⟨rfl, hb1⟩
    have HZ1 := Lib.hid (HZ.out.below hb1 HZ.out.lt)
    have HA1 := Lib.hid (HA.out.below hb1)
    have HB1 := Lib.hid (below_step HB.out hb1)
    have HR1 := Lib.hid (HR.out.below hb1 HR.out.lt)
    obtain ⟨⟨b0, b1, b2⟩, -⟩ := HR1.out.three
    clear hb1 HZ HB HR
    go_wp2_with fail
    clear hok b0 b1 b2
    refine (HST.out _ HB1.out).mono ?_
    rintro e w2 ⟨rfl, hb2⟩
    have hb3 := below_step hb2 (below_alloc w2 (.cells #[.int .i64 (t.mv.length : Int)] 2))
    have HZ3 := Lib.hid (HZ1.out.below hb3 HZ1.out.lt)
    have HA3 := Lib.hid (HA1.out.below hb3)
    have HB3 := Lib.hid (below_step HB1.out hb3)
    have HR3 := Lib.hid (HR1.out.below hb3 HR1.out.lt)
    have HF := Lib.hid (Row.new w2 [.int .i64 (t.mv.length : Int)] 2)
    obtain ⟨⟨b0, b1, b2⟩, -⟩ := (HR1.out.below hb2 HR1.out.lt).three
    have lt2 := (HR1.out.below hb2 HR1.out.lt).lt
    clear hb2 hb3 HZ1 HA1 HB1 HR1
    obtain ⟨c, hc⟩ : ∃ c : Nat, (c : Int) = t.L + 2 := ⟨(t.L + 2).toNat, by have := HK.out.l1; omega⟩
    have HC := Lib.hid hc
    have n2 := HK.out.n2
    clear hc
    by_cases hn : t.mv.length + 1 ≤ 12
    · have HD := Lib.hid (doingMirrorTurner_own t.L (t.mv.length : Int) (t.mv.length + 1) c w2.heap.size w.heap.size (mirG t) _ HK.out.l1 HK.out.l2 HC.out hn
        (fun q k hq hk => deeded_of (mirG_ok HK.out (by have := HC.out; omega)))
        (fun W' hb' q k hq hk => mirClosure_any _ _ t q k W' (below_keep hb' HF.out.one.1) (HA3.out.below hb') HK.out hq (by have := HC.out; omega)))
      have HN := Lib.hid hn
      rw [show ((t.mv.length + 1 : Nat) : Int) = (t.mv.length : Int) + 1 by omega] at HD
      clear hn
      go_wp2_with fail
      refine HD.out.mono ?_
      generalize w2.alloc (.cells [.int .i64 (t.mv.length : Int)].toArray 2) = w3 at *
      rintro e w4 ⟨u, bs, rfl, hu, hb⟩
      have hl1 := HZ3.out.lt
      have hz4 := HZ3.out.below hb hl1
      obtain ⟨vm2, bm2, rfl, hvm2, rfl, hnd2⟩ := hu
      obtain ⟨Am, km, rfl⟩ := OwL.shape hvm2
      simp only at hvm2
      have HH := Lib.hid (own_storedM (w := w) hz4 (below_step HB3.out hb) (by omega) hl1 (t := ⟨t.L, t.mv.length, tableOf (mirG t) c (t.mv.length + 1)⟩) ⟨_, _, rfl, hvm2, rfl, hnd2⟩)
      obtain ⟨⟨z0, z1, z2⟩, zf⟩ := hz4.three
      have lz := hz4.lt
      clear hz4 hvm2 hnd2 hb hl1 b0 b1 b2 lt2
      go_wp2
      obtain ⟨⟨y0, y1, y2⟩, eO, eB⟩ := HH.out
      have hres : mirRes t = (⟨t.L, t.mv.length, tableOf (mirG t) c (t.mv.length + 1)⟩, 0) := by
        have := HC.out
        simp only [mirRes, HOK.out, if_true, if_pos HN.out, show (t.L + 2).toNat = c by omega]
      rw [hres]
      refine bodyPost_ret (v := .tuple #[.agg #[.int .i64 t.L, .int .i64 (t.mv.length : Int), .slice Am (tableOf (mirG t) c (t.mv.length + 1)).length km], .int .i64 0]) (by simp [results, Try.results52, go_sem, y0, y1, y2]) rfl ?_
      first | exact ⟨_, _, rfl, eO, eB⟩ | exact ⟨_, rfl, ⟨_, eO⟩, eB⟩
    · have HD := Lib.hid (doing_limit t.L (t.mv.length : Int) ((t.mv.length : Int) + 1) (.func (.func 79) #[] #[.pointer (some ⟨w2.heap.size, 0, none⟩), .pointer (some ⟨w.heap.size, 0, none⟩)]) (w2.alloc (.cells #[.int .i64 (t.mv.length : Int)] 2)) (by omega))
      have HN := Lib.hid hn
      clear hn
      go_wp2_with fail
      refine HD.out.mono ?_
      generalize w2.alloc (.cells #[.int .i64 (t.mv.length : Int)] 2) = w3 at *
      rintro e w4 ⟨u, bs, rfl, hu, hb⟩
      have hl1 := HZ3.out.lt
      have hz4 := HZ3.out.below hb hl1
      obtain ⟨vm2, bm2, rfl, hvm2, rfl, hnd2⟩ := hu
      obtain ⟨Am, km, rfl⟩ := OwL.shape hvm2
      simp only at hvm2
      have HH := Lib.hid (own_storedM (w := w) hz4 (below_step HB3.out hb) (by omega) hl1 (t := ⟨0, 0, []⟩) ⟨_, _, rfl, hvm2, rfl, hnd2⟩)
      obtain ⟨⟨z0, z1, z2⟩, zf⟩ := hz4.three
      have lz := hz4.lt
      clear hz4 hvm2 hnd2 hb hl1 b0 b1 b2 lt2
      go_wp2
      obtain ⟨⟨y0, y1, y2⟩, eO, eB⟩ := HH.out
      have hres : mirRes t = (⟨0, 0, []⟩, 3) := by simp only [mirRes, HOK.out, if_true, if_neg HN.out]
      rw [hres]
      generalize (((w4.setCell ⟨w.heap.size + 1, 0, none⟩ (.int .i64 0)).setCell ⟨w.heap.size + 1, 1, none⟩ (.int .i64 0)).setCell ⟨w.heap.size + 1, 2, none⟩ (.slice Am 0 km)) = W2 at *
      refine bodyPost_ret (v := .tuple #[.agg #[.int .i64 0, .int .i64 0, .slice Am 0 km], .int .i64 3]) (by simp [results, Try.results52, go_sem, y0, y1, y2]) rfl ?_
      first | exact ⟨_, _, rfl, eO, eB⟩ | exact ⟨_, rfl, ⟨_, eO⟩, eB⟩
  · have hok' : okT t = false := by simpa using hok
    clear hok
    have HOK := Lib.hid hok'
    go_enter Try.func52, Try.ntmps52
    go_wp2_with fail
    refine (HV.out _ HB.out).mono ?_
    generalize (w.alloc (.cells #[.int .i64 t.L, .int .i64 t.S, .slice A t.mv.length ca] 24)).alloc (.cells #[.int .i64 0, .int .i64 0, .slice none 0 0] 24) = W0 at *
    rintro e w1 ⟨rfl, hb1⟩
    have hz1 := HZ.out.below hb1 HZ.out.lt
    have HH := Lib.hid (own_storedM (w := w) (A := none) (n := 0) (k := 0) (L := 0) (S := 0) hz1 (below_step HB.out hb1) (by omega) hz1.lt (t := ⟨0, 0, []⟩) ⟨_, [], rfl, owL_nil _ _ _ _, rfl, by simp⟩)
    obtain ⟨⟨z0, z1, z2⟩, zf⟩ := hz1.three
    have lz := hz1.lt
    clear hb1 hz1
    go_wp2
    obtain ⟨⟨y0, y1, y2⟩, eO, eB⟩ := HH.out
    have hres : mirRes t = (⟨0, 0, []⟩, 1) := by simp [mirRes, HOK.out]
    rw [hres]
    generalize (((w1.setCell ⟨w.heap.size + 1, 0, none⟩ (.int .i64 0)).setCell ⟨w.heap.size + 1, 1, none⟩ (.int .i64 0)).setCell ⟨w.heap.size + 1, 2, none⟩ (.slice none 0 0)) = W2 at *
    refine bodyPost_ret (v := .tuple #[.agg #[.int .i64 0, .int .i64 0, .slice none 0 0], .int .i64 1]) (by simp [results, Try.results52, go_sem, y0, y1, y2]) rfl ?_
    first | exact ⟨_, _, rfl, eO, eB⟩ | exact ⟨_, rfl, ⟨_, eO⟩, eB⟩
end Go.Proofs.Ytahgekjpnmmooaa
namespace Go.Proofs.Ytahgekjpnmmooaa
open Go.RowKit

/-- The boxes of the model's call: the turner, the answer, and the turner that is being made. -/
def MirI (w : World) (lo : Nat) (rc : List Value) (t : TData) (wr : World) : Prop :=
  Below w.heap.size w wr ∧ Row wr w.heap.size 24 rc ∧ Row wr (w.heap.size + 1) 24 [.int .i64 0, .int .i64 0, .slice none 0 0] ∧ w.heap.size + 2 ≤ lo ∧ BoxT wr lo lo t
theorem MirI.below {w w' wr : World} {lo : Nat} {rc : List Value} {t : TData} (h : MirI w lo rc t wr) (hb : Below wr.heap.size wr w') : MirI w lo rc t w' :=
  ⟨below_step h.1 hb, h.2.1.below hb h.2.1.lt, h.2.2.1.below hb h.2.2.1.lt, h.2.2.2.1, h.2.2.2.2.below hb⟩
theorem MirI.drew {w wr : World} {lo : Nat} {rc : List Value} {t : TData} (h : MirI w lo rc t wr) : MirI w lo rc t wr.drew := h.below (below_drew _)

def mirPart (G : Nat → Nat → Int × Int) (q k : Nat) : List (Int × Int) := (List.range k).map (G q)
theorem mirPart_len (G : Nat → Nat → Int × Int) (q k : Nat) : (mirPart G q k).length = k := by simp [mirPart]
theorem mirPart_succ (G : Nat → Nat → Int × Int) (q k : Nat) : mirPart G q (k + 1) = mirPart G q k ++ [G q k] := by simp [mirPart, List.range_succ]
theorem mirPart_full (G : Nat → Nat → Int × Int) (q c : Nat) : mirPart G q c = rowOf G c q := rfl

theorem rdP_cell {w : World} {b off n c : Nat} {ms : List (Int × Int)} (h : RdP w (.slice (some ⟨b, off, none⟩) n c) ms) {i : Nat} {m : Int × Int} (hm : ms[i]? = some m) : w.cell? ⟨b, off + i * 2, none⟩ = some (.int .i64 m.1) ∧ w.cell? ⟨b, off + i * 2 + 1, none⟩ = some (.int .i64 m.2) := by
  obtain ⟨A, cap, hv, _, _, h3⟩ := h
  simp only [Value.slice.injEq] at hv
  obtain ⟨b', off', hA, h4⟩ := h3 i m hm
  rw [← hv.1, Option.some.injEq, Addr.mk.injEq] at hA
  obtain ⟨rfl, rfl, -⟩ := hA
  exact h4

theorem okT_tableM {L S : Int} {G : Nat → Nat → Int × Int} {n c : Nat} (l1 : 1 ≤ L) (l2 : L ≤ 3) (n1 : 1 ≤ n) (n2 : n ≤ 12) (s1 : 0 ≤ S) (s2 : S ≤ (n : Int) - 1) (hc : (c : Int) = L + 2) (hG : ∀ q k, q < n → k < c → okMove n L k (G q k) = true) : okT ⟨L, S, tableOf G c n⟩ = true := by
  apply okT_all
  · simp; omega
  · simp [tableOf_len]; omega
  · simp only [tableOf_len, decide_eq_true_eq]; omega
  · simp only [tableOf_len]
    rw [List.all_eq_true]
    intro x hx
    obtain ⟨q, hq, rfl⟩ := List.mem_map.1 hx
    have hq' : q < n := by simpa using hq
    apply okRow_of
    · rw [rowOf_len]; exact hc
    · unfold okMsTo
      rw [List.all_eq_true]
      intro k hk
      have hk' : k < c := by simpa [rowOf_len] using hk
      simp only [List.getD, rowOf_get G hk', Option.getD_some]
      exact hG q k hq' hk'


theorem told_mir {t : TData} (ok : OkT t) (hok : okT t = true) {c : Nat} (hc : (c : Int) = t.L + 2) :
    (okT ⟨t.L, t.mv.length, tableOf (mirG t) c (t.mv.length + 1)⟩ = true ∧ mirRes t = (⟨t.L, t.mv.length, tableOf (mirG t) c (t.mv.length + 1)⟩, 0)) ∨ (okT ⟨t.L, t.mv.length, tableOf (mirG t) c (t.mv.length + 1)⟩ = false ∧ mirRes t = (⟨0, 0, []⟩, 3)) := by
  have e : (t.L + 2).toNat = c := by omega
  by_cases hn : t.mv.length + 1 ≤ 12
  · left
    have n1 := ok.n1
    have := okT_tableM (S := (t.mv.length : Int)) ok.l1 ok.l2 (n := t.mv.length + 1) (by omega) hn (by omega) (by omega) hc (fun q k hq hk => by have := mirG_ok ok (q := q) (k := k) (by omega); rwa [show ((t.mv.length + 1 : Nat) : Int) = (t.mv.length : Int) + 1 by omega])
    exact ⟨this, by simp only [mirRes, hok, if_true, if_pos hn, e]⟩
  · right
    refine ⟨?_, by simp only [mirRes, hok, if_true, if_neg hn]⟩
    simp only [okT, tableOf_len]
    rw [show decide (1 ≤ ((t.mv.length + 1 : Nat) : Int) ∧ ((t.mv.length + 1 : Nat) : Int) ≤ 12) = false from decide_eq_false (by omega)]
    simp

def toldResM (t : TData) : TData × Int := if okT t then (t, 0) else (⟨0, 0, []⟩, 3)
set_option maxRecDepth 100000 in
set_option maxHeartbeats 1600000 in
theorem l02Told_anyM (v : Value) (t : TData) (w : World) (h : RdT w v t) :
    Calls Try.prog 75 #[v] w fun e w' => e = .returned (.tuple #[if okT t then v else .agg #[.int .i64 0, .int .i64 0, .slice none 0 0], .int .i64 (toldResM t).2]) ∧ Below w.heap.size w w' := by
  obtain ⟨m, rfl, hA⟩ := atT_box h 24
  obtain ⟨A, k, rfl⟩ := RdL.shape (show RdPP _ m t.mv from by obtain ⟨_, e, hm⟩ := h; cases e; exact hm)
  have hA0 := hA.below (below_alloc _ (.cells #[.int .i64 0, .int .i64 0, .slice none 0 0] 24))
  have HV := Lib.hid (l02Ok_any _ _ _ hA0)
  have HT := Lib.hid h
  have hr := (Row.new w [.int .i64 t.L, .int .i64 t.S, .slice A t.mv.length k] 24).alloc (.cells #[.int .i64 0, .int .i64 0, .slice none 0 0] 24)
  have hz := Row.new (w.alloc (.cells #[.int .i64 t.L, .int .i64 t.S, .slice A t.mv.length k] 24)) [.int .i64 0, .int .i64 0, .slice none 0 0] 24
  have HZ := Lib.hid (show Row _ (w.heap.size + 1) _ _ by simpa using hz)
  have HR := Lib.hid hr
  have HB := Lib.hid ((below_alloc w (.cells #[.int .i64 t.L, .int .i64 t.S, .slice A t.mv.length k] 24)).alloc (by simp) (.cells #[.int .i64 0, .int .i64 0, .slice none 0 0] 24))
  clear h hA hA0 hr hz
  by_cases hok : okT t = true
  · rw [if_pos hok]
    have HOK := Lib.hid hok
    go_enter Try.func75, Try.ntmps75
    go_wp2_with fail
    refine HV.out.mono ?_
    generalize (w.alloc (.cells #[.int .i64 t.L, .int .i64 t.S, .slice A t.mv.length k] 24)).alloc (.cells #[.int .i64 0, .int .i64 0, .slice none 0 0] 24) = W0 at *
    rintro e w1 ⟨rfl, hb1⟩
    have hz1 := HZ.out.below hb1 HZ.out.lt
    have hr1 := HR.out.below hb1 HR.out.lt
    have hbw := below_step HB.out hb1
    obtain ⟨⟨b0, b1, b2⟩, -⟩ := hr1.three
    obtain ⟨⟨z0, z1, z2⟩, zf⟩ := hz1.three
    have lz := hz1.lt
    have rF := (((hz1.stored 0 (.int .i64 t.L)).stored 1 (.int .i64 t.S)).stored 2 (.slice A t.mv.length k))
    have eB := (((hbw.setCell (p := ⟨w.heap.size + 1, 0, none⟩) (by show w.heap.size ≤ w.heap.size + 1; omega) (.int .i64 t.L)).setCell (p := ⟨w.heap.size + 1, 1, none⟩) (by show w.heap.size ≤ w.heap.size + 1; omega) (.int .i64 t.S)).setCell (p := ⟨w.heap.size + 1, 2, none⟩) (by show w.heap.size ≤ w.heap.size + 1; omega) (.slice A t.mv.length k))
    have HH := Lib.hid (show _ ∧ _ from ⟨rF, eB⟩)
    clear hb1 hz1 hr1 hbw rF eB
    go_wp2
    obtain ⟨rF, eB⟩ := HH.out
    generalize (((w1.setCell ⟨w.heap.size + 1, 0, none⟩ (.int .i64 t.L)).setCell ⟨w.heap.size + 1, 1, none⟩ (.int .i64 t.S)).setCell ⟨w.heap.size + 1, 2, none⟩ (.slice A t.mv.length k)) = W2 at *
    obtain ⟨⟨y0, y1, y2⟩, -⟩ := Row.three (a := .int .i64 t.L) (b := .int .i64 t.S) (c := .slice A t.mv.length k) rF
    have hres : toldResM t = (t, 0) := by simp [toldResM, HOK.out]
    rw [hres]
    refine bodyPost_ret (v := .tuple #[.agg #[.int .i64 t.L, .int .i64 t.S, .slice A t.mv.length k], .int .i64 0]) (by simp [results, Try.results75, go_sem, y0, y1, y2]) rfl ?_
    exact ⟨rfl, eB⟩
  · rw [if_neg hok]
    have hok' : okT t = false := by simpa using hok
    clear hok
    have HOK := Lib.hid hok'
    go_enter Try.func75, Try.ntmps75
    go_wp2_with fail
    refine HV.out.mono ?_
    generalize (w.alloc (.cells #[.int .i64 t.L, .int .i64 t.S, .slice A t.mv.length k] 24)).alloc (.cells #[.int .i64 0, .int .i64 0, .slice none 0 0] 24) = W0 at *
    rintro e w1 ⟨rfl, hb1⟩
    have hz1 := HZ.out.below hb1 HZ.out.lt
    have HH := Lib.hid (own_storedM (w := w) (A := none) (n := 0) (k := 0) (L := 0) (S := 0) hz1 (below_step HB.out hb1) (by omega) hz1.lt (t := ⟨0, 0, []⟩) ⟨_, [], rfl, owL_nil _ _ _ _, rfl, by simp⟩)
    obtain ⟨⟨z0, z1, z2⟩, zf⟩ := hz1.three
    have lz := hz1.lt
    clear hb1 hz1
    go_wp2
    obtain ⟨⟨y0, y1, y2⟩, eO, eB⟩ := HH.out
    have hres : toldResM t = (⟨0, 0, []⟩, 3) := by simp [toldResM, HOK.out]
    rw [hres]
    generalize (((w1.setCell ⟨w.heap.size + 1, 0, none⟩ (.int .i64 0)).setCell ⟨w.heap.size + 1, 1, none⟩ (.int .i64 0)).setCell ⟨w.heap.size + 1, 2, none⟩ (.slice none 0 0)) = W2 at *
    refine bodyPost_ret (v := .tuple #[.agg #[.int .i64 0, .int .i64 0, .slice none 0 0], .int .i64 3]) (by simp [results, Try.results75, go_sem, y0, y1, y2]) rfl ?_
    exact ⟨rfl, eB⟩
end Go.Proofs.Ytahgekjpnmmooaa
namespace Go.Proofs.Ytahgekjpnmmooaa
open Go.RowKit

/-- An append that the walk does not take apart: its outcome is laid ahead of the walk, as an equation. -/
def heldAppend (ats : Array TypeId) (ty : TypeId) (args : Array Value) : Sem Value := Builtin.append_ ats ty args
theorem builtin_append_held (ats : Array TypeId) (ty : TypeId) (cs : Array Bool) (args : Array Value) : builtin .append ats ty cs args = (do pure (.value (← heldAppend ats ty args))) := rfl
attribute [local go_sem ↓ high] builtin_append_held

set_option maxRecDepth 100000 in
set_option maxHeartbeats 3200000 in
theorem specMir_own (v : Value) (t : TData) (w : World) (h : RdT w v t) :
    Calls Try.prog 47 #[v] w fun e w' => ∃ u bs, e = .returned (.tuple #[u, .int .i64 (mirRes t).2]) ∧ OwT w' w.heap.size u (mirRes t).1 bs ∧ Below w.heap.size w w' := by
  obtain ⟨isl, his, hzs0, hzs1, hzs2⟩ := info_parts infoMirrorTurnerMs
  obtain ⟨im, him, hzm0, hzm1, hzm2⟩ := info_parts infoMove
  obtain ⟨vm, rfl, hA⟩ := atT_box h 24
  obtain ⟨_, e0, hm0⟩ := h
  cases e0
  obtain ⟨A, ca, rfl, a1, a2, a3⟩ := RdL.open hm0
  have hA0 := hA.below (below_alloc _ (.cells #[.int .i64 0, .int .i64 0, .slice none 0 0] 24))
  have HV := Lib.hid (l02Ok_any _ _ _ hA0)
  have hr := (Row.new w [.int .i64 t.L, .int .i64 t.S, .slice A t.mv.length ca] 24).alloc (.cells #[.int .i64 0, .int .i64 0, .slice none 0 0] 24)
  have hz := Row.new (w.alloc (.cells #[.int .i64 t.L, .int .i64 t.S, .slice A t.mv.length ca] 24)) [.int .i64 0, .int .i64 0, .slice none 0 0] 24
  have HZ := Lib.hid (show Row _ (w.heap.size + 1) _ _ by simpa using hz)
  have HR := Lib.hid hr
  have HB := Lib.hid ((below_alloc w (.cells #[.int .i64 t.L, .int .i64 t.S, .slice A t.mv.length ca] 24)).alloc (by simp) (.cells #[.int .i64 0, .int .i64 0, .slice none 0 0] 24))
  unfold maxLen at a2
  clear hm0 hA hA0 hr hz
  by_cases hok : okT t = true
  · have HK := Lib.hid (okT_out hok)
    have l1 := HK.out.l1
    have l2 := HK.out.l2
    have n1 := HK.out.n1
    have n2 := HK.out.n2
    have HOK := Lib.hid hok
    obtain ⟨c, hc⟩ : ∃ c : Nat, (c : Int) = t.L + 2 := ⟨(t.L + 2).toNat, by omega⟩
    have c5 : (c : Int) ≤ 5 := by omega
    have HC := Lib.hid hc
    clear hc
    go_enter Try.func47, Try.ntmps47
    go_wp2_with fail
    refine HV.out.mono ?_
    generalize (w.alloc (.cells #[.int .i64 t.L, .int .i64 t.S, .slice A t.mv.length ca] 24)).alloc (.cells #[.int .i64 0, .int .i64 0, .slice none 0 0] 24) = W0 at *
    rintro e w1 ⟨rfl, hb1⟩
    have hI : MirI w w1.heap.size [.int .i64 t.L, .int .i64 t.S, .slice A t.mv.length ca] ⟨t.L, t.mv.length, []⟩ (w1.alloc (.cells #[.int .i64 t.L, .int .i64 (t.mv.length : Int), .slice none 0 0] 24)) :=
      ⟨below_step (below_step HB.out hb1) (below_alloc _ _), (HR.out.below hb1 HR.out.lt).alloc _, (HZ.out.below hb1 HZ.out.lt).alloc _, by have := (HZ.out.below hb1 HZ.out.lt).lt; omega, BoxT.start _ _ _⟩
    have HI := Lib.hid hI
    obtain ⟨⟨b0, b1, b2⟩, -⟩ := (HR.out.below hb1 HR.out.lt).three
    have lt1 := (HR.out.below hb1 HR.out.lt).lt
    clear hb1 hI HZ HB HR
    go_wp2
    clear hok
    generalize w1.heap.size = lo at *
    generalize w1.alloc (.cells #[.int .i64 t.L, .int .i64 (t.mv.length : Int), .slice none 0 0] 24) = w2 at *
    clear b0 b1 b2 lt1
    go_loopw [6] (fun i wr => ∃ s : Nat, s ≤ t.mv.length ∧ i = .int .i64 s ∧ MirI w lo [.int .i64 t.L, .int .i64 t.S, .slice A t.mv.length ca] ⟨t.L, t.mv.length, tableOf (mirG t) c s⟩ wr) (fun i _ => t.mv.length - (intOf i).toNat)
    case atStart => exact ⟨0, Nat.zero_le _, rfl, HI.out⟩
    case round =>
      obtain ⟨wo, hwo⟩ : ∃ wo, wo = wr := ⟨wr, rfl⟩
      subst hwo
      obtain ⟨s, hs, rfl, hI⟩ := hrel
      have HS := Lib.hid hI
      obtain ⟨⟨b0, b1, b2⟩, -⟩ := hI.2.1.three
      have ltr := hI.2.1.lt
      clear hI
      by_cases hlt : s < t.mv.length
      · obtain ⟨b, off, p, x, rfl, hx, hcx, hP⟩ := a3 s hlt
        have hxl := HK.out.len s x hx
        have hsh := hP.open
        obtain ⟨D, cd, rfl, d1, d2, d3⟩ := hsh
        obtain ⟨bx, offx, _, _, rfl, -⟩ := d3 0 (by omega)
        unfold maxLen at d2
        have HX := Lib.hid (show _ ∧ _ from ⟨hx, hxl⟩)
        have HCX := Lib.hid hcx
        have HP := Lib.hid hP
        have i1 : (0 : Int) ≤ s := by omega
        have i2 : (s : Int) < t.mv.length := by omega
        have ow0 := World.ownsRow_lit (base := wo.heap.size) (e := 55) (size := 2) wo #[] 0 (Nat.le_refl _) (by unfold maxLen; omega) rfl
        have HO := Lib.hid ow0
        have xl5 : (x.length : Int) = t.L + 2 := hxl
        have XL := Lib.hid xl5
        clear hx hcx hP hxl ow0 a3 d3 xl5
        go_wp2
        clear b0 b1 b2 ltr
        go_loopw [7, 8] (fun u i wr => ∃ (k kn : Nat) (Bn : Option Addr), k ≤ c ∧ i = .int .i64 k ∧ u = .slice Bn k kn ∧ Below wo.heap.size wo wr ∧ wr.ownsRow wo.heap.size 55 2 (.slice Bn k kn) k (pcells (mirPart (mirG t) s k))) (fun _ i _ => c - (intOf i).toNat)
        case atStart => exact ⟨0, 0, _, Nat.zero_le _, rfl, rfl, below_alloc _ _, HO.out⟩
        case round =>
          obtain ⟨k, kn, Bn, hk, rfl, rfl, hb, how⟩ := hrel
          have hI := HS.out.below hb
          obtain ⟨⟨b0, b1, b2⟩, -⟩ := hI.2.1.three
          have hbw := hI.1
          have HI2 := Lib.hid (show _ ∧ _ ∧ _ from ⟨hb, how, hI⟩)
          have gx := below_keep hbw HCX.out
          have ltr := hI.2.1.lt
          have HWB := Lib.hid hbw
          have hcc := HC.out
          clear hI hb how hbw
          by_cases hklt : k < c
          · have hsw : (swapK t.L k : Int) < t.L + 2 := swapK_lt l1 (by omega)
            obtain ⟨m, hm⟩ : ∃ m, x[swapK t.L k]? = some m := ⟨_, List.getElem?_eq_getElem (by have := XL.out; omega)⟩
            have hmv := okMove_out (HK.out.move s x _ m HX.out.1 hm)
            obtain ⟨gm0, gm1⟩ := rdP_cell (keepsP _ _ _ _ HP.out HWB.out) hm
            have hG : mirG t s k = (m.1, -m.2) := by
              unfold mirG mirM moveAt
              rw [if_pos hlt]
              simp [List.getD, HX.out.1, hm]
            obtain ⟨mx, my⟩ := m
            simp only at hmv gm0 gm1 hG
            have m1 : -1 ≤ my := by omega
            have m2 : my ≤ 1 := by omega
            have HG := Lib.hid hG
            have k1 : (0 : Int) ≤ k := by omega
            have k2 : (k : Int) < t.L + 2 := by omega
            have hx5 := XL.out
            clear hm hmv hG hcc
            by_cases hkL : (k : Int) < t.L
            · have e : swapK t.L k = k := by unfold swapK; rw [if_neg (by omega), if_neg (by omega)]
              rw [e] at gm0 gm1
              have k3 : (k : Int) < x.length := by omega
              clear e hsw hx5
              go_wp2_with (at_builtin; refine wpList_append_lies _ rfl _ _ 51 rfl wo.heap.size 55 im _ 2 16 Try.underlying51 him hzm0 hzm1 hzm2 rfl (by decide) (.slice Bn k kn) k _ rfl ((HI2.out.2.1.alloc (.cells #[.int .i64 mx, .int .i64 my] 55)).alloc _) ⟨wr.heap.size + 1, 0, none⟩ 1 1 [.int .i64 mx, .int .i64 (-my)] rfl rfl (World.news_of_block (cs := #[.int .i64 mx, .int .i64 (-my)]) (t := 55) (fr := (0, 0)) (by simpa using heap_alloc_new (wr.alloc (.cells #[.int .i64 mx, .int .i64 my] 55)) (.cells #[.int .i64 mx, .int .i64 (-my)] 55))) (by simp [Value.oneCell']) (by omega) (by unfold maxLen; omega) (by omega) (by have := HI2.out.1.size; simp; omega) (wr.heap.size + 1 + 1) (by simp) ?_; intro g cap w2 hown1 hgrow hat hlt2)
              have hb := HI2.out.1
              have hres : Below wo.heap.size wo w2 := (below_step (below_step hb (below_alloc wr _)) (below_alloc _ _)).trans (grown_below hgrow (by have := hb.size; simp; omega) (fun b hm => (World.ownsRow.lt HI2.out.2.1 b (mem_blks.1 hm)).1))
              rw [show pcells (mirPart (mirG t) s k) ++ [Value.int .i64 mx, .int .i64 (-my)] = pcells (mirPart (mirG t) s (k + 1)) by rw [mirPart_succ, HG.out, pcells_snoc]] at hown1
              have HN := Lib.hid (show _ ∧ _ from ⟨hres, hown1⟩)
              clear hb hres hown1 hgrow hat
              go_roundw
              case rel => exact ⟨k + 1, cap, _, by omega, by go_num, rfl, HN.out.1, HN.out.2⟩
              case measure => simp [intOf]; omega
            · have f1 : 0 ≤ 2 * t.L + 1 - (k : Int) := by omega
              have f2 : 2 * t.L + 1 - (k : Int) < x.length := by omega
              have f3 : (2 * t.L + 1 - (k : Int)).toNat = swapK t.L k := by
                unfold swapK
                by_cases h1 : (k : Int) = t.L
                · rw [if_pos h1]; omega
                · rw [if_neg h1, if_pos (by omega)]; omega
              clear hsw hx5
              go_wp2_with (at_builtin; refine wpList_append_lies _ rfl _ _ 51 rfl wo.heap.size 55 im _ 2 16 Try.underlying51 him hzm0 hzm1 hzm2 rfl (by decide) (.slice Bn k kn) k _ rfl ((HI2.out.2.1.alloc (.cells #[.int .i64 mx, .int .i64 my] 55)).alloc _) ⟨wr.heap.size + 1, 0, none⟩ 1 1 [.int .i64 mx, .int .i64 (-my)] rfl rfl (World.news_of_block (cs := #[.int .i64 mx, .int .i64 (-my)]) (t := 55) (fr := (0, 0)) (by simpa using heap_alloc_new (wr.alloc (.cells #[.int .i64 mx, .int .i64 my] 55)) (.cells #[.int .i64 mx, .int .i64 (-my)] 55))) (by simp [Value.oneCell']) (by omega) (by unfold maxLen; omega) (by omega) (by have := HI2.out.1.size; simp; omega) (wr.heap.size + 1 + 1) (by simp) ?_; intro g cap w2 hown1 hgrow hat hlt2)
              have hb := HI2.out.1
              have hres : Below wo.heap.size wo w2 := (below_step (below_step hb (below_alloc wr _)) (below_alloc _ _)).trans (grown_below hgrow (by have := hb.size; simp; omega) (fun b hm => (World.ownsRow.lt HI2.out.2.1 b (mem_blks.1 hm)).1))
              rw [show pcells (mirPart (mirG t) s k) ++ [Value.int .i64 mx, .int .i64 (-my)] = pcells (mirPart (mirG t) s (k + 1)) by rw [mirPart_succ, HG.out, pcells_snoc]] at hown1
              have HN := Lib.hid (show _ ∧ _ from ⟨hres, hown1⟩)
              clear hb hres hown1 hgrow hat
              go_roundw
              case rel => exact ⟨k + 1, cap, _, by omega, by go_num, rfl, HN.out.1, HN.out.2⟩
              case measure => simp [intOf]; omega
          · obtain rfl : k = c := by omega
            obtain ⟨hbw, hz, hr0, hlo, vm, bm, ho, hvm, hpn⟩ := HS.out
            have hblt : ∀ b ∈ bm, b < wo.heap.size := fun b hb => ((goodL (goodP 55) 51).lt hvm hb).2
            have hloo := ho.lt
            obtain ⟨vs, bss, hvs, e1, e2, e3, rfl, e5⟩ := hvm
            simp only at e1 e2 e3 ho
            rw [tableOf_len] at e1 e2
            obtain ⟨Bm, km, hsm⟩ := hvs.shape
            rw [e1] at hsm
            subst hsm
            have hb := HI2.out.1
            have ho2 := ho.below hb ho.lt
            have hvs2 := hvs.below hb
            have e32 := fun (i : Nat) u x b h1 h2 h3 => (goodP 55).below (e3 i u x b h1 h2 h3) hb
            have hown0 : wr.ownsRow lo 51 1 (.slice Bm s km) s vs := by
              have := hvs2
              unfold Own at this
              rwa [e1] at this
            have nb1 : ∀ b, b ≤ lo → b ∉ blks (.slice Bm s km) := fun b hb hm => by
              have := hvs.lt hm
              have e : b = lo := by omega
              subst e
              exact hpn (List.mem_append_left _ hm)
            have hrow : OwP 55 wr lo (.slice Bn k kn) (rowOf (mirG t) k s) (blks (.slice Bn k kn)) := ⟨by rw [rowOf_len]; exact World.ownsRow.mono HI2.out.2.1 (by omega), rfl⟩
            have hbk : ∀ b ∈ blks (.slice Bn k kn), wo.heap.size ≤ b := fun b hm => (World.ownsRow.lt HI2.out.2.1 b (mem_blks.1 hm)).1
            have lpo := ho2.lt
            have hfz := ho2.free 2
            obtain ⟨⟨o0, o1, o2⟩, -⟩ := ho2.three
            have HH := Lib.hid (show _ ∧ _ ∧ _ ∧ _ ∧ _ ∧ _ ∧ _ ∧ _ ∧ _ from ⟨HI2.out.2.2, ho2, hvs2, e32, e5, hpn, hrow, hblt, hown0⟩)
            have HE := Lib.hid (show _ ∧ _ from ⟨e1, e2⟩)
            have HNB := Lib.hid nb1
            have HBK := Lib.hid hbk
            have HGL := Lib.hid (show wo.heap.size ≤ wr.heap.size ∧ lo < wo.heap.size ∧ w.heap.size + 2 ≤ lo from ⟨hb.size, hloo, hlo⟩)
            have s12 : s ≤ 12 := by omega
            clear hbw hz hr0 hlo ho hvs e1 e2 e3 e5 hpn hb ho2 hvs2 e32 hown0 nb1 hrow hbk hblt hloo o0 o1
            go_wp2_with (at_builtin; refine wpList_append_lies _ rfl _ _ 22 rfl lo 51 isl (.slice none 0 0) 1 24 Try.underlying22 his hzs0 hzs1 hzs2 rfl (by decide) (.slice Bm s km) s _ rfl (HH.out.2.2.2.2.2.2.2.2.alloc _) ⟨wr.heap.size, 0, none⟩ 1 1 [.slice Bn k kn] rfl rfl (World.news_of_block (cs := #[.slice Bn k kn]) (t := 51) (fr := (0, 0)) (heap_alloc_new wr _)) (by simp [Value.oneCell']) (by omega) (by unfold maxLen; omega) (by omega) (by have := HGL.out; simp; omega) (wr.heap.size + 1) (by simp) ?_; intro g cap w2 hown1 hgrow hat hlt2; have p1 := grown_cell hgrow (HNB.out _ (Nat.le_refl _)) (below_keep (below_alloc _ _) o2); have p2 := grown_free hgrow (HNB.out _ (Nat.le_refl _)) (by simp; omega) (below_keepf (below_alloc _ _) lpo hfz))
            obtain ⟨hI3, ho2, hvs2, e32, e5, hpn, hrow, hblt, -⟩ := HH.out
            obtain ⟨e1, e2⟩ := HE.out
            obtain ⟨hg1, hg2, hg3⟩ := HGL.out
            have hbk := HBK.out
            have hres : MirI w lo [.int .i64 t.L, .int .i64 t.S, .slice (some ⟨b, off, none⟩) t.mv.length ca] ⟨t.L, t.mv.length, tableOf (mirG t) k (s + 1)⟩ (w2.setCell ⟨lo, 2, none⟩ (.slice (some ⟨g, 0, none⟩) (s + 1) cap)) := by
              refine ⟨app_below hI3.1 hgrow (fun b hb => by have := hvs2.lt hb; omega) (by omega), app_row hgrow hI3.2.1 (HNB.out _ (by omega)) (by omega), app_row hgrow hI3.2.2.1 (HNB.out _ (by omega)) (by omega), hg3, ?_⟩
              rw [tableOf_succ]
              refine BoxT.snoc ho2 hvs2 (by rw [e1, tableOf_len]) (by rw [e2, tableOf_len]) e32 e5 hpn hrow (fun b hb hm => ?_) (fun hm => ?_) hgrow hown1 (by rw [tableOf_len]) hat
              · have := hblt b hm
                have := hbk b hb
                omega
              · have := hbk lo hm
                omega
            go_roundw
            case rel => exact ⟨s + 1, by omega, by go_num, hres⟩
            case measure => simp [intOf]; omega
      · obtain rfl : s = t.mv.length := by omega
        have ow0 := World.ownsRow_lit (base := wo.heap.size) (e := 55) (size := 2) wo #[] 0 (Nat.le_refl _) (by unfold maxLen; omega) rfl
        have HO := Lib.hid ow0
        clear ow0 a3
        obtain ⟨c0, rfl⟩ : ∃ c0, c = c0 + 1 := ⟨c - 1, by have := HC.out; omega⟩
        go_wp2
        clear b0 b1 b2 ltr
        go_loopw [11, 12] (fun u i wr => ∃ (k kn : Nat) (Bn : Option Addr), k ≤ c0 ∧ i = .int .i64 k ∧ u = .slice Bn k kn ∧ Below wo.heap.size wo wr ∧ wr.ownsRow wo.heap.size 55 2 (.slice Bn k kn) k (pcells (mirPart (mirG t) t.mv.length k))) (fun _ i _ => c0 - (intOf i).toNat)
        case atStart => exact ⟨0, 0, _, Nat.zero_le _, rfl, rfl, below_alloc _ _, HO.out⟩
        case round =>
          obtain ⟨k, kn, Bn, hk, rfl, rfl, hb, how⟩ := hrel
          have hI := HS.out.below hb
          obtain ⟨⟨b0, b1, b2⟩, -⟩ := hI.2.1.three
          have HI2 := Lib.hid (show _ ∧ _ ∧ _ from ⟨hb, how, hI⟩)
          have ltr := hI.2.1.lt
          have hcc := HC.out
          clear hI hb how
          by_cases hklt : k < c0
          · have hG : mirG t t.mv.length k = ((t.mv.length : Int), 1) := by
              unfold mirG
              rw [if_neg (by omega), if_neg (by omega)]
            have HG := Lib.hid hG
            have k1 : (0 : Int) ≤ k := by omega
            have k2 : (k : Int) ≤ t.L := by omega
            clear hG hcc
            go_wp2_with (at_builtin; refine wpList_append_lies _ rfl _ _ 51 rfl wo.heap.size 55 im _ 2 16 Try.underlying51 him hzm0 hzm1 hzm2 rfl (by decide) (.slice Bn k kn) k _ rfl (HI2.out.2.1.alloc _) ⟨wr.heap.size, 0, none⟩ 1 1 [.int .i64 (t.mv.length : Int), .int .i64 1] rfl rfl (World.news_of_block (cs := #[.int .i64 (t.mv.length : Int), .int .i64 1]) (t := 55) (fr := (0, 0)) (heap_alloc_new wr _)) (by simp [Value.oneCell']) (by omega) (by unfold maxLen; omega) (by omega) (by have := HI2.out.1.size; simp; omega) (wr.heap.size + 1) (by simp) ?_; intro g cap w2 hown1 hgrow hat hlt2)
            have hb := HI2.out.1
            have hres : Below wo.heap.size wo w2 := (below_step hb (below_alloc wr _)).trans (grown_below hgrow (by have := hb.size; simp; omega) (fun b hm => (World.ownsRow.lt HI2.out.2.1 b (mem_blks.1 hm)).1))
            rw [show pcells (mirPart (mirG t) t.mv.length k) ++ [Value.int .i64 (t.mv.length : Int), .int .i64 1] = pcells (mirPart (mirG t) t.mv.length (k + 1)) by rw [mirPart_succ, HG.out, pcells_snoc]] at hown1
            have HN := Lib.hid (show _ ∧ _ from ⟨hres, hown1⟩)
            clear hb hres hown1 hgrow hat
            go_roundw
            case rel => exact ⟨k + 1, cap, _, by omega, by go_num, rfl, HN.out.1, HN.out.2⟩
            case measure => simp [intOf]; omega
          · obtain rfl : k = c0 := by omega
            obtain ⟨hbw, hz, hr0, hlo, vm, bm, ho, hvm, hpn⟩ := HS.out
            have hblt : ∀ b ∈ bm, b < wo.heap.size := fun b hb => ((goodL (goodP 55) 51).lt hvm hb).2
            have hloo := ho.lt
            have hb := HI2.out.1
            obtain ⟨s0, hs0⟩ : ∃ s0 : Nat, t.S = s0 := ⟨t.S.toNat, by have := HK.out.s1; omega⟩
            have hs0n : s0 < t.mv.length := by have := HK.out.s2; omega
            have hrow0 : (tableOf (mirG t) (k + 1) t.mv.length)[s0]? = some (rowOf (mirG t) (k + 1) s0) := by simp [tableOf, hs0n]
            obtain ⟨gm, capm, um, bmm, hvv, hcm, hRm, -, -⟩ := OwL.member (goodP 55) ((goodL (goodP 55) 51).below hvm hb) hrow0
            simp only [tableOf_len] at hvv
            obtain ⟨vs, bss, hvs, e1, e2, e3, rfl, e5⟩ := hvm
            simp only at e1 e2 e3 ho
            rw [tableOf_len] at e1 e2
            subst hvv
            rcases hRm.nil_or with ⟨_, h0⟩ | ⟨gr, cr, rfl, rfl, hcr1, hcr2⟩
            · have := congrArg List.length h0
              rw [rowOf_len, List.length_nil] at this
              omega
            rw [rowOf_len] at hcm hcr1
            unfold maxLen at hcr2
            obtain ⟨mv, hmv⟩ : ∃ mv, mirG t t.mv.length k = mv := ⟨_, rfl⟩
            have hsame : (rowOf (mirG t) (k + 1) s0)[k]? = some mv := by
              rw [rowOf_get _ (Nat.lt_succ_self k), ← hmv]
              unfold mirG
              rw [if_pos hs0n, if_neg (by omega), if_pos (show (k : Int) = t.L + 1 by omega), show t.S.toNat = s0 by omega, show swapK t.L k = t.L.toNat from by unfold swapK; rw [if_neg (by omega), if_pos (show (k : Int) = t.L + 1 by omega)]]
            obtain ⟨mx, my⟩ := mv
            obtain ⟨gq0, gq1⟩ := pcells_get hsame
            have gm0 := (hRm.1.cellAt (k * 2) (by rw [rowOf_len]; omega)).trans gq0
            have gm1 := (hRm.1.cellAt (k * 2 + 1) (by rw [rowOf_len]; omega)).trans gq1
            simp only at gm0 gm1
            have ho2 := ho.below hb ho.lt
            have hvs2 := hvs.below hb
            have e32 := fun (i : Nat) u x b h1 h2 h3 => (goodP 55).below (e3 i u x b h1 h2 h3) hb
            have HVS := Lib.hid (show wr.ownsRow lo 51 1 (.slice (some ⟨gm, 0, none⟩) t.mv.length capm) t.mv.length vs by
              have := hvs2
              unfold Own at this
              rwa [e1] at this)
            have HN1 := Lib.hid (show ∀ b, b ≤ lo → b ∉ blks (.slice (some ⟨gm, 0, none⟩) t.mv.length capm) from fun b hb hm => by
              have := hvs.lt hm
              have e : b = lo := by omega
              subst e
              exact hpn (List.mem_append_left _ hm))
            have HNR := Lib.hid (show ∀ b, b < wo.heap.size → b ∉ blks (.slice Bn k kn) from fun b hb hm => by
              have := (World.ownsRow.lt HI2.out.2.1 b (mem_blks.1 hm)).1
              omega)
            have HVB := Lib.hid (show ∀ b ∈ blks (Value.slice (some ⟨gm, 0, none⟩) t.mv.length capm), b < wo.heap.size from fun b hb => (hvs.lt hb).2)
            have HLO := Lib.hid hloo
            have HSZ3 := Lib.hid (show wo.heap.size ≤ wr.heap.size from hb.size)
            have lpo := ho2.lt
            have hfz := ho2.free 2
            obtain ⟨⟨o0, o1, o2⟩, -⟩ := ho2.three
            have HH := Lib.hid (show _ ∧ _ ∧ _ ∧ _ ∧ _ ∧ _ ∧ _ from ⟨HI2.out.2.2, ho2, hvs2, e32, e5, hpn, hblt⟩)
            have HE := Lib.hid (show _ ∧ _ from ⟨e1, e2⟩)
            have HMV := Lib.hid hmv
            have f1 : 0 ≤ t.S := by omega
            have f2 : t.S < t.mv.length := by omega
            have g1 : 0 ≤ t.L + 1 := by omega
            have g2 : t.L + 1 < ((k + 1 : Nat) : Int) := by omega
            have g4 : t.L + 1 < (k : Int) + 1 := by omega
            have hk4 : k ≤ 4 := by omega
            have hn12 : t.mv.length ≤ 12 := by omega
            have F3 := Lib.hid (show t.S.toNat = s0 by omega)
            have G3 := Lib.hid (show (t.L + 1).toNat = k by omega)
            have hcl : ¬ (k : Int) ≤ t.L := by omega
            clear hbw hz hr0 hlo ho hvs e1 e2 e3 e5 hpn hb ho2 hvs2 e32 hblt hloo o0 o1 hRm hsame gq0 gq1 hrow0 hs0 hmv hcc hs0n
            have HWR := Lib.hid (show IntKind.i64.wrap (t.L + 1) = t.L + 1 from IntWalk.i64_in _ (by omega))
            have f3 := F3.out
            go_upto_region 23 with fail
            have hpos := HSZ3.out
            have hloo := HLO.out
            obtain ⟨g1', cap1, w4, hrun1, hownA, hgA, hatA, hltA⟩ := run_append_lies (P := Try.prog) (w := (wr.alloc (.cells #[.int .i64 mx, .int .i64 my] 55)).drew) 51 51 wo.heap.size 55 im _ 2 16 Try.underlying51 him hzm0 hzm1 hzm2 rfl (by decide) (.slice Bn k kn) k (pcells (mirPart (mirG t) t.mv.length k)) (HI2.out.2.1.alloc _).drew ⟨wr.heap.size, 0, none⟩ 1 1 [.int .i64 mx, .int .i64 my] rfl (World.news_of_block (cs := #[.int .i64 mx, .int .i64 my]) (t := 55) (fr := (0, 0)) (heap_alloc_new wr _)) (by simp [Value.oneCell']) (by omega) (by unfold maxLen; omega) (by omega) (by simp; omega) (wr.heap.size + 1) (by simp)
            have hrun1 : (heldAppend _ _ _).run _ _ = _ := hrun1
            have hgA := undrew hgA
            have p1 := grown_cell hgA (HNR.out _ HLO.out) (below_keep (below_alloc _ _) o2)
            have p2 := grown_free hgA (HNR.out _ HLO.out) (by simp; omega) (below_keepf (below_alloc _ _) lpo hfz)
            have hszA : wr.heap.size + 1 ≤ w4.heap.size := by have := hgA.size; simpa using this
            have hloA : lo < w4.heap.size := by omega
            have HVS4 := Lib.hid (rows_same (HVS.out.alloc (.cells #[.int .i64 mx, .int .i64 my] 55)) (fun b hb => hgA.block b (by have := HVB.out b hb; have := HSZ3.out; simp; omega) (fun e => HNR.out b (HVB.out b hb) (mem_blks.2 e.symm))))
            obtain ⟨g2', cap2, w5, hrun2, hownB, hgB, hatB, hltB⟩ := run_append_lies (P := Try.prog) (w := w4.alloc (.cells #[.slice (some ⟨g1', 0, none⟩) (k + 1) cap1] 51)) 22 22 lo 51 isl _ 1 24 Try.underlying22 his hzs0 hzs1 hzs2 rfl (by decide) (.slice (some ⟨gm, 0, none⟩) t.mv.length capm) t.mv.length vs (HVS4.out.alloc _) ⟨w4.heap.size, 0, none⟩ 1 1 [.slice (some ⟨g1', 0, none⟩) (k + 1) cap1] rfl (World.news_of_block (cs := #[.slice (some ⟨g1', 0, none⟩) (k + 1) cap1]) (t := 51) (fr := (0, 0)) (heap_alloc_new w4 _)) (by simp [Value.oneCell']) (by omega) (by unfold maxLen; omega) (by omega) (by simp; omega) (w4.heap.size + 1) (by simp)
            have hrun2 : (heldAppend _ _ _).run _ _ = _ := hrun2
            have r1 := grown_cell hgB (HN1.out _ (Nat.le_refl _)) (below_keep (below_alloc _ _) p1)
            have r2 := grown_free hgB (HN1.out _ (Nat.le_refl _)) (by simp; omega) (below_keepf (below_alloc _ _) (by omega) p2)
            have HAA := Lib.hid (show _ ∧ _ ∧ _ ∧ _ ∧ _ ∧ _ from ⟨hownA, hgA, hatA, hownB, hgB, hatB⟩)
            clear hownA hgA hatA hownB hgB hatB hpos hloo
            have g3 := G3.out
            have hwr := HWR.out
            go_region
            clear hrun1 hrun2 hwr g3 f3
            all_goals
                obtain ⟨hownA, hgA, hatA, hownB, hgB, hatB⟩ := HAA.out
                obtain ⟨hI3, ho3, hvs3, e33, e5, hpo, hblt⟩ := HH.out
                obtain ⟨e1, e2⟩ := HE.out
                have hlt0 := HLO.out
                have hsz3 := HSZ3.out
                have hw2 := hI3.2.2.2.1
                have hwA := below_alloc wr (.cells #[.int .i64 mx, .int .i64 my] 55)
                have ho4 := grown_row hgA (ho3.alloc _) (HNR.out _ hlt0)
                have hv4 : Own w4 51 lo (.slice (some ⟨gm, 0, none⟩) t.mv.length capm) vs := by unfold Own; rw [e1]; exact HVS4.out
                have e34 := fun (i : Nat) u x' b h1 h2 h3 => grown_keep (goodP 55) hgA ((goodP 55).below (e33 i u x' b h1 h2 h3) hwA) (fun c hc hm => HNR.out c (hblt c (List.mem_append_right _ (mem_bss h3 hc))) hm)
                have hrow : OwP 55 w4 lo (.slice (some ⟨g1', 0, none⟩) (k + 1) cap1) (rowOf (mirG t) (k + 1) t.mv.length) [g1'] := by
                  refine OwP.snoc (World.ownsRow.mono hownA (by omega)) ?_ (by rw [rowOf_len]) rfl
                  rw [← mirPart_full, mirPart_succ, HMV.out, pcells_snoc]
                have hg1 : wo.heap.size ≤ g1' := by
                  rcases hatA with h | h
                  · exact (World.ownsRow.lt HI2.out.2.1 g1' h).1
                  · have : g1' = wr.heap.size + 1 := by simpa using h
                    omega
                have hbA := (below_step hI3.1 hwA).trans (grown_below hgA (B := w.heap.size) (by simp; have := hI3.1.size; omega) (fun b hm => by have := (World.ownsRow.lt HI2.out.2.1 b (mem_blks.1 hm)).1; omega))
                have hr4 := grown_row hgA (hI3.2.1.alloc _) (HNR.out _ (by omega))
                have hz4 := grown_row hgA (hI3.2.2.1.alloc _) (HNR.out _ (by omega))
                have hres : MirI w lo [.int .i64 t.L, .int .i64 t.S, .slice A t.mv.length ca] ⟨t.L, t.mv.length, tableOf (mirG t) (k + 1) (t.mv.length + 1)⟩ (w5.setCell ⟨lo, 2, none⟩ (.slice (some ⟨g2', 0, none⟩) (t.mv.length + 1) cap2)) := by
                  refine ⟨app_below hbA hgB (fun b hb => by have := hv4.lt hb; omega) (by omega), app_row hgB hr4 (HN1.out _ (by omega)) (by omega), app_row hgB hz4 (HN1.out _ (by omega)) (by omega), hw2, ?_⟩
                  rw [tableOf_succ]
                  refine BoxT.snoc ho4 hv4 (by rw [e1, tableOf_len]) (by rw [e2, tableOf_len]) e34 e5 hpo hrow (fun b hb hm => ?_) (fun hm => ?_) hgB hownB (by rw [tableOf_len]) hatB
                  · simp only [List.mem_singleton] at hb
                    have := hblt b hm
                    omega
                  · simp only [List.mem_singleton] at hm
                    omega
                generalize w5.setCell ⟨lo, 2, none⟩ (.slice (some ⟨g2', 0, none⟩) (t.mv.length + 1) cap2) = w6 at hres ⊢
                obtain ⟨kbw, -, kz, klo, vm', bm', ko, kvm, kpn⟩ := hres
                obtain ⟨Am, km, rfl⟩ := OwL.shape kvm
                simp only [tableOf_len] at ko kvm
                have hO : OwT w6 lo (.agg #[.int .i64 t.L, .int .i64 t.mv.length, .slice Am (t.mv.length + 1) km]) ⟨t.L, t.mv.length, tableOf (mirG t) (k + 1) (t.mv.length + 1)⟩ bm' := ⟨_, bm', rfl, kvm, rfl, (goodL (goodP _) _).nodup kvm⟩
                have HT := Lib.hid (l02Told_anyM _ _ w6 hO.rd)
                obtain ⟨⟨q0, q1, q2⟩, -⟩ := ko.three
                have HH2 := Lib.hid (show _ ∧ _ ∧ _ ∧ _ from ⟨kbw, kz, hO, klo⟩)
                have hres2 := told_mir HK.out HOK.out HC.out
                clear hownA hgA hatA hownB hgB hatB hI3 ho3 hvs3 e33 e5 hpo hblt e1 e2 hlt0 hsz3 hw2 hwA ho4 hv4 e34 hrow hg1 hbA hr4 hz4 kbw kz klo ko kvm kpn hO o2 lpo hfz p1 p2 r1 r2 gm0 gm1
                rcases hres2 with ⟨hokt, hmr⟩ | ⟨hokt, hmr⟩
                · rw [if_pos hokt] at HT
                  have HOT := Lib.hid (show toldResM ⟨t.L, t.mv.length, tableOf (mirG t) (k + 1) (t.mv.length + 1)⟩ = (⟨t.L, t.mv.length, tableOf (mirG t) (k + 1) (t.mv.length + 1)⟩, 0) by simp [toldResM, hokt])
                  rw [HOT.out] at HT
                  have HMR := Lib.hid hmr
                  clear hokt hmr
                  go_wp2_with fail
                  refine HT.out.mono ?_
                  rintro e w3 ⟨rfl, hb⟩
                  obtain ⟨hbw, hz, hO, hlo⟩ := HH2.out
                  have hz3 := hz.below hb hz.lt
                  have HF := Lib.hid (own_storedM (w := w) hz3 (below_step hbw hb) (by omega) (by omega) (goodT.below hO hb))
                  obtain ⟨⟨z0, z1, z2⟩, zf⟩ := hz3.three
                  have lz := hz3.lt
                  clear hbw hz hO hlo hz3 hb q0 q1 q2
                  go_wp2
                  obtain ⟨⟨y0, y1, y2⟩, eO, eB⟩ := HF.out
                  rw [HMR.out]
                  generalize (((w3.setCell ⟨w.heap.size + 1, 0, none⟩ (.int .i64 t.L)).setCell ⟨w.heap.size + 1, 1, none⟩ (.int .i64 t.mv.length)).setCell ⟨w.heap.size + 1, 2, none⟩ (.slice Am (t.mv.length + 1) km)) = W2 at *
                  refine bodyPost_ret (v := .tuple #[.agg #[.int .i64 t.L, .int .i64 t.mv.length, .slice Am (t.mv.length + 1) km], .int .i64 0]) (by simp [results, Try.results47, go_sem, y0, y1, y2]) rfl ?_
                  exact ⟨_, _, rfl, eO, eB⟩
                · rw [if_neg (by rw [hokt]; decide)] at HT
                  have HOT := Lib.hid (show toldResM ⟨t.L, t.mv.length, tableOf (mirG t) (k + 1) (t.mv.length + 1)⟩ = (⟨0, 0, []⟩, 3) by simp [toldResM, hokt])
                  rw [HOT.out] at HT
                  have HMR := Lib.hid hmr
                  clear hokt hmr
                  go_wp2_with fail
                  refine HT.out.mono ?_
                  rintro e w3 ⟨rfl, hb⟩
                  obtain ⟨hbw, hz, hO, hlo⟩ := HH2.out
                  have hz3 := hz.below hb hz.lt
                  have HF := Lib.hid (own_storedM (w := w) (A := none) (n := 0) (k := 0) (L := 0) (S := 0) hz3 (below_step hbw hb) (by omega) hz3.lt (t := ⟨0, 0, []⟩) ⟨_, [], rfl, owL_nil _ _ _ _, rfl, by simp⟩)
                  obtain ⟨⟨z0, z1, z2⟩, zf⟩ := hz3.three
                  have lz := hz3.lt
                  clear hbw hz hO hlo hz3 hb q0 q1 q2
                  go_wp2
                  obtain ⟨⟨y0, y1, y2⟩, eO, eB⟩ := HF.out
                  rw [HMR.out]
                  generalize (((w3.setCell ⟨w.heap.size + 1, 0, none⟩ (.int .i64 0)).setCell ⟨w.heap.size + 1, 1, none⟩ (.int .i64 0)).setCell ⟨w.heap.size + 1, 2, none⟩ (.slice none 0 0)) = W2 at *
                  refine bodyPost_ret (v := .tuple #[.agg #[.int .i64 0, .int .i64 0, .slice none 0 0], .int .i64 3]) (by simp [results, Try.results47, go_sem, y0, y1, y2]) rfl ?_
                  exact ⟨_, _, rfl, eO, eB⟩
  · have hok' : okT t = false := by simpa using hok
    clear hok a3
    have HOK := Lib.hid hok'
    go_enter Try.func47, Try.ntmps47
    go_wp2_with fail
    refine HV.out.mono ?_
    generalize (w.alloc (.cells #[.int .i64 t.L, .int .i64 t.S, .slice A t.mv.length ca] 24)).alloc (.cells #[.int .i64 0, .int .i64 0, .slice none 0 0] 24) = W0 at *
    rintro e w1 ⟨rfl, hq⟩
    have hz1 := HZ.out.below hq HZ.out.lt
    have HH := Lib.hid (own_storedM (w := w) (A := none) (n := 0) (k := 0) (L := 0) (S := 0) hz1 (below_step HB.out hq) (by omega) hz1.lt (t := ⟨0, 0, []⟩) ⟨_, [], rfl, owL_nil _ _ _ _, rfl, by simp⟩)
    obtain ⟨⟨z0, z1, z2⟩, zf⟩ := hz1.three
    have lz := hz1.lt
    clear hz1 hq
    go_wp2
    obtain ⟨⟨y0, y1, y2⟩, eO, eB⟩ := HH.out
    have hres : mirRes t = (⟨0, 0, []⟩, 1) := by simp [mirRes, HOK.out]
    rw [hres]
    generalize (((w1.setCell ⟨w.heap.size + 1, 0, none⟩ (.int .i64 0)).setCell ⟨w.heap.size + 1, 1, none⟩ (.int .i64 0)).setCell ⟨w.heap.size + 1, 2, none⟩ (.slice none 0 0)) = W2 at *
    refine bodyPost_ret (v := .tuple #[.agg #[.int .i64 0, .int .i64 0, .slice none 0 0], .int .i64 1]) (by simp [results, Try.results47, go_sem, y0, y1, y2]) rfl ?_
    exact ⟨_, _, rfl, eO, eB⟩
theorem specMir_any (v : Value) (t : TData) (w : World) (h : RdT w v t) :
    Calls Try.prog 47 #[v] w fun e w' => ∃ u, e = .returned (.tuple #[u, .int .i64 (mirRes t).2]) ∧ RdT w' u (mirRes t).1 ∧ Below w.heap.size w w' :=
  (specMir_own v t w h).mono fun e w' ⟨u, bs, he, hu, hb⟩ => ⟨u, he, hu.rd, hb⟩
end Go.Proofs.Ytahgekjpnmmooaa
