/-
  The model's test of a wanderer: true just for what 'okW' says.
-/
import Derived.Test.YtdkalefepdlccaaVw3
namespace Go.Proofs.Ytdkalefepdlccaa
open Go.RowKit

set_option maxRecDepth 100000 in
set_option maxHeartbeats 6400000 in
theorem l04Ok_any (p : Nat) (r : WData) (w : World) (h : AtW w p r) :
    Calls Try.prog 117 #[.pointer (some ⟨p, 0, none⟩)] w fun e w' => e = .returned (.bool (okW r)) ∧ Below w.heap.size w w' := by
  obtain ⟨va, vb, c0, c1, c2, hst, hmv⟩ := h
  obtain ⟨A, ka, rfl⟩ := rdI_shape hst
  obtain ⟨B, kb, rfl, a1, a2, a3⟩ := RdL.open hmv
  unfold maxLen at a2
  obtain ⟨L, st, mv⟩ := r
  simp only at *
  have HSL := Lib.hid (l00Rises_any _ st mv.length w hst)
  have HCC := Lib.hid (show _ ∧ _ ∧ _ from ⟨c0, c1, c2⟩)
  have ltp : p < w.heap.size := World.block_lt_of_cell? _ _ c0
  clear hst hmv
  by_cases h1 : 1 ≤ L ∧ L ≤ 3
  · have HI1 : Hid (∀ W, Calls Try.prog 118 #[.int .i64 L, .int .i64 1, .int .i64 3] W fun e w' => e = .returned (.bool true) ∧ W = w') := Lib.hid (fun W => by have := l00In_any L 1 3 W; rwa [decide_eq_true h1] at this)
    by_cases h2 : 1 ≤ (mv.length : Int) ∧ (mv.length : Int) ≤ 5
    · have HI2 : Hid (∀ W, Calls Try.prog 118 #[.int .i64 (mv.length : Int), .int .i64 1, .int .i64 5] W fun e w' => e = .returned (.bool true) ∧ W = w') := Lib.hid (fun W => by have := l00In_any (mv.length : Int) 1 5 W; rwa [decide_eq_true h2] at this)
      have w0 : IntKind.i64.wrap ((mv.length : Int) - 1) = (mv.length : Int) - 1 := IntWalk.i64_in _ (by omega)
      cases hri : rises mv.length st
      · have HRI := Lib.hid hri
        rw [hri] at HSL
        clear h1 h2 hri a3 w0
        go_enter Try.func117, Try.ntmps117
        go_wp2_with (first | (go_at_call 118; (with_reducible refine (HI1.out _).mono ?_); rintro e w' ⟨rfl, rfl⟩) | (go_at_call 118; (with_reducible refine (HI2.out _).mono ?_); rintro e w' ⟨rfl, rfl⟩) | (go_at_call 145; fail))
        refine HSL.out.mono ?_
        rintro e ws ⟨rfl, hqs⟩
        obtain ⟨c0, c1, c2⟩ : _ ∧ _ ∧ _ := ⟨(hqs.cell _).trans c0, (hqs.cell _).trans c1, (hqs.cell _).trans c2⟩
        have HQS := Lib.hid hqs
        clear hqs
        go_wp2
        go_ret
        exact ⟨ret_bool (by simp [okW, HRI.out]), HQS.out.below⟩
      · have HRI := Lib.hid hri
        rw [hri] at HSL
        obtain ⟨h1a, h1b⟩ := h1
        obtain ⟨h2a, h2b⟩ := h2
        clear hri w0
        go_enter Try.func117, Try.ntmps117
        go_wp2_with (first | (go_at_call 118; (with_reducible refine (HI1.out _).mono ?_); rintro e w' ⟨rfl, rfl⟩) | (go_at_call 118; (with_reducible refine (HI2.out _).mono ?_); rintro e w' ⟨rfl, rfl⟩) | (go_at_call 145; fail))
        refine HSL.out.mono ?_
        rintro e ws ⟨rfl, hqs⟩
        obtain ⟨c0, c1, c2⟩ : _ ∧ _ ∧ _ := ⟨(hqs.cell _).trans c0, (hqs.cell _).trans c1, (hqs.cell _).trans c2⟩
        have HQS := Lib.hid hqs
        clear hqs
        go_wp2
        clear c0 c1 c2
        go_loopw [4] (fun i wr => ∃ s : Nat, s ≤ mv.length ∧ i = .int .i64 s ∧ Below w.heap.size w wr ∧ (mv.take s).all (okRowW mv.length L) = true) (fun i _ => mv.length - (intOf i).toNat)
        case atStart => exact ⟨0, Nat.zero_le _, rfl, HQS.out.below, by simp⟩
        case round =>
          obtain ⟨s, hs, rfl, hb, hp⟩ := hrel
          have HP := Lib.hid hp
          have HQ := Lib.hid hb
          have c0 := below_keep hb HCC.out.1
          have c1 := below_keep hb HCC.out.2.1
          have c2 := below_keep hb HCC.out.2.2
          clear hp
          by_cases hlt : s < mv.length
          · obtain ⟨b, off, u, x, rfl, hx, hc, hRx⟩ := a3 s hlt
            obtain ⟨C, capx, rfl, x1, x2, x3⟩ := RdL.open hRx
            unfold maxLen at x2
            have gc := below_keep hb hc
            have HX := Lib.hid hx
            have HGC := Lib.hid hc
            have i1 : (0 : Int) ≤ s := by omega
            have i2 : (s : Int) < mv.length := by omega
            have w1 : IntKind.i64.wrap (L + 2) = L + 2 := IntWalk.i64_in _ (by omega)
            clear hx hc hRx hb a3
            by_cases hxl : (x.length : Int) = L + 2
            · have d5 : ((x.length : Int) != L + 2) = false := by simpa using hxl
              have HXL := Lib.hid hxl
              have hle1 : (x.length : Int) ≤ L + 2 := by omega
              have hle2 : L + 2 ≤ (x.length : Int) := by omega
              clear hxl
              go_wp2
              go_quiet (fail)
              clear w1 d5
              go_wp2
              clear c0 c1 c2 gc
              go_loopw [5] (fun i wi => ∃ k : Nat, k ≤ x.length ∧ i = .int .i64 k ∧ Below w.heap.size w wi ∧ okColsTo mv.length L x k = true) (fun i _ => x.length - (intOf i).toNat)
              case atStart => exact ⟨0, Nat.zero_le _, rfl, below_step HQ.out (below_drewN' _ _), by simp [okColsTo]⟩
              case round =>
                obtain ⟨k, hk, rfl, hq, hp⟩ := hrel
                have HP2 := Lib.hid hp
                have HQ2 := Lib.hid hq
                have c0 := below_keep hq HCC.out.1
                have c1 := below_keep hq HCC.out.2.1
                have c2 := below_keep hq HCC.out.2.2
                have gc := below_keep hq HGC.out
                clear hp
                by_cases hklt : k < x.length
                · obtain ⟨bx, offx, ul, l, rfl, hl, hcl, hRl⟩ := x3 k hklt
                  obtain ⟨Cl, kl, rfl, y1, y2, y3⟩ := RdP.open hRl
                  unfold maxLen at y2
                  have gl := below_keep hq hcl
                  have HLL := Lib.hid hl
                  have j1 : (0 : Int) ≤ k := by omega
                  have j2 : (k : Int) < x.length := by omega
                  have j3 : (k : Int) < L + 2 := by omega
                  clear hcl hRl hl x3 hq
                  go_wp2
                  clear c0 c1 c2 gc gl
                  go_loopw [7] (fun i wj => ∃ m : Nat, m ≤ l.length ∧ i = .int .i64 m ∧ Below w.heap.size w wj ∧ (List.range m).all (okListAt mv.length L k l) = true) (fun i _ => l.length - (intOf i).toNat)
                  case atStart => exact ⟨0, Nat.zero_le _, rfl, HQ2.out, by simp⟩
                  case round =>
                    obtain ⟨m, hm, rfl, hz, hp⟩ := hrel
                    have HP3 := Lib.hid hp
                    have HQ3 := Lib.hid hz
                    have c0 := below_keep hz HCC.out.1
                    have c1 := below_keep hz HCC.out.2.1
                    have c2 := below_keep hz HCC.out.2.2
                    clear hp
                    by_cases hmlt : m < l.length
                    · obtain ⟨bt, offt, tx, ty, rfl, ht, hct, hdt⟩ := y3 m hmlt
                      have gt := below_keep hz hct
                      have gd := below_keep hz hdt
                      have HT := Lib.hid ht
                      have HTC := Lib.hid (show _ ∧ _ from ⟨hct, hdt⟩)
                      have q1 : (0 : Int) ≤ m := by omega
                      have q2 : (m : Int) < l.length := by omega
                      have HM := Lib.hid (fun W => l04Move_any tx ty mv.length L k W (by omega) (by omega) h1a h1b)
                      clear ht hct hdt
                      cases hin : okMvW mv.length L k (tx, ty)
                      · have HN := Lib.hid (show okListAt mv.length L k l m = false by rw [okListAt_eq HT.out, hin]; rfl)
                        rw [hin] at HM
                        clear hin y3 hz
                        go_wp2_with fail
                        go_region_held3 (fun W => W.cell? ⟨p, 0, none⟩ = some (.int .i64 L) ∧ W.cell? ⟨p, 1, none⟩ = some (.slice A st.length ka) ∧ W.cell? ⟨p, 2, none⟩ = some (.slice (some ⟨b, off, none⟩) mv.length kb) ∧ W.cell? ⟨bt, offt + m * 2, none⟩ = some (.int .i64 tx) ∧ W.cell? ⟨bt, offt + m * 2 + 1, none⟩ = some (.int .i64 ty))
                          (first | go_keep | (go_split_ands; refine ⟨?_, ?_, ?_, ?_, ?_⟩ <;> exact below_keep hbk (by assumption)))
                          ((go_at_call 146; (with_reducible refine (HM.out _).mono ?_); rintro e wz ⟨rfl, hbk⟩; have HC1 := Lib.hid (show Below wr.heap.size wr wz from below_step (by first | exact Below.refl _ _ | exact below_drew _ | exact below_drewN' _ _) hbk)))
                        go_wp2
                        go_ret
                        exact ⟨ret_bool (okW_row (r := ⟨L, st, mv⟩) HX.out (okCols_not HLL.out (okList_not hmlt HN.out))).symm, below_step HQ3.out HC1.out⟩
                      · rw [hin] at HM
                        by_cases h0 : m = 0
                        · have HN := Lib.hid (show okListAt mv.length L k l m = true by rw [okListAt_eq HT.out, hin]; simp [h0])
                          have e1 : decide ((0 : Int) < (m : Int)) = false := by simp; omega
                          have e5 : decide (0 < m) = false := by simp; omega
                          clear hin y3 hz h0
                          go_wp2_with fail
                          go_region_held3 (fun W => W.cell? ⟨p, 0, none⟩ = some (.int .i64 L) ∧ W.cell? ⟨p, 1, none⟩ = some (.slice A st.length ka) ∧ W.cell? ⟨p, 2, none⟩ = some (.slice (some ⟨b, off, none⟩) mv.length kb) ∧ W.cell? ⟨bt, offt + m * 2, none⟩ = some (.int .i64 tx) ∧ W.cell? ⟨bt, offt + m * 2 + 1, none⟩ = some (.int .i64 ty))
                            (first | go_keep | (go_split_ands; refine ⟨?_, ?_, ?_, ?_, ?_⟩ <;> exact below_keep hbk (by assumption)))
                            ((go_at_call 146; (with_reducible refine (HM.out _).mono ?_); rintro e wz ⟨rfl, hbk⟩; have HC1 := Lib.hid (show Below wr.heap.size wr wz from below_step (by first | exact Below.refl _ _ | exact below_drew _ | exact below_drewN' _ _) hbk)))
                          go_wp2_with fail
                          go_quiet (fail)
                          go_wp2
                          go_roundw
                          case rel => exact ⟨m + 1, by omega, by go_num, below_step HQ3.out (below_step HC1.out (below_drewN' _ _)), okList_succ HP3.out HN.out⟩
                          case measure => simp [intOf]; omega
                        · obtain ⟨bt', offt', px, py, hA2, hpv, hcp, hdp⟩ := y3 (m - 1) (by omega)
                          cases hA2
                          have e1 : decide ((0 : Int) < (m : Int)) = true := by simp; omega
                          have e5 : decide (0 < m) = true := by simp; omega
                          have e2 : (0 : Int) ≤ (m : Int) - 1 := by omega
                          have e3 : (m : Int) - 1 < l.length := by omega
                          have e4 : ((m : Int) - 1).toNat = m - 1 := by omega
                          have e6 : (1 : Int) ≤ (m : Int) := by omega
                          have e7 : (m : Int) < (l.length : Int) + 1 := by omega
                          have HPC := Lib.hid (show _ ∧ _ from ⟨below_keep hz hcp, below_keep hz hdp⟩)
                          have HPV := Lib.hid hpv
                          clear y3 hz hcp hdp hpv
                          have HIN := Lib.hid hin
                          have H0 := Lib.hid h0
                          clear hin h0
                          go_wp2_with fail
                          go_region_held3 (fun W => W.cell? ⟨p, 0, none⟩ = some (.int .i64 L) ∧ W.cell? ⟨p, 1, none⟩ = some (.slice A st.length ka) ∧ W.cell? ⟨p, 2, none⟩ = some (.slice (some ⟨b, off, none⟩) mv.length kb) ∧ W.cell? ⟨bt, offt + m * 2, none⟩ = some (.int .i64 tx) ∧ W.cell? ⟨bt, offt + m * 2 + 1, none⟩ = some (.int .i64 ty))
                            (first | go_keep | (go_split_ands; refine ⟨?_, ?_, ?_, ?_, ?_⟩ <;> exact below_keep hbk (by assumption)))
                            ((go_at_call 146; (with_reducible refine (HM.out _).mono ?_); rintro e wz ⟨rfl, hbk⟩; have HC1 := Lib.hid (show Below wr.heap.size wr wz from below_step (by first | exact Below.refl _ _ | exact below_drew _ | exact below_drewN' _ _) hbk)))
                          obtain ⟨gp, gq⟩ := HPC.out
                          have gp := below_keep HC1.out gp
                          have gq := below_keep HC1.out gq
                          have gt := below_keep (below_step HQ3.out HC1.out) HTC.out.1
                          have gd := below_keep (below_step HQ3.out HC1.out) HTC.out.2
                          go_wp2_with fail
                          have w2 : IntKind.i64.wrap ((m : Int) - 1) = (m : Int) - 1 := IntWalk.i64_in _ (by omega)
                          by_cases hA : px < tx
                          · have f1 : decide (px < tx) = true := decide_eq_true hA
                            have HN := Lib.hid (show okListAt mv.length L k l m = true by rw [okListAt_eq2 HT.out HPV.out, HIN.out]; simp [moveLt, hA])
                            clear hA
                            go_quiet (fail)
                            clear w2
                            go_wp2
                            go_roundw
                            case rel => exact ⟨m + 1, by omega, by go_num, below_step HQ3.out (below_step HC1.out (below_drewN' _ _)), okList_succ HP3.out HN.out⟩
                            case measure => simp [intOf]; omega
                          · have f1 : decide (px < tx) = false := decide_eq_false hA
                            by_cases hB : px = tx
                            · have f2 : (px == tx) = true := by simp [hB]
                              by_cases hC : py < ty
                              · have f3 : decide (py < ty) = true := decide_eq_true hC
                                have HN := Lib.hid (show okListAt mv.length L k l m = true by rw [okListAt_eq2 HT.out HPV.out, HIN.out]; simp [moveLt, hB, hC])
                                clear hA hB hC
                                go_quiet (fail)
                                clear w2
                                go_wp2
                                go_roundw
                                case rel => exact ⟨m + 1, by omega, by go_num, below_step HQ3.out (below_step HC1.out (below_drewN' _ _)), okList_succ HP3.out HN.out⟩
                                case measure => simp [intOf]; omega
                              · have f3 : decide (py < ty) = false := decide_eq_false hC
                                have HN := Lib.hid (show okListAt mv.length L k l m = false by rw [okListAt_eq2 HT.out HPV.out]; simp [moveLt, H0.out, hB, hC])
                                clear hA hB hC
                                go_quiet (fail)
                                clear w2
                                go_wp2
                                go_ret
                                exact ⟨ret_bool (okW_row (r := ⟨L, st, mv⟩) HX.out (okCols_not HLL.out (okList_not hmlt HN.out))).symm, below_step HQ3.out (below_step HC1.out (below_drewN' _ _))⟩
                            · have f2 : (px == tx) = false := by simpa using hB
                              have HN := Lib.hid (show okListAt mv.length L k l m = false by rw [okListAt_eq2 HT.out HPV.out]; simp [moveLt, H0.out, hA, hB])
                              clear hA hB
                              go_quiet (fail)
                              clear w2
                              go_wp2
                              go_ret
                              exact ⟨ret_bool (okW_row (r := ⟨L, st, mv⟩) HX.out (okCols_not HLL.out (okList_not hmlt HN.out))).symm, below_step HQ3.out (below_step HC1.out (below_drewN' _ _))⟩
                    · have HLO := Lib.hid (okList_all HP3.out hm hmlt)
                      clear y3 hz
                      go_wp2
                      go_roundw
                      case rel => exact ⟨k + 1, by omega, by go_num, HQ3.out, okCols_succ HP2.out HLL.out HLO.out⟩
                      case measure => simp [intOf]; omega
                · clear x3 hq
                  have j9 : ¬ (k : Int) < L + 2 := by omega
                  go_wp2
                  go_roundw
                  case rel => exact ⟨s + 1, by omega, by go_num, HQ2.out, all_snocW HX.out HP.out (okRowW_of HXL.out (by have := HP2.out; rwa [show k = x.length by omega] at this))⟩
                  case measure => simp [intOf]; omega
            · have d5 : ((x.length : Int) != L + 2) = true := by simpa using hxl
              have HXL := Lib.hid hxl
              clear hxl
              go_wp2
              go_quiet (fail)
              clear w1 d5
              go_wp2
              go_ret
              exact ⟨ret_bool (okW_row (r := ⟨L, st, mv⟩) HX.out (by simp [okRowW, HXL.out])).symm, below_step HQ.out (below_drewN' _ _)⟩
          · clear hb a3
            go_wp2
            go_ret
            exact ⟨ret_bool (okW_all (r := ⟨L, st, mv⟩) ⟨h1a, h1b⟩ ⟨h2a, h2b⟩ HRI.out (by have := HP.out; rwa [List.take_of_length_le (by omega)] at this)).symm, HQ.out⟩
    · have HI2 : Hid (∀ W, Calls Try.prog 118 #[.int .i64 (mv.length : Int), .int .i64 1, .int .i64 5] W fun e w' => e = .returned (.bool false) ∧ W = w') := Lib.hid (fun W => by have := l00In_any (mv.length : Int) 1 5 W; rwa [decide_eq_false h2] at this)
      have H2 := Lib.hid h2
      clear h1 h2 a3
      go_enter Try.func117, Try.ntmps117
      go_wp2_with (first | (go_at_call 118; (with_reducible refine (HI1.out _).mono ?_); rintro e w' ⟨rfl, rfl⟩) | (go_at_call 118; (with_reducible refine (HI2.out _).mono ?_); rintro e w' ⟨rfl, rfl⟩))
      go_ret
      exact ⟨ret_bool (by have := H2.out; simp [okW]; omega), Below.refl _ _⟩
  · have HI1 : Hid (∀ W, Calls Try.prog 118 #[.int .i64 L, .int .i64 1, .int .i64 3] W fun e w' => e = .returned (.bool false) ∧ W = w') := Lib.hid (fun W => by have := l00In_any L 1 3 W; rwa [decide_eq_false h1] at this)
    have D1 := Lib.hid (show decide (1 ≤ L ∧ L ≤ 3) = false from decide_eq_false h1)
    clear h1 a3
    go_enter Try.func117, Try.ntmps117
    go_wp2_with (go_at_call 118; (with_reducible refine (HI1.out _).mono ?_); rintro e w' ⟨rfl, rfl⟩)
    go_ret
    exact ⟨ret_bool (by simp [okW, D1.out]), Below.refl _ _⟩

end Go.Proofs.Ytdkalefepdlccaa
