/-
  The program's test of a turner: true just for what 'okT' says.
-/
import Derived.Test.YtdkalefepdlccaaV2
namespace Go.Proofs.Ytdkalefepdlccaa
open Go.RowKit

theorem states_any (v : Value) (t : TData) (w : World) (h : RdT w v t) :
    Calls Try.prog 131 #[v] w fun e w' => e = .returned (.int .i64 (t.mv.length : Int)) ∧ Below w.heap.size w w' := by
  obtain ⟨m, rfl, hm⟩ := h
  obtain ⟨A, cap, rfl, a1, a2, -⟩ := RdL.open hm
  unfold maxLen at a2
  clear hm
  go_enter Try.func131, Try.ntmps131
  go_wp2
  go_ret
  exact ⟨rfl, below_alloc _ _⟩

set_option maxHeartbeats 1600000 in
theorem ValidTurner_any (v : Value) (t : TData) (w : World) (h : RdT w v t) :
    Calls Try.prog 100 #[v] w fun e w' => e = .returned (.bool (okT t)) ∧ Below w.heap.size w w' := by
  have hV := fun W (hb : Below w.heap.size w W) => states_any v t W (keepsT _ _ _ _ h hb)
  obtain ⟨L, S, mv⟩ := t
  obtain ⟨m, rfl, hm⟩ := h
  obtain ⟨A, cap, rfl, a1, a2, a3⟩ := RdL.open hm
  unfold maxLen at a2
  simp only at *
  have HV := Lib.hid hV
  clear hV hm
  have hx := Row.new w [.int .i64 L, .int .i64 S, .slice A mv.length cap] 31
  have HR := Lib.hid hx
  have HB := Lib.hid (below_alloc w (.cells #[.int .i64 L, .int .i64 S, .slice A mv.length cap] 31))
  clear hx
  by_cases h1 : 1 ≤ L ∧ L ≤ 3
  · have d1 : decide (1 ≤ L ∧ L ≤ 3) = true := by simpa using h1
    by_cases h2 : (mv.length : Int) ≤ 12
    · have d2 : decide (12 < (mv.length : Int)) = false := by simpa using h2
      by_cases h3 : 0 ≤ S ∧ S < (mv.length : Int)
      · have d3 : decide (0 ≤ S ∧ S < (mv.length : Int)) = true := by simpa using h3
        obtain ⟨h1a, h1b⟩ := h1
        obtain ⟨h3a, h3b⟩ := h3
        go_enter Try.func100, Try.ntmps100
        go_wp2_with fail
        generalize w.alloc (.cells #[.int .i64 L, .int .i64 S, .slice A mv.length cap] 31) = W0 at *
        obtain ⟨⟨b0, b1, b2⟩, -⟩ := HR.out.three
        go_region_held3 (fun W => W.cell? ⟨w.heap.size, 0, none⟩ = some (.int .i64 L) ∧ W.cell? ⟨w.heap.size, 1, none⟩ = some (.int .i64 S) ∧ W.cell? ⟨w.heap.size, 2, none⟩ = some (.slice A mv.length cap))
          (first | go_keep | (go_split_ands; refine ⟨?_, ?_, ?_⟩ <;> exact below_keep hbk (by assumption)))
          (first
            | (go_at_call 130; refine (validLetters_any _ _).mono ?_; rintro e wy ⟨rfl, rfl⟩)
            | (go_at_call 121; refine (isState_any _ _ _).mono ?_; rintro e wy ⟨rfl, rfl⟩)
            | (go_at_call 131; (with_reducible refine (HV.out _ (below_step HB.out (below_step HC1.out (by first | exact Below.refl _ _ | exact below_drew _ | exact below_drewN' _ _)))).mono ?_); rintro e wz ⟨rfl, hbk⟩; have HC2 := Lib.hid (below_step HC1.out (below_step (by first | exact Below.refl _ _ | exact below_drew _ | exact below_drewN' _ _) hbk)))
            | (go_at_call 131; (with_reducible refine (HV.out _ (below_step HB.out (by first | exact Below.refl _ _ | exact below_drew _ | exact below_drewN' _ _))).mono ?_); rintro e wy ⟨rfl, hbk⟩; have HC1 := Lib.hid (show Below W0.heap.size W0 wy from below_step (by first | exact Below.refl _ _ | exact below_drew _ | exact below_drewN' _ _) hbk)))
        clear b0 b1 b2
        obtain ⟨⟨b0, b1, b2⟩, -⟩ := (HR.out.below HC2.out HR.out.lt).three
        go_wp2
        go_loopw [27] (fun i wr => ∃ s : Nat, s ≤ mv.length ∧ i = .int .i64 s ∧ Below W0.heap.size W0 wr ∧ (mv.take s).all (okMRow mv.length L) = true) (fun i _ => mv.length - (intOf i).toNat)
        case atStart => exact ⟨0, Nat.zero_le _, rfl, HC2.out, by simp⟩
        case round =>
          clear b0 b1 b2
          obtain ⟨s, hs, rfl, hb, hp⟩ := hrel
          have HP := Lib.hid hp; clear hp
          have HQ := Lib.hid hb
          obtain ⟨⟨b0, b1, b2⟩, -⟩ := (HR.out.below hb HR.out.lt).three
          by_cases hlt : s < mv.length
          · obtain ⟨b, off, u, x, rfl, hx, hc, hR⟩ := a3 s hlt
            obtain ⟨C, capx, rfl, x1, x2, x3⟩ := RdP.open hR
            unfold maxLen at x2
            have HW := Lib.hid (below_step HB.out hb)
            have gc := below_keep HW.out hc
            have HX := Lib.hid hx
            clear hc hx hR hb a3
            have i1 : (0 : Int) ≤ s := by omega
            have i2 : (s : Int) < mv.length := by omega
            by_cases hxl : (x.length : Int) = L + 2
            · have d5 : ((x.length : Int) != L + 2) = false := by simpa using hxl
              have HXL := Lib.hid hxl
              have hle1 : (x.length : Int) ≤ L + 2 := by omega
              have hle2 : L + 2 ≤ (x.length : Int) := by omega
              clear hxl
              go_wp2_with (go_at_call 132; refine (countSigns_any _ _ (by omega) (by omega)).mono ?_; rintro e w' ⟨rfl, rfl⟩)
              go_loopw [39] (fun i wi => ∃ k : Nat, k ≤ x.length ∧ i = .int .i64 k ∧ Below W0.heap.size W0 wi ∧ okMsTo mv.length L x k = true) (fun i _ => x.length - (intOf i).toNat)
              case atStart => exact ⟨0, Nat.zero_le _, rfl, HQ.out, by simp [okMsTo]⟩
              case round =>
                clear b0 b1 b2 gc
                obtain ⟨k, hk, rfl, hq, hp⟩ := hrel
                have HP2 := Lib.hid hp; clear hp
                have HQ2 := Lib.hid hq
                have HW2 := Lib.hid (below_step HB.out hq)
                clear hq
                by_cases hklt : k < x.length
                · obtain ⟨bx, offx, tx, ty, rfl, ht, hct, hdt⟩ := x3 k hklt
                  have gt := below_keep HW2.out hct
                  have gd := below_keep HW2.out hdt
                  have HT := Lib.hid ht
                  clear hct hdt ht x3
                  have j1 : (0 : Int) ≤ k := by omega
                  have j2 : (k : Int) < x.length := by omega
                  have HM := Lib.hid (fun W => isMove_any tx ty mv.length L k W (by omega) h2 h1a h1b)
                  have HQA := Lib.hid (below_step HW2.out (below_alloc wr (.cells #[.int .i64 tx, .int .i64 ty] 96)))
                  have hr2 := HR.out.below HQ2.out HR.out.lt
                  obtain ⟨⟨b0, b1, b2⟩, -⟩ := (hr2.alloc (.cells #[.int .i64 tx, .int .i64 ty] 96)).three
                  obtain ⟨⟨e0, e1⟩, -⟩ := (Row.new wr [.int .i64 tx, .int .i64 ty] 96).two
                  clear hr2
                  by_cases hin : okMove mv.length L k (tx, ty) = true
                  · go_wp2_with fail
                    go_region_held3 (fun W => W.cell? ⟨w.heap.size, 0, none⟩ = some (.int .i64 L) ∧ W.cell? ⟨w.heap.size, 1, none⟩ = some (.int .i64 S) ∧ W.cell? ⟨w.heap.size, 2, none⟩ = some (.slice (some ⟨b, off, none⟩) mv.length cap) ∧ W.cell? ⟨wr.heap.size, 0, none⟩ = some (.int .i64 tx) ∧ W.cell? ⟨wr.heap.size, 1, none⟩ = some (.int .i64 ty))
                      (first | go_keep | (go_split_ands; refine ⟨?_, ?_, ?_, ?_, ?_⟩ <;> exact below_keep hbk (by assumption)))
                      (first
                        | (go_at_call 131; (with_reducible refine (HV.out _ (below_step HQA.out (by first | exact Below.refl _ _ | exact below_drew _ | exact below_drewN' _ _))).mono ?_); rintro e wy ⟨rfl, hbk⟩; have HC1 := Lib.hid (show Below (wr.alloc (.cells #[.int .i64 tx, .int .i64 ty] 96)).heap.size (wr.alloc (.cells #[.int .i64 tx, .int .i64 ty] 96)) wy from below_step (by first | exact Below.refl _ _ | exact below_drew _ | exact below_drewN' _ _) hbk))
                        | (go_at_call 133; (with_reducible refine (HM.out _).mono ?_); rintro e wz ⟨rfl, hbk⟩; have HC2 := Lib.hid (below_step HC1.out (below_step (by first | exact Below.refl _ _ | exact below_drew _ | exact below_drewN' _ _) hbk))))
                    go_wp2
                    go_roundw
                    case rel => exact ⟨k + 1, by omega, by go_num, below_step HQ2.out (below_step (below_alloc _ _) HC2.out), okMsTo_succ HT.out HP2.out hin⟩
                    case measure => simp [intOf]; omega
                  · have hin' : okMove mv.length L k (tx, ty) = false := by simpa using hin
                    clear hin
                    go_wp2_with fail
                    go_region_held3 (fun W => W.cell? ⟨w.heap.size, 0, none⟩ = some (.int .i64 L) ∧ W.cell? ⟨w.heap.size, 1, none⟩ = some (.int .i64 S) ∧ W.cell? ⟨w.heap.size, 2, none⟩ = some (.slice (some ⟨b, off, none⟩) mv.length cap) ∧ W.cell? ⟨wr.heap.size, 0, none⟩ = some (.int .i64 tx) ∧ W.cell? ⟨wr.heap.size, 1, none⟩ = some (.int .i64 ty))
                      (first | go_keep | (go_split_ands; refine ⟨?_, ?_, ?_, ?_, ?_⟩ <;> exact below_keep hbk (by assumption)))
                      (first
                        | (go_at_call 131; (with_reducible refine (HV.out _ (below_step HQA.out (by first | exact Below.refl _ _ | exact below_drew _ | exact below_drewN' _ _))).mono ?_); rintro e wy ⟨rfl, hbk⟩; have HC1 := Lib.hid (show Below (wr.alloc (.cells #[.int .i64 tx, .int .i64 ty] 96)).heap.size (wr.alloc (.cells #[.int .i64 tx, .int .i64 ty] 96)) wy from below_step (by first | exact Below.refl _ _ | exact below_drew _ | exact below_drewN' _ _) hbk))
                        | (go_at_call 133; (with_reducible refine (HM.out _).mono ?_); rintro e wz ⟨rfl, hbk⟩; have HC2 := Lib.hid (below_step HC1.out (below_step (by first | exact Below.refl _ _ | exact below_drew _ | exact below_drewN' _ _) hbk))))
                    go_wp2
                    go_ret
                    exact ⟨ret_bool (okT_row (t := ⟨L, S, mv⟩) HX.out (by unfold okMRow; rw [okMsTo_not HT.out hin', Bool.and_false])).symm, below_step HB.out (below_step HQ2.out (below_step (below_alloc _ _) HC2.out))⟩
                · clear x3
                  go_wp2
                  go_roundw
                  case rel => exact ⟨s + 1, by omega, by go_num, HQ2.out, all_snoc HX.out HP.out (okRow_of HXL.out (by have := HP2.out; rwa [show k = x.length by omega] at this))⟩
                  case measure => simp [intOf]; omega
            · have d5 : ((x.length : Int) != L + 2) = true := by simpa using hxl
              have HXL := Lib.hid hxl
              clear hxl
              go_wp2_with (go_at_call 132; refine (countSigns_any _ _ (by omega) (by omega)).mono ?_; rintro e w' ⟨rfl, rfl⟩)
              go_ret
              exact ⟨ret_bool (okT_row (t := ⟨L, S, mv⟩) HX.out (by simp [okMRow, HXL.out])).symm, below_step HB.out HQ.out⟩
          · clear hb a3
            go_wp2
            go_ret
            exact ⟨ret_bool (okT_all (t := ⟨L, S, mv⟩) d1 (by simp; omega) (by simp; omega) (by have := HP.out; rwa [List.take_of_length_le (by omega)] at this)).symm, below_step HB.out HQ.out⟩
      · have d3 : decide (0 ≤ S ∧ S < (mv.length : Int)) = false := by simpa using h3
        have H3 := Lib.hid h3; clear h3
        have HL : Hid (∀ W, Calls Try.prog 130 #[.int .i64 L] W fun e w' => e = .returned (.bool true) ∧ W = w') := Lib.hid (fun W => by have := validLetters_any L W; rwa [d1] at this)
        have HS : Hid (∀ W, Calls Try.prog 121 #[.int .i64 S, .int .i64 (mv.length : Int)] W fun e w' => e = .returned (.bool false) ∧ W = w') := Lib.hid (fun W => by have := isState_any S mv.length W; rwa [d3] at this)
        clear d1 d3 h1
        go_enter Try.func100, Try.ntmps100
        go_wp2_with fail
        generalize w.alloc (.cells #[.int .i64 L, .int .i64 S, .slice A mv.length cap] 31) = W0 at *
        obtain ⟨⟨b0, b1, b2⟩, -⟩ := HR.out.three
        first | (go_region_held3 (fun W => W.cell? ⟨w.heap.size, 0, none⟩ = some (.int .i64 L) ∧ W.cell? ⟨w.heap.size, 1, none⟩ = some (.int .i64 S) ∧ W.cell? ⟨w.heap.size, 2, none⟩ = some (.slice A mv.length cap))
            (first | go_keep | (go_split_ands; refine ⟨?_, ?_, ?_⟩ <;> exact below_keep hbk (by assumption)))
            (first
              | (go_at_call 130; refine (HL.out _).mono ?_; rintro e wy ⟨rfl, rfl⟩)
              | (go_at_call 121; refine (HS.out _).mono ?_; rintro e wy ⟨rfl, rfl⟩)
              | (go_at_call 131; (with_reducible refine (HV.out _ (below_step HB.out (below_step HC1.out (by first | exact Below.refl _ _ | exact below_drew _ | exact below_drewN' _ _)))).mono ?_); rintro e wz ⟨rfl, hbk⟩; have HC2 := Lib.hid (below_step HC1.out (below_step (by first | exact Below.refl _ _ | exact below_drew _ | exact below_drewN' _ _) hbk)))
              | (go_at_call 131; (with_reducible refine (HV.out _ (below_step HB.out (by first | exact Below.refl _ _ | exact below_drew _ | exact below_drewN' _ _))).mono ?_); rintro e wy ⟨rfl, hbk⟩; have HC1 := Lib.hid (show Below W0.heap.size W0 wy from below_step (by first | exact Below.refl _ _ | exact below_drew _ | exact below_drewN' _ _) hbk)))) | fail
        go_wp2
        go_ret
        exact ⟨ret_bool (by have := H3.out; simp [okT]; omega), below_step HB.out (by first | exact HC2.out | exact HC1.out | exact Below.refl _ _ | exact below_drew _ | exact below_drewN' _ _)⟩
    · have d2 : decide (12 < (mv.length : Int)) = true := by simpa using h2
      have d2n : decide (12 < mv.length) = true := by simp; omega
      have d2p : 12 < mv.length := by omega
      have d2q : 12 < (mv.length : Int) := by omega
      have H2 := Lib.hid h2; clear h2
      have HL : Hid (∀ W, Calls Try.prog 130 #[.int .i64 L] W fun e w' => e = .returned (.bool true) ∧ W = w') := Lib.hid (fun W => by have := validLetters_any L W; rwa [d1] at this)
      have HS := Lib.hid (fun W => isState_any S mv.length W)
      clear d1 h1
      go_enter Try.func100, Try.ntmps100
      go_wp2_with fail
      generalize w.alloc (.cells #[.int .i64 L, .int .i64 S, .slice A mv.length cap] 31) = W0 at *
      obtain ⟨⟨b0, b1, b2⟩, -⟩ := HR.out.three
      first | (go_region_with
          (first
            | (go_at_call 130; refine (HL.out _).mono ?_; rintro e wy ⟨rfl, rfl⟩)
            | (go_at_call 121; refine (HS.out _).mono ?_; rintro e wy ⟨rfl, rfl⟩)
            | (go_at_call 131; (with_reducible refine (HV.out _ (below_step HB.out (below_step HC1.out (by first | exact Below.refl _ _ | exact below_drew _ | exact below_drewN' _ _)))).mono ?_); rintro e wz ⟨rfl, hbk⟩; have HC2 := Lib.hid (below_step HC1.out (below_step (by first | exact Below.refl _ _ | exact below_drew _ | exact below_drewN' _ _) hbk)))
            | (go_at_call 131; (with_reducible refine (HV.out _ (below_step HB.out (by first | exact Below.refl _ _ | exact below_drew _ | exact below_drewN' _ _))).mono ?_); rintro e wy ⟨rfl, hbk⟩; have HC1 := Lib.hid (show Below W0.heap.size W0 wy from below_step (by first | exact Below.refl _ _ | exact below_drew _ | exact below_drewN' _ _) hbk)))) | fail
      all_goals (go_wp2; go_ret; exact ⟨ret_bool (by have := H2.out; simp [okT]; omega), below_step HB.out (by first | exact HC2.out | exact HC1.out | exact Below.refl _ _ | exact below_drew _ | exact below_drewN' _ _)⟩)
  · have d1 : decide (1 ≤ L ∧ L ≤ 3) = false := by simpa using h1
    have H1 := Lib.hid h1; clear h1
    have HL : Hid (∀ W, Calls Try.prog 130 #[.int .i64 L] W fun e w' => e = .returned (.bool false) ∧ W = w') := Lib.hid (fun W => by have := validLetters_any L W; rwa [d1] at this)
    have HS := Lib.hid (fun W => isState_any S mv.length W)
    have D1 := Lib.hid d1; clear d1
    go_enter Try.func100, Try.ntmps100
    go_wp2_with fail
    generalize w.alloc (.cells #[.int .i64 L, .int .i64 S, .slice A mv.length cap] 31) = W0 at *
    obtain ⟨⟨b0, b1, b2⟩, -⟩ := HR.out.three
    first | (go_region_with
        (first
          | (go_at_call 130; refine (HL.out _).mono ?_; rintro e wy ⟨rfl, rfl⟩)
          | (go_at_call 121; refine (HS.out _).mono ?_; rintro e wy ⟨rfl, rfl⟩)
          | (go_at_call 131; (with_reducible refine (HV.out _ (below_step HB.out (below_step HC1.out (by first | exact Below.refl _ _ | exact below_drew _ | exact below_drewN' _ _)))).mono ?_); rintro e wz ⟨rfl, hbk⟩; have HC2 := Lib.hid (below_step HC1.out (below_step (by first | exact Below.refl _ _ | exact below_drew _ | exact below_drewN' _ _) hbk)))
          | (go_at_call 131; (with_reducible refine (HV.out _ (below_step HB.out (by first | exact Below.refl _ _ | exact below_drew _ | exact below_drewN' _ _))).mono ?_); rintro e wy ⟨rfl, hbk⟩; have HC1 := Lib.hid (show Below W0.heap.size W0 wy from below_step (by first | exact Below.refl _ _ | exact below_drew _ | exact below_drewN' _ _) hbk)))) | fail
    all_goals (go_wp2; go_ret; exact ⟨ret_bool (by simp [okT, D1.out]), below_step HB.out (by first | exact HC2.out | exact HC1.out | exact Below.refl _ _ | exact below_drew _ | exact below_drewN' _ _)⟩)
end Go.Proofs.Ytdkalefepdlccaa
