/-
  The program's and the model's test of a wanderer: true just for what 'okW' says.
-/
import Derived.Test.YtdkalefepdlccaaVw1
namespace Go.Proofs.Ytdkalefepdlccaa
open Go.RowKit

theorem statesW_any (v : Value) (r : WData) (w : World) (h : RdW w v r) :
    Calls Try.prog 89 #[v] w fun e w' => e = .returned (.int .i64 (r.mv.length : Int)) ∧ Below w.heap.size w w' := by
  obtain ⟨a, b, rfl, hs, hm⟩ := h
  obtain ⟨A, cap, rfl, a1, a2, -⟩ := RdL.open hm
  unfold maxLen at a2
  clear hm hs
  go_enter Try.func89, Try.ntmps89
  go_wp2
  go_ret
  exact ⟨rfl, below_alloc _ _⟩

set_option maxRecDepth 100000 in
set_option maxHeartbeats 3200000 in
theorem isMoveList_any (v u : Value) (r : WData) (l : List (Int × Int)) (c : Int) (w : World) (h : RdW w v r) (hu : RdP w u l) (n1 : 1 ≤ r.mv.length) (n2 : r.mv.length ≤ 5) (l1 : 1 ≤ r.L) (l2 : r.L ≤ 3) :
    Calls Try.prog 148 #[v, u, .int .i64 c] w fun e w' => e = .returned (.bool (okListW r.mv.length r.L c l)) ∧ Below w.heap.size w w' := by
  have HV := Lib.hid (fun W (hb : Below w.heap.size w W) => statesW_any v r W (keepsW _ _ _ _ h hb))
  obtain ⟨C, cap, rfl, x1, x2, x3⟩ := RdP.open hu
  unfold maxLen at x2
  obtain ⟨A, ka, B, kb, rfl⟩ := h.shape
  obtain ⟨L, st, mv⟩ := r
  simp only at *
  have HR := Lib.hid (Row.new w [.int .i64 L, .slice A st.length ka, .slice B mv.length kb] 68)
  have HB := Lib.hid (below_alloc w (.cells #[.int .i64 L, .slice A st.length ka, .slice B mv.length kb] 68))
  clear h hu
  go_enter Try.func148, Try.ntmps148
  go_wp2_with fail
  generalize w.alloc (.cells #[.int .i64 L, .slice A st.length ka, .slice B mv.length kb] 68) = W0 at *
  go_loopw [11] (fun i wr => ∃ k : Nat, k ≤ l.length ∧ i = .int .i64 k ∧ Below W0.heap.size W0 wr ∧ (List.range k).all (okListAt mv.length L c l) = true) (fun i _ => l.length - (intOf i).toNat)
  case atStart => exact ⟨0, Nat.zero_le _, rfl, Below.refl _ _, by simp⟩
  case round =>
    obtain ⟨k, hk, rfl, hb, hp⟩ := hrel
    have HP := Lib.hid hp
    have HQ := Lib.hid hb
    have HW := Lib.hid (below_step HB.out hb)
    clear hp hb
    by_cases hlt : k < l.length
    · obtain ⟨b, off, tx, ty, rfl, ht, hct, hdt⟩ := x3 k hlt
      have gt := below_keep HW.out hct
      have gd := below_keep HW.out hdt
      have HT := Lib.hid ht
      have i1 : (0 : Int) ≤ k := by omega
      have i2 : (k : Int) < l.length := by omega
      have hr2 := HR.out.below HQ.out HR.out.lt
      obtain ⟨⟨b0, b1, b2⟩, -⟩ := (hr2.alloc (.cells #[.int .i64 tx, .int .i64 ty] 96)).three
      obtain ⟨⟨e0, e1⟩, -⟩ := (Row.new wr [.int .i64 tx, .int .i64 ty] 96).two
      clear hr2
      by_cases htwo : tx = -2
      · have g1 : (tx == -2) = true := by simp [htwo]
        have HN := Lib.hid (show okListAt mv.length L c l k = false by rw [okListAt_eq HT.out, htwo, okMvW_two]; rfl)
        clear htwo ht hct hdt x3
        go_wp2_with fail
        go_quiet (fail)
        go_wp2
        go_ret
        exact ⟨ret_bool (okList_not hlt HN.out).symm, below_step HW.out (below_drewN (below_alloc wr (.cells #[.int .i64 tx, .int .i64 ty] 96)) _)⟩
      · have g1 : (tx == -2) = false := by simpa using htwo
        have hmv := okMvW_move (n := mv.length) (L := L) (k := c) (y := ty) htwo
        have HM := Lib.hid (fun W => isMove_any tx ty mv.length L c W (by omega) (by omega) l1 l2)
        have HQA := Lib.hid (below_step HW.out (below_alloc wr (.cells #[.int .i64 tx, .int .i64 ty] 96)))
        cases hin : okMove mv.length L c (tx, ty)
        · have HN := Lib.hid (show okListAt mv.length L c l k = false by rw [okListAt_eq HT.out, hmv, hin]; rfl)
          have HIN := Lib.hid hin
          rw [hin] at HM
          clear htwo ht hct hdt x3 hmv hin
          go_wp2_with fail
          go_region_held3 (fun W => W.cell? ⟨w.heap.size, 0, none⟩ = some (.int .i64 L) ∧ W.cell? ⟨w.heap.size, 1, none⟩ = some (.slice A st.length ka) ∧ W.cell? ⟨w.heap.size, 2, none⟩ = some (.slice B mv.length kb) ∧ W.cell? ⟨wr.heap.size, 0, none⟩ = some (.int .i64 tx) ∧ W.cell? ⟨wr.heap.size, 1, none⟩ = some (.int .i64 ty))
            (first | go_keep | (go_split_ands; refine ⟨?_, ?_, ?_, ?_, ?_⟩ <;> exact below_keep hbk (by assumption)))
            (first
              | (go_at_call 89; (with_reducible refine (HV.out _ (below_step HQA.out (by first | exact Below.refl _ _ | exact below_drew _ | exact below_drewN' _ _))).mono ?_); rintro e wy ⟨rfl, hbk⟩; have HC1 := Lib.hid (show Below (wr.alloc (.cells #[.int .i64 tx, .int .i64 ty] 96)).heap.size (wr.alloc (.cells #[.int .i64 tx, .int .i64 ty] 96)) wy from below_step (by first | exact Below.refl _ _ | exact below_drew _ | exact below_drewN' _ _) hbk))
              | (go_at_call 133; (with_reducible refine (HM.out _).mono ?_); rintro e wz ⟨rfl, hbk⟩; have HC2 := Lib.hid (below_step HC1.out (below_step (by first | exact Below.refl _ _ | exact below_drew _ | exact below_drewN' _ _) hbk))))
          go_wp2
          go_ret
          exact ⟨ret_bool (okList_not hlt HN.out).symm, below_step HW.out (below_step (below_alloc wr (.cells #[.int .i64 tx, .int .i64 ty] 96)) HC2.out)⟩
        · rw [hin] at HM
          by_cases h0 : k = 0
          · have HN := Lib.hid (show okListAt mv.length L c l k = true by rw [okListAt_eq HT.out, hmv, hin]; simp [h0])
            have H0 := Lib.hid h0
            have j1 : decide ((0 : Int) < (k : Int)) = false := by simp; omega
            have j5 : decide (0 < k) = false := by simp; omega
            clear htwo ht hct hdt x3 hmv hin h0
            go_wp2_with fail
            go_region_held3 (fun W => W.cell? ⟨w.heap.size, 0, none⟩ = some (.int .i64 L) ∧ W.cell? ⟨w.heap.size, 1, none⟩ = some (.slice A st.length ka) ∧ W.cell? ⟨w.heap.size, 2, none⟩ = some (.slice B mv.length kb) ∧ W.cell? ⟨wr.heap.size, 0, none⟩ = some (.int .i64 tx) ∧ W.cell? ⟨wr.heap.size, 1, none⟩ = some (.int .i64 ty))
              (first | go_keep | (go_split_ands; refine ⟨?_, ?_, ?_, ?_, ?_⟩ <;> exact below_keep hbk (by assumption)))
              (first
                | (go_at_call 89; (with_reducible refine (HV.out _ (below_step HQA.out (by first | exact Below.refl _ _ | exact below_drew _ | exact below_drewN' _ _))).mono ?_); rintro e wy ⟨rfl, hbk⟩; have HC1 := Lib.hid (show Below (wr.alloc (.cells #[.int .i64 tx, .int .i64 ty] 96)).heap.size (wr.alloc (.cells #[.int .i64 tx, .int .i64 ty] 96)) wy from below_step (by first | exact Below.refl _ _ | exact below_drew _ | exact below_drewN' _ _) hbk))
                | (go_at_call 133; (with_reducible refine (HM.out _).mono ?_); rintro e wz ⟨rfl, hbk⟩; have HC2 := Lib.hid (below_step HC1.out (below_step (by first | exact Below.refl _ _ | exact below_drew _ | exact below_drewN' _ _) hbk))))
            go_wp2_with fail
            go_quiet (fail)
            go_wp2
            go_roundw
            case rel => exact ⟨k + 1, by omega, by go_num, below_step HQ.out (below_step (below_alloc wr (.cells #[.int .i64 tx, .int .i64 ty] 96)) (below_step HC2.out (below_drewN' _ _))), okList_succ HP.out HN.out⟩
            case measure => simp [intOf]; omega
          · obtain ⟨b2', off2, px, py, hA2, hpv, hcp, hdp⟩ := x3 (k - 1) (by omega)
            cases hA2
            have j1 : decide ((0 : Int) < (k : Int)) = true := by simp; omega
            have j5 : decide (0 < k) = true := by simp; omega
            have j2 : (0 : Int) ≤ (k : Int) - 1 := by omega
            have j3 : (k : Int) - 1 < l.length := by omega
            have j4 : ((k : Int) - 1).toNat = k - 1 := by omega
            have j6 : (1 : Int) ≤ (k : Int) := by omega
            have j7 : (k : Int) < (l.length : Int) + 1 := by omega
            have HCM := Lib.hid (fun W => compareMoves_any (px, py) (tx, ty) W)
            have gp := below_keep HW.out hcp
            have gq := below_keep HW.out hdp
            have gp2 := below_keep (below_alloc wr (.cells #[.int .i64 tx, .int .i64 ty] 96)) gp
            have gq2 := below_keep (below_alloc wr (.cells #[.int .i64 tx, .int .i64 ty] 96)) gq
            have HPC := Lib.hid (show _ ∧ _ from ⟨gp2, gq2⟩)
            clear gp gq gp2 gq2
            cases hml : moveLt (px, py) (tx, ty)
            · have HN := Lib.hid (show okListAt mv.length L c l k = false by rw [okListAt_eq2 HT.out hpv, hml]; simp [h0])
              have HGE := Lib.hid (cmpM_ge hml)
              have HMV := Lib.hid hpv
              clear htwo ht hct hdt x3 hmv hin hml hcp hdp hpv h0
              go_wp2_with fail
              go_region_held3 (fun W => W.cell? ⟨w.heap.size, 0, none⟩ = some (.int .i64 L) ∧ W.cell? ⟨w.heap.size, 1, none⟩ = some (.slice A st.length ka) ∧ W.cell? ⟨w.heap.size, 2, none⟩ = some (.slice B mv.length kb) ∧ W.cell? ⟨wr.heap.size, 0, none⟩ = some (.int .i64 tx) ∧ W.cell? ⟨wr.heap.size, 1, none⟩ = some (.int .i64 ty))
                (first | go_keep | (go_split_ands; refine ⟨?_, ?_, ?_, ?_, ?_⟩ <;> exact below_keep hbk (by assumption)))
                (first
                  | (go_at_call 89; (with_reducible refine (HV.out _ (below_step HQA.out (by first | exact Below.refl _ _ | exact below_drew _ | exact below_drewN' _ _))).mono ?_); rintro e wy ⟨rfl, hbk⟩; have HC1 := Lib.hid (show Below (wr.alloc (.cells #[.int .i64 tx, .int .i64 ty] 96)).heap.size (wr.alloc (.cells #[.int .i64 tx, .int .i64 ty] 96)) wy from below_step (by first | exact Below.refl _ _ | exact below_drew _ | exact below_drewN' _ _) hbk))
                  | (go_at_call 133; (with_reducible refine (HM.out _).mono ?_); rintro e wz ⟨rfl, hbk⟩; have HC2 := Lib.hid (below_step HC1.out (below_step (by first | exact Below.refl _ _ | exact below_drew _ | exact below_drewN' _ _) hbk))))
              obtain ⟨gp, gq⟩ := HPC.out
              have gp := below_keep HC2.out gp
              have gq := below_keep HC2.out gq
              obtain ⟨⟨e0', e1'⟩, -⟩ := ((Row.new wr [.int .i64 tx, .int .i64 ty] 96).below HC2.out (Row.new wr [.int .i64 tx, .int .i64 ty] 96).lt).two
              have w1 : IntKind.i64.wrap ((k : Int) - 1) = (k : Int) - 1 := IntWalk.i64_in _ (by omega)
              have hge := HGE.out
              go_wp2_with fail
              go_region_held3 (fun W => W.cell? ⟨b, off + (k - 1) * 2, none⟩ = some (.int .i64 px) ∧ W.cell? ⟨b, off + (k - 1) * 2 + 1, none⟩ = some (.int .i64 py) ∧ W.cell? ⟨wr.heap.size, 0, none⟩ = some (.int .i64 tx) ∧ W.cell? ⟨wr.heap.size, 1, none⟩ = some (.int .i64 ty))
                (first | go_keep | (go_split_ands; refine ⟨?_, ?_, ?_, ?_⟩ <;> exact below_keep hbk (by assumption)))
                ((go_at_call 151; (with_reducible refine (HCM.out _).mono ?_); rintro e wq ⟨rfl, hbk⟩; have HC3 := Lib.hid (below_step HC2.out (below_step (by first | exact Below.refl _ _ | exact below_drew _ | exact below_drewN' _ _) hbk))))
              clear w1 hge
              go_wp2
              go_ret
              exact ⟨ret_bool (okList_not hlt HN.out).symm, below_step HW.out (below_step (below_alloc wr (.cells #[.int .i64 tx, .int .i64 ty] 96)) HC3.out)⟩
            · have HN := Lib.hid (show okListAt mv.length L c l k = true by rw [okListAt_eq2 HT.out hpv, hml, hmv, hin]; simp)
              have HGE := Lib.hid (cmpM_lt hml)
              have HMV := Lib.hid hpv
              clear htwo ht hct hdt x3 hmv hin hml hcp hdp hpv h0
              go_wp2_with fail
              go_region_held3 (fun W => W.cell? ⟨w.heap.size, 0, none⟩ = some (.int .i64 L) ∧ W.cell? ⟨w.heap.size, 1, none⟩ = some (.slice A st.length ka) ∧ W.cell? ⟨w.heap.size, 2, none⟩ = some (.slice B mv.length kb) ∧ W.cell? ⟨wr.heap.size, 0, none⟩ = some (.int .i64 tx) ∧ W.cell? ⟨wr.heap.size, 1, none⟩ = some (.int .i64 ty))
                (first | go_keep | (go_split_ands; refine ⟨?_, ?_, ?_, ?_, ?_⟩ <;> exact below_keep hbk (by assumption)))
                (first
                  | (go_at_call 89; (with_reducible refine (HV.out _ (below_step HQA.out (by first | exact Below.refl _ _ | exact below_drew _ | exact below_drewN' _ _))).mono ?_); rintro e wy ⟨rfl, hbk⟩; have HC1 := Lib.hid (show Below (wr.alloc (.cells #[.int .i64 tx, .int .i64 ty] 96)).heap.size (wr.alloc (.cells #[.int .i64 tx, .int .i64 ty] 96)) wy from below_step (by first | exact Below.refl _ _ | exact below_drew _ | exact below_drewN' _ _) hbk))
                  | (go_at_call 133; (with_reducible refine (HM.out _).mono ?_); rintro e wz ⟨rfl, hbk⟩; have HC2 := Lib.hid (below_step HC1.out (below_step (by first | exact Below.refl _ _ | exact below_drew _ | exact below_drewN' _ _) hbk))))
              obtain ⟨gp, gq⟩ := HPC.out
              have gp := below_keep HC2.out gp
              have gq := below_keep HC2.out gq
              obtain ⟨⟨e0', e1'⟩, -⟩ := ((Row.new wr [.int .i64 tx, .int .i64 ty] 96).below HC2.out (Row.new wr [.int .i64 tx, .int .i64 ty] 96).lt).two
              have w1 : IntKind.i64.wrap ((k : Int) - 1) = (k : Int) - 1 := IntWalk.i64_in _ (by omega)
              have hge := HGE.out
              go_wp2_with fail
              go_region_held3 (fun W => W.cell? ⟨b, off + (k - 1) * 2, none⟩ = some (.int .i64 px) ∧ W.cell? ⟨b, off + (k - 1) * 2 + 1, none⟩ = some (.int .i64 py) ∧ W.cell? ⟨wr.heap.size, 0, none⟩ = some (.int .i64 tx) ∧ W.cell? ⟨wr.heap.size, 1, none⟩ = some (.int .i64 ty))
                (first | go_keep | (go_split_ands; refine ⟨?_, ?_, ?_, ?_⟩ <;> exact below_keep hbk (by assumption)))
                ((go_at_call 151; (with_reducible refine (HCM.out _).mono ?_); rintro e wq ⟨rfl, hbk⟩; have HC3 := Lib.hid (below_step HC2.out (below_step (by first | exact Below.refl _ _ | exact below_drew _ | exact below_drewN' _ _) hbk))))
              clear w1 hge
              go_wp2
              go_roundw
              case rel => exact ⟨k + 1, by omega, by go_num, below_step HQ.out (below_step (below_alloc wr (.cells #[.int .i64 tx, .int .i64 ty] 96)) HC3.out), okList_succ HP.out HN.out⟩
              case measure => simp [intOf]; omega
    · clear x3
      go_wp2
      go_ret
      exact ⟨ret_bool (okList_all HP.out hk hlt).symm, HW.out⟩
end Go.Proofs.Ytdkalefepdlccaa
