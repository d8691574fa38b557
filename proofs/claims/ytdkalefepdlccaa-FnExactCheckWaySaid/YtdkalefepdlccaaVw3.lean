/-
  The program's test of a wanderer: true just for what 'okW' says.
-/
import Derived.Test.YtdkalefepdlccaaVw2
namespace Go.Proofs.Ytdkalefepdlccaa
open Go.RowKit

def okColsTo (n L : Int) (row : List (List (Int × Int))) (k : Nat) : Bool := (List.range k).all (fun c => okListW n L c (row.getD c []))
def okRowW (n L : Int) (row : List (List (Int × Int))) : Bool := decide ((row.length : Int) = L + 2) && okColsTo n L row row.length
def okW (r : WData) : Bool := decide (1 ≤ r.L ∧ r.L ≤ 3) && (decide (1 ≤ (r.mv.length : Int) ∧ (r.mv.length : Int) ≤ 5) && (rises r.mv.length r.st && r.mv.all (okRowW r.mv.length r.L)))
theorem okCols_succ {n L : Int} {row : List (List (Int × Int))} {k : Nat} {l : List (Int × Int)} (h : okColsTo n L row k = true) (hl : row[k]? = some l) (hk : okListW n L k l = true) : okColsTo n L row (k + 1) = true := by
  unfold okColsTo at *
  rw [List.range_succ, List.all_append, h]
  have : row.getD k [] = l := by simp [List.getD, hl]
  simp only [List.all_cons, List.all_nil, this, hk, Bool.and_self]
theorem okCols_not {n L : Int} {row : List (List (Int × Int))} {k : Nat} {l : List (Int × Int)} (hl : row[k]? = some l) (hk : okListW n L k l = false) : okRowW n L row = false := by
  have hlt := (List.getElem?_eq_some_iff.1 hl).1
  have : okColsTo n L row row.length = false := by
    unfold okColsTo
    rw [List.all_eq_false]
    have e : row.getD k [] = l := by simp [List.getD, hl]
    exact ⟨k, List.mem_range.2 hlt, by rw [e, hk]; simp⟩
  rw [okRowW, this, Bool.and_false]
theorem okRowW_of {n L : Int} {row : List (List (Int × Int))} (h : (row.length : Int) = L + 2) (hc : okColsTo n L row row.length = true) : okRowW n L row = true := by
  rw [okRowW, hc]; simp [h]
theorem okW_row {r : WData} {s : Nat} {x : List (List (Int × Int))} (h : r.mv[s]? = some x) (d : okRowW r.mv.length r.L x = false) : okW r = false := by
  have : r.mv.all (okRowW r.mv.length r.L) = false := by
    rw [List.all_eq_false]
    exact ⟨x, List.mem_of_getElem? h, by simp [d]⟩
  simp [okW, this]
theorem okW_all {r : WData} (d1 : 1 ≤ r.L ∧ r.L ≤ 3) (d2 : 1 ≤ (r.mv.length : Int) ∧ (r.mv.length : Int) ≤ 5) (d3 : rises r.mv.length r.st = true) (d4 : r.mv.all (okRowW r.mv.length r.L) = true) : okW r = true := by
  unfold okW
  rw [d3, d4]
  simp [d1, d2]
theorem all_snocW {α : Type} {p : α → Bool} {xs : List α} {s : Nat} {x : α} (hx : xs[s]? = some x) (h : (xs.take s).all p = true) (hp : p x = true) : (xs.take (s + 1)).all p = true := by
  rw [take_succ_of hx, List.all_append, h]; simp [hp]

set_option maxRecDepth 100000 in
set_option maxHeartbeats 3200000 in
theorem ValidWanderer_any (v : Value) (r : WData) (w : World) (h : RdW w v r) :
    Calls Try.prog 120 #[v] w fun e w' => e = .returned (.bool (okW r)) ∧ Below w.heap.size w w' := by
  have HV := Lib.hid (fun W (hb : Below w.heap.size w W) => statesW_any v r W (keepsW _ _ _ _ h hb))
  have HRW := Lib.hid (fun W (hb : Below w.heap.size w W) => keepsW _ _ _ _ h hb)
  obtain ⟨va, vb, rfl, hst, hmv⟩ := h
  obtain ⟨A, ka, rfl⟩ := rdI_shape hst
  obtain ⟨B, kb, rfl, a1, a2, a3⟩ := RdL.open hmv
  unfold maxLen at a2
  obtain ⟨L, st, mv⟩ := r
  simp only at *
  have HSL := Lib.hid (fun W (hb : Below w.heap.size w W) => isStateList_any _ st mv.length W (keepsI _ _ _ _ hst hb))
  clear hst hmv
  have HR := Lib.hid (Row.new w [.int .i64 L, .slice A st.length ka, .slice B mv.length kb] 68)
  have HB := Lib.hid (below_alloc w (.cells #[.int .i64 L, .slice A st.length ka, .slice B mv.length kb] 68))
  by_cases h1 : 1 ≤ L ∧ L ≤ 3
  · have d1 : decide (1 ≤ L ∧ L ≤ 3) = true := by simpa using h1
    have HL : Hid (∀ W, Calls Try.prog 130 #[.int .i64 L] W fun e w' => e = .returned (.bool true) ∧ W = w') := Lib.hid (fun W => by have := validLetters_any L W; rwa [d1] at this)
    clear d1
    by_cases h2 : 1 ≤ mv.length
    · by_cases h3 : mv.length ≤ 5
      · cases hri : rises mv.length st
        · have HRI := Lib.hid hri
          rw [hri] at HSL
          have e1 : decide ((mv.length : Int) < 1) = false := by simp; omega
          have e2 : decide (5 < (mv.length : Int)) = false := by simp; omega
          clear h1 hri a3
          go_enter Try.func120, Try.ntmps120
          go_wp2_with fail
          generalize w.alloc (.cells #[.int .i64 L, .slice A st.length ka, .slice B mv.length kb] 68) = W0 at *
          obtain ⟨⟨b0, b1, b2⟩, -⟩ := HR.out.three
          go_region_held3 (fun W => W.cell? ⟨w.heap.size, 0, none⟩ = some (.int .i64 L) ∧ W.cell? ⟨w.heap.size, 1, none⟩ = some (.slice A st.length ka) ∧ W.cell? ⟨w.heap.size, 2, none⟩ = some (.slice B mv.length kb))
            (first | go_keep | (go_split_ands; refine ⟨?_, ?_, ?_⟩ <;> exact below_keep hbk (by assumption)))
            (first
              | (go_at_call 130; refine (HL.out _).mono ?_; rintro e wv ⟨rfl, rfl⟩)
              | (go_at_call 147; (with_reducible refine (HSL.out _ (below_step HB.out (below_step HC3.out (by first | exact Below.refl _ _ | exact below_drew _ | exact below_drewN' _ _)))).mono ?_); rintro e ws ⟨rfl, rfl⟩)
              | (go_at_call 89; (with_reducible refine (HV.out _ (below_step HB.out (below_step HC2.out (by first | exact Below.refl _ _ | exact below_drew _ | exact below_drewN' _ _)))).mono ?_); rintro e wy3 ⟨rfl, hbk⟩; have HC3 := Lib.hid (below_step HC2.out (below_step (by first | exact Below.refl _ _ | exact below_drew _ | exact below_drewN' _ _) hbk)))
              | (go_at_call 89; (with_reducible refine (HV.out _ (below_step HB.out (below_step HC1.out (by first | exact Below.refl _ _ | exact below_drew _ | exact below_drewN' _ _)))).mono ?_); rintro e wy2 ⟨rfl, hbk⟩; have HC2 := Lib.hid (below_step HC1.out (below_step (by first | exact Below.refl _ _ | exact below_drew _ | exact below_drewN' _ _) hbk)))
              | (go_at_call 89; (with_reducible refine (HV.out _ (below_step HB.out (by first | exact Below.refl _ _ | exact below_drew _ | exact below_drewN' _ _))).mono ?_); rintro e wy1 ⟨rfl, hbk⟩; have HC1 := Lib.hid (show Below W0.heap.size W0 wy1 from below_step (by first | exact Below.refl _ _ | exact below_drew _ | exact below_drewN' _ _) hbk)))
          go_wp2
          go_ret
          exact ⟨ret_bool (by simp [okW, HRI.out]), below_step HB.out HC3.out⟩
        · have HRI := Lib.hid hri
          rw [hri] at HSL
          obtain ⟨h1a, h1b⟩ := h1
          have e1 : decide ((mv.length : Int) < 1) = false := by simp; omega
          have e2 : decide (5 < (mv.length : Int)) = false := by simp; omega
          clear hri
          go_enter Try.func120, Try.ntmps120
          go_wp2_with fail
          generalize w.alloc (.cells #[.int .i64 L, .slice A st.length ka, .slice B mv.length kb] 68) = W0 at *
          obtain ⟨⟨b0, b1, b2⟩, -⟩ := HR.out.three
          go_region_held3 (fun W => W.cell? ⟨w.heap.size, 0, none⟩ = some (.int .i64 L) ∧ W.cell? ⟨w.heap.size, 1, none⟩ = some (.slice A st.length ka) ∧ W.cell? ⟨w.heap.size, 2, none⟩ = some (.slice B mv.length kb))
            (first | go_keep | (go_split_ands; refine ⟨?_, ?_, ?_⟩ <;> exact below_keep hbk (by assumption)))
            (first
              | (go_at_call 130; refine (HL.out _).mono ?_; rintro e wv ⟨rfl, rfl⟩)
              | (go_at_call 147; (with_reducible refine (HSL.out _ (below_step HB.out (below_step HC3.out (by first | exact Below.refl _ _ | exact below_drew _ | exact below_drewN' _ _)))).mono ?_); rintro e ws ⟨rfl, rfl⟩)
              | (go_at_call 89; (with_reducible refine (HV.out _ (below_step HB.out (below_step HC2.out (by first | exact Below.refl _ _ | exact below_drew _ | exact below_drewN' _ _)))).mono ?_); rintro e wy3 ⟨rfl, hbk⟩; have HC3 := Lib.hid (below_step HC2.out (below_step (by first | exact Below.refl _ _ | exact below_drew _ | exact below_drewN' _ _) hbk)))
              | (go_at_call 89; (with_reducible refine (HV.out _ (below_step HB.out (below_step HC1.out (by first | exact Below.refl _ _ | exact below_drew _ | exact below_drewN' _ _)))).mono ?_); rintro e wy2 ⟨rfl, hbk⟩; have HC2 := Lib.hid (below_step HC1.out (below_step (by first | exact Below.refl _ _ | exact below_drew _ | exact below_drewN' _ _) hbk)))
              | (go_at_call 89; (with_reducible refine (HV.out _ (below_step HB.out (by first | exact Below.refl _ _ | exact below_drew _ | exact below_drewN' _ _))).mono ?_); rintro e wy1 ⟨rfl, hbk⟩; have HC1 := Lib.hid (show Below W0.heap.size W0 wy1 from below_step (by first | exact Below.refl _ _ | exact below_drew _ | exact below_drewN' _ _) hbk)))
          clear b0 b1 b2 e1 e2
          obtain ⟨⟨b0, b1, b2⟩, -⟩ := (HR.out.below HC3.out HR.out.lt).three
          go_wp2
          go_loopw [32] (fun i wr => ∃ s : Nat, s ≤ mv.length ∧ i = .int .i64 s ∧ Below W0.heap.size W0 wr ∧ (mv.take s).all (okRowW mv.length L) = true) (fun i _ => mv.length - (intOf i).toNat)
          case atStart => exact ⟨0, Nat.zero_le _, rfl, by first | exact HC3.out | exact HC3.out.drew | exact HC3.out.drewN _, by simp⟩
          case round =>
            clear b0 b1 b2
            obtain ⟨s, hs, rfl, hb, hp⟩ := hrel
            have HP := Lib.hid hp; clear hp
            have HQ := Lib.hid hb
            obtain ⟨⟨b0, b1, b2⟩, -⟩ := (HR.out.below hb HR.out.lt).three
            by_cases hlt : s < mv.length
            · obtain ⟨b, off, u, x, rfl, hx, hc, hRx⟩ := a3 s hlt
              obtain ⟨C, capx, rfl, x1, x2, x3⟩ := RdL.open hRx
              unfold maxLen at x2
              have HW := Lib.hid (below_step HB.out hb)
              have gc := below_keep HW.out hc
              have HX := Lib.hid hx
              clear hc hx hRx hb a3
              have i1 : (0 : Int) ≤ s := by omega
              have i2 : (s : Int) < mv.length := by omega
              by_cases hxl : (x.length : Int) = L + 2
              · have d5 : ((x.length : Int) != L + 2) = false := by simpa using hxl
                have HXL := Lib.hid hxl
                have hle1 : (x.length : Int) ≤ L + 2 := by omega
                have hle2 : L + 2 ≤ (x.length : Int) := by omega
                clear hxl
                go_wp2_with (go_at_call 132; refine (countSigns_any _ _ (by omega) (by omega)).mono ?_; rintro e w' ⟨rfl, rfl⟩)
                go_loopw [44] (fun i wi => ∃ k : Nat, k ≤ x.length ∧ i = .int .i64 k ∧ Below W0.heap.size W0 wi ∧ okColsTo mv.length L x k = true) (fun i _ => x.length - (intOf i).toNat)
                case atStart => exact ⟨0, Nat.zero_le _, rfl, HQ.out, by simp [okColsTo]⟩
                case round =>
                  clear b0 b1 b2 gc
                  obtain ⟨k, hk, rfl, hq, hp⟩ := hrel
                  have HP2 := Lib.hid hp; clear hp
                  have HQ2 := Lib.hid hq
                  have HW2 := Lib.hid (below_step HB.out hq)
                  obtain ⟨⟨b0, b1, b2⟩, -⟩ := (HR.out.below hq HR.out.lt).three
                  clear hq
                  by_cases hklt : k < x.length
                  · obtain ⟨bx, offx, ul, l, rfl, hl, hcl, hRl⟩ := x3 k hklt
                    have gl := below_keep HW2.out hcl
                    have HLL := Lib.hid hl
                    have HM := Lib.hid (isMoveList_any _ ul ⟨L, st, mv⟩ l (k : Int) wr (HRW.out wr HW2.out) (keepsP _ _ _ _ hRl HW2.out) h2 h3 h1a h1b)
                    obtain ⟨Cl, kl, rfl⟩ := RdP.shape hRl
                    clear hcl hRl hl x3
                    have j1 : (0 : Int) ≤ k := by omega
                    have j2 : (k : Int) < x.length := by omega
                    simp only at HM
                    cases hok : okListW mv.length L k l
                    · have HN := Lib.hid hok
                      rw [hok] at HM
                      clear hok
                      go_wp2_with fail
                      refine HM.out.mono ?_
                      rintro e wz ⟨rfl, hbk⟩
                      have HBK := Lib.hid hbk
                      clear hbk
                      go_wp2
                      go_ret
                      exact ⟨ret_bool (okW_row (r := ⟨L, st, mv⟩) HX.out (okCols_not HLL.out HN.out)).symm, below_step HW2.out HBK.out⟩
                    · have HN := Lib.hid hok
                      rw [hok] at HM
                      clear hok
                      go_wp2_with fail
                      refine HM.out.mono ?_
                      rintro e wz ⟨rfl, hbk⟩
                      have HBK := Lib.hid hbk
                      clear hbk
                      go_wp2
                      go_roundw
                      case rel => exact ⟨k + 1, by omega, by go_num, below_step HQ2.out HBK.out, okCols_succ HP2.out HLL.out HN.out⟩
                      case measure => simp [intOf]; omega
                  · clear x3
                    go_wp2
                    go_roundw
                    case rel => exact ⟨s + 1, by omega, by go_num, HQ2.out, all_snocW HX.out HP.out (okRowW_of HXL.out (by have := HP2.out; rwa [show k = x.length by omega] at this))⟩
                    case measure => simp [intOf]; omega
              · have d5 : ((x.length : Int) != L + 2) = true := by simpa using hxl
                have HXL := Lib.hid hxl
                clear hxl
                go_wp2_with (go_at_call 132; refine (countSigns_any _ _ (by omega) (by omega)).mono ?_; rintro e w' ⟨rfl, rfl⟩)
                go_ret
                exact ⟨ret_bool (okW_row (r := ⟨L, st, mv⟩) HX.out (by simp [okRowW, HXL.out])).symm, below_step HB.out HQ.out⟩
            · clear hb a3
              go_wp2
              go_ret
              exact ⟨ret_bool (okW_all (r := ⟨L, st, mv⟩) ⟨h1a, h1b⟩ ⟨by show (1 : Int) ≤ (mv.length : Int); omega, by show (mv.length : Int) ≤ 5; omega⟩ HRI.out (by have := HP.out; rwa [List.take_of_length_le (by omega)] at this)).symm, below_step HB.out HQ.out⟩
      · have e1 : decide ((mv.length : Int) < 1) = false := by simp; omega
        have e2 : decide (5 < (mv.length : Int)) = true := by simp; omega
        have e2n : decide (5 < mv.length) = true := by simp; omega
        have e2p : 5 < mv.length := by omega
        have e2q : 5 < (mv.length : Int) := by omega
        have e1n : decide (mv.length = 0) = false := decide_eq_false (by omega)
        have e1p : ¬ mv.length = 0 := by omega
        have e1q : ¬ (mv.length : Int) < 1 := by omega
        have e1r : decide (mv.length < 1) = false := decide_eq_false (by omega)
        have H3 := Lib.hid h3
        clear h1 h3 a3
        go_enter Try.func120, Try.ntmps120
        go_wp2_with fail
        generalize w.alloc (.cells #[.int .i64 L, .slice A st.length ka, .slice B mv.length kb] 68) = W0 at *
        obtain ⟨⟨b0, b1, b2⟩, -⟩ := HR.out.three
        first | (go_region_with
            (first
              | (go_at_call 130; refine (HL.out _).mono ?_; rintro e wv ⟨rfl, rfl⟩)
              | (go_at_call 147; (with_reducible refine (HSL.out _ (below_step HB.out (below_step HC3.out (by first | exact Below.refl _ _ | exact below_drew _ | exact below_drewN' _ _)))).mono ?_); rintro e ws ⟨rfl, rfl⟩)
              | (go_at_call 89; (with_reducible refine (HV.out _ (below_step HB.out (below_step HC2.out (by first | exact Below.refl _ _ | exact below_drew _ | exact below_drewN' _ _)))).mono ?_); rintro e wy3 ⟨rfl, hbk⟩; have HC3 := Lib.hid (below_step HC2.out (below_step (by first | exact Below.refl _ _ | exact below_drew _ | exact below_drewN' _ _) hbk)); obtain ⟨⟨k30, k31, k32⟩, -⟩ := (HR.out.below HC3.out HR.out.lt).three)
              | (go_at_call 89; (with_reducible refine (HV.out _ (below_step HB.out (below_step HC1.out (by first | exact Below.refl _ _ | exact below_drew _ | exact below_drewN' _ _)))).mono ?_); rintro e wy2 ⟨rfl, hbk⟩; have HC2 := Lib.hid (below_step HC1.out (below_step (by first | exact Below.refl _ _ | exact below_drew _ | exact below_drewN' _ _) hbk)); obtain ⟨⟨k20, k21, k22⟩, -⟩ := (HR.out.below HC2.out HR.out.lt).three)
              | (go_at_call 89; (with_reducible refine (HV.out _ (below_step HB.out (by first | exact Below.refl _ _ | exact below_drew _ | exact below_drewN' _ _))).mono ?_); rintro e wy1 ⟨rfl, hbk⟩; have HC1 := Lib.hid (show Below W0.heap.size W0 wy1 from below_step (by first | exact Below.refl _ _ | exact below_drew _ | exact below_drewN' _ _) hbk); obtain ⟨⟨k10, k11, k12⟩, -⟩ := (HR.out.below HC1.out HR.out.lt).three))) | fail
        all_goals (go_wp2; go_ret; exact ⟨ret_bool (by have := H3.out; simp [okW]; omega), below_step HB.out (by first | exact HC3.out | exact HC2.out | exact HC1.out | exact Below.refl _ _ | exact below_drew _ | exact below_drewN' _ _)⟩)
    · obtain rfl : mv = [] := List.length_eq_zero_iff.1 (by omega)
      simp only [List.length_nil] at *
      clear h1 h2 a3
      go_enter Try.func120, Try.ntmps120
      go_wp2_with fail
      generalize w.alloc (.cells #[.int .i64 L, .slice A st.length ka, .slice B 0 kb] 68) = W0 at *
      obtain ⟨⟨b0, b1, b2⟩, -⟩ := HR.out.three
      first | (go_region_with
          (first
            | (go_at_call 130; refine (HL.out _).mono ?_; rintro e wv ⟨rfl, rfl⟩)
            | (go_at_call 147; (with_reducible refine (HSL.out _ (below_step HB.out (below_step HC3.out (by first | exact Below.refl _ _ | exact below_drew _ | exact below_drewN' _ _)))).mono ?_); rintro e ws ⟨rfl, rfl⟩)
            | (go_at_call 89; (with_reducible refine (HV.out _ (below_step HB.out (below_step HC2.out (by first | exact Below.refl _ _ | exact below_drew _ | exact below_drewN' _ _)))).mono ?_); rintro e wy3 ⟨rfl, hbk⟩; have HC3 := Lib.hid (below_step HC2.out (below_step (by first | exact Below.refl _ _ | exact below_drew _ | exact below_drewN' _ _) hbk)); obtain ⟨⟨k30, k31, k32⟩, -⟩ := (HR.out.below HC3.out HR.out.lt).three)
            | (go_at_call 89; (with_reducible refine (HV.out _ (below_step HB.out (below_step HC1.out (by first | exact Below.refl _ _ | exact below_drew _ | exact below_drewN' _ _)))).mono ?_); rintro e wy2 ⟨rfl, hbk⟩; have HC2 := Lib.hid (below_step HC1.out (below_step (by first | exact Below.refl _ _ | exact below_drew _ | exact below_drewN' _ _) hbk)); obtain ⟨⟨k20, k21, k22⟩, -⟩ := (HR.out.below HC2.out HR.out.lt).three)
            | (go_at_call 89; (with_reducible refine (HV.out _ (below_step HB.out (by first | exact Below.refl _ _ | exact below_drew _ | exact below_drewN' _ _))).mono ?_); rintro e wy1 ⟨rfl, hbk⟩; have HC1 := Lib.hid (show Below W0.heap.size W0 wy1 from below_step (by first | exact Below.refl _ _ | exact below_drew _ | exact below_drewN' _ _) hbk); obtain ⟨⟨k10, k11, k12⟩, -⟩ := (HR.out.below HC1.out HR.out.lt).three))) | fail
      all_goals (go_wp2; go_ret; exact ⟨ret_bool (by simp [okW]), below_step HB.out (by first | exact HC3.out | exact HC2.out | exact HC1.out | exact Below.refl _ _ | exact below_drew _ | exact below_drewN' _ _)⟩)
  · have d1 : decide (1 ≤ L ∧ L ≤ 3) = false := by simpa using h1
    have HL : Hid (∀ W, Calls Try.prog 130 #[.int .i64 L] W fun e w' => e = .returned (.bool false) ∧ W = w') := Lib.hid (fun W => by have := validLetters_any L W; rwa [d1] at this)
    have D1 := Lib.hid d1
    clear d1 h1 a3
    go_enter Try.func120, Try.ntmps120
    go_wp2_with fail
    generalize w.alloc (.cells #[.int .i64 L, .slice A st.length ka, .slice B mv.length kb] 68) = W0 at *
    obtain ⟨⟨b0, b1, b2⟩, -⟩ := HR.out.three
    first | (go_region_with
        (first
          | (go_at_call 130; refine (HL.out _).mono ?_; rintro e wv ⟨rfl, rfl⟩)
          | (go_at_call 147; (with_reducible refine (HSL.out _ (below_step HB.out (below_step HC3.out (by first | exact Below.refl _ _ | exact below_drew _ | exact below_drewN' _ _)))).mono ?_); rintro e ws ⟨rfl, rfl⟩)
          | (go_at_call 89; (with_reducible refine (HV.out _ (below_step HB.out (below_step HC2.out (by first | exact Below.refl _ _ | exact below_drew _ | exact below_drewN' _ _)))).mono ?_); rintro e wy3 ⟨rfl, hbk⟩; have HC3 := Lib.hid (below_step HC2.out (below_step (by first | exact Below.refl _ _ | exact below_drew _ | exact below_drewN' _ _) hbk)); obtain ⟨⟨k30, k31, k32⟩, -⟩ := (HR.out.below HC3.out HR.out.lt).three)
          | (go_at_call 89; (with_reducible refine (HV.out _ (below_step HB.out (below_step HC1.out (by first | exact Below.refl _ _ | exact below_drew _ | exact below_drewN' _ _)))).mono ?_); rintro e wy2 ⟨rfl, hbk⟩; have HC2 := Lib.hid (below_step HC1.out (below_step (by first | exact Below.refl _ _ | exact below_drew _ | exact below_drewN' _ _) hbk)); obtain ⟨⟨k20, k21, k22⟩, -⟩ := (HR.out.below HC2.out HR.out.lt).three)
          | (go_at_call 89; (with_reducible refine (HV.out _ (below_step HB.out (by first | exact Below.refl _ _ | exact below_drew _ | exact below_drewN' _ _))).mono ?_); rintro e wy1 ⟨rfl, hbk⟩; have HC1 := Lib.hid (show Below W0.heap.size W0 wy1 from below_step (by first | exact Below.refl _ _ | exact below_drew _ | exact below_drewN' _ _) hbk); obtain ⟨⟨k10, k11, k12⟩, -⟩ := (HR.out.below HC1.out HR.out.lt).three))) | fail
    all_goals (go_wp2; go_ret; exact ⟨ret_bool (by simp [okW, D1.out]), below_step HB.out (by first | exact HC3.out | exact HC2.out | exact HC1.out | exact Below.refl _ _ | exact below_drew _ | exact below_drewN' _ _)⟩)
end Go.Proofs.Ytdkalefepdlccaa
