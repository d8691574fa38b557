/-
  A pebbler's moves, and the model's test of a pebbler.
-/
import Derived.Test.YtidnohgjbbnadaaKB
import Derived.Test.YtidnohgjbbnadaaV1
import Derived.Test.YtidnohgjbbnadaaV2
namespace Go.Proofs.Ytidnohgjbbnadaa
open Go.RowKit

/-- What a move may do with the pebble. -/
def canDoB (h : Bool) (m : Tri) : Bool := decide (m.2.2 = 0 ∨ (m.2.2 = 1 ∧ 0 ≤ m.1 ∧ h = false) ∨ (m.2.2 = 2 ∧ 0 ≤ m.1 ∧ h = true))
def okPM (n L c : Int) (h : Bool) (m : Tri) : Bool := okMove n L c (m.1, m.2.1) && canDoB h m
/-- A move right in the k-th place of its row. -/
def okPMat (n L : Int) (k : Nat) (m : Tri) : Bool := okPM n L ((k : Int) / 2) ((k : Int).tmod 2 == 1) m
def okPMsTo (n L : Int) (row : List Tri) (k : Nat) : Bool := (List.range k).all fun (j : Nat) => okPMat n L j (row.getD j (0, 0, 0))
def okPMRow (n L : Int) (row : List Tri) : Bool := decide ((row.length : Int) = 2 * (L + 2)) && okPMsTo n L row row.length
def okB (t : PbData) : Bool := decide (1 ≤ t.L ∧ t.L ≤ 3) && (decide (1 ≤ (t.mv.length : Int) ∧ (t.mv.length : Int) ≤ 8) && (decide (0 ≤ t.S ∧ t.S ≤ (t.mv.length : Int) - 1) && t.mv.all (okPMRow t.mv.length t.L)))

theorem okPMsTo_succ {n L : Int} {row : List Tri} {k : Nat} {m : Tri} (hm : row[k]? = some m) (h : okPMsTo n L row k = true) (hk : okPMat n L k m = true) : okPMsTo n L row (k + 1) = true := by
  unfold okPMsTo at h ⊢
  rw [List.range_succ, List.all_append, h]
  simp [List.getD, hm, hk]
theorem okPMsTo_not {n L : Int} {row : List Tri} {k : Nat} {m : Tri} (hm : row[k]? = some m) (hk : okPMat n L k m = false) : okPMsTo n L row row.length = false := by
  have hl := (List.getElem?_eq_some_iff.1 hm).1
  unfold okPMsTo
  rw [List.all_eq_false]
  exact ⟨k, by simpa using hl, by simp [List.getD, hm, hk]⟩
theorem okB_row {t : PbData} {s : Nat} {x : List Tri} (h : t.mv[s]? = some x) (d : okPMRow t.mv.length t.L x = false) : okB t = false := by
  have : t.mv.all (okPMRow t.mv.length t.L) = false := by
    rw [List.all_eq_false]
    exact ⟨x, List.mem_of_getElem? h, by simp [d]⟩
  simp only [okB, this, Bool.and_false]
theorem okB_all {t : PbData} (d1 : decide (1 ≤ t.L ∧ t.L ≤ 3) = true) (d2 : decide (1 ≤ (t.mv.length : Int) ∧ (t.mv.length : Int) ≤ 8) = true) (d3 : decide (0 ≤ t.S ∧ t.S ≤ (t.mv.length : Int) - 1) = true)
    (d5 : t.mv.all (okPMRow t.mv.length t.L) = true) : okB t = true := by
  simp only [okB, d1, d2, d3, d5, Bool.and_true]
theorem okPRow_of {n L : Int} {x : List Tri} (h1 : (x.length : Int) = 2 * (L + 2)) (h2 : okPMsTo n L x x.length = true) : okPMRow n L x = true := by simp [okPMRow, h1, h2]

/-- A pebbler behind a pointer. -/
def AtB (w : World) (p : Nat) (t : PbData) : Prop :=
  ∃ m, w.cell? ⟨p, 0, none⟩ = some (.int .i64 t.L) ∧ w.cell? ⟨p, 1, none⟩ = some (.int .i64 t.S) ∧ w.cell? ⟨p, 2, none⟩ = some m ∧ Rd33 w m t.mv
theorem AtB.below {w w' : World} {p : Nat} {t : PbData} (h : AtB w p t) (hb : Below w.heap.size w w') : AtB w' p t := by
  obtain ⟨m, c0, c1, c2, hm⟩ := h
  exact ⟨m, below_keep hb c0, below_keep hb c1, below_keep hb c2, keeps33 _ _ _ _ hm hb⟩
theorem atB_box {w : World} {v : Value} {t : PbData} (h : RdPb w v t) (e : TypeId) : ∃ m, v = .agg #[.int .i64 t.L, .int .i64 t.S, m] ∧ AtB (w.alloc (.cells #[.int .i64 t.L, .int .i64 t.S, m] e)) w.heap.size t := by
  obtain ⟨m, rfl, hm⟩ := h
  obtain ⟨⟨q0, q1, q2⟩, -⟩ := (Row.new w [.int .i64 t.L, .int .i64 t.S, m] e).three
  exact ⟨m, rfl, m, q0, q1, q2, keeps33 _ _ _ _ hm (below_alloc _ _)⟩

set_option maxHeartbeats 3200000 in
theorem l06Move_any (x y z n L k : Int) (h : Bool) (w : World) (hn1 : 1 ≤ n) (hn2 : n ≤ 12) (hL1 : 1 ≤ L) (hL2 : L ≤ 3) :
    Calls Try.prog 95 #[.agg #[.int .i64 x, .int .i64 y, .int .i64 z], .int .i64 n, .int .i64 L, .int .i64 k, .bool h] w fun e w' => e = .returned (.bool (okPM n L k h (x, y, z))) ∧ Below w.heap.size w w' := by
  cases h
  all_goals
    go_enter Try.func95, Try.ntmps95
    go_wp2_with (go_at_call 83; refine (l00In_w _ _ _ _).mono ?_; rintro e w' ⟨rfl, rfl⟩)
    all_goals go_ret
    all_goals refine ⟨ret_bool ?_, below_alloc _ _⟩
    all_goals rw [Bool.eq_iff_iff]
    all_goals simp_all [okPM, canDoB, okMove, within]
    all_goals omega
theorem l06MoveAt_any (x y z : Int) (k : Nat) (n L : Int) (w : World) (hn1 : 1 ≤ n) (hn2 : n ≤ 12) (hL1 : 1 ≤ L) (hL2 : L ≤ 3) (hk : (k : Int) ≤ 20) :
    Calls Try.prog 95 #[.agg #[.int .i64 x, .int .i64 y, .int .i64 z], .int .i64 n, .int .i64 L, .int .i64 (IntKind.i64.wrap ((k : Int) / 2)), .bool ((k : Int).tmod 2 == 1)] w fun e w' => e = .returned (.bool (okPMat n L k (x, y, z))) ∧ Below w.heap.size w w' := by
  rw [show IntKind.i64.wrap ((k : Int) / 2) = (k : Int) / 2 from IntWalk.i64_in _ (by omega)]
  exact l06Move_any x y z n L ((k : Int) / 2) ((k : Int).tmod 2 == 1) w hn1 hn2 hL1 hL2

set_option maxHeartbeats 1600000 in
theorem l06Pebbler_any (p : Nat) (t : PbData) (w : World) (h : AtB w p t) :
    Calls Try.prog 61 #[.pointer (some ⟨p, 0, none⟩)] w fun e w' => e = .returned (.bool (okB t)) ∧ Below w.heap.size w w' := by
  obtain ⟨L, S, mv⟩ := t
  obtain ⟨m, c0, c1, c2, hm⟩ := h
  obtain ⟨A, cap, rfl, a1, a2, a3⟩ := RdL.open hm
  unfold maxLen at a2
  simp only at *
  by_cases h1 : 1 ≤ L ∧ L ≤ 3
  · have d1 : decide (1 ≤ L ∧ L ≤ 3) = true := by simpa using h1
    by_cases h2 : 1 ≤ (mv.length : Int) ∧ (mv.length : Int) ≤ 8
    · have d2 : decide (1 ≤ (mv.length : Int) ∧ (mv.length : Int) ≤ 8) = true := by simpa using h2
      by_cases h3 : 0 ≤ S ∧ S ≤ (mv.length : Int) - 1
      · have d3 : decide (0 ≤ S ∧ S ≤ (mv.length : Int) - 1) = true := by simpa using h3
        obtain ⟨h1a, h1b⟩ := h1
        obtain ⟨h2a, h2b⟩ := h2
        have wL : IntKind.i64.wrap (2 * (L + 2)) = 2 * (L + 2) := IntWalk.i64_in _ (by omega)
        have WL := Lib.hid wL
        clear wL
        go_enter Try.func61, Try.ntmps61
        go_wp2_with (go_at_call 83; refine (l00In_any _ _ _ _).mono ?_; rintro e w' ⟨rfl, rfl⟩)
        go_loopw [4] (fun i wr => ∃ s : Nat, s ≤ mv.length ∧ i = .int .i64 s ∧ Below w.heap.size w wr ∧ (mv.take s).all (okPMRow mv.length L) = true) (fun i _ => mv.length - (intOf i).toNat)
        case atStart => exact ⟨0, Nat.zero_le _, rfl, Below.refl _ _, by simp⟩
        case round =>
          obtain ⟨s, hs, rfl, hb, hp⟩ := hrel
          have HP := Lib.hid hp; clear hp
          have HB := Lib.hid hb
          by_cases hlt : s < mv.length
          · obtain ⟨b, off, u, x, rfl, hx, hc, hR⟩ := a3 s hlt
            obtain ⟨C, capx, rfl, x1, x2, x3⟩ := Rd3.open hR
            unfold maxLen at x2
            have g0 := below_keep hb c0
            have g2 := below_keep hb c2
            have gc := below_keep hb hc
            have HX := Lib.hid hx
            have HC := Lib.hid (show _ ∧ _ ∧ _ from ⟨c0, c2, hc⟩)
            clear c0 c1 c2 hc hx hR hb a3
            have i1 : (0 : Int) ≤ s := by omega
            have i2 : (s : Int) < mv.length := by omega
            by_cases hxl : (x.length : Int) = 2 * (L + 2)
            · have d5 : ((x.length : Int) != 2 * (L + 2)) = false := by simpa using hxl
              have HXL := Lib.hid hxl
              have hle1 : (x.length : Int) ≤ 2 * (L + 2) := by omega
              have hle2 : 2 * (L + 2) ≤ (x.length : Int) := by omega
              clear hxl
              have wL := WL.out
              go_wp2
              go_quiet (fail)
              clear wL
              go_wp2
              go_loopw [5] (fun i wi => ∃ k : Nat, k ≤ x.length ∧ i = .int .i64 k ∧ Below w.heap.size w wi ∧ okPMsTo mv.length L x k = true) (fun i _ => x.length - (intOf i).toNat)
              case atStart => exact ⟨0, Nat.zero_le _, rfl, by first | exact HB.out | exact HB.out.drew | exact below_drewN HB.out _, by simp [okPMsTo]⟩
              case round =>
                clear g0 g2 gc
                obtain ⟨k, hk, rfl, hq, hp⟩ := hrel
                have HP2 := Lib.hid hp; clear hp
                have HQ := Lib.hid hq
                clear hq
                obtain ⟨c0, c2, hc⟩ := HC.out
                have g0 := below_keep HQ.out c0
                have g2 := below_keep HQ.out c2
                have gc := below_keep HQ.out hc
                clear c0 c2 hc
                by_cases hklt : k < x.length
                · obtain ⟨bx, offx, tx, ty, tz, rfl, ht, hct, hdt, het⟩ := x3 k hklt
                  have gt := below_keep HQ.out hct
                  have gd := below_keep HQ.out hdt
                  have ge := below_keep HQ.out het
                  have HT := Lib.hid ht
                  clear hct hdt het ht x3
                  have j1 : (0 : Int) ≤ k := by omega
                  have j2 : (k : Int) < x.length := by omega
                  have j3 : (k : Int) < 2 * (L + 2) := by omega
                  have hkb : (k : Int) ≤ 20 := by omega
                  have HM := Lib.hid (fun W => l06MoveAt_any tx ty tz k mv.length L W h2a (by omega) h1a h1b hkb)
                  by_cases hin : okPMat mv.length L k (tx, ty, tz) = true
                  · go_wp2_with fail
                    go_region_held3 (fun W => W.cell? ⟨p, 0, none⟩ = some (.int .i64 L) ∧ W.cell? ⟨p, 2, none⟩ = some (.slice (some ⟨b, off, none⟩) mv.length cap) ∧ W.cell? ⟨b, off + s, none⟩ = some (.slice (some ⟨bx, offx, none⟩) x.length capx) ∧ W.cell? ⟨bx, offx + k * 3, none⟩ = some (.int .i64 tx) ∧ W.cell? ⟨bx, offx + k * 3 + 1, none⟩ = some (.int .i64 ty) ∧ W.cell? ⟨bx, offx + k * 3 + 2, none⟩ = some (.int .i64 tz))
                      (first | go_keep | (go_split_ands; refine ⟨?_, ?_, ?_, ?_, ?_, ?_⟩ <;> exact below_keep hbk (by assumption)))
                      (first
                        | (go_at_call 95; (with_reducible refine (HM.out _).mono ?_); rintro e wz ⟨rfl, hbk⟩; have HCz := Lib.hid (show Below wr.heap.size wr wz from below_step (by first | exact Below.refl _ _ | exact below_drew _ | exact below_drewN' _ _) hbk)))
                    go_wp2
                    go_roundw
                    case rel => exact ⟨k + 1, by omega, by go_num, below_step HQ.out HCz.out, okPMsTo_succ HT.out HP2.out hin⟩
                    case measure => simp [intOf]; omega
                  · have hin' : okPMat mv.length L k (tx, ty, tz) = false := by simpa using hin
                    clear hin
                    go_wp2_with fail
                    go_region_held3 (fun W => W.cell? ⟨p, 0, none⟩ = some (.int .i64 L) ∧ W.cell? ⟨p, 2, none⟩ = some (.slice (some ⟨b, off, none⟩) mv.length cap) ∧ W.cell? ⟨b, off + s, none⟩ = some (.slice (some ⟨bx, offx, none⟩) x.length capx) ∧ W.cell? ⟨bx, offx + k * 3, none⟩ = some (.int .i64 tx) ∧ W.cell? ⟨bx, offx + k * 3 + 1, none⟩ = some (.int .i64 ty) ∧ W.cell? ⟨bx, offx + k * 3 + 2, none⟩ = some (.int .i64 tz))
                      (first | go_keep | (go_split_ands; refine ⟨?_, ?_, ?_, ?_, ?_, ?_⟩ <;> exact below_keep hbk (by assumption)))
                      (first
                        | (go_at_call 95; (with_reducible refine (HM.out _).mono ?_); rintro e wz ⟨rfl, hbk⟩; have HCz := Lib.hid (show Below wr.heap.size wr wz from below_step (by first | exact Below.refl _ _ | exact below_drew _ | exact below_drewN' _ _) hbk)))
                    go_wp2
                    go_ret
                    exact ⟨ret_bool (okB_row (t := ⟨L, S, mv⟩) HX.out (by unfold okPMRow; rw [okPMsTo_not HT.out hin', Bool.and_false])).symm, below_step HQ.out HCz.out⟩
                · clear x3
                  have hkL : ¬ (k : Int) < 2 * (L + 2) := by omega
                  go_wp2
                  go_roundw
                  case rel => exact ⟨s + 1, by omega, by go_num, HQ.out, all_snoc HX.out HP.out (okPRow_of HXL.out (by have := HP2.out; rwa [show k = x.length by omega] at this))⟩
                  case measure => simp [intOf]; omega
            · have d5 : ((x.length : Int) != 2 * (L + 2)) = true := by simpa using hxl
              have HXL := Lib.hid hxl
              clear hxl
              have wL := WL.out
              go_wp2
              go_quiet (fail)
              clear wL
              go_wp2
              go_ret
              exact ⟨ret_bool (okB_row (t := ⟨L, S, mv⟩) HX.out (by simp [okPMRow, HXL.out])).symm, below_drewN HB.out _⟩
          · have g0 := below_keep hb c0
            have g2 := below_keep hb c2
            clear hb a3 c0 c1 c2
            go_wp2
            go_ret
            exact ⟨ret_bool (okB_all (t := ⟨L, S, mv⟩) d1 d2 d3 (by have := HP.out; rwa [List.take_of_length_le (by omega)] at this)).symm, HB.out⟩
      · have d3 : decide (0 ≤ S ∧ S ≤ (mv.length : Int) - 1) = false := by simpa using h3
        have H3 := Lib.hid h3; clear h3
        go_enter Try.func61, Try.ntmps61
        go_wp2_with (go_at_call 83; refine (l00In_any _ _ _ _).mono ?_; rintro e w' ⟨rfl, rfl⟩)
        go_ret
        exact ⟨ret_bool (by simp [okB, d3]), Below.refl _ _⟩
    · have d2 : decide (1 ≤ (mv.length : Int) ∧ (mv.length : Int) ≤ 8) = false := by simpa using h2
      have H2 := Lib.hid h2; clear h2
      go_enter Try.func61, Try.ntmps61
      go_wp2_with (go_at_call 83; refine (l00In_any _ _ _ _).mono ?_; rintro e w' ⟨rfl, rfl⟩)
      go_ret
      exact ⟨ret_bool (by simp [okB, d2]), Below.refl _ _⟩
  · have d1 : decide (1 ≤ L ∧ L ≤ 3) = false := by simpa using h1
    have H1 := Lib.hid h1; clear h1
    go_enter Try.func61, Try.ntmps61
    go_wp2_with (go_at_call 83; refine (l00In_any _ _ _ _).mono ?_; rintro e w' ⟨rfl, rfl⟩)
    go_ret
    exact ⟨ret_bool (by simp [okB, d1]), Below.refl _ _⟩

theorem specValidPebbler_any (v : Value) (t : PbData) (w : World) (h : RdPb w v t) :
    Calls Try.prog 21 #[v] w fun e w' => e = .returned (.bool (okB t)) ∧ Below w.heap.size w w' := by
  obtain ⟨m, rfl, hA⟩ := atB_box h 48
  have H := Lib.hid (l06Pebbler_any _ _ _ hA)
  clear h hA
  go_enter Try.func21, Try.ntmps21
  go_wp2_with (go_at_call 61; refine H.out.mono ?_; rintro e w' ⟨rfl, hb⟩)
  go_ret
  exact ⟨rfl, below_step (below_alloc _ _) hb⟩
end Go.Proofs.Ytidnohgjbbnadaa
