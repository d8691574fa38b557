/-
  Automata with many ways: the tests of the model and of the program say the same ('okM').
-/
import Derived.Test.YtgeopkjohijegabM1
import Derived.Test.YtgeopkjohijegabKM
import Derived.Test.YtgeopkjohijegabOpen
namespace Go.Proofs.Ytgeopkjohijegab
open Go.RowKit

def okRowM (L n : Int) (row : List (List Int)) : Bool := decide ((row.length : Int) = L) && row.all (rises n)
def okM (m : MData) : Bool := decide (1 ≤ m.L ∧ m.L ≤ 3) && (decide (1 ≤ (m.acc.length : Int) ∧ (m.acc.length : Int) ≤ 10) && (rises m.acc.length m.st && (decide ((m.next.length : Int) = m.acc.length) && m.next.all (okRowM m.L m.acc.length))))

theorem okRowM_not {L n : Int} {x : List (List Int)} {a : Nat} {t : List Int} (h : x[a]? = some t) (d : rises n t = false) : okRowM L n x = false := by
  have : x.all (rises n) = false := by
    rw [List.all_eq_false]; exact ⟨t, List.mem_of_getElem? h, by simp [d]⟩
  simp only [okRowM, this, Bool.and_false]
theorem okM_row {m : MData} {s : Nat} {x : List (List Int)} (h : m.next[s]? = some x) (d : okRowM m.L m.acc.length x = false) : okM m = false := by
  have : m.next.all (okRowM m.L m.acc.length) = false := by
    rw [List.all_eq_false]; exact ⟨x, List.mem_of_getElem? h, by simp [d]⟩
  simp only [okM, this, Bool.and_false]
theorem okM_all {m : MData} (d1 : decide (1 ≤ m.L ∧ m.L ≤ 3) = true) (d2 : decide (1 ≤ (m.acc.length : Int) ∧ (m.acc.length : Int) ≤ 10) = true) (d3 : rises m.acc.length m.st = true) (d4 : (m.next.length : Int) = m.acc.length)
    (d5 : m.next.all (okRowM m.L m.acc.length) = true) : okM m = true := by
  simp only [okM, d1, d2, d3, d4, d5, decide_true, Bool.and_true]

/-- An automaton behind a pointer. -/
def AtM (w : World) (p : Nat) (r : MData) : Prop :=
  ∃ a b c, w.cell? ⟨p, 0, none⟩ = some (.int .i64 r.L) ∧ w.cell? ⟨p, 1, none⟩ = some a ∧ w.cell? ⟨p, 2, none⟩ = some b ∧ w.cell? ⟨p, 3, none⟩ = some c ∧ RdI w a r.st ∧ RdB w b r.acc ∧ RdIII w c r.next

theorem atM_box {w : World} {v : Value} {r : MData} (h : RdM w v r) (e : TypeId) : ∃ a b c, v = .agg #[.int .i64 r.L, a, b, c] ∧ AtM (w.alloc (.cells #[.int .i64 r.L, a, b, c] e)) w.heap.size r := by
  obtain ⟨a, b, c, rfl, ha, hb, hc⟩ := h
  obtain ⟨⟨q0, q1, q2, q3⟩, -⟩ := (Row.new w [.int .i64 r.L, a, b, c] e).four
  exact ⟨a, b, c, rfl, a, b, c, q0, q1, q2, q3, keepsI _ _ _ _ ha (below_alloc _ _), keepsB _ _ _ _ hb (below_alloc _ _), keepsIII _ _ _ _ hc (below_alloc _ _)⟩

set_option maxHeartbeats 1600000 in
theorem l01Many_any (p : Nat) (r : MData) (w : World) (h : AtM w p r) :
    Calls Try.prog 74 #[.pointer (some ⟨p, 0, none⟩)] w fun e w' => e = .returned (.bool (okM r)) ∧ Qt w w' := by
  obtain ⟨L, st, acc, next⟩ := r
  obtain ⟨vs, a, n, c0, c1, c2, c3, hst, ha, hn⟩ := h
  obtain ⟨A, cap, rfl, a1, a2, -⟩ := ha.open
  obtain ⟨B, cap', rfl, n1, n2, n3⟩ := RdL.open hn
  unfold maxLen at a2 n2
  simp only at *
  have HS := Lib.hid (fun W (hq : Qt w W) => l00Rises_any vs st acc.length W (keepsI _ _ _ _ hst hq.below))
  by_cases h1 : 1 ≤ L ∧ L ≤ 3
  · have d1 : decide (1 ≤ L ∧ L ≤ 3) = true := by simpa using h1
    by_cases h2 : 1 ≤ (acc.length : Int) ∧ (acc.length : Int) ≤ 10
    · have d2 : decide (1 ≤ (acc.length : Int) ∧ (acc.length : Int) ≤ 10) = true := by simpa using h2
      by_cases h3 : rises acc.length st = true
      · have d3 := h3
        by_cases h4 : (next.length : Int) = acc.length
        · have d4 : ((next.length : Int) != (acc.length : Int)) = false := by simpa using h4
          have H4 := Lib.hid h4; clear h4 hst
          go_enter Try.func74, Try.ntmps74
          go_wp2_with (first | (go_at_call 70; refine (l00In_any _ _ _ _).mono ?_; rintro e w' ⟨rfl, rfl⟩) | (go_at_call 103; refine (HS.out _ (Qt.refl _)).mono ?_; rintro e w' ⟨rfl, m, rfl⟩))
          go_loopw [4] (fun i wr => ∃ s : Nat, s ≤ next.length ∧ i = .int .i64 s ∧ Qt w wr ∧ (next.take s).all (okRowM L acc.length) = true) (fun i _ => next.length - (intOf i).toNat)
          case atStart => exact ⟨0, Nat.zero_le _, rfl, (Qt.refl _).drewN _, by simp⟩
          case round =>
            obtain ⟨s, hs, rfl, hb, hp⟩ := hrel
            have HP := Lib.hid hp; clear hp
            have HB := Lib.hid hb
            by_cases hlt : s < next.length
            · obtain ⟨b, off, u, x, rfl, hx, hc, hR⟩ := n3 s hlt
              obtain ⟨C, capx, rfl, x1, x2, x3⟩ := RdL.open hR
              unfold maxLen at x2
              have g0 := (hb.cell _).trans c0
              have g3 := (hb.cell _).trans c3
              have gc := (hb.cell _).trans hc
              have HX := Lib.hid hx
              have HC := Lib.hid (show _ ∧ _ ∧ _ from ⟨c0, c3, hc⟩)
              clear c0 c1 c2 c3 hc hx hR hb n3 HS
              have i1 : (0 : Int) ≤ s := by omega
              have i2 : (s : Int) < next.length := by omega
              by_cases hxl : (x.length : Int) = L
              · have d5 : ((x.length : Int) != L) = false := by simpa using hxl
                have HXL := Lib.hid hxl; clear hxl
                go_wp2
                go_quiet (fail)
                go_wp2
                go_loopw [5] (fun i wi => ∃ a : Nat, a ≤ x.length ∧ i = .int .i64 a ∧ Qt w wi ∧ (x.take a).all (rises acc.length) = true) (fun i _ => x.length - (intOf i).toNat)
                case atStart => exact ⟨0, Nat.zero_le _, rfl, HB.out.drewN _, by simp⟩
                case round =>
                  clear g0 g3 gc
                  obtain ⟨a, ha, rfl, hq, hp⟩ := hrel
                  have HP2 := Lib.hid hp; clear hp
                  have HQ := Lib.hid hq
                  obtain ⟨c0, c3, hc⟩ := HC.out
                  have g0 := (hq.cell _).trans c0
                  have g3 := (hq.cell _).trans c3
                  have gc := (hq.cell _).trans hc
                  clear c0 c3 hc
                  by_cases halt : a < x.length
                  · obtain ⟨bx, offx, q, t, rfl, ht, hct, hT⟩ := x3 a halt
                    have gt := (hq.cell _).trans hct
                    have HT := Lib.hid ht
                    have HQT := Lib.hid (fun W (hqq : Qt w W) => l00Rises_any q t acc.length W (keepsI _ _ _ _ hT hqq.below))
                    clear hct ht x3 hq hT
                    have j1 : (0 : Int) ≤ a := by omega
                    have j2 : (a : Int) < x.length := by omega
                    by_cases hin : rises acc.length t = true
                    · go_wp2_with (go_at_call 103; refine (HQT.out _ HQ.out).mono ?_; rintro e w' ⟨rfl, m, rfl⟩)
                      have hin2 : rises acc.length t = true := hin
                      go_roundw
                      case rel => exact ⟨a + 1, by omega, by go_num, HQ.out.drewN _, by rw [take_succ_of HT.out, List.all_append, HP2.out]; simp [hin2]⟩
                      case measure => simp [intOf]; omega
                    · have d6 : rises acc.length t = false := by simpa using hin
                      have D6 := Lib.hid d6
                      clear hin
                      go_wp2_with (go_at_call 103; refine (HQT.out _ HQ.out).mono ?_; rintro e w' ⟨rfl, m, rfl⟩)
                      go_ret
                      exact ⟨ret_bool (okM_row (m := ⟨L, st, acc, next⟩) HX.out (okRowM_not HT.out D6.out)).symm, HQ.out.drewN _⟩
                  · clear hq x3
                    go_wp2
                    go_roundw
                    case rel => exact ⟨s + 1, by omega, by go_num, HQ.out, by rw [take_succ_of HX.out, List.all_append, HP.out]; simp [okRowM, HXL.out]; rw [List.take_of_length_le (by omega)] at HP2; simpa using HP2.out⟩
                    case measure => simp [intOf]; omega
              · have d5 : ((x.length : Int) != L) = true := by simpa using hxl
                have HXL := Lib.hid hxl; clear hxl
                go_wp2
                go_quiet (fail)
                go_wp2
                go_ret
                exact ⟨ret_bool (okM_row (m := ⟨L, st, acc, next⟩) HX.out (by simp [okRowM, HXL.out])).symm, HB.out.drewN _⟩
            · clear hb n3 c1 c2 HS
              have g0 := (HB.out.cell _).trans c0
              have g3 := (HB.out.cell _).trans c3
              clear c0 c3
              have D3 := Lib.hid d3
              go_wp2
              go_ret
              exact ⟨ret_bool (okM_all (m := ⟨L, st, acc, next⟩) d1 d2 D3.out H4.out (by have := HP.out; rwa [List.take_of_length_le (by omega)] at this)).symm, HB.out⟩
        · have d4 : ((next.length : Int) != (acc.length : Int)) = true := by simpa using h4
          have H4 := Lib.hid h4; clear h4
          go_enter Try.func74, Try.ntmps74
          go_wp2_with (first | (go_at_call 70; refine (l00In_any _ _ _ _).mono ?_; rintro e w' ⟨rfl, rfl⟩) | (go_at_call 103; refine (HS.out _ (Qt.refl _)).mono ?_; rintro e w' ⟨rfl, m, rfl⟩))
          go_ret
          exact ⟨ret_bool (by simp [okM, H4.out]), (Qt.refl _).drewN _⟩
      · have d3 : rises acc.length st = false := by simpa using h3
        have H3 := Lib.hid d3; clear h3
        go_enter Try.func74, Try.ntmps74
        go_wp2_with (first | (go_at_call 70; refine (l00In_any _ _ _ _).mono ?_; rintro e w' ⟨rfl, rfl⟩) | (go_at_call 103; refine (HS.out _ (Qt.refl _)).mono ?_; rintro e w' ⟨rfl, m, rfl⟩))
        go_ret
        exact ⟨ret_bool (by simp [okM, H3.out]), (Qt.refl _).drewN _⟩
    · have d2 : decide (1 ≤ (acc.length : Int) ∧ (acc.length : Int) ≤ 10) = false := by simpa using h2
      have H2 := Lib.hid h2; clear h2
      go_enter Try.func74, Try.ntmps74
      go_wp2_with (first | (go_at_call 70; refine (l00In_any _ _ _ _).mono ?_; rintro e w' ⟨rfl, rfl⟩) | (go_at_call 103; refine (HS.out _ (Qt.refl _)).mono ?_; rintro e w' ⟨rfl, m, rfl⟩))
      go_ret
      exact ⟨ret_bool (by simp [okM, d2]), Qt.refl _⟩
  · have d1 : decide (1 ≤ L ∧ L ≤ 3) = false := by simpa using h1
    have H1 := Lib.hid h1; clear h1
    go_enter Try.func74, Try.ntmps74
    go_wp2_with (first | (go_at_call 70; refine (l00In_any _ _ _ _).mono ?_; rintro e w' ⟨rfl, rfl⟩) | (go_at_call 103; refine (HS.out _ (Qt.refl _)).mono ?_; rintro e w' ⟨rfl, m, rfl⟩))
    go_ret
    exact ⟨ret_bool (by simp [okM, d1]), Qt.refl _⟩

theorem specValidMany_any (v : Value) (r : MData) (w : World) (h : RdM w v r) :
    Calls Try.prog 32 #[v] w fun e w' => e = .returned (.bool (okM r)) ∧ Below w.heap.size w w' := by
  obtain ⟨a, b, c, rfl, hA⟩ := atM_box h 51
  have H := Lib.hid (l01Many_any _ _ _ hA)
  clear h hA
  go_enter Try.func32, Try.ntmps32
  go_wp2_with (go_at_call 74; refine H.out.mono ?_; rintro e w' ⟨rfl, m, rfl⟩)
  go_ret
  exact ⟨rfl, below_drewN (below_alloc _ _) _⟩

set_option maxHeartbeats 1600000 in
theorem ValidMany_any (v : Value) (r : MData) (w : World) (h : RdM w v r) :
    Calls Try.prog 34 #[v] w fun e w' => e = .returned (.bool (okM r)) ∧ Below w.heap.size w w' := by
  obtain ⟨L, st, acc, next⟩ := r
  obtain ⟨vs, a, n, rfl, hst, ha, hn⟩ := h
  obtain ⟨A, cap, rfl, a1, a2, -⟩ := ha.open
  obtain ⟨B, cap', rfl, n1, n2, n3⟩ := RdL.open hn
  unfold maxLen at a2 n2
  simp only at *
  have HS := Lib.hid (fun W (hq : Below w.heap.size w W) => isStateList_any vs st acc.length W (keepsI _ _ _ _ hst hq))
  clear hst
  by_cases h1 : 1 ≤ L ∧ L ≤ 3
  · have d1 : decide (1 ≤ L ∧ L ≤ 3) = true := by simpa using h1
    by_cases h2 : 1 ≤ (acc.length : Int)
    · have d2 : decide ((acc.length : Int) < 1) = false := by simp; omega
      by_cases h2' : (acc.length : Int) ≤ 10
      · have d2' : decide (10 < (acc.length : Int)) = false := by simpa using h2'
        by_cases h4 : (next.length : Int) = acc.length
        · have d4 : ((next.length : Int) != (acc.length : Int)) = false := by simpa using h4
          have H4 := Lib.hid h4; clear h4
          by_cases h3 : rises acc.length st = true
          · have d3 := h3
            go_enter Try.func34, Try.ntmps34
            go_wp2_with (first | (go_at_call 77; refine (validLetters_any _ _).mono ?_; rintro e w' ⟨rfl, rfl⟩) | (go_at_call 78; refine (HS.out _ (below_alloc _ _)).mono ?_; rintro e w' ⟨rfl, rfl⟩))
            go_loop [40] (fun i => ∃ s : Nat, s ≤ next.length ∧ i = .int .i64 s ∧ (next.take s).all (okRowM L acc.length) = true) (fun i => next.length - (intOf i).toNat)
            case atStart => exact ⟨0, Nat.zero_le _, rfl, by simp⟩
            case round =>
              obtain ⟨s, hs, rfl, hp⟩ := hrel
              have HP := Lib.hid hp; clear hp
              by_cases hlt : s < next.length
              · obtain ⟨b, off, u, x, rfl, hx, hc, hR⟩ := n3 s hlt
                obtain ⟨C, capx, rfl, x1, x2, x3⟩ := RdL.open hR
                unfold maxLen at x2
                have hbl := World.block_lt_of_cell? _ _ hc
                have HX := Lib.hid hx
                clear hx hR n3 HS
                have i1 : (0 : Int) ≤ s := by omega
                have i2 : (s : Int) < next.length := by omega
                by_cases hxl : (x.length : Int) = L
                · have d5 : ((x.length : Int) != L) = false := by simpa using hxl
                  have HXL := Lib.hid hxl; clear hxl
                  go_wp2
                  go_loop [51] (fun i => ∃ a : Nat, a ≤ x.length ∧ i = .int .i64 a ∧ (x.take a).all (rises acc.length) = true) (fun i => x.length - (intOf i).toNat)
                  case atStart => exact ⟨0, Nat.zero_le _, rfl, by simp⟩
                  case round =>
                    obtain ⟨a, ha, rfl, hp⟩ := hrel
                    have HP2 := Lib.hid hp; clear hp
                    by_cases halt : a < x.length
                    · obtain ⟨bx, offx, q, t, rfl, ht, hct, hT⟩ := x3 a halt
                      have hbx := World.block_lt_of_cell? _ _ hct
                      have HT := Lib.hid ht
                      have HQT := Lib.hid (fun W (hq : Below w.heap.size w W) => isStateList_any q t acc.length W (keepsI _ _ _ _ hT hq))
                      clear ht x3 hT
                      have j1 : (0 : Int) ≤ a := by omega
                      have j2 : (a : Int) < x.length := by omega
                      by_cases hin : rises acc.length t = true
                      · go_wp2_with (go_at_call 78; refine (HQT.out _ (below_alloc _ _)).mono ?_; rintro e w' ⟨rfl, rfl⟩)
                        have hin2 : rises acc.length t = true := hin
                        go_round
                        case rel => exact ⟨a + 1, by omega, by go_num, by rw [take_succ_of HT.out, List.all_append, HP2.out]; simp [hin2]⟩
                        case measure => simp [intOf]; omega
                      · have d6 : rises acc.length t = false := by simpa using hin
                        have D6 := Lib.hid d6
                        clear hin
                        go_wp2_with (go_at_call 78; refine (HQT.out _ (below_alloc _ _)).mono ?_; rintro e w' ⟨rfl, rfl⟩)
                        go_ret
                        exact ⟨ret_bool (okM_row (m := ⟨L, st, acc, next⟩) HX.out (okRowM_not HT.out D6.out)).symm, below_alloc _ _⟩
                    · clear x3
                      go_wp2
                      go_round
                      case rel => exact ⟨s + 1, by omega, by go_num, by rw [take_succ_of HX.out, List.all_append, HP.out]; simp [okRowM, HXL.out]; rw [List.take_of_length_le (by omega)] at HP2; simpa using HP2.out⟩
                      case measure => simp [intOf]; omega
                · have d5 : ((x.length : Int) != L) = true := by simpa using hxl
                  have HXL := Lib.hid hxl; clear hxl
                  go_wp2
                  go_ret
                  exact ⟨ret_bool (okM_row (m := ⟨L, st, acc, next⟩) HX.out (by simp [okRowM, HXL.out])).symm, below_alloc _ _⟩
              · clear n3 HS
                have D3 := Lib.hid d3
                go_wp2
                go_ret
                exact ⟨ret_bool (okM_all (m := ⟨L, st, acc, next⟩) d1 (by simp; omega) D3.out H4.out (by have := HP.out; rwa [List.take_of_length_le (by omega)] at this)).symm, below_alloc _ _⟩
          · have d3 : rises acc.length st = false := by simpa using h3
            have H3 := Lib.hid d3; clear h3
            go_enter Try.func34, Try.ntmps34
            go_wp2_with (first | (go_at_call 77; refine (validLetters_any _ _).mono ?_; rintro e w' ⟨rfl, rfl⟩) | (go_at_call 78; refine (HS.out _ (below_alloc _ _)).mono ?_; rintro e w' ⟨rfl, rfl⟩))
            go_ret
            exact ⟨ret_bool (by simp [okM, H3.out]), below_alloc _ _⟩
        · have d4 : ((next.length : Int) != (acc.length : Int)) = true := by simpa using h4
          have H4 := Lib.hid h4; clear h4
          go_enter Try.func34, Try.ntmps34
          go_wp2_with (first | (go_at_call 77; refine (validLetters_any _ _).mono ?_; rintro e w' ⟨rfl, rfl⟩) | (go_at_call 78; refine (HS.out _ (below_alloc _ _)).mono ?_; rintro e w' ⟨rfl, rfl⟩))
          go_ret
          exact ⟨ret_bool (by simp [okM, H4.out]), below_alloc _ _⟩
      · have d2' : decide (10 < (acc.length : Int)) = true := by simpa using h2'
        have H2 := Lib.hid h2'; clear h2'
        go_enter Try.func34, Try.ntmps34
        go_wp2_with (first | (go_at_call 77; refine (validLetters_any _ _).mono ?_; rintro e w' ⟨rfl, rfl⟩) | (go_at_call 78; refine (HS.out _ (below_alloc _ _)).mono ?_; rintro e w' ⟨rfl, rfl⟩))
        go_ret
        exact ⟨ret_bool (by have := H2.out; simp [okM]; omega), below_alloc _ _⟩
    · have d2 : decide ((acc.length : Int) < 1) = true := by simp; omega
      have H2 := Lib.hid h2; clear h2
      go_enter Try.func34, Try.ntmps34
      go_wp2_with (first | (go_at_call 77; refine (validLetters_any _ _).mono ?_; rintro e w' ⟨rfl, rfl⟩) | (go_at_call 78; refine (HS.out _ (below_alloc _ _)).mono ?_; rintro e w' ⟨rfl, rfl⟩))
      go_ret
      exact ⟨ret_bool (by have := H2.out; simp [okM]; omega), below_alloc _ _⟩
  · have d1 : decide (1 ≤ L ∧ L ≤ 3) = false := by simpa using h1
    have H1 := Lib.hid h1; clear h1
    go_enter Try.func34, Try.ntmps34
    go_wp2_with (first | (go_at_call 77; refine (validLetters_any _ _).mono ?_; rintro e w' ⟨rfl, rfl⟩) | (go_at_call 78; refine (HS.out _ (below_alloc _ _)).mono ?_; rintro e w' ⟨rfl, rfl⟩))
    go_ret
    exact ⟨ret_bool (by simp [okM, d1]), below_alloc _ _⟩

open Go.ChangeShapes Go.WideShapes Go.ChangeAt Go.Joins
set_option maxRecDepth 100000 in
theorem open_many {H : Type} {enc : TypeId × Value → H} {W : World} {base : Nat} {v : Value} {d : DataW H} {p : List MemPlace} (hv : Value.okWide Try.prog W .any base 48 v) (h : DataW.Trod enc Try.prog W 0 (fun _ => true) true 48 v d p)
    (hf : Fit Try.prog 48 d) : ∃ r, RdM W v r ∧ MSmall r := by
  obtain ⟨v0, v1, v2, v3, y0, y1, y2, y3, n, rfl, rfl, _, g0, g1, g2, g3⟩ := open_agg4 Try.underlying48 (by kernel_rfl) (by kernel_rfl) hv h
  obtain ⟨L, rfl, -⟩ := opens_int Try.underlying2 n v0 y0 g0 (hf.part Try.underlying48 (j := 0) rfl rfl)
  obtain ⟨st, hs, qs⟩ := opens_ints Try.underlying45 Try.underlying2 (by kernel_rfl) (by kernel_rfl) n v1 y1 g1 (hf.part Try.underlying48 (j := 1) rfl rfl)
  obtain ⟨acc, ha, qa⟩ := opens_bools Try.underlying22 Try.underlying4 (by kernel_rfl) (by kernel_rfl) n v2 y2 g2 (hf.part Try.underlying48 (j := 2) rfl rfl)
  obtain ⟨next, hn, qn1, qn2⟩ := opens_slice Try.underlying46 (by kernel_rfl) (opens_slice Try.underlying23 (by kernel_rfl) (opens_ints Try.underlying45 Try.underlying2 (by kernel_rfl) (by kernel_rfl))) n v3 y3 g3 (hf.part Try.underlying48 (j := 3) rfl rfl)
  have eb : Try.prog.bytesOf 45 = 24 := by kernel_rfl
  have eb2 : Try.prog.bytesOf 23 = 24 := by kernel_rfl
  rw [eb2] at qn1
  rw [eb] at qn2
  simp only [reachBytes] at qs qa qn1 qn2
  refine ⟨⟨L, st, acc, next⟩, ⟨v1, v2, v3, rfl, hs, ha, hn⟩, ?_, ?_, ?_, ?_⟩
  · show 8 * st.length ≤ _; omega
  · show acc.length ≤ _; omega
  · show 24 * next.length ≤ _; omega
  · intro y hy
    have := qn2 y hy
    exact ⟨by omega, fun x hx => by have := this.2 x hx; omega⟩

end Go.Proofs.Ytgeopkjohijegab
