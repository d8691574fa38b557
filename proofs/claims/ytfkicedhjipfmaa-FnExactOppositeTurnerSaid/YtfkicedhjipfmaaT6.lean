/-
  The model's test of a reader: true just for what 'okR' says.
-/
import Derived.Test.YtfkicedhjipfmaaKR
namespace Go.Proofs.Ytfkicedhjipfmaa
open Go.RowKit

theorem l00In_any (n lo hi : Int) (w : World) :
    Calls Try.prog 83 #[.int .i64 n, .int .i64 lo, .int .i64 hi] w fun e w' => e = .returned (.bool (decide (lo ≤ n ∧ n ≤ hi))) ∧ w = w' := by
  by_cases h1 : lo ≤ n
  · by_cases h2 : n ≤ hi
    · go_enter Try.func83, Try.ntmps83
      go_wp2
      go_ret
      exact ⟨ret_bool (by simp [h1, h2]), rfl⟩
    · go_enter Try.func83, Try.ntmps83
      go_wp2
      go_ret
      exact ⟨ret_bool (by simp [h2]), rfl⟩
  · go_enter Try.func83, Try.ntmps83
    go_wp2
    go_ret
    exact ⟨ret_bool (by simp; omega), rfl⟩

/-- The same, in a word that the walk leaves alone. -/
def within (n lo hi : Int) : Bool := decide (lo ≤ n ∧ n ≤ hi)
theorem l00In_w (n lo hi : Int) (w : World) :
    Calls Try.prog 83 #[.int .i64 n, .int .i64 lo, .int .i64 hi] w fun e w' => e = .returned (.bool (within n lo hi)) ∧ w = w' := l00In_any n lo hi w

def inB (n t : Int) : Bool := decide (0 ≤ t ∧ t ≤ n - 1)
def okRow (L n : Int) (row : List Int) : Bool := decide ((row.length : Int) = L) && row.all (inB n)
def okR (r : RData) : Bool := decide (1 ≤ r.L ∧ r.L ≤ 3) && (decide (1 ≤ (r.acc.length : Int) ∧ (r.acc.length : Int) ≤ 300) && (decide (0 ≤ r.S ∧ r.S ≤ (r.acc.length : Int) - 1) && (decide ((r.next.length : Int) = r.acc.length) && r.next.all (okRow r.L r.acc.length))))

theorem okRow_not {L n t : Int} {x : List Int} {a : Nat} (h : x[a]? = some t) (d : decide (0 ≤ t ∧ t ≤ n - 1) = false) : okRow L n x = false := by
  have : x.all (inB n) = false := by
    rw [List.all_eq_false]
    exact ⟨t, List.mem_of_getElem? h, by simpa [inB] using d⟩
  simp [okRow, this]
theorem okR_row {r : RData} {s : Nat} {x : List Int} (h : r.next[s]? = some x) (d : okRow r.L r.acc.length x = false) : okR r = false := by
  have : r.next.all (okRow r.L r.acc.length) = false := by
    rw [List.all_eq_false]
    exact ⟨x, List.mem_of_getElem? h, by simp [d]⟩
  simp only [okR, this, Bool.and_false]
theorem okR_all {r : RData} (d1 : decide (1 ≤ r.L ∧ r.L ≤ 3) = true) (d2 : decide (1 ≤ (r.acc.length : Int) ∧ (r.acc.length : Int) ≤ 300) = true) (d3 : decide (0 ≤ r.S ∧ r.S ≤ (r.acc.length : Int) - 1) = true) (d4 : (r.next.length : Int) = r.acc.length)
    (d5 : r.next.all (okRow r.L r.acc.length) = true) : okR r = true := by
  simp only [okR, d1, d2, d3, d4, d5, decide_true, Bool.and_true]

/-- A reader behind a pointer. -/
def AtR (w : World) (p : Nat) (r : RData) : Prop :=
  ∃ a n, w.cell? ⟨p, 0, none⟩ = some (.int .i64 r.L) ∧ w.cell? ⟨p, 1, none⟩ = some (.int .i64 r.S) ∧ w.cell? ⟨p, 2, none⟩ = some a ∧ w.cell? ⟨p, 3, none⟩ = some n ∧ RdB w a r.acc ∧ RdII w n r.next

set_option maxHeartbeats 800000 in
theorem l01Ok_any (p : Nat) (r : RData) (w : World) (h : AtR w p r) :
    Calls Try.prog 39 #[.pointer (some ⟨p, 0, none⟩)] w fun e w' => e = .returned (.bool (okR r)) ∧ Qt w w' := by
  obtain ⟨L, S, acc, next⟩ := r
  obtain ⟨a, n, c0, c1, c2, c3, ha, hn⟩ := h
  obtain ⟨A, cap, rfl, a1, a2, -⟩ := ha.open
  obtain ⟨B, cap', rfl, n1, n2, n3⟩ := RdL.open hn
  unfold maxLen at a2 n2
  simp only at *
  by_cases h1 : 1 ≤ L ∧ L ≤ 3
  · have d1 : decide (1 ≤ L ∧ L ≤ 3) = true := by simpa using h1
    by_cases h2 : 1 ≤ (acc.length : Int) ∧ (acc.length : Int) ≤ 300
    · have d2 : decide (1 ≤ (acc.length : Int) ∧ (acc.length : Int) ≤ 300) = true := by simpa using h2
      by_cases h3 : 0 ≤ S ∧ S ≤ (acc.length : Int) - 1
      · have d3 : decide (0 ≤ S ∧ S ≤ (acc.length : Int) - 1) = true := by simpa using h3
        by_cases h4 : (next.length : Int) = acc.length
        · have d4 : ((next.length : Int) != (acc.length : Int)) = false := by simpa using h4
          have H4 := Lib.hid h4; clear h4
          go_enter Try.func39, Try.ntmps39
          go_wp2_with (go_at_call 83; refine (l00In_any _ _ _ _).mono ?_; rintro e w' ⟨rfl, rfl⟩)
          go_loopw [4] (fun i wr => ∃ s : Nat, s ≤ next.length ∧ i = .int .i64 s ∧ Qt w wr ∧ (next.take s).all (okRow L acc.length) = true) (fun i _ => next.length - (intOf i).toNat)
          case atStart => exact ⟨0, Nat.zero_le _, rfl, Qt.refl _, by simp⟩
          case round =>
            obtain ⟨s, hs, rfl, hb, hp⟩ := hrel
            have HP := Lib.hid hp; clear hp
            have HB := Lib.hid hb
            by_cases hlt : s < next.length
            · obtain ⟨b, off, u, x, rfl, hx, hc, hR⟩ := n3 s hlt
              obtain ⟨C, capx, rfl, x1, x2, x3⟩ := RdI.open hR
              unfold maxLen at x2
              have g0 := (hb.cell _).trans c0
              have g3 := (hb.cell _).trans c3
              have gc := (hb.cell _).trans hc
              have HX := Lib.hid hx
              have HC := Lib.hid (show _ ∧ _ ∧ _ from ⟨c0, c3, hc⟩)
              clear c0 c1 c2 c3 hc hx hR hb n3
              have i1 : (0 : Int) ≤ s := by omega
              have i2 : (s : Int) < next.length := by omega
              by_cases hxl : (x.length : Int) = L
              · have d5 : ((x.length : Int) != L) = false := by simpa using hxl
                have HXL := Lib.hid hxl; clear hxl
                go_wp2
                go_quiet (fail)
                go_wp2
                go_loopw [5] (fun i wi => ∃ a : Nat, a ≤ x.length ∧ i = .int .i64 a ∧ Qt w wi ∧ (x.take a).all (inB acc.length) = true) (fun i _ => x.length - (intOf i).toNat)
                case atStart => exact ⟨0, Nat.zero_le _, rfl, HB.out.drewN _, by simp⟩
                case round =>
                  clear g0 g3 gc
                  obtain ⟨a, ha, rfl, hq, hp⟩ := hrel
                  have HP2 := Lib.hid hp; clear hp
                  have HQ := Lib.hid hq
                  obtain ⟨c0, c3, hc⟩ := HC.out
                  have g0 := (hq.cell _).trans c0
                  have g3 := (hq.cell _).trans c3
                  have gc := (hq.cell _).trans hc
                  clear c0 c3 hc
                  by_cases halt : a < x.length
                  · obtain ⟨bx, offx, t, rfl, ht, hct⟩ := x3 a halt
                    have gt := (hq.cell _).trans hct
                    have HT := Lib.hid ht
                    clear hct ht x3 hq
                    have j1 : (0 : Int) ≤ a := by omega
                    have j2 : (a : Int) < x.length := by omega
                    by_cases hin : 0 ≤ t ∧ t ≤ (acc.length : Int) - 1
                    · have d6 : decide (0 ≤ t ∧ t ≤ (acc.length : Int) - 1) = true := by simpa using hin
                      clear hin
                      go_wp2_with (go_at_call 83; refine (l00In_any _ _ _ _).mono ?_; rintro e w' ⟨rfl, rfl⟩)
                      go_roundw
                      case rel => exact ⟨a + 1, by omega, by go_num, HQ.out, by rw [take_succ_of HT.out, List.all_append, HP2.out]; simpa [inB] using d6⟩
                      case measure => simp [intOf]; omega
                    · have d6 : decide (0 ≤ t ∧ t ≤ (acc.length : Int) - 1) = false := by simpa using hin
                      clear hin
                      go_wp2_with (go_at_call 83; refine (l00In_any _ _ _ _).mono ?_; rintro e w' ⟨rfl, rfl⟩)
                      go_ret
                      exact ⟨ret_bool (okR_row (r := ⟨L, S, acc, next⟩) HX.out (okRow_not HT.out d6)).symm, HQ.out⟩
                  · clear hq x3
                    go_wp2
                    go_roundw
                    case rel => exact ⟨s + 1, by omega, by go_num, HQ.out, by rw [take_succ_of HX.out, List.all_append, HP.out]; simp [okRow, HXL.out]; rw [List.take_of_length_le (by omega)] at HP2; simpa using HP2.out⟩
                    case measure => simp [intOf]; omega
              · have d5 : ((x.length : Int) != L) = true := by simpa using hxl
                have HXL := Lib.hid hxl; clear hxl
                go_wp2
                go_quiet (fail)
                go_wp2
                go_ret
                exact ⟨ret_bool (okR_row (r := ⟨L, S, acc, next⟩) HX.out (by simp [okRow, HXL.out])).symm, HB.out.drewN _⟩
            · clear hb n3 c1 c2
              have g0 := (HB.out.cell _).trans c0
              have g3 := (HB.out.cell _).trans c3
              clear c0 c3
              go_wp2
              go_ret
              exact ⟨ret_bool (okR_all (r := ⟨L, S, acc, next⟩) d1 d2 d3 H4.out (by have := HP.out; rwa [List.take_of_length_le (by omega)] at this)).symm, HB.out⟩
        · have d4 : ((next.length : Int) != (acc.length : Int)) = true := by simpa using h4
          have H4 := Lib.hid h4; clear h4
          go_enter Try.func39, Try.ntmps39
          go_wp2_with (go_at_call 83; refine (l00In_any _ _ _ _).mono ?_; rintro e w' ⟨rfl, rfl⟩)
          go_ret
          exact ⟨ret_bool (by simp [okR, H4.out]), Qt.refl _⟩
      · have d3 : decide (0 ≤ S ∧ S ≤ (acc.length : Int) - 1) = false := by simpa using h3
        have H3 := Lib.hid h3; clear h3
        go_enter Try.func39, Try.ntmps39
        go_wp2_with (go_at_call 83; refine (l00In_any _ _ _ _).mono ?_; rintro e w' ⟨rfl, rfl⟩)
        go_ret
        exact ⟨ret_bool (by simp [okR, d3]), Qt.refl _⟩
    · have d2 : decide (1 ≤ (acc.length : Int) ∧ (acc.length : Int) ≤ 300) = false := by simpa using h2
      have H2 := Lib.hid h2; clear h2
      go_enter Try.func39, Try.ntmps39
      go_wp2_with (go_at_call 83; refine (l00In_any _ _ _ _).mono ?_; rintro e w' ⟨rfl, rfl⟩)
      go_ret
      exact ⟨ret_bool (by simp [okR, d2]), Qt.refl _⟩
  · have d1 : decide (1 ≤ L ∧ L ≤ 3) = false := by simpa using h1
    have H1 := Lib.hid h1; clear h1
    go_enter Try.func39, Try.ntmps39
    go_wp2_with (go_at_call 83; refine (l00In_any _ _ _ _).mono ?_; rintro e w' ⟨rfl, rfl⟩)
    go_ret
    exact ⟨ret_bool (by simp [okR, d1]), Qt.refl _⟩
end Go.Proofs.Ytfkicedhjipfmaa
