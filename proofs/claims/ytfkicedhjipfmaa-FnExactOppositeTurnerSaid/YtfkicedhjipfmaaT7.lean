/-
  The program's test of a reader: true just for what 'okR' says.
-/
import Derived.Test.YtfkicedhjipfmaaT6
namespace Go.Proofs.Ytfkicedhjipfmaa
open Go.RowKit

theorem validLetters_any (n : Int) (w : World) :
    Calls Try.prog 84 #[.int .i64 n] w fun e w' => e = .returned (.bool (decide (1 ≤ n ∧ n ≤ 3))) ∧ w = w' := by
  by_cases h1 : 1 ≤ n
  · by_cases h2 : n ≤ 3
    · go_enter Try.func84, Try.ntmps84
      go_wp2
      go_ret
      exact ⟨ret_bool (by simp [h1, h2]), rfl⟩
    · go_enter Try.func84, Try.ntmps84
      go_wp2
      go_ret
      exact ⟨ret_bool (by simp [h2]), rfl⟩
  · go_enter Try.func84, Try.ntmps84
    go_wp2
    go_ret
    exact ⟨ret_bool (by simp; omega), rfl⟩

theorem isState_any (s n : Int) (w : World) :
    Calls Try.prog 85 #[.int .i64 s, .int .i64 n] w fun e w' => e = .returned (.bool (decide (0 ≤ s ∧ s < n))) ∧ w = w' := by
  by_cases h1 : 0 ≤ s
  · by_cases h2 : s < n
    · go_enter Try.func85, Try.ntmps85
      go_wp2
      go_ret
      exact ⟨ret_bool (by simp [h1, h2]), rfl⟩
    · go_enter Try.func85, Try.ntmps85
      go_wp2
      go_ret
      exact ⟨ret_bool (by simp [h2]), rfl⟩
  · go_enter Try.func85, Try.ntmps85
    go_wp2
    go_ret
    exact ⟨ret_bool (by simp; omega), rfl⟩

/-- The same, in a word that the walk leaves alone. -/
theorem isState_w (s n : Int) (w : World) :
    Calls Try.prog 85 #[.int .i64 s, .int .i64 n] w fun e w' => e = .returned (.bool (within s 0 (n - 1))) ∧ w = w' :=
  (isState_any s n w).mono fun e w' ⟨h1, h2⟩ => ⟨h1.trans (ret_bool (by unfold within; congr 1; exact propext (by omega))), h2⟩

set_option maxHeartbeats 800000 in
theorem ValidReader_any (v : Value) (r : RData) (w : World) (h : RdR w v r) :
    Calls Try.prog 43 #[v] w fun e w' => e = .returned (.bool (okR r)) ∧ Below w.heap.size w w' := by
  obtain ⟨L, S, acc, next⟩ := r
  obtain ⟨a, n, rfl, ha, hn⟩ := h
  obtain ⟨A, cap, rfl, a1, a2, -⟩ := ha.open
  obtain ⟨B, cap', rfl, n1, n2, n3⟩ := RdL.open hn
  unfold maxLen at a2 n2
  simp only at *
  by_cases h1 : 1 ≤ L ∧ L ≤ 3
  · have d1 : decide (1 ≤ L ∧ L ≤ 3) = true := by simpa using h1
    by_cases h2 : (acc.length : Int) ≤ 300
    · have d2 : decide (300 < (acc.length : Int)) = false := by simpa using h2
      by_cases h3 : 0 ≤ S ∧ S < (acc.length : Int)
      · have d3 : decide (0 ≤ S ∧ S < (acc.length : Int)) = true := by simpa using h3
        by_cases h4 : (next.length : Int) = acc.length
        · have d4 : ((next.length : Int) != (acc.length : Int)) = false := by simpa using h4
          have H4 := Lib.hid h4; clear h4
          go_enter Try.func43, Try.ntmps43
          go_wp2_with (first | (go_at_call 84; refine (validLetters_any _ _).mono ?_; rintro e w' ⟨rfl, rfl⟩) | (go_at_call 85; refine (isState_any _ _ _).mono ?_; rintro e w' ⟨rfl, rfl⟩))
          go_loop [36] (fun i => ∃ s : Nat, s ≤ next.length ∧ i = .int .i64 s ∧ (next.take s).all (okRow L acc.length) = true) (fun i => next.length - (intOf i).toNat)
          case atStart => exact ⟨0, Nat.zero_le _, rfl, by simp⟩
          case round =>
            obtain ⟨s, hs, rfl, hp⟩ := hrel
            have HP := Lib.hid hp; clear hp
            by_cases hlt : s < next.length
            · obtain ⟨b, off, u, x, rfl, hx, hc, hR⟩ := n3 s hlt
              obtain ⟨C, capx, rfl, x1, x2, x3⟩ := RdI.open hR
              unfold maxLen at x2
              have hbl := World.block_lt_of_cell? _ _ hc
              have HX := Lib.hid hx
              clear hx hR n3
              have i1 : (0 : Int) ≤ s := by omega
              have i2 : (s : Int) < next.length := by omega
              by_cases hxl : (x.length : Int) = L
              · have d5 : ((x.length : Int) != L) = false := by simpa using hxl
                have HXL := Lib.hid hxl; clear hxl
                go_wp2
                go_loop [47] (fun i => ∃ a : Nat, a ≤ x.length ∧ i = .int .i64 a ∧ (x.take a).all (inB acc.length) = true) (fun i => x.length - (intOf i).toNat)
                case atStart => exact ⟨0, Nat.zero_le _, rfl, by simp⟩
                case round =>
                  obtain ⟨a, ha, rfl, hp⟩ := hrel
                  have HP2 := Lib.hid hp; clear hp
                  by_cases halt : a < x.length
                  · obtain ⟨bx, offx, t, rfl, ht, hct⟩ := x3 a halt
                    have hbx := World.block_lt_of_cell? _ _ hct
                    have HT := Lib.hid ht
                    clear ht x3
                    have j1 : (0 : Int) ≤ a := by omega
                    have j2 : (a : Int) < x.length := by omega
                    by_cases hin : 0 ≤ t ∧ t < (acc.length : Int)
                    · have d6 : decide (0 ≤ t ∧ t < (acc.length : Int)) = true := by simpa using hin
                      have HIN := Lib.hid hin
                      clear hin
                      go_wp2_with (first | (go_at_call 84; refine (validLetters_any _ _).mono ?_; rintro e w' ⟨rfl, rfl⟩) | (go_at_call 85; refine (isState_any _ _ _).mono ?_; rintro e w' ⟨rfl, rfl⟩))
                      go_round
                      case rel => exact ⟨a + 1, by omega, by go_num, by rw [take_succ_of HT.out, List.all_append, HP2.out]; have := HIN.out; simp [inB]; omega⟩
                      case measure => simp [intOf]; omega
                    · have d6 : decide (0 ≤ t ∧ t < (acc.length : Int)) = false := by simpa using hin
                      have HIN := Lib.hid hin
                      clear hin
                      go_wp2_with (first | (go_at_call 84; refine (validLetters_any _ _).mono ?_; rintro e w' ⟨rfl, rfl⟩) | (go_at_call 85; refine (isState_any _ _ _).mono ?_; rintro e w' ⟨rfl, rfl⟩))
                      go_ret
                      exact ⟨ret_bool (okR_row (r := ⟨L, S, acc, next⟩) HX.out (okRow_not HT.out (by have := HIN.out; simp; omega))).symm, below_alloc _ _⟩
                  · clear x3
                    go_wp2
                    go_round
                    case rel => exact ⟨s + 1, by omega, by go_num, by rw [take_succ_of HX.out, List.all_append, HP.out]; simp [okRow, HXL.out]; rw [List.take_of_length_le (by omega)] at HP2; simpa using HP2.out⟩
                    case measure => simp [intOf]; omega
              · have d5 : ((x.length : Int) != L) = true := by simpa using hxl
                have HXL := Lib.hid hxl; clear hxl
                go_wp2
                go_ret
                exact ⟨ret_bool (okR_row (r := ⟨L, S, acc, next⟩) HX.out (by simp [okRow, HXL.out])).symm, below_alloc _ _⟩
            · clear n3
              go_wp2
              go_ret
              exact ⟨ret_bool (okR_all (r := ⟨L, S, acc, next⟩) d1 (by simp; omega) (by simp; omega) H4.out (by have := HP.out; rwa [List.take_of_length_le (by omega)] at this)).symm, below_alloc _ _⟩
        · have d4 : ((next.length : Int) != (acc.length : Int)) = true := by simpa using h4
          have H4 := Lib.hid h4; clear h4
          go_enter Try.func43, Try.ntmps43
          go_wp2_with (first | (go_at_call 84; refine (validLetters_any _ _).mono ?_; rintro e w' ⟨rfl, rfl⟩) | (go_at_call 85; refine (isState_any _ _ _).mono ?_; rintro e w' ⟨rfl, rfl⟩))
          go_ret
          exact ⟨ret_bool (by simp [okR, H4.out]), below_alloc _ _⟩
      · have d3 : decide (0 ≤ S ∧ S < (acc.length : Int)) = false := by simpa using h3
        have H3 := Lib.hid h3; clear h3
        go_enter Try.func43, Try.ntmps43
        go_wp2_with (first | (go_at_call 84; refine (validLetters_any _ _).mono ?_; rintro e w' ⟨rfl, rfl⟩) | (go_at_call 85; refine (isState_any _ _ _).mono ?_; rintro e w' ⟨rfl, rfl⟩))
        go_ret
        exact ⟨ret_bool (by have := H3.out; simp [okR]; omega), below_alloc _ _⟩
    · have d2 : decide (300 < (acc.length : Int)) = true := by simpa using h2
      have H2 := Lib.hid h2; clear h2
      go_enter Try.func43, Try.ntmps43
      go_wp2_with (first | (go_at_call 84; refine (validLetters_any _ _).mono ?_; rintro e w' ⟨rfl, rfl⟩) | (go_at_call 85; refine (isState_any _ _ _).mono ?_; rintro e w' ⟨rfl, rfl⟩))
      go_ret
      exact ⟨ret_bool (by have := H2.out; simp [okR]; omega), below_alloc _ _⟩
  · have d1 : decide (1 ≤ L ∧ L ≤ 3) = false := by simpa using h1
    have H1 := Lib.hid h1; clear h1
    go_enter Try.func43, Try.ntmps43
    go_wp2_with (first | (go_at_call 84; refine (validLetters_any _ _).mono ?_; rintro e w' ⟨rfl, rfl⟩) | (go_at_call 85; refine (isState_any _ _ _).mono ?_; rintro e w' ⟨rfl, rfl⟩))
    go_ret
    exact ⟨ret_bool (by simp [okR, d1]), below_alloc _ _⟩
end Go.Proofs.Ytfkicedhjipfmaa
