/-
  Words with a certain letter from the end: the tests of numbers, the moves of the turner, its closure.
-/
import Derived.Test.YtfkicedhjipfmaaTd1
import Derived.Test.YtfkicedhjipfmaaV5
import Derived.Test.YtfkicedhjipfmaaSt2
namespace Go.Proofs.Ytfkicedhjipfmaa
open Go.RowKit

def okNth (L n : Int) : Bool := within L 1 3 && within n 1 8
theorem okNth_parts {L n : Int} (h : okNth L n = true) : (1 ≤ L ∧ L ≤ 3) ∧ (1 ≤ n ∧ n ≤ 8) := by simpa [okNth, within] using h
theorem isCount64_any (n m : Int) (w : World) :
    Calls Try.prog 95 #[.int .i64 n, .int .i64 m] w fun e w' => e = .returned (.bool (within n 1 m)) ∧ w = w' := by
  by_cases h1 : 1 ≤ n
  · by_cases h2 : n ≤ m
    · go_enter Try.func95, Try.ntmps95
      go_wp2
      go_ret
      exact ⟨ret_bool (by simp [within]; omega), rfl⟩
    · go_enter Try.func95, Try.ntmps95
      go_wp2
      go_ret
      exact ⟨ret_bool (by simp [within]; omega), rfl⟩
  · go_enter Try.func95, Try.ntmps95
    go_wp2
    go_ret
    exact ⟨ret_bool (by simp [within]; omega), rfl⟩
theorem isNth_any (L n : Int) (w : World) :
    Calls Try.prog 69 #[.int .i64 L, .int .i64 n] w fun e w' => e = .returned (.bool (okNth L n)) ∧ w = w' := by
  have HV := Lib.hid (fun W => validLetters_any L W)
  by_cases h1 : 1 ≤ L ∧ L ≤ 3
  · rw [decide_eq_true h1] at HV
    have HE := Lib.hid (show okNth L n = within n 1 8 by simp [okNth, within, h1])
    clear h1
    go_enter Try.func69, Try.ntmps69
    go_wp2_with (first | (go_at_call 84; refine (HV.out _).mono ?_; rintro e w' ⟨rfl, rfl⟩) | (go_at_call 95; refine (isCount64_any _ _ _).mono ?_; rintro e w' ⟨rfl, rfl⟩))
    go_ret
    exact ⟨ret_bool HE.out.symm, rfl⟩
  · rw [decide_eq_false h1] at HV
    have HE := Lib.hid (show okNth L n = false by simp only [okNth, within, decide_eq_false h1, Bool.false_and])
    clear h1
    go_enter Try.func69, Try.ntmps69
    go_wp2_with (go_at_call 84; refine (HV.out _).mono ?_; rintro e w' ⟨rfl, rfl⟩)
    go_ret
    exact ⟨ret_bool HE.out.symm, rfl⟩
theorem l06Nth_any (L n : Int) (w : World) :
    Calls Try.prog 68 #[.int .i64 L, .int .i64 n] w fun e w' => e = .returned (.bool (okNth L n)) ∧ w = w' := by
  have HV := Lib.hid (fun W => l00In_w L 1 3 W)
  have HV2 := Lib.hid (fun W => l00In_w n 1 8 W)
  by_cases h1 : within L 1 3 = true
  · rw [h1] at HV
    have HE := Lib.hid (show okNth L n = within n 1 8 by simp [okNth, h1])
    clear h1
    go_enter Try.func68, Try.ntmps68
    go_wp2_with (first | (go_at_call 83; with_reducible refine (HV.out _).mono ?_; rintro e w' ⟨rfl, rfl⟩) | (go_at_call 83; with_reducible refine (HV2.out _).mono ?_; rintro e w' ⟨rfl, rfl⟩))
    go_ret
    exact ⟨ret_bool HE.out.symm, rfl⟩
  · have h1' : within L 1 3 = false := by simpa using h1
    rw [h1'] at HV
    have HE := Lib.hid (show okNth L n = false by simp [okNth, h1'])
    clear h1 h1'
    go_enter Try.func68, Try.ntmps68
    go_wp2_with (go_at_call 83; with_reducible refine (HV.out _).mono ?_; rintro e w' ⟨rfl, rfl⟩)
    go_ret
    exact ⟨ret_bool HE.out.symm, rfl⟩
theorem isMark_any (L k : Int) (w : World) : Calls Try.prog 71 #[.int .i64 L, .int .i64 k] w fun e w' => e = .returned (.bool (decide (L ≤ k))) ∧ w = w' := by
  go_enter Try.func71, Try.ntmps71
  go_wp2
  go_ret
  exact ⟨rfl, rfl⟩

/-- What the turner does in the state q above the sign k. -/
def nthG (L n q k : Nat) : Int × Int :=
  if q = 0 then (if k = L + 1 then (1, -1) else (0, 1)) else if L ≤ k then (-2, 0) else if q = n then (if k = 0 then (-1, 0) else (-2, 0)) else ((q : Int) + 1, -1)
theorem nthG_deeded (L n q k : Nat) : Deeded (nthG L n q k) := by
  unfold nthG Deeded
  repeat' split
  all_goals simp
  all_goals omega
theorem deedV_stopT : deedV (-1, 0) = .iface 77 (.agg #[.bool true]) := by simp [deedV, stopV]
theorem deedV_stopF : deedV (-2, 0) = .iface 77 (.agg #[.bool false]) := by simp [deedV, stopV]
theorem deedV_goT (x y : Int) (h : 0 ≤ x) : deedV (x, y) = .iface 75 (.agg #[.int .i64 x, .int .i64 y]) := by
  simp only [deedV, walkV]; rw [if_neg (by omega), if_neg (by omega)]

set_option maxHeartbeats 1600000 in
theorem nthClosure_any (L n q k pl pn : Nat) (w : World) (hl : w.cell? ⟨pl, 0, none⟩ = some (.int .i64 (L : Int))) (hn : w.cell? ⟨pn, 0, none⟩ = some (.int .i64 (n : Int))) (hL : L ≤ 3) (hq : q ≤ n) (hn8 : n ≤ 8) :
    Calls Try.prog 70 #[.int .i64 (q : Int), .int .i64 (k : Int), .pointer (some ⟨pl, 0, none⟩), .pointer (some ⟨pn, 0, none⟩)] w fun e w' => e = .returned (deedV (nthG L n q k)) ∧ Below w.heap.size w w' := by
  have HR := Lib.hid (fun W => rightMark_any (L : Int) W (by omega) (by omega))
  have HM := Lib.hid (fun W => isMark_any (L : Int) (k : Int) W)
  by_cases h0 : q = 0
  · subst h0
    by_cases h1 : k = L + 1
    · have e1 : ((k : Int) == (L : Int) + 1) = true := by rw [beq_iff_eq]; omega
      have HE := Lib.hid (show deedV (nthG L n 0 k) = .iface 75 (.agg #[.int .i64 1, .int .i64 (-1)]) by rw [nthG, if_pos rfl, if_pos h1, deedV_goT _ _ (by omega)])
      clear h1
      go_enter Try.func70, Try.ntmps70
      go_wp2_with (go_at_call 47; refine (HR.out _).mono ?_; rintro e w' ⟨rfl, rfl⟩)
      go_ret
      exact ⟨by rw [HE.out]; rfl, Below.refl _ _⟩
    · have e1 : ((k : Int) == (L : Int) + 1) = false := by rw [beq_eq_false_iff_ne]; omega
      have HE := Lib.hid (show deedV (nthG L n 0 k) = .iface 75 (.agg #[.int .i64 0, .int .i64 1]) by rw [nthG, if_pos rfl, if_neg h1, deedV_goT _ _ (by omega)])
      clear h1
      go_enter Try.func70, Try.ntmps70
      go_wp2_with (go_at_call 47; refine (HR.out _).mono ?_; rintro e w' ⟨rfl, rfl⟩)
      go_ret
      exact ⟨by rw [HE.out]; rfl, Below.refl _ _⟩
  · have e0 : ((q : Int) == 0) = false := by rw [beq_eq_false_iff_ne]; omega
    by_cases h1 : L ≤ k
    · rw [decide_eq_true (show (L : Int) ≤ k by omega)] at HM
      have HE := Lib.hid (show deedV (nthG L n q k) = .iface 77 (.agg #[.bool false]) by rw [nthG, if_neg h0, if_pos h1, deedV_stopF])
      clear h1 h0
      go_enter Try.func70, Try.ntmps70
      go_wp2_with (go_at_call 71; refine (HM.out _).mono ?_; rintro e w' ⟨rfl, rfl⟩)
      go_ret
      exact ⟨by rw [HE.out]; rfl, Below.refl _ _⟩
    · rw [decide_eq_false (show ¬ (L : Int) ≤ k by omega)] at HM
      by_cases h2 : q = n
      · have e2 : ((q : Int) == (n : Int)) = true := by rw [beq_iff_eq]; omega
        by_cases h3 : k = 0
        · have HE := Lib.hid (show deedV (nthG L n q k) = .iface 77 (.agg #[.bool true]) by rw [nthG, if_neg h0, if_neg h1, if_pos h2, if_pos h3, deedV_stopT])
          subst h3
          clear h1 h0 h2
          go_enter Try.func70, Try.ntmps70
          go_wp2_with (go_at_call 71; refine (HM.out _).mono ?_; rintro e w' ⟨rfl, rfl⟩)
          go_ret
          exact ⟨by rw [HE.out]; rfl, Below.refl _ _⟩
        · have e3 : ((k : Int) == 0) = false := by rw [beq_eq_false_iff_ne]; omega
          have HE := Lib.hid (show deedV (nthG L n q k) = .iface 77 (.agg #[.bool false]) by rw [nthG, if_neg h0, if_neg h1, if_pos h2, if_neg h3, deedV_stopF])
          clear h1 h0 h2 h3
          go_enter Try.func70, Try.ntmps70
          go_wp2_with (go_at_call 71; refine (HM.out _).mono ?_; rintro e w' ⟨rfl, rfl⟩)
          go_ret
          exact ⟨by rw [HE.out]; rfl, Below.refl _ _⟩
      · have e2 : ((q : Int) == (n : Int)) = false := by rw [beq_eq_false_iff_ne]; omega
        have HE := Lib.hid (show deedV (nthG L n q k) = .iface 75 (.agg #[.int .i64 ((q : Int) + 1), .int .i64 (-1)]) by rw [nthG, if_neg h0, if_neg h1, if_neg h2, deedV_goT _ _ (by omega)])
        clear h1 h0 h2
        go_enter Try.func70, Try.ntmps70
        go_wp2_with (go_at_call 71; refine (HM.out _).mono ?_; rintro e w' ⟨rfl, rfl⟩)
        go_ret
        exact ⟨by rw [HE.out]; rfl, Below.refl _ _⟩
end Go.Proofs.Ytfkicedhjipfmaa
