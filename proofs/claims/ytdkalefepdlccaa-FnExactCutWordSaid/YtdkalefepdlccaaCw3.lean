/-
  Words that are cut or pumped: the model's answers, and the program's CutWord.
-/
import Derived.Test.YtdkalefepdlccaaCw2
namespace Go.Proofs.Ytdkalefepdlccaa
open Go.RowKit

theorem outS_size (s : ByteArray) (i j : Nat) (k : Nat) (hi : i ≤ s.size) : (outS s i j k).size ≤ i + k * s.size := by
  induction k with
  | zero => rw [outS, ByteArray.size_extract]; omega
  | succ k ih =>
    rw [outS, ByteArray.size_append, ByteArray.size_extract, Nat.succ_mul]
    omega

set_option maxRecDepth 100000 in
set_option maxHeartbeats 3200000 in
theorem specPump_any (v : Value) (t : TData) (s : ByteArray) (i j times : Int) (w : World) (h : RdT w v t) (hs : s.size ≤ maxLen) (hi : (Lit.int .i64 i).wf = true) (hj : (Lit.int .i64 j).wf = true) (_ht : (Lit.int .i64 times).wf = true) :
    Calls Try.prog 44 #[v, .string s, .int .i64 i, .int .i64 j, .int .i64 times] w fun e w' => e = .returned (.tuple #[.string (pumpRes t s i j times).1, .int .i64 (pumpRes t s i j times).2]) ∧ Below w.heap.size w w' := by
  obtain ⟨vm, rfl, hA⟩ := atT_box h 31
  have HEQ := Lib.hid (l04Equal_any _ t s i j _ hA hs hi hj)
  have HB := Lib.hid (below_alloc w (.cells #[.int .i64 t.L, .int .i64 t.S, vm] 31))
  clear h hA
  by_cases hg : givenC t s = 0
  · have s60 := (okWord_parts (givenC_zero hg).2).1
    by_cases ht0 : times < 0
    · have HRES := Lib.hid (show pumpRes t s i j times = (⟨#[]⟩, 2) by unfold pumpRes; rw [if_pos hg, if_neg (by omega)])
      have hne : (eqC t s i j == 1) = false := by
        by_cases hr : 0 ≤ i ∧ i < j ∧ j ≤ s.size
        · rcases eqC_or hg hr with h | h <;> rw [h] <;> rfl
        · rw [eqC_two hg hr]; rfl
      clear hg
      go_enter Try.func44, Try.ntmps44
      go_wp2_with fail
      refine HEQ.out.mono ?_
      rintro e w1 ⟨rfl, hb1⟩
      have HB1 := Lib.hid (below_step HB.out hb1)
      clear hb1
      go_wp2
      refine bodyPost_ret (v := .tuple #[.string ⟨#[]⟩, .int .i64 2]) (by simp [results, Try.results44, go_sem]) rfl ?_
      rw [HRES.out]
      exact ⟨rfl, HB1.out⟩
    · by_cases hr : 0 ≤ i ∧ i < j ∧ j ≤ s.size
      · rcases eqC_or hg hr with hq | hq
        · cases hov : over (s.size : Int) (j - i) times
          · have HRES := Lib.hid (show pumpRes t s i j times = (pumpS s i j times.toNat, 0) by unfold pumpRes; rw [if_pos hg, if_pos (by omega), if_pos hq, if_neg (by rw [hov]; decide)])
            have hov2 := hov
            simp only [over, Bool.or_eq_false_iff, decide_eq_false_iff_not] at hov2
            obtain ⟨v1, v2⟩ := hov2
            obtain ⟨r1, r2, r3⟩ := hr
            obtain ⟨ni, rfl⟩ := Int.eq_ofNat_of_zero_le r1
            obtain ⟨nj, rfl⟩ := Int.eq_ofNat_of_zero_le (show 0 ≤ j by omega)
            obtain ⟨nt, rfl⟩ := Int.eq_ofNat_of_zero_le (show 0 ≤ times by omega)
            obtain ⟨M, hM⟩ : ∃ M : Int, M = ((nt : Int) - 1) * ((nj : Int) - (ni : Int)) := ⟨_, rfl⟩
            have HMB := Int.mul_le_mul_of_nonneg_right (show (nt : Int) - 1 ≤ 59 by omega) (show 0 ≤ (nj : Int) - (ni : Int) by omega)
            have HML := Int.mul_le_mul_of_nonneg_right (show (-1 : Int) ≤ (nt : Int) - 1 by omega) (show 0 ≤ (nj : Int) - (ni : Int) by omega)
            rw [← hM] at v2 HMB HML
            have wm : IntKind.i64.wrap (((nt : Int) - 1) * ((nj : Int) - (ni : Int))) = M := by rw [← hM]; exact IntWalk.i64_in _ (by omega)
            have u1 : decide (60 < (s.size : Int) + M) = false := by simp; omega
            have u2 : decide ((60 : Int) < (nt : Int)) = false := by simp; omega
            have u3 : decide (60 < nt) = false := by simp; omega
            have x1 : (ni : Int) ≤ s.size := by omega
            have x2 : (nj : Int) ≤ s.size := by omega
            have x3 : (ni : Int) ≤ nj := by omega
            have x4 : (0 : Int) ≤ (ni : Int) := by omega
            have x5 : (0 : Int) ≤ (nj : Int) := by omega
            have m1 : -60 ≤ M := by omega
            have m2 : M ≤ 3600 := by omega
            rw [hq] at HEQ
            have HMM := Lib.hid hM
            clear hg hov hM HMB HML hq
            go_enter Try.func44, Try.ntmps44
            go_wp2_with fail
            refine HEQ.out.mono ?_
            rintro e w1 ⟨rfl, hb1⟩
            have HB1 := Lib.hid (below_step HB.out hb1)
            clear hb1
            go_wp2
            clear wm u1 u2 u3
            go_loop [13, 14] (fun o i => ∃ k : Nat, k ≤ nt ∧ i = .int .i64 k ∧ o = .string (outS s ni nj k)) (fun _ i => nt - (intOf i).toNat)
            case atStart => exact ⟨0, Nat.zero_le _, rfl, rfl⟩
            case round =>
              obtain ⟨k, hk, rfl, rfl⟩ := hrel
              have hsz := outS_size s ni nj k (by omega)
              have hks : k * s.size ≤ 3600 := by have := Nat.mul_le_mul (show k ≤ 60 by omega) s60; omega
              have HSU := Lib.hid (show outS s ni nj (k + 1) = outS s ni nj k ++ s.extract ni nj from rfl)
              have HOS := Lib.hid (pumpS_out s ni nj k)
              have hO : (outS s ni nj k).size ≤ 3660 := by omega
              by_cases hlt : k < nt
              · have i1 : (k : Int) < nt := by omega
                have y0 : (outS s ni nj k).size + (s.extract ni nj).size ≤ 9223372036854775807 := by rw [ByteArray.size_extract]; omega
                have y4 : (s.extract ni nj).size = nj - ni := by rw [ByteArray.size_extract]; omega
                generalize outS s ni nj k = O at *
                clear HOS hsz hks
                go_wp2
                go_round
                case rel => exact ⟨k + 1, by omega, by go_num, by rw [HSU.out]⟩
                case measure => simp [intOf]; omega
              · obtain rfl : k = nt := by omega
                have y4 : (s.extract nj s.size).size = s.size - nj := by rw [ByteArray.size_extract]; omega
                generalize outS s ni nj k = O at *
                clear HSU hsz hks
                go_wp2
                refine bodyPost_ret (v := .tuple #[.string (O ++ s.extract nj s.size), .int .i64 0]) (by simp [results, Try.results44, go_sem]) rfl ?_
                rw [HRES.out]
                exact ⟨by rw [show ((k : Int)).toNat = k by omega, HOS.out], HB1.out⟩
          · have HRES := Lib.hid (show pumpRes t s i j times = (⟨#[]⟩, 3) by unfold pumpRes; rw [if_pos hg, if_pos (by omega), if_pos hq, if_pos hov])
            rw [hq] at HEQ
            obtain ⟨r1, r2, r3⟩ := hr
            by_cases v1 : 60 < times
            · have u2 : decide ((60 : Int) < times) = true := by simpa using v1
              clear hg hov hq
              go_enter Try.func44, Try.ntmps44
              go_wp2_with fail
              refine HEQ.out.mono ?_
              rintro e w1 ⟨rfl, hb1⟩
              have HB1 := Lib.hid (below_step HB.out hb1)
              clear hb1
              go_wp2
              refine bodyPost_ret (v := .tuple #[.string ⟨#[]⟩, .int .i64 3]) (by simp [results, Try.results44, go_sem]) rfl ?_
              rw [HRES.out]
              exact ⟨rfl, HB1.out⟩
            · have u2 : decide ((60 : Int) < times) = false := by simpa using v1
              have v2 : 60 < (s.size : Int) + (times - 1) * (j - i) := by
                simp only [over, Bool.or_eq_true, decide_eq_true_eq] at hov
                omega
              obtain ⟨M, hM⟩ : ∃ M : Int, M = (times - 1) * (j - i) := ⟨_, rfl⟩
              have HMB := Int.mul_le_mul_of_nonneg_right (show times - 1 ≤ 59 by omega) (show 0 ≤ j - i by omega)
              have HML := Int.mul_le_mul_of_nonneg_right (show (-1 : Int) ≤ times - 1 by omega) (show 0 ≤ j - i by omega)
              rw [← hM] at v2 HMB HML
              have wm : IntKind.i64.wrap ((times - 1) * (j - i)) = M := by rw [← hM]; exact IntWalk.i64_in _ (by omega)
              have u1 : decide (60 < (s.size : Int) + M) = true := by simp; omega
              have m1 : -60 ≤ M := by omega
              have m2 : M ≤ 3600 := by omega
              clear hg hov hq hM HMB HML
              go_enter Try.func44, Try.ntmps44
              go_wp2_with fail
              refine HEQ.out.mono ?_
              rintro e w1 ⟨rfl, hb1⟩
              have HB1 := Lib.hid (below_step HB.out hb1)
              clear hb1
              go_wp2
              refine bodyPost_ret (v := .tuple #[.string ⟨#[]⟩, .int .i64 3]) (by simp [results, Try.results44, go_sem]) rfl ?_
              rw [HRES.out]
              exact ⟨rfl, HB1.out⟩
        · have HRES := Lib.hid (show pumpRes t s i j times = (⟨#[]⟩, 4) by unfold pumpRes; rw [if_pos hg, if_pos (by omega), if_neg (by rw [hq]; decide)])
          rw [hq] at HEQ
          clear hg hq
          go_enter Try.func44, Try.ntmps44
          go_wp2_with fail
          refine HEQ.out.mono ?_
          rintro e w1 ⟨rfl, hb1⟩
          have HB1 := Lib.hid (below_step HB.out hb1)
          clear hb1
          go_wp2
          refine bodyPost_ret (v := .tuple #[.string ⟨#[]⟩, .int .i64 4]) (by simp [results, Try.results44, go_sem]) rfl ?_
          rw [HRES.out]
          exact ⟨rfl, HB1.out⟩
      · have HRES := Lib.hid (show pumpRes t s i j times = (⟨#[]⟩, 2) by unfold pumpRes; rw [if_pos hg, if_neg (by omega)])
        rw [eqC_two hg hr] at HEQ
        clear hg
        go_enter Try.func44, Try.ntmps44
        go_wp2_with fail
        refine HEQ.out.mono ?_
        rintro e w1 ⟨rfl, hb1⟩
        have HB1 := Lib.hid (below_step HB.out hb1)
        clear hb1
        go_wp2
        refine bodyPost_ret (v := .tuple #[.string ⟨#[]⟩, .int .i64 2]) (by simp [results, Try.results44, go_sem]) rfl ?_
        rw [HRES.out]
        exact ⟨rfl, HB1.out⟩
  · have HRES := Lib.hid (show pumpRes t s i j times = (⟨#[]⟩, 1) by unfold pumpRes; rw [if_neg hg])
    rw [eqC_one hg] at HEQ
    clear hg
    go_enter Try.func44, Try.ntmps44
    go_wp2_with fail
    refine HEQ.out.mono ?_
    rintro e w1 ⟨rfl, hb1⟩
    have HB1 := Lib.hid (below_step HB.out hb1)
    clear hb1
    go_wp2
    refine bodyPost_ret (v := .tuple #[.string ⟨#[]⟩, .int .i64 1]) (by simp [results, Try.results44, go_sem]) rfl ?_
    rw [HRES.out]
    exact ⟨rfl, HB1.out⟩

theorem cutRes_eq (t : TData) (s : ByteArray) (i j : Int) : pumpRes t s i j 0 = if eqC t s i j = 0 then (s.extract 0 i.toNat ++ s.extract j.toNat s.size, 0) else (⟨#[]⟩, eqC t s i j) := by
  unfold pumpRes
  by_cases hg : givenC t s = 0
  · rw [if_pos hg]
    by_cases hr : 0 ≤ i ∧ i < j ∧ j ≤ s.size
    · rw [if_pos (by omega)]
      rcases eqC_or hg hr with hq | hq
      · have s60 := (okWord_parts (givenC_zero hg).2).1
        rw [if_pos hq, if_pos hq, if_neg (by simp only [over, Bool.or_eq_true, decide_eq_true_eq]; omega)]
        obtain ⟨ni, rfl⟩ := Int.eq_ofNat_of_zero_le hr.1
        obtain ⟨nj, rfl⟩ := Int.eq_ofNat_of_zero_le (show 0 ≤ j by omega)
        rw [show ((0 : Int)).toNat = 0 from rfl, pumpS_zero]
        rfl
      · rw [hq]; rfl
    · rw [if_neg (by omega), eqC_two hg hr]; rfl
  · rw [if_neg hg, eqC_one hg]; rfl

set_option maxRecDepth 100000 in
set_option maxHeartbeats 1600000 in
theorem specCut_any (v : Value) (t : TData) (s : ByteArray) (i j : Int) (w : World) (h : RdT w v t) (hs : s.size ≤ maxLen) (hi : (Lit.int .i64 i).wf = true) (hj : (Lit.int .i64 j).wf = true) :
    Calls Try.prog 42 #[v, .string s, .int .i64 i, .int .i64 j] w fun e w' => e = .returned (.tuple #[.string (pumpRes t s i j 0).1, .int .i64 (pumpRes t s i j 0).2]) ∧ Below w.heap.size w w' := by
  obtain ⟨vm, rfl, hA⟩ := atT_box h 31
  have HEQ := Lib.hid (l04Equal_any _ t s i j _ hA hs hi hj)
  have HB := Lib.hid (below_alloc w (.cells #[.int .i64 t.L, .int .i64 t.S, vm] 31))
  clear h hA
  by_cases hq : eqC t s i j = 0
  · have HRES := Lib.hid (show pumpRes t s i j 0 = (s.extract 0 i.toNat ++ s.extract j.toNat s.size, 0) by rw [cutRes_eq, if_pos hq])
    have hg : givenC t s = 0 := by
      rcases givenC_or t s with h | h
      · exact h
      · rw [eqC_one (by rw [h]; decide)] at hq; cases hq
    have hr : 0 ≤ i ∧ i < j ∧ j ≤ s.size := by
      by_cases hr : 0 ≤ i ∧ i < j ∧ j ≤ s.size
      · exact hr
      · rw [eqC_two hg hr] at hq; cases hq
    have s60 := (okWord_parts (givenC_zero hg).2).1
    obtain ⟨r1, r2, r3⟩ := hr
    obtain ⟨ni, rfl⟩ := Int.eq_ofNat_of_zero_le r1
    obtain ⟨nj, rfl⟩ := Int.eq_ofNat_of_zero_le (show 0 ≤ j by omega)
    rw [hq] at HEQ
    have x1 : (ni : Int) ≤ s.size := by omega
    clear hq hg
    go_enter Try.func42, Try.ntmps42
    go_wp2_with fail
    refine HEQ.out.mono ?_
    rintro e w1 ⟨rfl, hb1⟩
    have HB1 := Lib.hid (below_step HB.out hb1)
    clear hb1
    go_wp2_with fail
    go_quiet (fail)
    go_wp2
    refine bodyPost_ret (v := .tuple #[.string (s.extract 0 ni ++ s.extract nj s.size), .int .i64 0]) (by simp [results, Try.results42, go_sem]) rfl ?_
    rw [HRES.out]
    exact ⟨rfl, below_drewN HB1.out _⟩
  · have HRES := Lib.hid (show pumpRes t s i j 0 = (⟨#[]⟩, eqC t s i j) by rw [cutRes_eq, if_neg hq])
    have d0 : (eqC t s i j != 0) = true := by simpa using hq
    clear hq
    go_enter Try.func42, Try.ntmps42
    go_wp2_with fail
    refine HEQ.out.mono ?_
    rintro e w1 ⟨rfl, hb1⟩
    have HB1 := Lib.hid (below_step HB.out hb1)
    clear hb1
    go_wp2
    refine bodyPost_ret (v := .tuple #[.string ⟨#[]⟩, .int .i64 (eqC t s i j)]) (by simp [results, Try.results42, go_sem]) rfl ?_
    rw [HRES.out]
    exact ⟨rfl, HB1.out⟩

set_option maxRecDepth 100000 in
theorem implCut_any (v : Value) (t : TData) (s : ByteArray) (i j : Int) (w : World) (h : RdT w v t) (hs : s.size ≤ maxLen) (hi : (Lit.int .i64 i).wf = true) (hj : (Lit.int .i64 j).wf = true) :
    Calls Try.prog 43 #[v, .string s, .int .i64 i, .int .i64 j] w fun e w' => e = .returned (.tuple #[.string (pumpRes t s i j 0).1, .int .i64 (pumpRes t s i j 0).2]) ∧ Below w.heap.size w w' := by
  have HG := Lib.hid (fun W (hb : Below w.heap.size w W) => implPump_any v t s i j 0 W (keepsT _ _ _ _ h hb) hs hi hj (by decide))
  obtain ⟨A, c, rfl⟩ := h.shape
  have HB := Lib.hid (below_alloc w (.cells #[.int .i64 t.L, .int .i64 t.S, .slice A t.mv.length c] 31))
  clear h
  generalize pumpRes t s i j 0 = rr at *
  go_enter Try.func43, Try.ntmps43
  go_wp2_with fail
  refine (HG.out _ HB.out).mono ?_
  rintro e w1 ⟨rfl, hb1⟩
  have HB1 := Lib.hid (below_step HB.out hb1)
  clear hb1
  go_wp2
  refine bodyPost_ret (v := .tuple #[.string rr.1, .int .i64 rr.2]) (by simp [results, Try.results43, go_sem]) rfl ?_
  exact ⟨rfl, HB1.out⟩
end Go.Proofs.Ytdkalefepdlccaa
