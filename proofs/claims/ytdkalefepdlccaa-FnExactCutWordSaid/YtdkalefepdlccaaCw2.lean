/-
  Words with the letters between two borders repeated: what they are.
-/
import Derived.Test.YtdkalefepdlccaaCw1
import Derived.Lib.RepeatB
import Derived.Test.YtdkalefepdlccaaShr
namespace Go.Proofs.Ytdkalefepdlccaa
open Go.RowKit

def over (n d times : Int) : Bool := decide (60 < times) || decide (60 < n + (times - 1) * d)
def pumpS (s : ByteArray) (i j : Int) (k : Nat) : ByteArray := s.extract 0 i.toNat ++ ⟨(Lib.repeatL (s.extract i.toNat j.toNat).data.toList k).toArray⟩ ++ s.extract j.toNat s.size
def pumpRes (t : TData) (s : ByteArray) (i j times : Int) : ByteArray × Int :=
  if givenC t s = 0 then
    (if 0 ≤ i ∧ i < j ∧ j ≤ s.size ∧ 0 ≤ times then
      (if eqC t s i j = 0 then (if over s.size (j - i) times = true then (⟨#[]⟩, 3) else (pumpS s i j times.toNat, 0)) else (⟨#[]⟩, 4))
    else (⟨#[]⟩, 2))
  else (⟨#[]⟩, 1)
theorem eqC_one {t : TData} {s : ByteArray} {i j : Int} (h : ¬ givenC t s = 0) : eqC t s i j = 1 := by unfold eqC; rw [if_neg h]
theorem eqC_two {t : TData} {s : ByteArray} {i j : Int} (h : givenC t s = 0) (hr : ¬ (0 ≤ i ∧ i < j ∧ j ≤ s.size)) : eqC t s i j = 2 := by unfold eqC; rw [if_pos h, if_neg hr]
theorem eqC_or {t : TData} {s : ByteArray} {i j : Int} (h : givenC t s = 0) (hr : 0 ≤ i ∧ i < j ∧ j ≤ s.size) : eqC t s i j = 0 ∨ eqC t s i j = 4 := by
  unfold eqC
  rw [if_pos h, if_pos hr]
  split
  · split
    · exact .inl rfl
    · exact .inr rfl
  · exact .inr rfl
/-- The letters, so many times, behind the beginning. -/
def outS (s : ByteArray) (i j : Nat) : Nat → ByteArray
  | 0 => s.extract 0 i
  | k + 1 => outS s i j k ++ s.extract i j
theorem rep_snoc (l : List UInt8) : ∀ c, Lib.repeatL l (c + 1) = Lib.repeatL l c ++ l
  | 0 => by simp [Lib.repeatL]
  | c + 1 => by
    show l ++ Lib.repeatL l (c + 1) = (l ++ Lib.repeatL l c) ++ l
    rw [rep_snoc l c, List.append_assoc]
theorem outS_eq (s : ByteArray) (i j : Nat) (k : Nat) : outS s i j k = s.extract 0 i ++ ⟨(Lib.repeatL (s.extract i j).data.toList k).toArray⟩ := by
  induction k with
  | zero =>
    apply ByteArray.ext
    simp [outS, Lib.repeatL, ByteArray.data_append]
  | succ k ih =>
    rw [outS, ih, rep_snoc]
    apply ByteArray.ext
    simp only [ByteArray.data_append]
    rw [Array.append_assoc]
    congr 1
    apply Array.ext'
    simp
theorem pumpS_out (s : ByteArray) (i j : Nat) (k : Nat) : pumpS s (i : Int) (j : Int) k = outS s i j k ++ s.extract j s.size := by
  rw [outS_eq]; rfl
theorem pumpS_zero (s : ByteArray) (i j : Nat) : pumpS s (i : Int) (j : Int) 0 = s.extract 0 i ++ s.extract j s.size := by
  rw [pumpS_out]; rfl
theorem over_quo {n d times : Int} (h0 : 0 ≤ n) (h1 : n ≤ 60) (hd : 0 < d) (hdn : d ≤ n) (ht : 0 ≤ times) : decide ((60 - (n - d)) / d < times) = over n d times := by
  unfold over
  rw [Bool.eq_iff_iff]
  simp only [decide_eq_true_eq, Bool.or_eq_true]
  have e : (times - 1) * d = times * d - d := by rw [Int.sub_mul]; omega
  rw [e, Int.ediv_lt_iff_lt_mul hd]
  constructor
  · intro h; right; omega
  · rintro (h | h)
    · have : 61 * d ≤ times * d := Int.mul_le_mul_of_nonneg_right (by omega) (by omega)
      omega
    · omega

/-! ### The program -/
set_option maxRecDepth 100000 in
set_option maxHeartbeats 3200000 in
theorem implPump_any (v : Value) (t : TData) (s : ByteArray) (i j times : Int) (w : World) (h : RdT w v t) (hs : s.size ≤ maxLen) (hi : (Lit.int .i64 i).wf = true) (hj : (Lit.int .i64 j).wf = true) (ht : (Lit.int .i64 times).wf = true) :
    Calls Try.prog 45 #[v, .string s, .int .i64 i, .int .i64 j, .int .i64 times] w fun e w' => e = .returned (.tuple #[.string (pumpRes t s i j times).1, .int .i64 (pumpRes t s i j times).2]) ∧ Below w.heap.size w w' := by
  have HG := Lib.hid (fun W (hb : Below w.heap.size w W) => wordCode_any v t s W (keepsT _ _ _ _ h hb) hs)
  have HC := Lib.hid (fun W (hb : Below w.heap.size w W) => implCrossings_own v t s W (keepsT _ _ _ _ h hb) hs)
  obtain ⟨A, c, rfl⟩ := h.shape
  have HR := Lib.hid (Row.new w [.int .i64 t.L, .int .i64 t.S, .slice A t.mv.length c] 31)
  have HB := Lib.hid (below_alloc w (.cells #[.int .i64 t.L, .int .i64 t.S, .slice A t.mv.length c] 31))
  clear h
  go_enter Try.func45, Try.ntmps45
  go_wp2_with fail
  refine (HG.out _ HB.out).mono ?_
  rintro e w1 ⟨rfl, hb1⟩
  have HB1 := Lib.hid (below_step HB.out hb1)
  obtain ⟨⟨b0, b1, b2⟩, -⟩ := (HR.out.below hb1 HR.out.lt).three
  clear hb1
  rcases givenC_or t s with hg | hg
  · have HG0 := Lib.hid hg
    have s60 := (okWord_parts (givenC_zero hg).2).1
    have HCB := Lib.hid (fun W => countBorders_any s W s60)
    rw [hg]
    clear hg
    by_cases hr : 0 ≤ i ∧ i < j ∧ j ≤ s.size ∧ 0 ≤ times
    · have HRG := Lib.hid hr
      obtain ⟨r1, r2, r3, r4⟩ := hr
      have g1 : ¬ i < 0 := by omega
      have g2 : ¬ j ≤ i := by omega
      have g3 : ¬ (s.size : Int) + 1 ≤ j := by omega
      have g4 : ¬ times < 0 := by omega
      go_wp2_with (go_at_call 73; refine (HCB.out _).mono ?_; rintro e w' ⟨rfl, rfl⟩)
      refine (HC.out _ HB1.out).mono ?_
      rintro e w2 ⟨u, bs, rfl, hu, hb2⟩
      have HB2 := Lib.hid (below_step HB1.out hb2)
      have hrd : RdL RdI w2 u (crossRes t s).1 := OwL.rd (fun h => h.1.rd) hu
      clear hu hb2 b0 b1 b2
      by_cases hcd : (crossRes t s).2 = 0
      · have hlen := crossRes_len hcd
        obtain ⟨B, cap, rfl, a1, a2, a3⟩ := hrd.open
        unfold maxLen at a2
        obtain ⟨ni, rfl⟩ := Int.eq_ofNat_of_zero_le r1
        obtain ⟨nj, rfl⟩ := Int.eq_ofNat_of_zero_le (show 0 ≤ j by omega)
        obtain ⟨nt, rfl⟩ := Int.eq_ofNat_of_zero_le r4
        obtain ⟨bi, oi, ui, xi, rfl, hxi, hci, hRi⟩ := a3 ni (by omega)
        obtain ⟨bj, oj, uj, xj, hA2, hxj, hcj, hRj⟩ := a3 nj (by omega)
        cases hA2
        obtain ⟨Bi, ki, rfl⟩ := rdI_shape hRi
        obtain ⟨Bj, kj, rfl⟩ := rdI_shape hRj
        have HSM := Lib.hid (fun W (hq : Qt w2 W) => slEqualI_any _ _ xi xj W (keepsI _ _ _ _ hRi hq.below) (keepsI _ _ _ _ hRj hq.below))
        have HE := Lib.hid (show eqC t s (ni : Int) (nj : Int) = if xi = xj then 0 else 4 by
          unfold eqC
          rw [if_pos HG0.out, if_pos (by have := HRG.out; omega), if_pos hcd]
          simp [List.getD, hxi, hxj])
        have j1 : (0 : Int) ≤ (ni : Int) := by omega
        have j2 : (ni : Int) < ((crossRes t s).1.length : Int) := by omega
        have j3 : (0 : Int) ≤ (nj : Int) := by omega
        have j4 : (nj : Int) < ((crossRes t s).1.length : Int) := by omega
        have d0n : ((crossRes t s).2 != 0) = false := by simp [hcd]
        generalize crossRes t s = rr at *
        obtain ⟨xs, cd⟩ := rr
        simp only at *
        subst hcd
        clear hrd a3 hlen hxi hxj hRi hRj
        by_cases hx : xi = xj
        · have d1 : decide (xi = xj) = true := by simpa using hx
          have HX := Lib.hid (show eqC t s (ni : Int) (nj : Int) = 0 by rw [HE.out, if_pos hx])
          clear hx
          have q1 : (0 : Int) < (nj : Int) - (ni : Int) := by omega
          have q2 : ((nj : Int) - (ni : Int)) ≤ s.size := by omega
          have q3 : ((nj : Int) - (ni : Int) == 0) = false := by simp; omega
          have HQ := Lib.hid (over_quo (n := (s.size : Int)) (d := (nj : Int) - (ni : Int)) (times := (nt : Int)) (by omega) (by omega) q1 q2 (by omega))
          have q4 : ((nj : Int) - (ni : Int)) ≠ 0 := by omega
          have q5 : 0 ≤ (60 - ((s.size : Int) - ((nj : Int) - (ni : Int)))) := by omega
          have q6 : (ni : Int) ≤ s.size := by omega
          have q7 : (nj : Int) ≤ s.size := by omega
          have q8 : (ni : Int) ≤ nj := by omega
          cases hov : over (s.size : Int) ((nj : Int) - (ni : Int)) (nt : Int)
          · have hdec := HQ.out
            rw [hov] at hdec
            have HOV := Lib.hid hov
            clear hov
            go_wp2_with fail
            go_quiet ((go_at_call 76; exact Calls.quiet_of (HSM.out _ (by first | exact Qt.refl _ | exact (Qt.refl _).drewN _))))
            go_wp2_with fail
            have HRES := Lib.hid (show pumpRes t s (ni : Int) (nj : Int) (nt : Int) = (pumpS s (ni : Int) (nj : Int) nt, 0) by unfold pumpRes; rw [if_pos HG0.out, if_pos HRG.out, if_pos HX.out, if_neg (by rw [HOV.out]; decide)]; rfl)
            have hnt : nt ≤ 60 := by
              have := HOV.out
              simp only [over, Bool.or_eq_false_iff, decide_eq_false_iff_not] at this
              omega
            have hes : (s.extract ni nj).size ≤ 60 := by rw [ByteArray.size_extract]; omega
            obtain ⟨R, hR⟩ : ∃ R : ByteArray, R = ⟨(Lib.repeatL (s.extract ni nj).data.toList nt).toArray⟩ := ⟨_, rfl⟩
            have hRs : R.size ≤ 3600 := by
              rw [hR]
              show (Lib.repeatL (s.extract ni nj).data.toList nt).toArray.size ≤ 3600
              have e1 : (s.extract ni nj).data.toList.length = (s.extract ni nj).size := by simp; omega
              rw [List.size_toArray, Lib.repeatL_length, e1]
              have := Nat.mul_le_mul hnt hes
              omega
            have HRR := Lib.hid hR
            have HRP := Lib.hid (show ∀ W, Calls Try.prog 77 #[.string (s.extract ni nj), .int .i64 (nt : Int)] W fun e w' => e = .returned (.string R) ∧ Below W.heap.size W w' from fun W => by
              rw [hR]
              exact Try.strings_Repeat (s.extract ni nj) nt W (by omega) (by have := Nat.mul_le_mul hes hnt; omega))
            clear hR
            have z1 : min ni s.size = ni := by omega
            have z2 : min s.size s.size = s.size := by omega
            have y0 : (s.extract 0 ni).size + R.size ≤ 9223372036854775807 := by rw [ByteArray.size_extract]; omega
            have y3 : (s.extract 0 ni).size = ni := by rw [ByteArray.size_extract]; omega
            have y4 : (s.extract nj s.size).size = s.size - nj := by rw [ByteArray.size_extract]; omega
            have y5 : (s.extract 0 ni ++ R).size = ni + R.size := by rw [ByteArray.size_append, y3]
            have y1 : ¬ (9223372036854775807 : Int) < (ni : Int) + (R.size : Int) := by omega
            have y2 : ¬ (9223372036854775807 : Int) < (ni : Int) + (R.size : Int) + ((s.size - nj : Nat) : Int) := by omega
            have HB3 := Lib.hid (below_drewN HB2.out nq)
            generalize w2.drewN nq = W3 at *
            clear hdec hci hcj hes
            have z3 := z1
            go_region_with
              (go_at_call 77; (with_reducible refine (HRP.out _).mono ?_); rintro e wz ⟨rfl, hbk⟩)
            all_goals
              go_wp2
              refine bodyPost_ret (v := .tuple #[.string (s.extract 0 ni ++ R ++ s.extract nj s.size), .int .i64 0]) (by simp [results, Try.results45, go_sem]) rfl ?_
              rw [HRES.out, HRR.out]
              exact ⟨rfl, below_step HB3.out (by first | exact hbk | exact below_step (below_drew _) hbk | exact below_step (below_drewN' _ _) hbk | exact (below_step (below_drew _) hbk).drew)⟩
          · have hdec := HQ.out
            rw [hov] at hdec
            have HRES := Lib.hid (show pumpRes t s (ni : Int) (nj : Int) (nt : Int) = (⟨#[]⟩, 3) by unfold pumpRes; rw [if_pos HG0.out, if_pos HRG.out, if_pos HX.out, if_pos hov])
            clear hov
            go_wp2_with fail
            go_quiet ((go_at_call 76; exact Calls.quiet_of (HSM.out _ (by first | exact Qt.refl _ | exact (Qt.refl _).drewN _))))
            go_wp2
            refine bodyPost_ret (v := .tuple #[.string ⟨#[]⟩, .int .i64 3]) (by simp [results, Try.results45, go_sem]) rfl ?_
            rw [HRES.out]
            exact ⟨rfl, below_drewN HB2.out _⟩
        · have d1 : decide (xi = xj) = false := by simpa using hx
          have hx4 : eqC t s (ni : Int) (nj : Int) = 4 := by rw [HE.out, if_neg hx]
          have HRES := Lib.hid (show pumpRes t s (ni : Int) (nj : Int) (nt : Int) = (⟨#[]⟩, 4) by unfold pumpRes; rw [if_pos HG0.out, if_pos HRG.out, if_neg (by rw [hx4]; decide)])
          clear hx hx4
          go_wp2_with fail
          go_quiet ((go_at_call 76; exact Calls.quiet_of (HSM.out _ (by first | exact Qt.refl _ | exact (Qt.refl _).drewN _))))
          go_wp2
          refine bodyPost_ret (v := .tuple #[.string ⟨#[]⟩, .int .i64 4]) (by simp [results, Try.results45, go_sem]) rfl ?_
          rw [HRES.out]
          exact ⟨rfl, below_drewN HB2.out _⟩
      · have h4 := crossRes_code HG0.out hcd
        have hx4 : eqC t s i j = 4 := by
          unfold eqC
          rw [if_pos HG0.out, if_pos ⟨r1, r2, r3⟩, if_neg hcd]
        have HRES := Lib.hid (show pumpRes t s i j times = (⟨#[]⟩, 4) by unfold pumpRes; rw [if_pos HG0.out, if_pos HRG.out, if_neg (by rw [hx4]; decide)])
        have d0 : ((crossRes t s).2 != 0) = true := by rw [h4]; rfl
        have H4 := Lib.hid h4
        clear hrd hcd h4 hx4
        go_wp2
        refine bodyPost_ret (v := .tuple #[.string ⟨#[]⟩, .int .i64 (crossRes t s).2]) (by simp [results, Try.results45, go_sem]) rfl ?_
        rw [HRES.out]
        exact ⟨by rw [H4.out], HB2.out⟩
    · have HRES := Lib.hid (show pumpRes t s i j times = (⟨#[]⟩, 2) by unfold pumpRes; rw [if_pos HG0.out, if_neg hr])
      by_cases g1 : i < 0
      · clear hr
        go_wp2_with (go_at_call 73; refine (HCB.out _).mono ?_; rintro e w' ⟨rfl, rfl⟩)
        refine bodyPost_ret (v := .tuple #[.string ⟨#[]⟩, .int .i64 2]) (by simp [results, Try.results45, go_sem]) rfl ?_
        rw [HRES.out]
        exact ⟨rfl, HB1.out⟩
      · by_cases g2 : j ≤ i
        · clear hr
          go_wp2_with (go_at_call 73; refine (HCB.out _).mono ?_; rintro e w' ⟨rfl, rfl⟩)
          refine bodyPost_ret (v := .tuple #[.string ⟨#[]⟩, .int .i64 2]) (by simp [results, Try.results45, go_sem]) rfl ?_
          rw [HRES.out]
          exact ⟨rfl, HB1.out⟩
        · by_cases g3 : (s.size : Int) + 1 ≤ j
          · clear hr
            go_wp2_with (go_at_call 73; refine (HCB.out _).mono ?_; rintro e w' ⟨rfl, rfl⟩)
            refine bodyPost_ret (v := .tuple #[.string ⟨#[]⟩, .int .i64 2]) (by simp [results, Try.results45, go_sem]) rfl ?_
            rw [HRES.out]
            exact ⟨rfl, HB1.out⟩
          · have g4 : times < 0 := by omega
            clear hr
            go_wp2_with (go_at_call 73; refine (HCB.out _).mono ?_; rintro e w' ⟨rfl, rfl⟩)
            refine bodyPost_ret (v := .tuple #[.string ⟨#[]⟩, .int .i64 2]) (by simp [results, Try.results45, go_sem]) rfl ?_
            rw [HRES.out]
            exact ⟨rfl, HB1.out⟩
  · have HRES := Lib.hid (show pumpRes t s i j times = (⟨#[]⟩, 1) by unfold pumpRes; rw [if_neg (by rw [hg]; decide)])
    rw [hg]
    clear hg
    go_wp2
    refine bodyPost_ret (v := .tuple #[.string ⟨#[]⟩, .int .i64 1]) (by simp [results, Try.results45, go_sem]) rfl ?_
    rw [HRES.out]
    exact ⟨rfl, HB1.out⟩
end Go.Proofs.Ytdkalefepdlccaa
