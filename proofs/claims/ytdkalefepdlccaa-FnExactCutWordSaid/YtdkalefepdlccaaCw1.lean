/-
  Borders with equal sequences, by the model.
-/
import Derived.Test.YtdkalefepdlccaaCr5
import Derived.Test.YtdkalefepdlccaaS1
namespace Go.Proofs.Ytdkalefepdlccaa
open Go.RowKit

/-- The code of two borders. -/
def eqC (t : TData) (s : ByteArray) (i j : Int) : Int :=
  if givenC t s = 0 then (if 0 ≤ i ∧ i < j ∧ j ≤ s.size then (if (crossRes t s).2 = 0 then (if (crossRes t s).1.getD i.toNat [] = (crossRes t s).1.getD j.toNat [] then 0 else 4) else 4) else 2) else 1
theorem crossRes_len {t : TData} {s : ByteArray} (h : (crossRes t s).2 = 0) : (crossRes t s).1.length = s.size + 1 := by
  unfold crossRes at h ⊢
  split at h
  · rename_i hg
    rw [if_pos hg]
    split at h
    · cases h
    · rename_i hv
      rw [if_neg hv]
      exact crossN_len t s
  · cases h
theorem crossRes_code {t : TData} {s : ByteArray} (hg : givenC t s = 0) (h : ¬ (crossRes t s).2 = 0) : (crossRes t s).2 = 4 := by
  unfold crossRes at h ⊢
  rw [if_pos hg] at h ⊢
  split
  · rfl
  · rename_i hv
    rw [if_neg hv] at h
    exact absurd rfl h

set_option maxRecDepth 100000 in
set_option maxHeartbeats 3200000 in
theorem l04Equal_any (b0 : Nat) (t : TData) (s : ByteArray) (i j : Int) (w : World) (h : AtT w b0 t) (hs : s.size ≤ maxLen) (hi : (Lit.int .i64 i).wf = true) (hj : (Lit.int .i64 j).wf = true) :
    Calls Try.prog 75 #[.pointer (some ⟨b0, 0, none⟩), .string s, .int .i64 i, .int .i64 j] w fun e w' => e = .returned (.int .i64 (eqC t s i j)) ∧ Below w.heap.size w w' := by
  have HA := Lib.hid h
  obtain ⟨vm, c0, c1, c2, hm⟩ := h
  have HVT := Lib.hid (specValidTurner_any _ t w (show RdT w (.agg #[.int .i64 t.L, .int .i64 t.S, vm]) t from ⟨vm, rfl, hm⟩))
  have HW := Lib.hid (fun W => specValidWord_any t.L s W hs)
  have HCR := Lib.hid (fun W (hb : Below w.heap.size w W) => l04Crossings_own b0 t s W (HA.out.below hb) hs)
  clear hm
  by_cases h1 : okT t = true
  · by_cases h2 : okWord t.L s = true
    · have HG := Lib.hid (givenC_yes h1 h2)
      obtain ⟨s60, -⟩ := okWord_parts h2
      by_cases hr : 0 ≤ i ∧ i < j ∧ j ≤ s.size
      · have HRG := Lib.hid hr
        obtain ⟨r1, r2, r3⟩ := hr
        have g1 : ¬ i < 0 := by omega
        have g2 : ¬ j ≤ i := by omega
        have g3 : ¬ (s.size : Int) < j := by omega
        go_enter Try.func75, Try.ntmps75
        go_wp2_with fail
        refine (HVT.out).mono ?_
        rintro e w1 ⟨rfl, hb⟩
        obtain ⟨m, c0, -, -, -⟩ := HA.out.below hb
        have HB := Lib.hid hb
        clear hb
        go_wp2_with (go_at_call 98; refine (HW.out _).mono ?_; rintro e w' ⟨rfl, rfl⟩)
        refine (HCR.out _ HB.out).mono ?_
        rintro e w2 ⟨u, bs, rfl, hu, hb2⟩
        have HB2 := Lib.hid (below_step HB.out hb2)
        have hrd : RdL RdI w2 u (crossRes t s).1 := OwL.rd (fun h => h.1.rd) hu
        clear hu hb2 c0 c1 c2
        by_cases hcd : (crossRes t s).2 = 0
        · have hlen := crossRes_len hcd
          obtain ⟨B, cap, rfl, a1, a2, a3⟩ := hrd.open
          unfold maxLen at a2
          obtain ⟨ni, rfl⟩ := Int.eq_ofNat_of_zero_le r1
          obtain ⟨nj, rfl⟩ := Int.eq_ofNat_of_zero_le (show 0 ≤ j by omega)
          obtain ⟨bi, oi, ui, xi, rfl, hxi, hci, hRi⟩ := a3 ni (by omega)
          obtain ⟨bj, oj, uj, xj, hA2, hxj, hcj, hRj⟩ := a3 nj (by omega)
          cases hA2
          obtain ⟨Bi, ki, rfl⟩ := rdI_shape hRi
          obtain ⟨Bj, kj, rfl⟩ := rdI_shape hRj
          have HSM := Lib.hid (fun W (hq : Qt w2 W) => l00Same_any _ _ xi xj W (keepsI _ _ _ _ hRi hq.below) (keepsI _ _ _ _ hRj hq.below))
          have HE := Lib.hid (show eqC t s (ni : Int) (nj : Int) = if xi = xj then 0 else 4 by
            unfold eqC
            rw [if_pos HG.out, if_pos HRG.out, if_pos hcd]
            simp [List.getD, hxi, hxj])
          have j1 : (0 : Int) ≤ (ni : Int) := by omega
          have j2 : (ni : Int) < ((crossRes t s).1.length : Int) := by omega
          have j3 : (0 : Int) ≤ (nj : Int) := by omega
          have j4 : (nj : Int) < ((crossRes t s).1.length : Int) := by omega
          have d0 : ((crossRes t s).2 == 0) = true := by simp [hcd]
          have d0n : ((crossRes t s).2 != 0) = false := by simp [hcd]
          have HCD := Lib.hid hcd
          generalize crossRes t s = rr at *
          obtain ⟨xs, cd⟩ := rr
          simp only at *
          clear hrd a3 hlen hxi hxj hRi hRj hcd
          by_cases hx : xi = xj
          · have d1 : decide (xi = xj) = true := by simpa using hx
            have HX := Lib.hid hx
            clear hx
            go_wp2_with fail
            go_quiet ((go_at_call 78; exact Calls.quiet_of (HSM.out _ (by first | exact Qt.refl _ | exact (Qt.refl _).drewN _))))
            go_wp2
            go_ret
            exact ⟨ret_int (by rw [HE.out, if_pos HX.out, HCD.out]), below_drewN HB2.out _⟩
          · have d1 : decide (xi = xj) = false := by simpa using hx
            have HX := Lib.hid hx
            clear hx
            go_wp2_with fail
            go_quiet ((go_at_call 78; exact Calls.quiet_of (HSM.out _ (by first | exact Qt.refl _ | exact (Qt.refl _).drewN _))))
            go_wp2
            go_ret
            exact ⟨ret_int (by rw [HE.out, if_neg HX.out]), below_drewN HB2.out _⟩
        · have h4 := crossRes_code HG.out hcd
          have HE := Lib.hid (show eqC t s i j = 4 by
            unfold eqC
            rw [if_pos HG.out, if_pos HRG.out, if_neg hcd])
          have d0 : ((crossRes t s).2 == 0) = false := by rw [h4]; rfl
          have H4 := Lib.hid h4
          clear hrd hcd h4
          go_wp2_with fail
          go_quiet (fail)
          go_wp2
          go_ret
          exact ⟨ret_int (by rw [HE.out, H4.out]), below_drewN HB2.out _⟩
      · have HE := Lib.hid (show eqC t s i j = 2 by
          unfold eqC
          rw [if_pos HG.out, if_neg hr])
        have HR := Lib.hid hr
        by_cases g1 : i < 0
        · clear hr
          go_enter Try.func75, Try.ntmps75
          go_wp2_with fail
          refine (HVT.out).mono ?_
          rintro e w1 ⟨rfl, hb⟩
          obtain ⟨m, c0, -, -, -⟩ := HA.out.below hb
          have HB := Lib.hid hb
          clear hb
          go_wp2_with (go_at_call 98; refine (HW.out _).mono ?_; rintro e w' ⟨rfl, rfl⟩)
          go_ret
          exact ⟨ret_int HE.out.symm, HB.out⟩
        · by_cases g2 : j ≤ i
          · clear hr
            go_enter Try.func75, Try.ntmps75
            go_wp2_with fail
            refine (HVT.out).mono ?_
            rintro e w1 ⟨rfl, hb⟩
            obtain ⟨m, c0, -, -, -⟩ := HA.out.below hb
            have HB := Lib.hid hb
            clear hb
            go_wp2_with (go_at_call 98; refine (HW.out _).mono ?_; rintro e w' ⟨rfl, rfl⟩)
            go_ret
            exact ⟨ret_int HE.out.symm, HB.out⟩
          · have g3 : (s.size : Int) < j := by omega
            clear hr
            go_enter Try.func75, Try.ntmps75
            go_wp2_with fail
            refine (HVT.out).mono ?_
            rintro e w1 ⟨rfl, hb⟩
            obtain ⟨m, c0, -, -, -⟩ := HA.out.below hb
            have HB := Lib.hid hb
            clear hb
            go_wp2_with (go_at_call 98; refine (HW.out _).mono ?_; rintro e w' ⟨rfl, rfl⟩)
            go_ret
            exact ⟨ret_int HE.out.symm, HB.out⟩
    · have h2' : okWord t.L s = false := by simpa using h2
      have HE := Lib.hid (show eqC t s i j = 1 by unfold eqC; rw [if_neg (by rw [givenC_no2 h2']; decide)])
      clear h2
      go_enter Try.func75, Try.ntmps75
      go_wp2_with fail
      refine (HVT.out).mono ?_
      rintro e w1 ⟨rfl, hb⟩
      obtain ⟨m, c0, -, -, -⟩ := HA.out.below hb
      have HB := Lib.hid hb
      clear hb
      go_wp2_with (go_at_call 98; refine (HW.out _).mono ?_; rintro e w' ⟨rfl, rfl⟩)
      go_ret
      exact ⟨ret_int HE.out.symm, HB.out⟩
  · have h1' : okT t = false := by simpa using h1
    have HE := Lib.hid (show eqC t s i j = 1 by unfold eqC; rw [if_neg (by rw [givenC_no1 h1']; decide)])
    clear h1
    go_enter Try.func75, Try.ntmps75
    go_wp2_with fail
    refine (HVT.out).mono ?_
    rintro e w1 ⟨rfl, hb⟩
    obtain ⟨m, c0, -, -, -⟩ := HA.out.below hb
    have HB := Lib.hid hb
    clear hb
    go_wp2
    go_ret
    exact ⟨ret_int HE.out.symm, HB.out⟩

end Go.Proofs.Ytdkalefepdlccaa
