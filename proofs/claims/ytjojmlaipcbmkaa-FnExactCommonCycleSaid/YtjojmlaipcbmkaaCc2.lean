/-
  CommonCycle: the program's answer and the model's.
-/
import Derived.Test.YtjojmlaipcbmkaaCc1
import Derived.Test.YtjojmlaipcbmkaaW2
namespace Go.Proofs.Ytjojmlaipcbmkaa
open Go.RowKit

def okCycle (n : Int) : Bool := within n 1 12
def okCycles (xs : List Int) : Bool := within (xs.length : Int) 1 4 && xs.all okCycle
def lcmAll (xs : List Int) : Nat := xs.foldl (fun a x => lcmF a x.toNat) 1
def cycleRes (xs : List Int) : Int × Int := if okCycles xs then (((lcmAll xs : Nat) : Int), 0) else (0, 2)
theorem cyc_all_take {p : Int → Bool} {l : List Int} {k : Nat} {c : Int} (h : (l.take k).all p = true) (hc : l[k]? = some c) (hp : p c = true) : (l.take (k + 1)).all p = true := by
  rw [take_succ_of hc, List.all_append, h]; simp [hp]
theorem cyc_any_take {p : Int → Bool} {l : List Int} {k : Nat} {c : Int} (h : (l.take k).any p = false) (hc : l[k]? = some c) (hp : p c = false) : (l.take (k + 1)).any p = false := by
  rw [take_succ_of hc, List.any_append, h]; simp [hp]
theorem cyc_any_yes {p : Int → Bool} {l : List Int} {k : Nat} {c : Int} (hc : l[k]? = some c) (hp : p c = true) : l.any p = true := by
  rw [List.any_eq_true]; exact ⟨c, List.mem_of_getElem? hc, hp⟩
theorem cyc_all_not {p : Int → Bool} {l : List Int} {k : Nat} {c : Int} (hc : l[k]? = some c) (hp : p c = false) : l.all p = false := by
  rw [List.all_eq_false]; exact ⟨c, List.mem_of_getElem? hc, by simp [hp]⟩
theorem cyc_any_not_all (p : Int → Bool) (xs : List Int) : (xs.any fun x => !p x) = !xs.all p := by
  induction xs with
  | nil => rfl
  | cons x r ih => simp only [List.any_cons, List.all_cons, ih]; cases p x <;> simp
theorem cyc_in {xs : List Int} (h : xs.all okCycle = true) {k : Nat} {c : Int} (hc : xs[k]? = some c) : 1 ≤ c ∧ c ≤ 12 := by
  have := List.all_eq_true.1 h c (List.mem_of_getElem? hc)
  simpa [okCycle, within] using this
theorem lcm_take {xs : List Int} {k : Nat} {c : Int} (hc : xs[k]? = some c) : (xs.take (k + 1)).foldl (fun a x => lcmF a x.toNat) 1 = lcmF ((xs.take k).foldl (fun a x => lcmF a x.toNat) 1) c.toNat := by
  rw [take_succ_of hc, List.foldl_append]; rfl
theorem pow12 {k : Nat} (h : k ≤ 4) : 12 ^ k ≤ 20736 := by
  have : k = 0 ∨ k = 1 ∨ k = 2 ∨ k = 3 ∨ k = 4 := by omega
  rcases this with rfl | rfl | rfl | rfl | rfl <;> decide

theorem cycle1_any (x : Int) (w : World) :
    Calls Try.prog 80 #[.int .i64 x] w fun e w' => e = .returned (.bool (!okCycle x)) ∧ w = w' := by
  go_enter Try.func80, Try.ntmps80
  go_wp2_with (go_at_call 81; refine (isCountL_any _ _ _).mono ?_; rintro e w' ⟨rfl, rfl⟩)
  go_ret
  exact ⟨rfl, rfl⟩

set_option maxHeartbeats 800000 in
theorem idxCycle_any (v : Value) (xs : List Int) (w : World) (h : RdI w v xs) :
    Calls Try.prog 110 #[v, .func (.func 80) #[] #[]] w fun e w' => (∃ n : Int, e = .returned (.int .i64 n) ∧ decide (0 ≤ n) = !xs.all okCycle) ∧ w = w' := by
  rw [← cyc_any_not_all]
  obtain ⟨A, cap, rfl, h1, h2, h3⟩ := RdI.open h
  unfold maxLen at h2
  clear h
  go_enter Try.func110, Try.ntmps110
  go_wp2
  go_loop [8] (fun i => ∃ k : Nat, k ≤ xs.length ∧ i = .int .i64 k ∧ (xs.take k).any (fun x => !okCycle x) = false) (fun i => xs.length - (intOf i).toNat)
  case atStart => exact ⟨0, Nat.zero_le _, rfl, by simp⟩
  case round =>
    obtain ⟨k, hk, rfl, hp⟩ := hrel
    have HP := Lib.hid hp; clear hp
    by_cases hlt : k < xs.length
    · obtain ⟨b, off, x, rfl, hx, hc⟩ := h3 k hlt
      have HC := Lib.hid (fun W => cycle1_any x W)
      have HX := Lib.hid hx
      have i1 : (0 : Int) ≤ k := by omega
      have i2 : (k : Int) < xs.length := by omega
      clear h3 hx
      obtain ⟨y, hy⟩ : ∃ y, okCycle x = y := ⟨_, rfl⟩
      rw [hy] at HC
      have HY := Lib.hid hy; clear hy
      cases y
      · go_wp2_with (go_at_call 80; refine (HC.out _).mono ?_; rintro e w1 ⟨rfl, rfl⟩)
        go_ret
        exact ⟨⟨_, rfl, by rw [cyc_any_yes HX.out (by rw [HY.out]; rfl)]; simp⟩, rfl⟩
      · go_wp2_with (go_at_call 80; refine (HC.out _).mono ?_; rintro e w1 ⟨rfl, rfl⟩)
        go_round
        case rel => exact ⟨k + 1, by omega, by go_num, cyc_any_take HP.out HX.out (by rw [HY.out]; rfl)⟩
        case measure => simp [intOf]; omega
    · clear h3
      go_wp2
      go_ret
      exact ⟨⟨_, rfl, by have := HP.out; rw [List.take_of_length_le (by omega)] at this; rw [this]; decide⟩, rfl⟩

set_option maxHeartbeats 800000 in
theorem hasCycle_any (v : Value) (xs : List Int) (w : World) (h : RdI w v xs) :
    Calls Try.prog 83 #[v, .func (.func 80) #[] #[]] w fun e w' => e = .returned (.bool (!xs.all okCycle)) ∧ w = w' := by
  have HI := Lib.hid (idxCycle_any v xs w h)
  obtain ⟨A, cap, rfl, -⟩ := RdI.open h
  clear h
  go_enter Try.func83, Try.ntmps83
  go_wp2_with fail
  refine HI.out.mono ?_
  rintro e w1 ⟨⟨n, rfl, hn⟩, rfl⟩
  have HN := Lib.hid hn
  clear HI hn
  go_wp2
  go_ret
  exact ⟨ret_bool HN.out, rfl⟩

set_option maxHeartbeats 800000 in
theorem foldedLcm_any (v : Value) (xs : List Int) (w : World) (h : RdI w v xs) (hn : xs.length ≤ 4) (ho : xs.all okCycle = true) :
    Calls Try.prog 84 #[.func (.func 85) #[] #[], .int .i64 1, v] w fun e w' => e = .returned (.int .i64 (lcmAll xs : Nat)) ∧ Qt w w' := by
  obtain ⟨A, cap, rfl, h1, h2, h3⟩ := RdI.open h
  unfold maxLen at h2
  have HO := Lib.hid ho
  clear h ho
  go_enter Try.func84, Try.ntmps84
  go_wp2
  go_loopw [1, 11] (fun d i wr => ∃ k m : Nat, k ≤ xs.length ∧ i = .int .i64 k ∧ d = .int .i64 m ∧ (xs.take k).foldl (fun a x => lcmF a x.toNat) 1 = m ∧ 1 ≤ m ∧ m ≤ 12 ^ k ∧ Qt w wr) (fun _ i _ => xs.length - (intOf i).toNat)
  case atStart => exact ⟨0, 1, Nat.zero_le _, rfl, rfl, by simp, Nat.le_refl _, by simp, Qt.refl _⟩
  case round =>
    obtain ⟨k, m, hk, rfl, rfl, hf, hm1, hm2, hq⟩ := hrel
    have HF := Lib.hid hf; clear hf
    have HQ := Lib.hid hq
    by_cases hlt : k < xs.length
    · obtain ⟨b, off, x, rfl, hx, hc⟩ := h3 k hlt
      have hc' := (hq.cell _).trans hc
      obtain ⟨hx1, hx2⟩ := cyc_in HO.out hx
      obtain ⟨y, rfl⟩ := Int.eq_ofNat_of_zero_le (show 0 ≤ x by omega)
      have hm3 : m ≤ 20736 := Nat.le_trans hm2 (pow12 (by omega))
      have HC := Lib.hid (fun W => leastMultiple_any m y W hm1 (by omega) (by omega) (by omega))
      have HX := Lib.hid hx
      have HM := Lib.hid (show m ≤ 12 ^ k ∧ 1 ≤ m ∧ 1 ≤ y ∧ y ≤ 12 from ⟨hm2, hm1, by omega, by omega⟩)
      have i1 : (0 : Int) ≤ k := by omega
      have i2 : (k : Int) < xs.length := by omega
      clear h3 hx hc hq hm2
      go_wp2_with (go_at_call 85; refine (HC.out _).mono ?_; rintro e w1 ⟨rfl, hb1⟩; have HB1 := Lib.hid (HQ.out.trans hb1))
      go_roundw
      case rel => exact ⟨k + 1, lcmF m y, by omega, by go_num, rfl, by rw [lcm_take HX.out, HF.out]; rfl, lcmF_pos HM.out.2.1 HM.out.2.2.1, by have := lcmF_le (a := m) HM.out.2.2.2; rw [Nat.pow_succ]; exact Nat.le_trans this (Nat.mul_le_mul_right _ HM.out.1), HB1.out⟩
      case measure => simp [intOf]; omega
    · clear h3 hq
      go_wp2
      go_ret
      exact ⟨ret_int (by have := HF.out; rw [List.take_of_length_le (by omega)] at this; rw [lcmAll, this]), HQ.out⟩

set_option maxHeartbeats 800000 in
theorem implCommonCycle_any (v : Value) (xs : List Int) (w : World) (h : RdI w v xs) :
    Calls Try.prog 33 #[v] w fun e w' => e = .returned (.tuple #[.int .i64 (cycleRes xs).1, .int .i64 (cycleRes xs).2]) ∧ Below w.heap.size w w' := by
  have HH := Lib.hid (hasCycle_any v xs w h)
  have HF := Lib.hid (foldedLcm_any v xs w h)
  obtain ⟨A, cap, rfl, h1, h2, -⟩ := RdI.open h
  unfold maxLen at h2
  clear h
  by_cases hn : within (xs.length : Int) 1 4 = true
  · have hn4 : xs.length ≤ 4 := by simp [within] at hn; omega
    by_cases ha : xs.all okCycle = true
    · have HE := Lib.hid (show cycleRes xs = (((lcmAll xs : Nat) : Int), 0) by rw [cycleRes, okCycles, hn, ha]; rfl)
      have HF' := Lib.hid (HF.out hn4 ha)
      rw [ha] at HH
      clear ha HF
      go_enter Try.func33, Try.ntmps33
      go_wp2_with (first | (go_at_call 82; refine (isCountI_any _ _ _).mono ?_; rintro e w' ⟨rfl, rfl⟩) | (go_at_call 83; refine HH.out.mono ?_; rintro e w1 ⟨rfl, rfl⟩) | (go_at_call 84; refine HF'.out.mono ?_; rintro e w2 ⟨rfl, hq⟩; have HQ := Lib.hid hq; clear hq))
      go_ret2
      exact ⟨ret_two (by rw [HE.out]) (by rw [HE.out]), HQ.out.below⟩
    · have ha' : xs.all okCycle = false := by simpa using ha
      have HE := Lib.hid (show cycleRes xs = (0, 2) by rw [cycleRes, okCycles, hn, ha']; rfl)
      rw [ha'] at HH
      clear ha ha' HF
      go_enter Try.func33, Try.ntmps33
      go_wp2_with (first | (go_at_call 82; refine (isCountI_any _ _ _).mono ?_; rintro e w' ⟨rfl, rfl⟩) | (go_at_call 83; refine HH.out.mono ?_; rintro e w1 ⟨rfl, rfl⟩))
      go_ret2
      exact ⟨ret_two (by rw [HE.out]) (by rw [HE.out]), Below.refl _ _⟩
  · have hn' : within (xs.length : Int) 1 4 = false := by simpa using hn
    have HE := Lib.hid (show cycleRes xs = (0, 2) by rw [cycleRes, okCycles, hn']; rfl)
    clear hn HF HH
    go_enter Try.func33, Try.ntmps33
    go_wp2_with (go_at_call 82; refine (isCountI_any _ _ _).mono ?_; rintro e w' ⟨rfl, rfl⟩)
    go_ret2
    exact ⟨ret_two (by rw [HE.out]) (by rw [HE.out]), Below.refl _ _⟩

set_option maxHeartbeats 1600000 in
theorem specCommonCycle_any (v : Value) (xs : List Int) (w : World) (h : RdI w v xs) :
    Calls Try.prog 31 #[v] w fun e w' => e = .returned (.tuple #[.int .i64 (cycleRes xs).1, .int .i64 (cycleRes xs).2]) ∧ Below w.heap.size w w' := by
  obtain ⟨A, cap, rfl, h1, h2, h3⟩ := RdI.open h
  unfold maxLen at h2
  clear h
  by_cases hn : within (xs.length : Int) 1 4 = true
  · have hn4 : xs.length ≤ 4 := by simp [within] at hn; omega
    have HN := Lib.hid hn
    go_enter Try.func31, Try.ntmps31
    go_wp2_with (go_at_call 78; refine (l00In_w _ _ _ _).mono ?_; rintro e w' ⟨rfl, rfl⟩)
    clear hn
    go_loopw [4, 5] (fun o i wr => ∃ k : Nat, ∃ y : Bool, k ≤ xs.length ∧ i = .int .i64 k ∧ o = .bool y ∧ (xs.take k).all okCycle = y ∧ Qt w wr) (fun _ i _ => xs.length - (intOf i).toNat)
    case atStart => exact ⟨0, true, Nat.zero_le _, rfl, by first | rfl | rw [HN.out], by simp, Qt.refl _⟩
    case round =>
      obtain ⟨k, y, hk, rfl, rfl, hp, hq⟩ := hrel
      have HP := Lib.hid hp; clear hp
      have HQ := Lib.hid hq
      cases y
      · have HE := Lib.hid (show cycleRes xs = (0, 2) by
          have : xs.all okCycle = false := by
            rw [← Bool.not_eq_true]; intro hall
            have h4 := HP.out
            rw [List.all_eq_false] at h4
            obtain ⟨c, hc, hc2⟩ := h4
            exact hc2 (List.all_eq_true.1 hall c (List.mem_of_mem_take hc))
          rw [cycleRes, okCycles, HN.out, this]; rfl)
        by_cases hlt : k < xs.length
        · clear h3 hq
          go_wp2
          go_ret2
          exact ⟨ret_two (by rw [HE.out]) (by rw [HE.out]), HQ.out.below⟩
        · clear h3 hq
          go_wp2
          go_ret2
          exact ⟨ret_two (by rw [HE.out]) (by rw [HE.out]), HQ.out.below⟩
      · by_cases hlt : k < xs.length
        · obtain ⟨b, off, x, rfl, hx, hc⟩ := h3 k hlt
          have hc' := (hq.cell _).trans hc
          have HX := Lib.hid hx
          have i1 : (0 : Int) ≤ k := by omega
          have i2 : (k : Int) < xs.length := by omega
          clear h3 hx hc hq
          go_wp2_with (go_at_call 78; refine (l00In_w _ _ _ _).mono ?_; rintro e w' ⟨rfl, rfl⟩)
          go_roundw
          case rel => exact ⟨k + 1, okCycle x, by omega, by go_num, rfl, by rw [take_succ_of HX.out, List.all_append, HP.out]; simp [okCycle], HQ.out⟩
          case measure => simp [intOf]; omega
        · have ha : xs.all okCycle = true := by have := HP.out; rwa [List.take_of_length_le (by omega)] at this
          have HA := Lib.hid ha
          have HE := Lib.hid (show cycleRes xs = (((lcmAll xs : Nat) : Int), 0) by rw [cycleRes, okCycles, HN.out, ha]; rfl)
          have ek : k = xs.length := by omega
          subst ek
          have h3' : ∀ i, i < xs.length → ∃ b off z, A = some ⟨b, off, none⟩ ∧ xs[i]? = some z ∧ wr.cell? ⟨b, off + i, none⟩ = some (.int .i64 z) := fun i hi => by
            obtain ⟨b, off, z, e1, e2, e3⟩ := h3 i hi
            exact ⟨b, off, z, e1, e2, (hq.cell _).trans e3⟩
          clear ha h3 hq
          go_wp2
          obtain ⟨wo, hwo⟩ : ∃ wo, wo = wr := ⟨wr, rfl⟩
          subst hwo
          go_loopw [6, 7] (fun d i wr => ∃ k m : Nat, k ≤ xs.length ∧ i = .int .i64 k ∧ d = .int .i64 m ∧ (xs.take k).foldl (fun a x => lcmF a x.toNat) 1 = m ∧ 1 ≤ m ∧ m ≤ 12 ^ k ∧ Qt wo wr) (fun _ i _ => xs.length - (intOf i).toNat)
          case atStart => exact ⟨0, 1, Nat.zero_le _, rfl, rfl, by simp, Nat.le_refl _, by simp, Qt.refl _⟩
          case round =>
            obtain ⟨k, m, hk2, rfl, rfl, hf, hm1, hm2, hq⟩ := hrel
            have HF := Lib.hid hf; clear hf
            have HQ2 := Lib.hid hq
            by_cases hlt : k < xs.length
            · obtain ⟨b, off, x, rfl, hx, hc⟩ := h3' k hlt
              have hc' := (hq.cell _).trans hc
              obtain ⟨hx1, hx2⟩ := cyc_in HA.out hx
              obtain ⟨y, rfl⟩ := Int.eq_ofNat_of_zero_le (show 0 ≤ x by omega)
              have hm3 : m ≤ 20736 := Nat.le_trans hm2 (pow12 (by omega))
              have HC := Lib.hid (fun W => l05Gcd_any m y W (by omega) (by omega))
              have HX := Lib.hid hx
              have HM := Lib.hid (show m ≤ 12 ^ k ∧ 1 ≤ m ∧ 1 ≤ y ∧ y ≤ 12 from ⟨hm2, hm1, by omega, by omega⟩)
              have i1 : (0 : Int) ≤ k := by omega
              have i2 : (k : Int) < xs.length := by omega
              obtain ⟨g, hg⟩ : ∃ g, Nat.gcd m y = g := ⟨_, rfl⟩
              have hg1 : 1 ≤ g := by rw [← hg]; exact Nat.gcd_pos_of_pos_left _ (by omega)
              rw [hg] at HC
              have HG := Lib.hid hg
              have g1 : (1 : Int) ≤ g := by omega
              have hdv : m / g ≤ 20736 := Nat.le_trans (Nat.div_le_self _ _) hm3
              have hle : m / g * y ≤ 20736 * 12 := Nat.mul_le_mul hdv (by omega)
              have e1 : ((m : Int) / (g : Int) * (y : Int)) = ((m / g * y : Nat) : Int) := by push_cast; rfl
              have p1 : (0 : Int) ≤ (m : Int) / (g : Int) * (y : Int) := by rw [e1]; omega
              have p2 : (m : Int) / (g : Int) * (y : Int) ≤ 248832 := by rw [e1]; omega
              have d1 : (0 : Int) ≤ (m : Int) / (g : Int) := Int.ediv_nonneg (by omega) (by omega)
              have d2 : (m : Int) / (g : Int) ≤ 20736 := by
                have : ((m / g : Nat) : Int) ≤ 20736 := by omega
                push_cast at this; exact this
              have HE1 := Lib.hid e1
              have HM2 := Lib.hid hm2
              clear h3' hx hc hq hm2 hg e1 hle hdv
              go_wp2_with fail
              go_quiet ((go_at_call 79; exact Calls.quiet_of (HC.out _)))
              go_wp2
              go_roundw
              case rel => exact ⟨k + 1, lcmF m y, by omega, by go_num, by rw [HE1.out, lcmF, HG.out], by rw [lcm_take HX.out, HF.out]; rfl, lcmF_pos HM.out.2.1 HM.out.2.2.1, by have := lcmF_le (a := m) HM.out.2.2.2; rw [Nat.pow_succ]; exact Nat.le_trans this (Nat.mul_le_mul_right _ HM.out.1), HQ2.out.drewN _⟩
              case measure => simp [intOf]; omega
            · clear h3' hq
              go_wp2
              go_ret2
              exact ⟨ret_two (by rw [HE.out]; have := HF.out; rw [List.take_of_length_le (by omega)] at this; rw [lcmAll, this]) (by rw [HE.out]), below_step HQ.out.below HQ2.out.below⟩
  · have hn' : within (xs.length : Int) 1 4 = false := by simpa using hn
    have HE := Lib.hid (show cycleRes xs = (0, 2) by rw [cycleRes, okCycles, hn']; rfl)
    clear hn h3
    go_enter Try.func31, Try.ntmps31
    go_wp2_with (go_at_call 78; refine (l00In_w _ _ _ _).mono ?_; rintro e w' ⟨rfl, rfl⟩)
    refine wp_loop_rounds 1 ?_
    rw [rounds_succ]
    by_cases h0 : (0 : Int) < xs.length
    · go_wp2
      go_ret2
      exact ⟨ret_two (by rw [HE.out]) (by rw [HE.out]), Below.refl _ _⟩
    · go_wp2
      go_ret2
      exact ⟨ret_two (by rw [HE.out]) (by rw [HE.out]), Below.refl _ _⟩
end Go.Proofs.Ytjojmlaipcbmkaa
