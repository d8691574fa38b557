/-
  Lists of states: rising within bounds, by the model and by the program.
-/
import Derived.Test.YtdkalefepdlccaaT6
import Derived.Test.YtdkalefepdlccaaT7
namespace Go.Proofs.Ytdkalefepdlccaa
open Go.RowKit

/-- The list rises at i, and its element there is from 0 to n - 1. -/
def riseAt (n : Int) (l : List Int) (i : Nat) : Bool := within (l.getD i 0) 0 (n - 1) && (decide (i = 0) || decide (l.getD (i - 1) 0 < l.getD i 0))
def rises (n : Int) (l : List Int) : Bool := (List.range l.length).all (riseAt n l)

theorem rise_succ {n : Int} {l : List Int} {k : Nat} (h : (List.range k).all (riseAt n l) = true) (hk : riseAt n l k = true) : (List.range (k + 1)).all (riseAt n l) = true := by
  rw [List.range_succ, List.all_append, h]; simp [hk]
theorem rise_not {n : Int} {l : List Int} {k : Nat} (hl : k < l.length) (hk : riseAt n l k = false) : rises n l = false := by
  rw [rises, List.all_eq_false]; exact ⟨k, List.mem_range.2 hl, by simp [hk]⟩
theorem rise_all {n : Int} {l : List Int} {k : Nat} (h : (List.range k).all (riseAt n l) = true) (hk : k ≤ l.length) (hl : ¬ k < l.length) : rises n l = true := by
  rw [rises, show l.length = k by omega]; exact h
theorem riseAt_eq {n : Int} {l : List Int} {k : Nat} {x : Int} (h : l[k]? = some x) : riseAt n l k = (within x 0 (n - 1) && (decide (k = 0) || decide (l.getD (k - 1) 0 < x))) := by
  have : l.getD k 0 = x := by simp [List.getD, h]
  rw [riseAt, this]
theorem riseAt_eq2 {n : Int} {l : List Int} {k : Nat} {x y : Int} (h : l[k]? = some x) (h2 : l[k - 1]? = some y) : riseAt n l k = (within x 0 (n - 1) && (decide (k = 0) || decide (y < x))) := by
  have : l.getD (k - 1) 0 = y := by simp [List.getD, h2]
  rw [riseAt_eq h, this]
theorem getD_of {l : List Int} {k : Nat} {x : Int} (h : l[k]? = some x) : l.getD k 0 = x := by simp [List.getD, h]

set_option maxHeartbeats 800000 in
theorem l00Rises_any (v : Value) (l : List Int) (n : Int) (w : World) (h : RdI w v l) :
    Calls Try.prog 145 #[v, .int .i64 0, .int .i64 (n - 1)] w fun e w' => e = .returned (.bool (rises n l)) ∧ Qt w w' := by
  obtain ⟨A, cap, rfl, h1, h2, h3⟩ := h.open
  unfold maxLen at h2
  go_enter Try.func145, Try.ntmps145
  go_wp2
  go_loopw [7] (fun i wr => ∃ k : Nat, k ≤ l.length ∧ i = .int .i64 k ∧ (List.range k).all (riseAt n l) = true ∧ Qt w wr) (fun i _ => l.length - (intOf i).toNat)
  case atStart => exact ⟨0, Nat.zero_le _, rfl, by simp, Qt.refl _⟩
  case round =>
    obtain ⟨k, hk, rfl, hp, hb⟩ := hrel
    have HP := Lib.hid hp; clear hp
    have HB := Lib.hid hb
    by_cases hlt : k < l.length
    · obtain ⟨b, off, x, rfl, hx, hc⟩ := h3 k hlt
      have gc := (hb.cell _).trans hc
      have i1 : (0 : Int) ≤ k := by omega
      have i2 : (k : Int) < l.length := by omega
      by_cases hin : within x 0 (n - 1) = true
      · by_cases h0 : k = 0
        · have HR := Lib.hid (show riseAt n l k = true by rw [riseAt_eq hx, hin]; simp [h0])
          have j1 : decide ((0 : Int) < (k : Int)) = false := by simp; omega
          have j5 : decide (0 < k) = false := by simp; omega
          have j4 : ¬ (0 : Int) < k := by omega
          have H0 := Lib.hid h0
          clear h0
          clear h3 hb hc hx
          go_wp2
          go_quiet ((go_at_call 118; exact Calls.quiet_of_same ((l00In_w _ _ _ _).mono fun _ _ ⟨a, b⟩ => ⟨a, b.symm⟩)))
          go_wp2
          go_roundw
          case rel => exact ⟨k + 1, by omega, by go_num, rise_succ HP.out HR.out, HB.out.drewN _⟩
          case measure => simp [intOf]; omega
        · obtain ⟨b2, off2, y, hA2, hy, hd⟩ := h3 (k - 1) (by omega)
          cases hA2
          have gd := (hb.cell _).trans hd
          have j1 : decide ((0 : Int) < (k : Int)) = true := by simp; omega
          have j5 : decide (0 < k) = true := by simp; omega
          have j2 : (0 : Int) ≤ (k : Int) - 1 := by omega
          have j3 : (k : Int) - 1 < l.length := by omega
          have j4 : (0 : Int) < k := by omega
          by_cases hyx : y < x
          · have d1 : decide (x ≤ y) = false := by simpa using hyx
            have HR := Lib.hid (show riseAt n l k = true by rw [riseAt_eq2 hx hy, hin]; simp [hyx])
            clear h3 hb hc hx hy hd
            go_wp2
            have w1 : IntKind.i64.wrap ((k : Int) - 1) = (k : Int) - 1 := IntWalk.i64_in _ (by omega)
            have w2 : ((k : Int) - 1).toNat = k - 1 := by omega
            go_quiet ((go_at_call 118; exact Calls.quiet_of_same ((l00In_w _ _ _ _).mono fun _ _ ⟨a, b⟩ => ⟨a, b.symm⟩)))
            clear w1 w2
            go_wp2
            go_roundw
            case rel => exact ⟨k + 1, by omega, by go_num, rise_succ HP.out HR.out, HB.out.drewN _⟩
            case measure => simp [intOf]; omega
          · have d1 : decide (x ≤ y) = true := by simp; omega
            have HR := Lib.hid (show riseAt n l k = false by rw [riseAt_eq2 hx hy]; simp [h0, hyx])
            clear h3 hb hc hx hy hd
            go_wp2
            have w1 : IntKind.i64.wrap ((k : Int) - 1) = (k : Int) - 1 := IntWalk.i64_in _ (by omega)
            have w2 : ((k : Int) - 1).toNat = k - 1 := by omega
            go_quiet ((go_at_call 118; exact Calls.quiet_of_same ((l00In_w _ _ _ _).mono fun _ _ ⟨a, b⟩ => ⟨a, b.symm⟩)))
            clear w1 w2
            go_wp2
            go_ret
            exact ⟨ret_bool (rise_not hlt HR.out).symm, HB.out.drewN _⟩
      · have hin' : within x 0 (n - 1) = false := by simpa using hin
        have HR := Lib.hid (show riseAt n l k = false by rw [riseAt_eq hx, hin']; simp)
        clear h3 hb hc hx hin
        go_wp2
        go_quiet ((go_at_call 118; exact Calls.quiet_of_same ((l00In_w _ _ _ _).mono fun _ _ ⟨a, b⟩ => ⟨a, b.symm⟩)))
        go_wp2
        go_ret
        exact ⟨ret_bool (rise_not hlt HR.out).symm, HB.out.drewN _⟩
    · clear h3 hb
      go_wp2
      go_ret
      exact ⟨ret_bool (rise_all HP.out hk hlt).symm, HB.out⟩

/-- The program's test of a state, in a word that the walk leaves alone. -/
theorem isState_wM (s n : Int) (w : World) :
    Calls Try.prog 121 #[.int .i64 s, .int .i64 n] w fun e w' => e = .returned (.bool (within s 0 (n - 1))) ∧ w = w' :=
  (isState_any s n w).mono fun _ _ ⟨a, b⟩ => ⟨by rw [a]; exact ret_bool (by rw [within]; congr 1; simp; omega), b⟩

set_option maxHeartbeats 800000 in
theorem isStateList_any (v : Value) (l : List Int) (n : Int) (w : World) (h : RdI w v l) :
    Calls Try.prog 147 #[v, .int .i64 n] w fun e w' => e = .returned (.bool (rises n l)) ∧ w = w' := by
  obtain ⟨A, cap, rfl, h1, h2, h3⟩ := h.open
  unfold maxLen at h2
  go_enter Try.func147, Try.ntmps147
  go_wp2
  go_loop [9] (fun i => ∃ k : Nat, k ≤ l.length ∧ i = .int .i64 k ∧ (List.range k).all (riseAt n l) = true) (fun i => l.length - (intOf i).toNat)
  case atStart => exact ⟨0, Nat.zero_le _, rfl, by simp⟩
  case round =>
    obtain ⟨k, hk, rfl, hp⟩ := hrel
    have HP := Lib.hid hp; clear hp
    by_cases hlt : k < l.length
    · obtain ⟨b, off, x, rfl, hx, hc⟩ := h3 k hlt
      have i1 : (0 : Int) ≤ k := by omega
      have i2 : (k : Int) < l.length := by omega
      by_cases hin : within x 0 (n - 1) = true
      · by_cases h0 : k = 0
        · have HR := Lib.hid (show riseAt n l k = true by rw [riseAt_eq hx, hin]; simp [h0])
          have j1 : decide ((0 : Int) < (k : Int)) = false := by simp; omega
          have j5 : decide (0 < k) = false := by simp; omega
          have j4 : ¬ (0 : Int) < k := by omega
          have H0 := Lib.hid h0
          clear h0
          clear h3 hx
          go_wp2_with (go_at_call 121; refine (isState_wM _ _ _).mono ?_; rintro e w' ⟨rfl, rfl⟩)
          go_round
          case rel => exact ⟨k + 1, by omega, by go_num, rise_succ HP.out HR.out⟩
          case measure => simp [intOf]; omega
        · obtain ⟨b2, off2, y, hA2, hy, hd⟩ := h3 (k - 1) (by omega)
          cases hA2
          have j1 : decide ((0 : Int) < (k : Int)) = true := by simp; omega
          have j5 : decide (0 < k) = true := by simp; omega
          have j2 : (0 : Int) ≤ (k : Int) - 1 := by omega
          have j3 : (k : Int) - 1 < l.length := by omega
          have j4 : (0 : Int) < k := by omega
          by_cases hyx : y < x
          · have d1 : decide (x ≤ y) = false := by simpa using hyx
            have HR := Lib.hid (show riseAt n l k = true by rw [riseAt_eq2 hx hy, hin]; simp [hyx])
            clear h3 hx hy
            go_wp2_with (go_at_call 121; refine (isState_wM _ _ _).mono ?_; rintro e w' ⟨rfl, rfl⟩)
            go_round
            case rel => exact ⟨k + 1, by omega, by go_num, rise_succ HP.out HR.out⟩
            case measure => simp [intOf]; omega
          · have d1 : decide (x ≤ y) = true := by simp; omega
            have HR := Lib.hid (show riseAt n l k = false by rw [riseAt_eq2 hx hy]; simp [h0, hyx])
            clear h3 hx hy
            go_wp2_with (go_at_call 121; refine (isState_wM _ _ _).mono ?_; rintro e w' ⟨rfl, rfl⟩)
            go_ret
            exact ⟨ret_bool (rise_not hlt HR.out).symm, rfl⟩
      · have hin' : within x 0 (n - 1) = false := by simpa using hin
        have HR := Lib.hid (show riseAt n l k = false by rw [riseAt_eq hx, hin']; simp)
        clear h3 hx hin
        go_wp2_with (go_at_call 121; refine (isState_wM _ _ _).mono ?_; rintro e w' ⟨rfl, rfl⟩)
        go_ret
        exact ⟨ret_bool (rise_not hlt HR.out).symm, rfl⟩
    · clear h3
      go_wp2
      go_ret
      exact ⟨ret_bool (rise_all HP.out hk hlt).symm, rfl⟩
end Go.Proofs.Ytdkalefepdlccaa
