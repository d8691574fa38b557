/-
  The laws' own helpers for readers: sizes (any number), copies (they read as what is copied), and comparisons of lists (true just if they are equal).
-/
import Derived.Test.YtdkalefepdlccaaT2
namespace Go.Proofs.Ytdkalefepdlccaa
open Go.RowKit

set_option maxHeartbeats 400000 in
theorem eqInt64SS_any (v u : Value) (xs ys : List (List Int)) (w : World) (h : RdL RdI w v xs) (hu : RdL RdI w u ys) :
    Calls Try.prog 37 #[v, u] w fun e w' => e = .returned (.bool (decide (xs = ys))) ∧ Qt w w' := by
  obtain ⟨A, cap, rfl, h1, h2, h3⟩ := h.open
  obtain ⟨B, cap', rfl, k1, k2, k3⟩ := hu.open
  unfold maxLen at h2 k2
  by_cases hl : xs.length = ys.length
  · have hl' : ((xs.length : Int) != (ys.length : Int)) = false := by simp [hl]
    have HL := Lib.hid hl; clear hl
    go_enter Try.func37, Try.ntmps37
    go_wp2
    go_loopw [5] (fun i wr => ∃ k : Nat, k ≤ xs.length ∧ i = .int .i64 k ∧ Qt w wr ∧ xs.take k = ys.take k) (fun i _ => xs.length - (intOf i).toNat)
    case atStart => exact ⟨0, Nat.zero_le _, rfl, Qt.refl _, by simp⟩
    case round =>
      obtain ⟨k, hk, rfl, hb, hp⟩ := hrel
      have HP := Lib.hid hp; clear hp
      have HB := Lib.hid hb
      by_cases hlt : k < xs.length
      · obtain ⟨b, off, p, x, rfl, hx, hc, hR⟩ := h3 k hlt
        obtain ⟨b', off', q, y, rfl, hy, hd, hS⟩ := k3 k (by have := HL.out; omega)
        have hc' := (hb.cell _).trans hc
        have hd' := (hb.cell _).trans hd
        have HC := Lib.hid (fun n => eqInt64S_any p q x y (wr.drewN n) (keepsI _ _ _ _ hR (hb.drewN n).below) (keepsI _ _ _ _ hS (hb.drewN n).below))
        clear hc hd h3 k3 hb hR hS
        have HX := Lib.hid hx; clear hx
        have HY := Lib.hid hy; clear hy
        have i1 : (0 : Int) ≤ k := by omega
        have i2 : (k : Int) < xs.length := by omega
        have i3 : (k : Int) < ys.length := by have := HL.out; omega
        by_cases hxy : x = y
        · subst hxy
          have hd1 : decide (x = x) = true := by simp
          go_wp2_with fail
          go_quiet ((go_at_call 30; exact Calls.quiet_of (HC.out _)))
          go_wp2
          go_roundw
          case rel => exact ⟨k + 1, by omega, by go_num, HB.out.drewN _, takes_succ HP.out HX.out HY.out⟩
          case measure => simp [intOf]; omega
        · have hd1 : decide (x = y) = false := by simpa using hxy
          go_wp2_with fail
          go_quiet ((go_at_call 30; exact Calls.quiet_of (HC.out _)))
          go_wp2
          go_ret
          exact ⟨ret_bool (decide_eq_false (ne_at HX.out HY.out hxy)).symm, HB.out.drewN _⟩
      · clear hb
        go_wp2
        go_ret
        exact ⟨ret_bool (decide_eq_true (eq_of_takes HL.out hlt HP.out)).symm, HB.out⟩
  · have hl' : ((xs.length : Int) != (ys.length : Int)) = true := by simp; omega
    have HL := Lib.hid hl; clear hl
    go_enter Try.func37, Try.ntmps37
    go_wp2
    go_ret
    exact ⟨ret_bool (decide_eq_false (fun e => HL.out (by rw [e]))).symm, Qt.refl _⟩

end Go.Proofs.Ytdkalefepdlccaa
