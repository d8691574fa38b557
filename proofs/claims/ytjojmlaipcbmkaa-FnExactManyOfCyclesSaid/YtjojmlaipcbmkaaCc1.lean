/-
  CommonCycle: least common multiples, by the program's fold and by the model's loop.
-/
import Derived.Test.YtjojmlaipcbmkaaT6
import Derived.Test.YtjojmlaipcbmkaaArg
namespace Go.Proofs.Ytjojmlaipcbmkaa
open Go.RowKit

theorem isCountL_any (n m : Int) (w : World) :
    Calls Try.prog 81 #[.int .i64 n, .int .i64 m] w fun e w' => e = .returned (.bool (within n 1 m)) ∧ w = w' := by
  by_cases h1 : 1 ≤ n
  · by_cases h2 : n ≤ m
    · go_enter Try.func81, Try.ntmps81
      go_wp2
      go_ret
      exact ⟨ret_bool (by simp [within]; omega), rfl⟩
    · go_enter Try.func81, Try.ntmps81
      go_wp2
      go_ret
      exact ⟨ret_bool (by simp [within]; omega), rfl⟩
  · go_enter Try.func81, Try.ntmps81
    go_wp2
    go_ret
    exact ⟨ret_bool (by simp [within]; omega), rfl⟩
theorem isCountI_any (n m : Int) (w : World) :
    Calls Try.prog 82 #[.int .i64 n, .int .i64 m] w fun e w' => e = .returned (.bool (within n 1 m)) ∧ w = w' := by
  by_cases h1 : 1 ≤ n
  · by_cases h2 : n ≤ m
    · go_enter Try.func82, Try.ntmps82
      go_wp2
      go_ret
      exact ⟨ret_bool (by simp [within]; omega), rfl⟩
    · go_enter Try.func82, Try.ntmps82
      go_wp2
      go_ret
      exact ⟨ret_bool (by simp [within]; omega), rfl⟩
  · go_enter Try.func82, Try.ntmps82
    go_wp2
    go_ret
    exact ⟨ret_bool (by simp [within]; omega), rfl⟩

def lcmF (a b : Nat) : Nat := a / Nat.gcd a b * b
theorem lcmF_le {a b : Nat} (h : b ≤ 12) : lcmF a b ≤ a * 12 := Nat.mul_le_mul (Nat.div_le_self _ _) h
theorem lcmF_pos {a b : Nat} (ha : 1 ≤ a) (hb : 1 ≤ b) : 1 ≤ lcmF a b := by
  unfold lcmF
  have h1 : 0 < a / Nat.gcd a b := Nat.div_pos (Nat.le_of_dvd (by omega) (Nat.gcd_dvd_left a b)) (Nat.gcd_pos_of_pos_left _ (by omega))
  exact Nat.mul_pos h1 (by omega)
theorem gcd_step (x y : Nat) : Nat.gcd y (x % y) = Nat.gcd x y := by
  rw [Nat.gcd_comm, ← Nat.gcd_rec, Nat.gcd_comm]

set_option maxHeartbeats 800000 in
theorem leastMultiple_any (a b : Nat) (w : World) (ha : 1 ≤ a) (ha2 : a ≤ 1000000) (hb : 1 ≤ b) (hb2 : b ≤ 1000000) :
    Calls Try.prog 85 #[.int .i64 a, .int .i64 b] w fun e w' => e = .returned (.int .i64 (lcmF a b : Nat)) ∧ Qt w w' := by
  go_enter Try.func85, Try.ntmps85
  go_wp2
  go_loopw [5, 6] (fun d q wr => ∃ x y : Nat, d = .int .i64 x ∧ q = .int .i64 y ∧ Nat.gcd x y = Nat.gcd a b ∧ x ≤ 1000000 ∧ y ≤ 1000000 ∧ Qt w wr) (fun _ q _ => (intOf q).toNat)
  case atStart => exact ⟨a, b, rfl, rfl, rfl, ha2, hb2, Qt.refl _⟩
  case round =>
    obtain ⟨x, y, rfl, rfl, hg, hx, hy, hq⟩ := hrel
    have HQ := Lib.hid hq; clear hq
    have HG := Lib.hid hg; clear hg
    by_cases h0 : y = 0
    · subst h0
      have hx' : x = Nat.gcd a b := by have := HG.out; rwa [Nat.gcd_zero_right] at this
      have hx1 : 1 ≤ x := by rw [hx']; exact Nat.gcd_pos_of_pos_left _ (by omega)
      have hle : a / x * b ≤ 1000000 * 1000000 := Nat.mul_le_mul (Nat.le_trans (Nat.div_le_self _ _) ha2) hb2
      have e1 : ((a : Int) / (x : Int) * (b : Int)) = ((a / x * b : Nat) : Int) := by push_cast; rfl
      have p1 : (0 : Int) ≤ (a : Int) / (x : Int) * (b : Int) := by rw [e1]; omega
      have p2 : (a : Int) / (x : Int) * (b : Int) ≤ 1000000000000 := by rw [e1]; omega
      have d1 : (0 : Int) ≤ (a : Int) / (x : Int) := Int.ediv_nonneg (by omega) (by omega)
      have d2 : (a : Int) / (x : Int) ≤ 1000000 := by have : ((a / x : Nat) : Int) ≤ 1000000 := by have := Nat.div_le_self a x; omega
                                                      push_cast at this; exact this
      have HX := Lib.hid hx'
      have HE := Lib.hid e1
      clear hx' e1
      go_wp2
      go_ret
      exact ⟨ret_int (by rw [HE.out, HX.out]; rfl), HQ.out⟩
    · have hne : ((y : Int) != 0) = true := by simp; omega
      have i1 : (1 : Int) ≤ y := by omega
      have HE := Lib.hid (show (x : Int) % (y : Int) = ((x % y : Nat) : Int) from by push_cast; rfl)
      have HL := Lib.hid (show x % y < y from Nat.mod_lt _ (by omega))
      go_wp2
      go_quiet (fail)
      go_wp2
      go_roundw
      case rel => exact ⟨y, x % y, rfl, by rw [← HE.out], by rw [gcd_step]; exact HG.out, hy, by have := HL.out; omega, HQ.out.drewN _⟩
      case measure => have := HL.out; simp [intOf]; omega

set_option maxHeartbeats 800000 in
theorem l05Gcd_any (a b : Nat) (w : World) (ha2 : a ≤ 1000000) (hb2 : b ≤ 1000000) :
    Calls Try.prog 79 #[.int .i64 a, .int .i64 b] w fun e w' => e = .returned (.int .i64 (Nat.gcd a b : Nat)) ∧ Qt w w' := by
  go_enter Try.func79, Try.ntmps79
  go_wp2
  go_loopw [0, 1] (fun d q wr => ∃ x y : Nat, d = .int .i64 x ∧ q = .int .i64 y ∧ Nat.gcd x y = Nat.gcd a b ∧ x ≤ 1000000 ∧ y ≤ 1000000 ∧ Qt w wr) (fun _ q _ => (intOf q).toNat)
  case atStart => exact ⟨a, b, rfl, rfl, rfl, ha2, hb2, Qt.refl _⟩
  case round =>
    obtain ⟨x, y, rfl, rfl, hg, hx, hy, hq⟩ := hrel
    have HQ := Lib.hid hq; clear hq
    have HG := Lib.hid hg; clear hg
    by_cases h0 : y = 0
    · subst h0
      have HX := Lib.hid (show x = Nat.gcd a b by have := HG.out; rwa [Nat.gcd_zero_right] at this)
      go_wp2
      go_ret
      exact ⟨ret_int (by rw [HX.out]), HQ.out⟩
    · have hne : ((y : Int) != 0) = true := by simp; omega
      have i1 : (1 : Int) ≤ y := by omega
      have HE := Lib.hid (show (x : Int) % (y : Int) = ((x % y : Nat) : Int) from by push_cast; rfl)
      have HL := Lib.hid (show x % y < y from Nat.mod_lt _ (by omega))
      go_wp2
      go_roundw
      case rel => exact ⟨y, x % y, rfl, by rw [← HE.out], by rw [gcd_step]; exact HG.out, hy, by have := HL.out; omega, HQ.out⟩
      case measure => have := HL.out; simp [intOf]; omega
end Go.Proofs.Ytjojmlaipcbmkaa
