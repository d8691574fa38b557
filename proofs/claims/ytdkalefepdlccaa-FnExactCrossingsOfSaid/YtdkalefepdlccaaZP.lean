/-
  Sizes of slices of structs of two integers, with what they hold in all.
-/
import Derived.Test.YtdkalefepdlccaaZ
import Derived.Test.YtdkalefepdlccaaQQMove
namespace Go.Proofs.Ytdkalefepdlccaa
open Go.RowKit

theorem szMoveS_tot (v : Value) (xs : List (Int × Int)) (left : Int) (w : World) (h : RdP w v xs) (h0 : 0 ≤ left) (hb : left ≤ 4611686018427387904) :
    Calls Try.prog 96 #[v, .int .i64 left] w fun e w' => (∃ n : Int, e = .returned (.int .i64 n) ∧ (n < 0 ∨ n + (xs.length : Int) = left)) ∧ w = w' := by
  obtain ⟨A, cap, rfl, h1, h2, h3⟩ := h.open
  clear h3
  unfold maxLen at h2
  by_cases hl : left - (xs.length : Int) < 0
  · go_enter Try.func96, Try.ntmps96
    go_wp2
    go_ret
    exact ⟨⟨_, rfl, .inl (by decide)⟩, rfl⟩
  · go_enter Try.func96, Try.ntmps96
    go_wp2
    go_ret
    exact ⟨⟨_, rfl, .inr (by omega)⟩, rfl⟩

set_option maxHeartbeats 400000 in
theorem szMoveSS_tot (v : Value) (xs : List (List (Int × Int))) (left : Int) (w : World) (h : RdL RdP w v xs) (h0 : 0 ≤ left) (hb : left ≤ 4611686018427387904) :
    Calls Try.prog 59 #[v, .int .i64 left] w fun e w' => (∃ n : Int, e = .returned (.int .i64 n) ∧ (n < 0 ∨ n + ((xs.length + numL (fun x : List (Int × Int) => x.length) xs : Nat) : Int) = left)) ∧ w = w' := by
  obtain ⟨A, cap, rfl, h1, h2, h3⟩ := h.open
  unfold maxLen at h2
  by_cases hl : left - (xs.length : Int) < 0
  · clear h3
    go_enter Try.func59, Try.ntmps59
    go_wp2
    go_ret
    exact ⟨⟨_, rfl, .inl (by decide)⟩, rfl⟩
  · go_enter Try.func59, Try.ntmps59
    go_wp2
    go_loop [1, 5] (fun l i => ∃ k : Nat, ∃ n : Int, k ≤ xs.length ∧ i = .int .i64 k ∧ l = .int .i64 n ∧ 0 ≤ n ∧ n + ((xs.length + numL (fun x : List (Int × Int) => x.length) (xs.take k) : Nat) : Int) = left) (fun _ i => xs.length - (intOf i).toNat)
    case atStart => exact ⟨0, _, Nat.zero_le _, rfl, rfl, by omega, by simp [numL]⟩
    case round =>
      obtain ⟨k, n, hk, rfl, rfl, hn0, hn⟩ := hrel
      have HN := Lib.hid hn
      by_cases hlt : k < xs.length
      · obtain ⟨b, off, u, x, rfl, hx, hc, hR⟩ := h3 k hlt
        have i1 : (0 : Int) ≤ k := by omega
        have i2 : (k : Int) < xs.length := by omega
        have HT := Lib.hid (numL_take (n := fun x : List (Int × Int) => x.length) hx)
        have HR := Lib.hid (szMoveS_tot u x n w hR hn0 (by omega))
        clear h3 hR hx hn
        go_wp2_with fail
        refine HR.out.mono ?_
        rintro e w' ⟨⟨m, rfl, hm⟩, rfl⟩
        have HM := Lib.hid hm
        clear hm HR
        by_cases hm0 : m < 0
        · go_wp2
          go_ret
          exact ⟨⟨_, rfl, .inl (by decide)⟩, rfl⟩
        · go_wp2
          go_round
          case rel => exact ⟨k + 1, _, by omega, by go_num, rfl, by omega, by have a := HN.out; have b := HT.out; have c := HM.out; omega⟩
          case measure => simp [intOf]; omega
      · have ej : k = xs.length := by omega
        subst ej
        clear h3 hn
        go_wp2
        go_ret
        exact ⟨⟨_, rfl, .inr (by have := HN.out; simpa using this)⟩, rfl⟩

end Go.Proofs.Ytdkalefepdlccaa
