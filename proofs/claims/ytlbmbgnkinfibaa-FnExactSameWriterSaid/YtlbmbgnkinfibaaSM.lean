/-
  Equality of slices of moves, by package slices.
-/
import Derived.Test.YtlbmbgnkinfibaaQMove
namespace Go.Proofs.Ytlbmbgnkinfibaa
open Go.RowKit

set_option maxHeartbeats 400000 in
theorem slEqualP_any (v u : Value) (xs ys : List (Int × Int)) (w : World) (h : RdP w v xs) (hu : RdP w u ys) :
    Calls Try.prog 88 #[v, u] w fun e w' => e = .returned (.bool (decide (xs = ys))) ∧ Qt w w' := by
  obtain ⟨A, cap, rfl, h1, h2, h3⟩ := h.open
  obtain ⟨B, cap', rfl, k1, k2, k3⟩ := hu.open
  unfold maxLen at h2 k2
  by_cases hl : xs.length = ys.length
  · have hl' : ((xs.length : Int) != (ys.length : Int)) = false := by simp [hl]
    have HL := Lib.hid hl; clear hl
    go_enter Try.func88, Try.ntmps88
    go_wp2
    go_loopw [13] (fun i wr => ∃ k : Nat, k ≤ xs.length ∧ i = .int .i64 k ∧ Qt w wr ∧ xs.take k = ys.take k) (fun i _ => xs.length - (intOf i).toNat)
    case atStart => exact ⟨0, Nat.zero_le _, rfl, Qt.refl _, by simp⟩
    case round =>
      obtain ⟨k, hk, rfl, hb, hp⟩ := hrel
      have HP := Lib.hid hp; clear hp
      have HB := Lib.hid hb
      by_cases hlt : k < xs.length
      · obtain ⟨b, off, x, y, rfl, hx, hc, hd⟩ := h3 k hlt
        obtain ⟨b', off', x', y', rfl, hy, hc', hd'⟩ := k3 k (by have := HL.out; omega)
        have gc := (hb.cell _).trans hc
        have gd := (hb.cell _).trans hd
        have gc' := (hb.cell _).trans hc'
        have gd' := (hb.cell _).trans hd'
        clear hc hd hc' hd' h3 k3 hb
        have HX := Lib.hid hx; clear hx
        have HY := Lib.hid hy; clear hy
        have i1 : (0 : Int) ≤ k := by omega
        have i2 : (k : Int) < xs.length := by omega
        have i3 : (k : Int) < ys.length := by have := HL.out; omega
        by_cases hxx : x = x'
        · subst hxx
          by_cases hyy : y = y'
          · subst hyy
            go_wp2
            go_quiet (fail)
            go_wp2
            go_roundw
            case rel => exact ⟨k + 1, by omega, by go_num, HB.out.drewN _, takes_succ HP.out HX.out HY.out⟩
            case measure => simp [intOf]; omega
          · have n1 : (y == y') = false := by simpa using hyy
            have HN := Lib.hid hyy; clear hyy
            go_wp2
            go_quiet (fail)
            go_wp2
            go_ret
            exact ⟨ret_bool (decide_eq_false (ne_at HX.out HY.out (by have := HN.out; simp_all))).symm, HB.out.drewN _⟩
        · have n1 : (x == x') = false := by simpa using hxx
          have HN := Lib.hid hxx; clear hxx
          go_wp2
          go_quiet (fail)
          go_wp2
          go_ret
          exact ⟨ret_bool (decide_eq_false (ne_at HX.out HY.out (by have := HN.out; simp_all))).symm, HB.out.drewN _⟩
      · clear hb
        go_wp2
        go_ret
        exact ⟨ret_bool (decide_eq_true (eq_of_takes HL.out hlt HP.out)).symm, HB.out⟩
  · have hl' : ((xs.length : Int) != (ys.length : Int)) = true := by simp; omega
    have HL := Lib.hid hl; clear hl
    go_enter Try.func88, Try.ntmps88
    go_wp2
    go_ret
    exact ⟨ret_bool (decide_eq_false (fun e => HL.out (by rw [e]))).symm, Qt.refl _⟩
end Go.Proofs.Ytlbmbgnkinfibaa
