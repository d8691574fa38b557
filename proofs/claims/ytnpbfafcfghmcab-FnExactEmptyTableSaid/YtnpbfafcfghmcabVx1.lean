/-
  Tables: the tests of exits and of whole tables, of the model and of the program.
-/
import Derived.Test.YtnpbfafcfghmcabXo
import Derived.Test.YtnpbfafcfghmcabT7
namespace Go.Proofs.Ytnpbfafcfghmcab
open Go.RowKit

/-- An exit that is right for n states. -/
def okE (n : Int) (m : Int × Int) : Bool :=
  decide ((m.1 = 0 ∧ -3 ≤ m.2 ∧ m.2 ≤ -1) ∨ ((m.1 = -1 ∨ m.1 = 1) ∧ 0 ≤ m.2 ∧ m.2 ≤ n - 1))
def allE (n : Int) (xs : List (Int × Int)) : Bool := xs.all (okE n)
def okX (x : XData) : Bool := decide (x.fr.length = x.fl.length) && (decide (1 ≤ (x.fl.length : Int) ∧ (x.fl.length : Int) ≤ 12) && (allE x.fl.length x.fl && allE x.fl.length x.fr))

theorem all_snocE {α : Type} {f : α → Bool} {l : List α} {i : Nat} {x : α} (hx : l[i]? = some x) (h : (l.take i).all f = true) (k : f x = true) : (l.take (i + 1)).all f = true := by
  rw [take_succ_of hx, List.all_append, h]; simp [k]
theorem all_notE {α : Type} {f : α → Bool} {l : List α} {i : Nat} {x : α} (hx : l[i]? = some x) (k : f x = false) : l.all f = false := by
  rw [List.all_eq_false]
  exact ⟨x, List.mem_of_getElem? hx, by simp [k]⟩

set_option maxHeartbeats 1600000 in
theorem l03Exit_any (x y n : Int) (w : World) (hn1 : 0 ≤ n) (hn2 : n ≤ 12) :
    Calls Try.prog 35 #[.agg #[.int .i64 x, .int .i64 y], .int .i64 n] w fun e w' => e = .returned (.bool (okE n (x, y))) ∧ Below w.heap.size w w' := by
  go_enter Try.func35, Try.ntmps35
  go_wp2_with (go_at_call 27; refine (l00In_w _ _ _ _).mono ?_; rintro e w' ⟨rfl, rfl⟩)
  all_goals go_ret
  all_goals refine ⟨ret_bool ?_, below_alloc _ _⟩
  all_goals rw [Bool.eq_iff_iff]
  all_goals simp_all [okE, within]
  all_goals omega

set_option maxHeartbeats 1600000 in
theorem areExits_any (v : Value) (xs : List (Int × Int)) (n : Int) (w : World) (h : RdP w v xs) (hn1 : 0 ≤ n) (hn2 : n ≤ 12) :
    Calls Try.prog 23 #[v, .int .i64 n] w fun e w' => e = .returned (.bool (allE n xs)) ∧ Below w.heap.size w w' := by
  obtain ⟨A, cap, rfl, h1, h2, h3⟩ := h.open
  unfold maxLen at h2
  go_enter Try.func23, Try.ntmps23
  go_wp2
  go_loopw [10] (fun i wr => ∃ k : Nat, k ≤ xs.length ∧ i = .int .i64 k ∧ Below w.heap.size w wr ∧ (xs.take k).all (okE n) = true) (fun i _ => xs.length - (intOf i).toNat)
  case atStart => exact ⟨0, Nat.zero_le _, rfl, Below.refl _ _, by simp⟩
  case round =>
    obtain ⟨k, hk, rfl, hb, hp⟩ := hrel
    have HP := Lib.hid hp; clear hp
    have HB := Lib.hid hb
    by_cases hlt : k < xs.length
    · obtain ⟨b, off, x, y, rfl, hx, hc0, hc1⟩ := h3 k hlt
      have gc0 := below_keep hb hc0
      have gc1 := below_keep hb hc1
      have HX := Lib.hid hx
      clear hc0 hc1 h3 hb hx
      have i1 : (0 : Int) ≤ k := by omega
      have i2 : (k : Int) < xs.length := by omega
      by_cases hsm1 : x = -1
      · subst hsm1
        by_cases hw : within y 0 (n - 1) = true
        · have HW := Lib.hid (of_decide_eq_true hw)
          go_wp2_with (go_at_call 37; refine (isState_w _ _ _).mono ?_; rintro e w' ⟨rfl, rfl⟩)
          go_roundw
          case rel => exact ⟨k + 1, by omega, by go_num, HB.out.trans ((below_alloc _ _).mono HB.out.size), all_snocE HX.out HP.out (by have := HW.out; simp [okE]; omega)⟩
          case measure => simp [intOf]; omega
        · have hw' : within y 0 (n - 1) = false := by simpa using hw
          have HW := Lib.hid (of_decide_eq_false hw')
          clear hw
          go_wp2_with (go_at_call 37; refine (isState_w _ _ _).mono ?_; rintro e w' ⟨rfl, rfl⟩)
          go_ret
          exact ⟨ret_bool (show allE n xs = false from all_notE HX.out (by have := HW.out; simp [okE]; omega)).symm, HB.out.trans ((below_alloc _ _).mono HB.out.size)⟩
      by_cases hs1 : x = 1
      · subst hs1
        by_cases hw : within y 0 (n - 1) = true
        · have HW := Lib.hid (of_decide_eq_true hw)
          go_wp2_with (go_at_call 37; refine (isState_w _ _ _).mono ?_; rintro e w' ⟨rfl, rfl⟩)
          go_roundw
          case rel => exact ⟨k + 1, by omega, by go_num, HB.out.trans ((below_alloc _ _).mono HB.out.size), all_snocE HX.out HP.out (by have := HW.out; simp [okE]; omega)⟩
          case measure => simp [intOf]; omega
        · have hw' : within y 0 (n - 1) = false := by simpa using hw
          have HW := Lib.hid (of_decide_eq_false hw')
          clear hw
          go_wp2_with (go_at_call 37; refine (isState_w _ _ _).mono ?_; rintro e w' ⟨rfl, rfl⟩)
          go_ret
          exact ⟨ret_bool (show allE n xs = false from all_notE HX.out (by have := HW.out; simp [okE]; omega)).symm, HB.out.trans ((below_alloc _ _).mono HB.out.size)⟩
      by_cases hs0 : x = 0
      · subst hs0
        by_cases ht1 : y = -1
        · subst ht1
          go_wp2_with fail
          go_roundw
          case rel => exact ⟨k + 1, by omega, by go_num, HB.out.trans ((below_alloc _ _).mono HB.out.size), all_snocE HX.out HP.out (by simp [okE])⟩
          case measure => simp [intOf]; omega
        by_cases ht2 : y = -2
        · subst ht2
          go_wp2_with fail
          go_roundw
          case rel => exact ⟨k + 1, by omega, by go_num, HB.out.trans ((below_alloc _ _).mono HB.out.size), all_snocE HX.out HP.out (by simp [okE])⟩
          case measure => simp [intOf]; omega
        by_cases ht3 : y = -3
        · subst ht3
          go_wp2_with fail
          go_roundw
          case rel => exact ⟨k + 1, by omega, by go_num, HB.out.trans ((below_alloc _ _).mono HB.out.size), all_snocE HX.out HP.out (by simp [okE])⟩
          case measure => simp [intOf]; omega
        have e1 : (y == -1) = false := by simpa using ht1
        have e2 : (y == -2) = false := by simpa using ht2
        have e3 : (y == -3) = false := by simpa using ht3
        have HT := Lib.hid (show _ ∧ _ ∧ _ from ⟨ht1, ht2, ht3⟩)
        clear ht1 ht2 ht3
        go_wp2_with fail
        go_ret
        exact ⟨ret_bool (show allE n xs = false from all_notE HX.out (by have := HT.out; simp [okE]; omega)).symm, HB.out.trans ((below_alloc _ _).mono HB.out.size)⟩
      have e1 : (x == -1) = false := by simpa using hsm1
      have e2 : (x == 1) = false := by simpa using hs1
      have e3 : (x == 0) = false := by simpa using hs0
      have HT := Lib.hid (show _ ∧ _ ∧ _ from ⟨hsm1, hs1, hs0⟩)
      clear hsm1 hs1 hs0
      go_wp2_with fail
      go_ret
      exact ⟨ret_bool (show allE n xs = false from all_notE HX.out (by have := HT.out; simp [okE]; omega)).symm, HB.out.trans ((below_alloc _ _).mono HB.out.size)⟩
    · clear hb h3
      go_wp2
      go_ret
      have hall : allE n xs = true := by have := HP.out; rwa [List.take_of_length_le (by omega)] at this
      exact ⟨ret_bool hall.symm, HB.out⟩
end Go.Proofs.Ytnpbfafcfghmcab
