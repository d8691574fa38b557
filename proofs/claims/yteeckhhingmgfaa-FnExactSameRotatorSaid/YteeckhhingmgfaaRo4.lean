/-
  Equality of rotators: by the model and by the program.
-/
import Derived.Test.YteeckhhingmgfaaS1
import Derived.Test.YteeckhhingmgfaaKO
namespace Go.Proofs.Yteeckhhingmgfaa
open Go.RowKit

set_option maxHeartbeats 400000 in
theorem l06SameRows_any (v u : Value) (xs ys : List (List Int)) (w : World) (h : RdL RdI w v xs) (hu : RdL RdI w u ys) :
    Calls Try.prog 42 #[v, u] w fun e w' => e = .returned (.bool (decide (xs = ys))) ∧ Qt w w' := by
  obtain ⟨A, cap, rfl, h1, h2, h3⟩ := h.open
  obtain ⟨B, cap', rfl, k1, k2, k3⟩ := hu.open
  unfold maxLen at h2 k2
  by_cases hl : xs.length = ys.length
  · have hl' : ((xs.length : Int) != (ys.length : Int)) = false := by simp [hl]
    have HL := Lib.hid hl; clear hl
    go_enter Try.func42, Try.ntmps42
    go_wp2
    go_loopw [5] (fun i wr => ∃ k : Nat, k ≤ xs.length ∧ i = .int .i64 k ∧ Qt w wr ∧ xs.take k = ys.take k) (fun i _ => xs.length - (intOf i).toNat)
    case atStart => exact ⟨0, Nat.zero_le _, rfl, Qt.refl _, by simp⟩
    case round =>
      obtain ⟨k, hk, rfl, hb, hp⟩ := hrel
      have HP := Lib.hid hp; clear hp
      have HB := Lib.hid hb
      by_cases hlt : k < xs.length
      · obtain ⟨b, off, p, x, rfl, hx, hc, hR⟩ := h3 k hlt
        obtain ⟨b', off', q, y, rfl, hy, hd, hS⟩ := k3 k (by have := HL.out; omega)
        have hc' := (hb.cell _).trans hc
        have hd' := (hb.cell _).trans hd
        have HC := Lib.hid (fun n => l00Same_any p q x y (wr.drewN n) (keepsI _ _ _ _ hR (hb.drewN n).below) (keepsI _ _ _ _ hS (hb.drewN n).below))
        clear hc hd h3 k3 hb hR hS
        have HX := Lib.hid hx; clear hx
        have HY := Lib.hid hy; clear hy
        have i1 : (0 : Int) ≤ k := by omega
        have i2 : (k : Int) < xs.length := by omega
        have i3 : (k : Int) < ys.length := by have := HL.out; omega
        by_cases hxy : x = y
        · subst hxy
          have hd1 : decide (x = x) = true := by simp
          go_wp2_with fail
          go_quiet ((go_at_call 43; exact Calls.quiet_of (HC.out _)))
          go_wp2
          go_roundw
          case rel => exact ⟨k + 1, by omega, by go_num, HB.out.drewN _, takes_succ HP.out HX.out HY.out⟩
          case measure => simp [intOf]; omega
        · have hd1 : decide (x = y) = false := by simpa using hxy
          go_wp2_with fail
          go_quiet ((go_at_call 43; exact Calls.quiet_of (HC.out _)))
          go_wp2
          go_ret
          exact ⟨ret_bool (decide_eq_false (ne_at HX.out HY.out hxy)).symm, HB.out.drewN _⟩
      · clear hb
        go_wp2
        go_ret
        exact ⟨ret_bool (decide_eq_true (eq_of_takes HL.out hlt HP.out)).symm, HB.out⟩
  · have hl' : ((xs.length : Int) != (ys.length : Int)) = true := by simp; omega
    have HL := Lib.hid hl; clear hl
    go_enter Try.func42, Try.ntmps42
    go_wp2
    go_ret
    exact ⟨ret_bool (decide_eq_false (fun e => HL.out (by rw [e]))).symm, Qt.refl _⟩

theorem sameRowsO_any (v u : Value) (xs ys : List (List Int)) (w : World) (h : RdII w v xs) (hu : RdII w u ys) :
    Calls Try.prog 44 #[v, u] w fun e w' => e = .returned (.bool (decide (xs = ys))) ∧ Qt w w' := by
  have H := Lib.hid (slEqualFunc_any v u xs ys w h hu)
  clear h hu
  go_enter Try.func44, Try.ntmps44
  go_wp2_with (go_at_call 75; refine H.out.mono ?_; rintro e w' ⟨rfl, m, rfl⟩)
  go_ret
  exact ⟨rfl, m, rfl⟩

def sameO (r s : OData) : Bool := decide (r.L = s.L) && (decide (r.S = s.S) && (decide (r.next = s.next) && decide (r.fin = s.fin)))

set_option maxHeartbeats 400000 in
theorem specSameRotator_any (v u : Value) (r s : OData) (w : World) (h : RdO w v r) (k : RdO w u s) :
    Calls Try.prog 14 #[v, u] w fun e w' => e = .returned (.bool (sameO r s)) ∧ Below w.heap.size w w' := by
  obtain ⟨L, S, next, fin⟩ := r
  obtain ⟨L', S', next', fin'⟩ := s
  obtain ⟨a, n, rfl, ha, hn⟩ := h
  obtain ⟨a', n', rfl, ha', hn'⟩ := k
  simp only at *
  have HA := Lib.hid (fun W (hb : Below w.heap.size w W) => l06SameRows_any a a' next next' W (keepsII _ _ _ _ ha hb) (keepsII _ _ _ _ ha' hb))
  have HN := Lib.hid (fun W (hb : Below w.heap.size w W) => l00Same_any n n' fin fin' W (keepsI _ _ _ _ hn hb) (keepsI _ _ _ _ hn' hb))
  have HB := Lib.hid (fun m => below_drewN (((below_alloc w (.cells #[.int .i64 L, .int .i64 S, a, n] 28)).alloc (by simp) (.cells #[.int .i64 L', .int .i64 S', a', n'] 28))) m)
  clear ha hn ha' hn'
  by_cases h1 : L = L'
  · subst h1
    have d1 : (L == L) = true := by simp
    by_cases h2 : S = S'
    · subst h2
      have d2 : (S == S) = true := by simp
      by_cases h3 : next = next'
      · have d3 : decide (next = next') = true := by simpa using h3
        have H3 := Lib.hid h3; clear h3
        by_cases h4 : fin = fin'
        · have d4 : decide (fin = fin') = true := by simpa using h4
          have H4 := Lib.hid h4; clear h4
          go_enter Try.func14, Try.ntmps14
          go_wp2_with (first | (go_at_call 42; refine (HA.out _ (HB.out 0)).mono ?_; rintro e w' ⟨rfl, m1, rfl⟩) | (go_at_call 43; refine (HN.out _ (HB.out _)).mono ?_; rintro e w' ⟨rfl, m2, rfl⟩))
          go_ret
          exact ⟨ret_bool (by simp [sameO, H3.out, H4.out]), HB.out _⟩
        · have d4 : decide (fin = fin') = false := by simpa using h4
          have H4 := Lib.hid h4; clear h4
          go_enter Try.func14, Try.ntmps14
          go_wp2_with (first | (go_at_call 42; refine (HA.out _ (HB.out 0)).mono ?_; rintro e w' ⟨rfl, m1, rfl⟩) | (go_at_call 43; refine (HN.out _ (HB.out _)).mono ?_; rintro e w' ⟨rfl, m2, rfl⟩))
          go_ret
          exact ⟨ret_bool (by simp [sameO, H4.out]), HB.out _⟩
      · have d3 : decide (next = next') = false := by simpa using h3
        have H3 := Lib.hid h3; clear h3
        go_enter Try.func14, Try.ntmps14
        go_wp2_with (first | (go_at_call 42; refine (HA.out _ (HB.out 0)).mono ?_; rintro e w' ⟨rfl, m1, rfl⟩) | (go_at_call 43; refine (HN.out _ (HB.out _)).mono ?_; rintro e w' ⟨rfl, m2, rfl⟩))
        go_ret
        exact ⟨ret_bool (by simp [sameO, H3.out]), HB.out _⟩
    · have d2 : (S == S') = false := by simpa using h2
      have H2 := Lib.hid h2; clear h2
      go_enter Try.func14, Try.ntmps14
      go_wp2_with (first | (go_at_call 42; refine (HA.out _ (HB.out 0)).mono ?_; rintro e w' ⟨rfl, m1, rfl⟩) | (go_at_call 43; refine (HN.out _ (HB.out _)).mono ?_; rintro e w' ⟨rfl, m2, rfl⟩))
      go_ret
      exact ⟨ret_bool (by simp [sameO, H2.out]), HB.out 0⟩
  · have d1 : (L == L') = false := by simpa using h1
    have H1 := Lib.hid h1; clear h1
    go_enter Try.func14, Try.ntmps14
    go_wp2_with (first | (go_at_call 42; refine (HA.out _ (HB.out 0)).mono ?_; rintro e w' ⟨rfl, m1, rfl⟩) | (go_at_call 43; refine (HN.out _ (HB.out _)).mono ?_; rintro e w' ⟨rfl, m2, rfl⟩))
    go_ret
    exact ⟨ret_bool (by simp [sameO, H1.out]), HB.out 0⟩

set_option maxHeartbeats 400000 in
theorem implSameRotator_any (v u : Value) (r s : OData) (w : World) (h : RdO w v r) (k : RdO w u s) :
    Calls Try.prog 15 #[v, u] w fun e w' => e = .returned (.bool (sameO r s)) ∧ Below w.heap.size w w' := by
  obtain ⟨L, S, next, fin⟩ := r
  obtain ⟨L', S', next', fin'⟩ := s
  obtain ⟨a, n, rfl, ha, hn⟩ := h
  obtain ⟨a', n', rfl, ha', hn'⟩ := k
  simp only at *
  have HA := Lib.hid (fun W (hb : Below w.heap.size w W) => sameRowsO_any a a' next next' W (keepsII _ _ _ _ ha hb) (keepsII _ _ _ _ ha' hb))
  have HN := Lib.hid (fun W (hb : Below w.heap.size w W) => slEqualI_any n n' fin fin' W (keepsI _ _ _ _ hn hb) (keepsI _ _ _ _ hn' hb))
  have HB := Lib.hid (fun m => below_drewN (((below_alloc w (.cells #[.int .i64 L, .int .i64 S, a, n] 28)).alloc (by simp) (.cells #[.int .i64 L', .int .i64 S', a', n'] 28))) m)
  clear ha hn ha' hn'
  by_cases h1 : L = L'
  · subst h1
    have d1 : (L == L) = true := by simp
    by_cases h2 : S = S'
    · subst h2
      have d2 : (S == S) = true := by simp
      by_cases h3 : next = next'
      · have d3 : decide (next = next') = true := by simpa using h3
        have H3 := Lib.hid h3; clear h3
        by_cases h4 : fin = fin'
        · have d4 : decide (fin = fin') = true := by simpa using h4
          have H4 := Lib.hid h4; clear h4
          go_enter Try.func15, Try.ntmps15
          go_wp2_with (first | (go_at_call 44; refine (HA.out _ (HB.out 0)).mono ?_; rintro e w' ⟨rfl, m1, rfl⟩) | (go_at_call 45; refine (HN.out _ (HB.out _)).mono ?_; rintro e w' ⟨rfl, m2, rfl⟩))
          go_ret
          exact ⟨ret_bool (by simp [sameO, H3.out, H4.out]), HB.out _⟩
        · have d4 : decide (fin = fin') = false := by simpa using h4
          have H4 := Lib.hid h4; clear h4
          go_enter Try.func15, Try.ntmps15
          go_wp2_with (first | (go_at_call 44; refine (HA.out _ (HB.out 0)).mono ?_; rintro e w' ⟨rfl, m1, rfl⟩) | (go_at_call 45; refine (HN.out _ (HB.out _)).mono ?_; rintro e w' ⟨rfl, m2, rfl⟩))
          go_ret
          exact ⟨ret_bool (by simp [sameO, H4.out]), HB.out _⟩
      · have d3 : decide (next = next') = false := by simpa using h3
        have H3 := Lib.hid h3; clear h3
        go_enter Try.func15, Try.ntmps15
        go_wp2_with (first | (go_at_call 44; refine (HA.out _ (HB.out 0)).mono ?_; rintro e w' ⟨rfl, m1, rfl⟩) | (go_at_call 45; refine (HN.out _ (HB.out _)).mono ?_; rintro e w' ⟨rfl, m2, rfl⟩))
        go_ret
        exact ⟨ret_bool (by simp [sameO, H3.out]), HB.out _⟩
    · have d2 : (S == S') = false := by simpa using h2
      have H2 := Lib.hid h2; clear h2
      go_enter Try.func15, Try.ntmps15
      go_wp2_with (first | (go_at_call 44; refine (HA.out _ (HB.out 0)).mono ?_; rintro e w' ⟨rfl, m1, rfl⟩) | (go_at_call 45; refine (HN.out _ (HB.out _)).mono ?_; rintro e w' ⟨rfl, m2, rfl⟩))
      go_ret
      exact ⟨ret_bool (by simp [sameO, H2.out]), HB.out 0⟩
  · have d1 : (L == L') = false := by simpa using h1
    have H1 := Lib.hid h1; clear h1
    go_enter Try.func15, Try.ntmps15
    go_wp2_with (first | (go_at_call 44; refine (HA.out _ (HB.out 0)).mono ?_; rintro e w' ⟨rfl, m1, rfl⟩) | (go_at_call 45; refine (HN.out _ (HB.out _)).mono ?_; rintro e w' ⟨rfl, m2, rfl⟩))
    go_ret
    exact ⟨ret_bool (by simp [sameO, H1.out]), HB.out 0⟩

end Go.Proofs.Yteeckhhingmgfaa
