/-
  Equality of readers: by the model and by the program.
-/
import Derived.Test.YtgeopkjohijegaaS1
import Derived.Test.YtgeopkjohijegaaT8
namespace Go.Proofs.Ytgeopkjohijegaa
open Go.RowKit

def sameR (r s : RData) : Bool := decide (r.L = s.L) && (decide (r.S = s.S) && (decide (r.acc = s.acc) && decide (r.next = s.next)))

theorem sameRows_any (v u : Value) (xs ys : List (List Int)) (w : World) (h : RdII w v xs) (hu : RdII w u ys) :
    Calls Try.prog 69 #[v, u] w fun e w' => e = .returned (.bool (decide (xs = ys))) ∧ Qt w w' := by
  have H := Lib.hid (slEqualFunc_any v u xs ys w h hu)
  clear h hu
  go_enter Try.func69, Try.ntmps69
  go_wp2_with (go_at_call 83; refine H.out.mono ?_; rintro e w' ⟨rfl, m, rfl⟩)
  go_ret
  exact ⟨rfl, m, rfl⟩

set_option maxHeartbeats 400000 in
theorem specSameReader_any (v u : Value) (r s : RData) (w : World) (h : RdR w v r) (k : RdR w u s) :
    Calls Try.prog 22 #[v, u] w fun e w' => e = .returned (.bool (sameR r s)) ∧ Below w.heap.size w w' := by
  obtain ⟨L, S, acc, next⟩ := r
  obtain ⟨L', S', acc', next'⟩ := s
  obtain ⟨a, n, rfl, ha, hn⟩ := h
  obtain ⟨a', n', rfl, ha', hn'⟩ := k
  simp only at *
  have HA := Lib.hid (fun W (hb : Below w.heap.size w W) => l01Bools_any a a' acc acc' W (keepsB _ _ _ _ ha hb) (keepsB _ _ _ _ ha' hb))
  have HN := Lib.hid (fun W (hb : Below w.heap.size w W) => l01Lists_any n n' next next' W (keepsII _ _ _ _ hn hb) (keepsII _ _ _ _ hn' hb))
  have HB := Lib.hid (fun m => below_drewN (((below_alloc w (.cells #[.int .i64 L, .int .i64 S, a, n] 28)).alloc (by simp) (.cells #[.int .i64 L', .int .i64 S', a', n'] 28))) m)
  clear ha hn ha' hn'
  by_cases h1 : L = L'
  · subst h1
    have d1 : (L == L) = true := by simp
    by_cases h2 : S = S'
    · subst h2
      have d2 : (S == S) = true := by simp
      by_cases h3 : acc = acc'
      · have d3 : decide (acc = acc') = true := by simpa using h3
        have H3 := Lib.hid h3; clear h3
        by_cases h4 : next = next'
        · have d4 : decide (next = next') = true := by simpa using h4
          have H4 := Lib.hid h4; clear h4
          go_enter Try.func22, Try.ntmps22
          go_wp2_with (first | (go_at_call 54; refine (HA.out _ (HB.out 0)).mono ?_; rintro e w' ⟨rfl, m1, rfl⟩) | (go_at_call 55; refine (HN.out _ (HB.out _)).mono ?_; rintro e w' ⟨rfl, m2, rfl⟩))
          go_ret
          exact ⟨ret_bool (by simp [sameR, H3.out, H4.out]), HB.out _⟩
        · have d4 : decide (next = next') = false := by simpa using h4
          have H4 := Lib.hid h4; clear h4
          go_enter Try.func22, Try.ntmps22
          go_wp2_with (first | (go_at_call 54; refine (HA.out _ (HB.out 0)).mono ?_; rintro e w' ⟨rfl, m1, rfl⟩) | (go_at_call 55; refine (HN.out _ (HB.out _)).mono ?_; rintro e w' ⟨rfl, m2, rfl⟩))
          go_ret
          exact ⟨ret_bool (by simp [sameR, H4.out]), HB.out _⟩
      · have d3 : decide (acc = acc') = false := by simpa using h3
        have H3 := Lib.hid h3; clear h3
        go_enter Try.func22, Try.ntmps22
        go_wp2_with (first | (go_at_call 54; refine (HA.out _ (HB.out 0)).mono ?_; rintro e w' ⟨rfl, m1, rfl⟩) | (go_at_call 55; refine (HN.out _ (HB.out _)).mono ?_; rintro e w' ⟨rfl, m2, rfl⟩))
        go_ret
        exact ⟨ret_bool (by simp [sameR, H3.out]), HB.out _⟩
    · have d2 : (S == S') = false := by simpa using h2
      have H2 := Lib.hid h2; clear h2
      go_enter Try.func22, Try.ntmps22
      go_wp2_with (first | (go_at_call 54; refine (HA.out _ (HB.out 0)).mono ?_; rintro e w' ⟨rfl, m1, rfl⟩) | (go_at_call 55; refine (HN.out _ (HB.out _)).mono ?_; rintro e w' ⟨rfl, m2, rfl⟩))
      go_ret
      exact ⟨ret_bool (by simp [sameR, H2.out]), HB.out 0⟩
  · have d1 : (L == L') = false := by simpa using h1
    have H1 := Lib.hid h1; clear h1
    go_enter Try.func22, Try.ntmps22
    go_wp2_with (first | (go_at_call 54; refine (HA.out _ (HB.out 0)).mono ?_; rintro e w' ⟨rfl, m1, rfl⟩) | (go_at_call 55; refine (HN.out _ (HB.out _)).mono ?_; rintro e w' ⟨rfl, m2, rfl⟩))
    go_ret
    exact ⟨ret_bool (by simp [sameR, H1.out]), HB.out 0⟩

set_option maxHeartbeats 400000 in
theorem implSameReader_any (v u : Value) (r s : RData) (w : World) (h : RdR w v r) (k : RdR w u s) :
    Calls Try.prog 34 #[v, u] w fun e w' => e = .returned (.bool (sameR r s)) ∧ Below w.heap.size w w' := by
  obtain ⟨L, S, acc, next⟩ := r
  obtain ⟨L', S', acc', next'⟩ := s
  obtain ⟨a, n, rfl, ha, hn⟩ := h
  obtain ⟨a', n', rfl, ha', hn'⟩ := k
  simp only at *
  have HA := Lib.hid (fun W (hb : Below w.heap.size w W) => slEqualB_any a a' acc acc' W (keepsB _ _ _ _ ha hb) (keepsB _ _ _ _ ha' hb))
  have HN := Lib.hid (fun W (hb : Below w.heap.size w W) => sameRows_any n n' next next' W (keepsII _ _ _ _ hn hb) (keepsII _ _ _ _ hn' hb))
  have HB := Lib.hid (fun m => below_drewN (((below_alloc w (.cells #[.int .i64 L, .int .i64 S, a, n] 28)).alloc (by simp) (.cells #[.int .i64 L', .int .i64 S', a', n'] 28))) m)
  clear ha hn ha' hn'
  by_cases h1 : L = L'
  · subst h1
    have d1 : (L == L) = true := by simp
    by_cases h2 : S = S'
    · subst h2
      have d2 : (S == S) = true := by simp
      by_cases h3 : acc = acc'
      · have d3 : decide (acc = acc') = true := by simpa using h3
        have H3 := Lib.hid h3; clear h3
        by_cases h4 : next = next'
        · have d4 : decide (next = next') = true := by simpa using h4
          have H4 := Lib.hid h4; clear h4
          go_enter Try.func34, Try.ntmps34
          go_wp2_with (first | (go_at_call 68; refine (HA.out _ (HB.out 0)).mono ?_; rintro e w' ⟨rfl, m1, rfl⟩) | (go_at_call 69; refine (HN.out _ (HB.out _)).mono ?_; rintro e w' ⟨rfl, m2, rfl⟩))
          go_ret
          exact ⟨ret_bool (by simp [sameR, H3.out, H4.out]), HB.out _⟩
        · have d4 : decide (next = next') = false := by simpa using h4
          have H4 := Lib.hid h4; clear h4
          go_enter Try.func34, Try.ntmps34
          go_wp2_with (first | (go_at_call 68; refine (HA.out _ (HB.out 0)).mono ?_; rintro e w' ⟨rfl, m1, rfl⟩) | (go_at_call 69; refine (HN.out _ (HB.out _)).mono ?_; rintro e w' ⟨rfl, m2, rfl⟩))
          go_ret
          exact ⟨ret_bool (by simp [sameR, H4.out]), HB.out _⟩
      · have d3 : decide (acc = acc') = false := by simpa using h3
        have H3 := Lib.hid h3; clear h3
        go_enter Try.func34, Try.ntmps34
        go_wp2_with (first | (go_at_call 68; refine (HA.out _ (HB.out 0)).mono ?_; rintro e w' ⟨rfl, m1, rfl⟩) | (go_at_call 69; refine (HN.out _ (HB.out _)).mono ?_; rintro e w' ⟨rfl, m2, rfl⟩))
        go_ret
        exact ⟨ret_bool (by simp [sameR, H3.out]), HB.out _⟩
    · have d2 : (S == S') = false := by simpa using h2
      have H2 := Lib.hid h2; clear h2
      go_enter Try.func34, Try.ntmps34
      go_wp2_with (first | (go_at_call 68; refine (HA.out _ (HB.out 0)).mono ?_; rintro e w' ⟨rfl, m1, rfl⟩) | (go_at_call 69; refine (HN.out _ (HB.out _)).mono ?_; rintro e w' ⟨rfl, m2, rfl⟩))
      go_ret
      exact ⟨ret_bool (by simp [sameR, H2.out]), HB.out 0⟩
  · have d1 : (L == L') = false := by simpa using h1
    have H1 := Lib.hid h1; clear h1
    go_enter Try.func34, Try.ntmps34
    go_wp2_with (first | (go_at_call 68; refine (HA.out _ (HB.out 0)).mono ?_; rintro e w' ⟨rfl, m1, rfl⟩) | (go_at_call 69; refine (HN.out _ (HB.out _)).mono ?_; rintro e w' ⟨rfl, m2, rfl⟩))
    go_ret
    exact ⟨ret_bool (by simp [sameR, H1.out]), HB.out 0⟩

end Go.Proofs.Ytgeopkjohijegaa
