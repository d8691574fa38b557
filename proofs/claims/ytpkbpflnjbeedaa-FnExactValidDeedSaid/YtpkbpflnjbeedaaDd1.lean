/-
  Deeds: what a valid one is, by the model and by the program.
-/
import Derived.Test.YtpkbpflnjbeedaaKit
import Derived.Test.YtpkbpflnjbeedaaT6
import Derived.Test.YtpkbpflnjbeedaaT7
namespace Go.Proofs.Ytpkbpflnjbeedaa
open Go.RowKit

def twoD (k : Int) : Bool := (k == 1) || (k == 3)
def okDeed (k a b : Int) : Bool := within k 1 8 && (within a 0 999 && (within b 0 999 && (twoD k || (b == 0))))

theorem l08Two_any (k : Int) (w : World) :
    Calls Try.prog 41 #[.int .i64 k] w fun e w' => e = .returned (.bool (twoD k)) ∧ w = w' := by
  by_cases h1 : k = 1
  · subst h1
    go_enter Try.func41, Try.ntmps41
    go_wp2
    go_ret
    exact ⟨rfl, rfl⟩
  · have d1 : (k == 1) = false := by simpa using h1
    have HD := Lib.hid (show twoD k = (k == 3) by unfold twoD; rw [d1]; rfl)
    clear h1
    go_enter Try.func41, Try.ntmps41
    go_wp2
    go_ret
    exact ⟨ret_bool (by rw [HD.out]), rfl⟩

theorem mentionsTwo_any (k : Int) (w : World) :
    Calls Try.prog 42 #[.int .i64 k] w fun e w' => e = .returned (.bool (twoD k)) ∧ w = w' := by
  by_cases h1 : k = 1
  · subst h1
    go_enter Try.func42, Try.ntmps42
    go_wp2
    go_ret
    exact ⟨rfl, rfl⟩
  · have d1 : (k == 1) = false := by simpa using h1
    have HD := Lib.hid (show twoD k = (k == 3) by unfold twoD; rw [d1]; rfl)
    clear h1
    go_enter Try.func42, Try.ntmps42
    go_wp2
    go_ret
    exact ⟨ret_bool (by rw [HD.out]), rfl⟩

theorem mentionsTwo_w {k : Int} {z : Bool} (h : twoD k = z) (w : World) :
    Calls Try.prog 42 #[.int .i64 k] w fun e w' => e = .returned (.bool z) ∧ w = w' := h ▸ mentionsTwo_any k w
theorem l08Two_w {k : Int} {z : Bool} (h : twoD k = z) (w : World) :
    Calls Try.prog 41 #[.int .i64 k] w fun e w' => e = .returned (.bool z) ∧ w = w' := h ▸ l08Two_any k w
theorem l00In_z {n lo hi : Int} {z : Bool} (h : within n lo hi = z) (w : World) :
    Calls Try.prog 34 #[.int .i64 n, .int .i64 lo, .int .i64 hi] w fun e w' => e = .returned (.bool z) ∧ w = w' := h ▸ l00In_w n lo hi w

set_option maxHeartbeats 1600000 in
theorem specValidDeed_any (k a b : Int) (w : World) :
    Calls Try.prog 18 #[.agg #[.int .i64 k, .int .i64 a, .int .i64 b]] w fun e w' => e = .returned (.bool (okDeed k a b)) ∧ Below w.heap.size w w' := by
  have HB := Lib.hid (below_alloc w (.cells #[.int .i64 k, .int .i64 a, .int .i64 b] 49))
  rcases h1 : within k 1 8 with _ | _
  · have HR := Lib.hid (show okDeed k a b = false by unfold okDeed; rw [h1]; rfl)
    have H1 := Lib.hid (fun W => l00In_z h1 W)
    clear h1
    go_enter Try.func18, Try.ntmps18
    go_wp2_with (go_at_call 34; refine (H1.out _).mono ?_; rintro e w' ⟨rfl, rfl⟩)
    go_ret
    exact ⟨ret_bool (by rw [HR.out]), HB.out⟩
  rcases h2 : within a 0 999 with _ | _
  · have HR := Lib.hid (show okDeed k a b = false by unfold okDeed; rw [h1, h2]; rfl)
    have H1 := Lib.hid (fun W => l00In_z h1 W)
    have H2 := Lib.hid (fun W => l00In_z h2 W)
    clear h1 h2
    go_enter Try.func18, Try.ntmps18
    go_wp2_with (go_at_call 34; first | (with_reducible refine (H1.out _).mono ?_; rintro e w' ⟨rfl, rfl⟩) | (with_reducible refine (H2.out _).mono ?_; rintro e w' ⟨rfl, rfl⟩))
    go_ret
    exact ⟨ret_bool (by rw [HR.out]), HB.out⟩
  rcases h3 : within b 0 999 with _ | _
  · have HR := Lib.hid (show okDeed k a b = false by unfold okDeed; rw [h1, h2, h3]; rfl)
    have H1 := Lib.hid (fun W => l00In_z h1 W)
    have H2 := Lib.hid (fun W => l00In_z h2 W)
    have H3 := Lib.hid (fun W => l00In_z h3 W)
    clear h1 h2 h3
    go_enter Try.func18, Try.ntmps18
    go_wp2_with (go_at_call 34; first | (with_reducible refine (H1.out _).mono ?_; rintro e w' ⟨rfl, rfl⟩) | (with_reducible refine (H2.out _).mono ?_; rintro e w' ⟨rfl, rfl⟩) | (with_reducible refine (H3.out _).mono ?_; rintro e w' ⟨rfl, rfl⟩))
    go_ret
    exact ⟨ret_bool (by rw [HR.out]), HB.out⟩
  rcases h4 : twoD k with _ | _
  all_goals
    have HR := Lib.hid (show okDeed k a b = (twoD k || (b == 0)) by unfold okDeed; rw [h1, h2, h3]; rfl)
    rw [h4] at HR
    have H1 := Lib.hid (fun W => l00In_z h1 W)
    have H2 := Lib.hid (fun W => l00In_z h2 W)
    have H3 := Lib.hid (fun W => l00In_z h3 W)
    have H4 := Lib.hid (fun W => l08Two_w h4 W)
    clear h1 h2 h3 h4
    go_enter Try.func18, Try.ntmps18
    go_wp2_with (first | (go_at_call 41; with_reducible refine (H4.out _).mono ?_; rintro e w' ⟨rfl, rfl⟩) | (go_at_call 34; first | (with_reducible refine (H1.out _).mono ?_; rintro e w' ⟨rfl, rfl⟩) | (with_reducible refine (H2.out _).mono ?_; rintro e w' ⟨rfl, rfl⟩) | (with_reducible refine (H3.out _).mono ?_; rintro e w' ⟨rfl, rfl⟩)))
    go_ret
    exact ⟨ret_bool (by rw [HR.out]; rfl), HB.out⟩

theorem okDeed_ends {k a b : Int} (h1 : 1 ≤ k) (h2 : k ≤ 8) (h3 : (twoD k || (b == 0)) = true) : okDeed k a b = (within a 0 999 && within b 0 999) := by
  unfold okDeed
  rw [h3, show within k 1 8 = true by simp [within]; omega]
  simp

set_option maxHeartbeats 1600000 in
theorem ValidDeed_any (k a b : Int) (w : World) :
    Calls Try.prog 20 #[.agg #[.int .i64 k, .int .i64 a, .int .i64 b]] w fun e w' => e = .returned (.bool (okDeed k a b)) ∧ Below w.heap.size w w' := by
  have HB := Lib.hid (below_alloc w (.cells #[.int .i64 k, .int .i64 a, .int .i64 b] 49))
  by_cases h1 : k < 1
  · have HR := Lib.hid (show okDeed k a b = false by unfold okDeed; rw [show within k 1 8 = false by simp [within]; omega]; rfl)
    go_enter Try.func20, Try.ntmps20
    go_wp2
    go_ret
    exact ⟨ret_bool (by rw [HR.out]), HB.out⟩
  by_cases h2 : 8 < k
  · have HR := Lib.hid (show okDeed k a b = false by unfold okDeed; rw [show within k 1 8 = false by simp [within]; omega]; rfl)
    go_enter Try.func20, Try.ntmps20
    go_wp2
    go_ret
    exact ⟨ret_bool (by rw [HR.out]), HB.out⟩
  rcases h3 : (twoD k || (b == 0)) with _ | _
  · have h4 : twoD k = false := by revert h3; cases twoD k <;> simp
    have h5 : (b != 0) = true := by revert h3; rw [h4]; simp
    have HR := Lib.hid (show okDeed k a b = false by unfold okDeed; rw [h3]; simp)
    have H4 := Lib.hid (fun W => mentionsTwo_w h4 W)
    clear h3 h4
    go_enter Try.func20, Try.ntmps20
    go_wp2_with (go_at_call 42; refine (H4.out _).mono ?_; rintro e w' ⟨rfl, rfl⟩)
    go_ret
    exact ⟨ret_bool (by rw [HR.out]), HB.out⟩
  have HR := Lib.hid (okDeed_ends (a := a) (by omega : 1 ≤ k) (by omega) h3)
  by_cases h5 : b = 0
  · subst h5
    clear h3
    by_cases ha : a < 0
    all_goals
      go_enter Try.func20, Try.ntmps20
      go_wp2
    all_goals go_ret
    all_goals exact ⟨ret_bool (by rw [HR.out]; simp only [within]; first | (simp; done) | (simp; omega) | (rw [Bool.eq_iff_iff]; simp; omega)), HB.out⟩
  · have h4 : twoD k = true := by revert h3; rw [show (b == 0) = false by simpa using h5]; cases twoD k <;> simp
    have h6 : (b != 0) = true := by simpa using h5
    have H4 := Lib.hid (fun W => mentionsTwo_w h4 W)
    clear h3 h4 h5
    by_cases ha : a < 0
    · by_cases hb : b < 0
      all_goals
        go_enter Try.func20, Try.ntmps20
        go_wp2_with (go_at_call 42; refine (H4.out _).mono ?_; rintro e w' ⟨rfl, rfl⟩)
      all_goals go_ret
      all_goals exact ⟨ret_bool (by rw [HR.out]; simp only [within]; first | (simp; done) | (simp; omega) | (rw [Bool.eq_iff_iff]; simp; omega)), HB.out⟩
    · by_cases hb : b < 0
      all_goals
        go_enter Try.func20, Try.ntmps20
        go_wp2_with (go_at_call 42; refine (H4.out _).mono ?_; rintro e w' ⟨rfl, rfl⟩)
      all_goals go_ret
      all_goals exact ⟨ret_bool (by rw [HR.out]; simp only [within]; first | (simp; done) | (simp; omega) | (rw [Bool.eq_iff_iff]; simp; omega)), HB.out⟩
end Go.Proofs.Ytpkbpflnjbeedaa
