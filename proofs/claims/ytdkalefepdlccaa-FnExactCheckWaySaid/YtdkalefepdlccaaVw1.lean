/-
  Lists of moves of a wanderer: which are right, by the model's and the program's parts.
-/
import Derived.Test.YtdkalefepdlccaaWo
import Derived.Test.YtdkalefepdlccaaV1
import Derived.Test.YtdkalefepdlccaaM1
namespace Go.Proofs.Ytdkalefepdlccaa
open Go.RowKit

def moveLt (a b : Int × Int) : Bool := decide (a.1 < b.1 ∨ (a.1 = b.1 ∧ a.2 < b.2))
def okMvW (n L k : Int) (m : Int × Int) : Bool :=
  decide ((m.1 = -1 ∧ m.2 = 0) ∨ (¬ m.1 = -1 ∧ 0 ≤ m.1 ∧ m.1 ≤ n - 1 ∧ -1 ≤ m.2 ∧ m.2 ≤ 1 ∧ ¬ (k = L ∧ m.2 = -1) ∧ ¬ (k = L + 1 ∧ m.2 = 1)))
theorem okMvW_two (n L k y : Int) : okMvW n L k (-2, y) = false := by simp [okMvW]
theorem okMvW_move {n L k x y : Int} (h : x ≠ -2) : okMvW n L k (x, y) = okMove n L k (x, y) := by
  unfold okMvW okMove
  rw [Bool.eq_iff_iff]
  simp only [decide_eq_true_eq]
  omega
/-- The list is right at i. -/
def okListAt (n L c : Int) (l : List (Int × Int)) (i : Nat) : Bool := okMvW n L c (l.getD i (0, 0)) && (decide (i = 0) || moveLt (l.getD (i - 1) (0, 0)) (l.getD i (0, 0)))
def okListW (n L c : Int) (l : List (Int × Int)) : Bool := (List.range l.length).all (okListAt n L c l)
theorem okList_succ {n L c : Int} {l : List (Int × Int)} {k : Nat} (h : (List.range k).all (okListAt n L c l) = true) (hk : okListAt n L c l k = true) : (List.range (k + 1)).all (okListAt n L c l) = true := by
  rw [List.range_succ, List.all_append, h]; simp [hk]
theorem okList_not {n L c : Int} {l : List (Int × Int)} {k : Nat} (hl : k < l.length) (hk : okListAt n L c l k = false) : okListW n L c l = false := by
  rw [okListW, List.all_eq_false]; exact ⟨k, List.mem_range.2 hl, by simp [hk]⟩
theorem okList_all {n L c : Int} {l : List (Int × Int)} {k : Nat} (h : (List.range k).all (okListAt n L c l) = true) (hk : k ≤ l.length) (hl : ¬ k < l.length) : okListW n L c l = true := by
  rw [okListW, show l.length = k by omega]; exact h
theorem okListAt_eq {n L c : Int} {l : List (Int × Int)} {k : Nat} {x : Int × Int} (h : l[k]? = some x) : okListAt n L c l k = (okMvW n L c x && (decide (k = 0) || moveLt (l.getD (k - 1) (0, 0)) x)) := by
  have : l.getD k (0, 0) = x := by simp [List.getD, h]
  rw [okListAt, this]
theorem okListAt_eq2 {n L c : Int} {l : List (Int × Int)} {k : Nat} {x y : Int × Int} (h : l[k]? = some x) (h2 : l[k - 1]? = some y) : okListAt n L c l k = (okMvW n L c x && (decide (k = 0) || moveLt y x)) := by
  have : l.getD (k - 1) (0, 0) = y := by simp [List.getD, h2]
  rw [okListAt_eq h, this]

/-! ### The library's comparisons -/
def cmpI (x y : Int) : Int := if x < y then -1 else if y < x then 1 else 0
theorem cmpCompare_any (x y : Int) (w : World) :
    Calls Try.prog 153 #[.int .i64 x, .int .i64 y] w fun e w' => e = .returned (.int .i64 (cmpI x y)) ∧ w = w' := by
  unfold cmpI
  have e1 : (x != x) = false := by simp
  have e2 : (y != y) = false := by simp
  by_cases h1 : x < y
  · rw [if_pos h1]
    go_enter Try.func153, Try.ntmps153
    go_wp2
    go_ret
    exact ⟨rfl, rfl⟩
  · by_cases h2 : y < x
    · rw [if_neg h1, if_pos h2]
      go_enter Try.func153, Try.ntmps153
      go_wp2
      go_ret
      exact ⟨rfl, rfl⟩
    · rw [if_neg h1, if_neg h2]
      go_enter Try.func153, Try.ntmps153
      go_wp2
      go_ret
      exact ⟨rfl, rfl⟩
def orI (a b : Int) : Int := if a = 0 then b else a
theorem cmpOr_any (g cap : Nat) (a b : Int) (w : World) (h0 : w.cell? ⟨g, 0, none⟩ = some (.int .i64 a)) (h1 : w.cell? ⟨g, 1, none⟩ = some (.int .i64 b)) :
    Calls Try.prog 152 #[.slice (some ⟨g, 0, none⟩) 2 cap] w fun e w' => e = .returned (.int .i64 (orI a b)) ∧ w = w' := by
  have H := Lib.hid (show _ ∧ _ from ⟨h0, h1⟩)
  clear h0 h1
  go_enter Try.func152, Try.ntmps152
  go_wp2
  go_loop [8] (fun i => ∃ k : Nat, k ≤ 2 ∧ i = .int .i64 k ∧ (0 < k → a = 0) ∧ (1 < k → b = 0)) (fun i => 2 - (intOf i).toNat)
  case atStart => exact ⟨0, by omega, rfl, by omega, by omega⟩
  case round =>
    obtain ⟨k, hk, rfl, ha, hb⟩ := hrel
    have HA := Lib.hid ha
    have HB := Lib.hid hb
    clear ha hb
    obtain rfl | rfl | rfl : k = 0 ∨ k = 1 ∨ k = 2 := by omega
    · have c0 := H.out.1
      by_cases hz : a = 0
      · have d : (a != 0) = false := by simp [hz]
        have HZ := Lib.hid hz
        clear hz
        go_wp2
        go_round
        case rel => exact ⟨1, by omega, by go_num, fun _ => HZ.out, by omega⟩
        case measure => simp [intOf]
      · have d : (a != 0) = true := by simpa using hz
        have HZ := Lib.hid hz
        clear hz
        go_wp2
        go_ret
        exact ⟨ret_int (by rw [orI, if_neg HZ.out]), rfl⟩
    · have c1 := H.out.2
      by_cases hz : b = 0
      · have d : (b != 0) = false := by simp [hz]
        have HZ := Lib.hid hz
        clear hz
        go_wp2
        go_round
        case rel => exact ⟨2, by omega, by go_num, fun _ => HA.out (by omega), fun _ => HZ.out⟩
        case measure => simp [intOf]
      · have d : (b != 0) = true := by simpa using hz
        have HZ := Lib.hid hz
        clear hz
        go_wp2
        go_ret
        exact ⟨ret_int (by rw [orI, if_pos (HA.out (by omega))]), rfl⟩
    · go_wp2
      go_ret
      exact ⟨ret_int (by rw [orI, if_pos (HA.out (by omega)), HB.out (by omega)]), rfl⟩
theorem cmpOr_new (W : World) (g : Nat) (a b : Int) (e : TypeId) (hg : W.heap.size = g) :
    Calls Try.prog 152 #[.slice (some ⟨g, 0, none⟩) 2 2] (W.alloc (.cells #[.int .i64 a, .int .i64 b] e)).drew fun e' w' => e' = .returned (.int .i64 (orI a b)) ∧ (W.alloc (.cells #[.int .i64 a, .int .i64 b] e)).drew = w' := by
  subst hg
  obtain ⟨⟨c0, c1⟩, -⟩ := ((Row.new W [.int .i64 a, .int .i64 b] e).drew).two
  exact cmpOr_any _ _ a b _ c0 c1
def cmpM (a b : Int × Int) : Int := orI (cmpI a.1 b.1) (cmpI a.2 b.2)
theorem cmpI_or (x y : Int) : (cmpI x y = -1 ∧ x < y) ∨ (cmpI x y = 1 ∧ y < x) ∨ (cmpI x y = 0 ∧ x = y) := by
  unfold cmpI
  by_cases h1 : x < y
  · rw [if_pos h1]; omega
  · rw [if_neg h1]
    by_cases h2 : y < x
    · rw [if_pos h2]; omega
    · rw [if_neg h2]; omega
theorem cmpM_eq (a b : Int × Int) : decide (0 ≤ cmpM a b) = !moveLt a b := by
  unfold cmpM moveLt orI
  rw [Bool.eq_iff_iff]
  simp only [decide_eq_true_eq, Bool.not_eq_true', decide_eq_false_iff_not]
  rcases cmpI_or a.1 b.1 with ⟨e1, h1⟩ | ⟨e1, h1⟩ | ⟨e1, h1⟩ <;> rcases cmpI_or a.2 b.2 with ⟨e2, h2⟩ | ⟨e2, h2⟩ | ⟨e2, h2⟩ <;> rw [e1] <;> (try rw [e2]) <;> simp <;> omega
theorem cmpM_lt {a b : Int × Int} (h : moveLt a b = true) : decide (0 ≤ cmpM a b) = false := by rw [cmpM_eq, h]; rfl
theorem cmpM_ge {a b : Int × Int} (h : moveLt a b = false) : decide (0 ≤ cmpM a b) = true := by rw [cmpM_eq, h]; rfl

set_option maxHeartbeats 1600000 in
theorem compareMoves_any (a b : Int × Int) (w : World) :
    Calls Try.prog 151 #[.agg #[.int .i64 a.1, .int .i64 a.2], .agg #[.int .i64 b.1, .int .i64 b.2]] w fun e w' => e = .returned (.int .i64 (cmpM a b)) ∧ Below w.heap.size w w' := by
  obtain ⟨a1, a2⟩ := a
  obtain ⟨b1, b2⟩ := b
  simp only
  have hx := (Row.new w [.int .i64 a1, .int .i64 a2] 96).alloc (.cells #[.int .i64 b1, .int .i64 b2] 96)
  have hy : Row ((w.alloc (.cells #[.int .i64 a1, .int .i64 a2] 96)).alloc (.cells #[.int .i64 b1, .int .i64 b2] 96)) (w.heap.size + 1) 96 [.int .i64 b1, .int .i64 b2] := by simpa using Row.new (w.alloc (.cells #[.int .i64 a1, .int .i64 a2] 96)) [.int .i64 b1, .int .i64 b2] 96
  have HB := Lib.hid (show Below w.heap.size w ((w.alloc (.cells #[.int .i64 a1, .int .i64 a2] 96)).alloc (.cells #[.int .i64 b1, .int .i64 b2] 96)) from (below_alloc _ _).alloc (by simp) _)
  have HR := Lib.hid (show _ ∧ _ from ⟨hx, hy⟩)
  clear hx hy
  go_enter Try.func151, Try.ntmps151
  go_wp2_with fail
  generalize (w.alloc (.cells #[.int .i64 a1, .int .i64 a2] 96)).alloc (.cells #[.int .i64 b1, .int .i64 b2] 96) = W0 at *
  obtain ⟨⟨c0, c1⟩, -⟩ := HR.out.1.two
  obtain ⟨⟨d0, d1⟩, -⟩ := HR.out.2.two
  go_region_held3 (fun W => W.cell? ⟨w.heap.size, 0, none⟩ = some (.int .i64 a1) ∧ W.cell? ⟨w.heap.size, 1, none⟩ = some (.int .i64 a2) ∧ W.cell? ⟨w.heap.size + 1, 0, none⟩ = some (.int .i64 b1) ∧ W.cell? ⟨w.heap.size + 1, 1, none⟩ = some (.int .i64 b2))
    (first | go_keep | (go_split_ands; refine ⟨?_, ?_, ?_, ?_⟩ <;> exact below_keep hbk (by assumption)))
    (first
      | (go_at_call 153; (with_reducible refine (cmpCompare_any _ _ _).mono ?_); rintro e wy ⟨rfl, rfl⟩)
      | (go_at_call 152; refine (cmpOr_new _ _ _ _ _ (by simp)).mono ?_; rintro e wy ⟨rfl, rfl⟩))
  all_goals
    go_wp2
    go_ret
    refine ⟨rfl, ?_⟩
    first
      | exact below_step HB.out (below_alloc _ _)
      | exact (below_step HB.out (below_alloc _ _)).drew
      | exact below_step HB.out.drew (below_alloc _ _)

set_option maxHeartbeats 1600000 in
theorem l04Move_any (x y n L k : Int) (w : World) (hn1 : 1 ≤ n) (hn2 : n ≤ 12) (hL1 : 1 ≤ L) (hL2 : L ≤ 3) :
    Calls Try.prog 146 #[.agg #[.int .i64 x, .int .i64 y], .int .i64 n, .int .i64 L, .int .i64 k] w fun e w' => e = .returned (.bool (okMvW n L k (x, y))) ∧ Below w.heap.size w w' := by
  go_enter Try.func146, Try.ntmps146
  go_wp2_with (go_at_call 118; refine (l00In_w _ _ _ _).mono ?_; rintro e w' ⟨rfl, rfl⟩)
  all_goals go_ret
  all_goals refine ⟨ret_bool ?_, below_alloc _ _⟩
  all_goals rw [Bool.eq_iff_iff]
  all_goals simp_all [okMvW, within]
  all_goals omega
end Go.Proofs.Ytdkalefepdlccaa
