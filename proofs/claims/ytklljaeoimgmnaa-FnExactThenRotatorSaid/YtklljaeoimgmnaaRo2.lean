/-
  The program's tests of a rotator's states: whether a list of numbers has one that is no state, or no state and no ending.
-/
import Derived.Test.YtklljaeoimgmnaaRo1
import Derived.Test.YtklljaeoimgmnaaT7
namespace Go.Proofs.Ytklljaeoimgmnaa
open Go.RowKit
theorem any_take_succI {α : Type} {p : α → Bool} {l : List α} {k : Nat} {c : α} (h : (l.take k).any p = false) (hc : l[k]? = some c) (hp : p c = false) : (l.take (k + 1)).any p = false := by
  rw [take_succ_of hc, List.any_append, h]; simp [hp]
theorem any_yesI {α : Type} {p : α → Bool} {l : List α} {k : Nat} {c : α} (hc : l[k]? = some c) (hp : p c = true) : l.any p = true := by
  rw [List.any_eq_true]; exact ⟨c, List.mem_of_getElem? hc, hp⟩
theorem any_not_allI {α : Type} (p : α → Bool) (xs : List α) : (xs.any fun x => !p x) = !xs.all p := by
  induction xs with
  | nil => rfl
  | cons x r ih => simp only [List.any_cons, List.all_cons, ih]; cases p x <;> simp

set_option maxHeartbeats 800000 in
theorem idxVrA_any (v : Value) (p : Nat) (xs : List Int) (P : Int → Bool) (w : World) (h : RdI w v xs)
    (hF : ∀ (W : World), Below w.heap.size w W → ∀ x ∈ xs, Calls Try.prog 67 #[.int .i64 x, .pointer (some ⟨p, 0, none⟩)] W fun e w' => e = .returned (.bool (P x)) ∧ Below W.heap.size W w') :
    Calls Try.prog 74 #[v, .func (.func 67) #[] #[.pointer (some ⟨p, 0, none⟩)]] w fun e w' => (∃ n : Int, e = .returned (.int .i64 n) ∧ decide (0 ≤ n) = xs.any P) ∧ Below w.heap.size w w' := by
  obtain ⟨A, cap, rfl, h1, h2, h3⟩ := RdI.open h
  unfold maxLen at h2
  have HF := Lib.hid hF
  clear hF h
  go_enter Try.func74, Try.ntmps74
  go_wp2
  go_loopw [8] (fun i wr => ∃ k : Nat, k ≤ xs.length ∧ i = .int .i64 k ∧ Below w.heap.size w wr ∧ (xs.take k).any P = false) (fun i _ => xs.length - (intOf i).toNat)
  case atStart => exact ⟨0, Nat.zero_le _, rfl, Below.refl _ _, by simp⟩
  case round =>
    obtain ⟨k, hk, rfl, hb, hp⟩ := hrel
    have HP := Lib.hid hp; clear hp
    have HB := Lib.hid hb
    by_cases hlt : k < xs.length
    · obtain ⟨b, off, x, rfl, hx, hc⟩ := h3 k hlt
      have hc' := (hb.cell (p := ⟨b, off + k, none⟩) (World.block_lt_of_cell? _ _ hc)).trans hc
      have HC := Lib.hid (HF.out wr hb x (List.mem_of_getElem? hx))
      have HX := Lib.hid hx
      have i1 : (0 : Int) ≤ k := by omega
      have i2 : (k : Int) < xs.length := by omega
      clear hc h3 hb hx
      obtain ⟨y, hy⟩ : ∃ y, P x = y := ⟨_, rfl⟩
      rw [hy] at HC
      have HY := Lib.hid hy; clear hy
      cases y
      · go_wp2_with (go_at_call 67; refine HC.out.mono ?_; rintro e w1 ⟨rfl, hb1⟩; have HB1 := Lib.hid (below_step HB.out hb1))
        go_roundw
        case rel => exact ⟨k + 1, by omega, by go_num, HB1.out, any_take_succI HP.out HX.out HY.out⟩
        case measure => simp [intOf]; omega
      · go_wp2_with (go_at_call 67; refine HC.out.mono ?_; rintro e w1 ⟨rfl, hb1⟩; have HB1 := Lib.hid (below_step HB.out hb1))
        go_ret
        exact ⟨⟨_, rfl, by rw [any_yesI HX.out HY.out]; simp⟩, HB1.out⟩
    · clear hb h3
      go_wp2
      go_ret
      exact ⟨⟨_, rfl, by have := HP.out; rw [List.take_of_length_le (by omega)] at this; rw [this]; decide⟩, HB.out⟩

set_option maxHeartbeats 800000 in
theorem hasVrA_any (v : Value) (p : Nat) (xs : List Int) (P : Int → Bool) (w : World) (h : RdI w v xs)
    (hF : ∀ (W : World), Below w.heap.size w W → ∀ x ∈ xs, Calls Try.prog 67 #[.int .i64 x, .pointer (some ⟨p, 0, none⟩)] W fun e w' => e = .returned (.bool (P x)) ∧ Below W.heap.size W w') :
    Calls Try.prog 69 #[v, .func (.func 67) #[] #[.pointer (some ⟨p, 0, none⟩)]] w fun e w' => e = .returned (.bool (xs.any P)) ∧ Below w.heap.size w w' := by
  have HI := Lib.hid (idxVrA_any v p xs P w h hF)
  obtain ⟨A, cap, rfl, -⟩ := RdI.open h
  clear hF h
  go_enter Try.func69, Try.ntmps69
  go_wp2_with fail
  refine HI.out.mono ?_
  rintro e w1 ⟨⟨n, rfl, hn⟩, hb⟩
  have HB := Lib.hid hb
  have HN := Lib.hid hn
  clear HI hb hn
  go_wp2
  go_ret
  exact ⟨ret_bool HN.out, HB.out⟩

set_option maxHeartbeats 800000 in
theorem idxVrB_any (v : Value) (p : Nat) (xs : List Int) (P : Int → Bool) (w : World) (h : RdI w v xs)
    (hF : ∀ (W : World), Below w.heap.size w W → ∀ x ∈ xs, Calls Try.prog 70 #[.int .i64 x, .pointer (some ⟨p, 0, none⟩)] W fun e w' => e = .returned (.bool (P x)) ∧ Below W.heap.size W w') :
    Calls Try.prog 74 #[v, .func (.func 70) #[] #[.pointer (some ⟨p, 0, none⟩)]] w fun e w' => (∃ n : Int, e = .returned (.int .i64 n) ∧ decide (0 ≤ n) = xs.any P) ∧ Below w.heap.size w w' := by
  obtain ⟨A, cap, rfl, h1, h2, h3⟩ := RdI.open h
  unfold maxLen at h2
  have HF := Lib.hid hF
  clear hF h
  go_enter Try.func74, Try.ntmps74
  go_wp2
  go_loopw [8] (fun i wr => ∃ k : Nat, k ≤ xs.length ∧ i = .int .i64 k ∧ Below w.heap.size w wr ∧ (xs.take k).any P = false) (fun i _ => xs.length - (intOf i).toNat)
  case atStart => exact ⟨0, Nat.zero_le _, rfl, Below.refl _ _, by simp⟩
  case round =>
    obtain ⟨k, hk, rfl, hb, hp⟩ := hrel
    have HP := Lib.hid hp; clear hp
    have HB := Lib.hid hb
    by_cases hlt : k < xs.length
    · obtain ⟨b, off, x, rfl, hx, hc⟩ := h3 k hlt
      have hc' := (hb.cell (p := ⟨b, off + k, none⟩) (World.block_lt_of_cell? _ _ hc)).trans hc
      have HC := Lib.hid (HF.out wr hb x (List.mem_of_getElem? hx))
      have HX := Lib.hid hx
      have i1 : (0 : Int) ≤ k := by omega
      have i2 : (k : Int) < xs.length := by omega
      clear hc h3 hb hx
      obtain ⟨y, hy⟩ : ∃ y, P x = y := ⟨_, rfl⟩
      rw [hy] at HC
      have HY := Lib.hid hy; clear hy
      cases y
      · go_wp2_with (go_at_call 70; refine HC.out.mono ?_; rintro e w1 ⟨rfl, hb1⟩; have HB1 := Lib.hid (below_step HB.out hb1))
        go_roundw
        case rel => exact ⟨k + 1, by omega, by go_num, HB1.out, any_take_succI HP.out HX.out HY.out⟩
        case measure => simp [intOf]; omega
      · go_wp2_with (go_at_call 70; refine HC.out.mono ?_; rintro e w1 ⟨rfl, hb1⟩; have HB1 := Lib.hid (below_step HB.out hb1))
        go_ret
        exact ⟨⟨_, rfl, by rw [any_yesI HX.out HY.out]; simp⟩, HB1.out⟩
    · clear hb h3
      go_wp2
      go_ret
      exact ⟨⟨_, rfl, by have := HP.out; rw [List.take_of_length_le (by omega)] at this; rw [this]; decide⟩, HB.out⟩

set_option maxHeartbeats 800000 in
theorem hasVrB_any (v : Value) (p : Nat) (xs : List Int) (P : Int → Bool) (w : World) (h : RdI w v xs)
    (hF : ∀ (W : World), Below w.heap.size w W → ∀ x ∈ xs, Calls Try.prog 70 #[.int .i64 x, .pointer (some ⟨p, 0, none⟩)] W fun e w' => e = .returned (.bool (P x)) ∧ Below W.heap.size W w') :
    Calls Try.prog 69 #[v, .func (.func 70) #[] #[.pointer (some ⟨p, 0, none⟩)]] w fun e w' => e = .returned (.bool (xs.any P)) ∧ Below w.heap.size w w' := by
  have HI := Lib.hid (idxVrB_any v p xs P w h hF)
  obtain ⟨A, cap, rfl, -⟩ := RdI.open h
  clear hF h
  go_enter Try.func69, Try.ntmps69
  go_wp2_with fail
  refine HI.out.mono ?_
  rintro e w1 ⟨⟨n, rfl, hn⟩, hb⟩
  have HB := Lib.hid hb
  have HN := Lib.hid hn
  clear HI hb hn
  go_wp2
  go_ret
  exact ⟨ret_bool HN.out, HB.out⟩
end Go.Proofs.Ytklljaeoimgmnaa
