/-
  Marks of lists of lists.
-/
import Derived.Test.YtdkalefepdlccaaN1
namespace Go.Proofs.Ytdkalefepdlccaa
open Go.RowKit
theorem own_len {w : World} {e : TypeId} {lo : Nat} {v : Value} {xs : List Value} (h : Own w e lo v xs) : xs.length ≤ maxLen := by
  obtain ⟨A, cap, _, h1, h2, _⟩ := h.rd
  exact Nat.le_trans h1 h2

set_option maxHeartbeats 800000 in
theorem markInt64SS_own (v : Value) (xs : List (List Int)) (bs : List Nat) (lo : Nat) (k : Int) (w : World) (h : OwL (OwV ints 2) 42 w lo v xs bs) (hk0 : 0 ≤ k) (hk : k + (numL (fun x : List Int => x.length) xs : Int) ≤ 4611686018427387904) :
    Calls Try.prog 38 #[v, .int .i64 k] w fun e w' => e = .returned (.int .i64 (k + (numL (fun x : List Int => x.length) xs : Int))) ∧ OwL (OwV ints 2) 42 w' lo v (mkL (mkI) (fun x : List Int => x.length) k xs) bs ∧ Only bs w w' := by
  have hlen : xs.length ≤ maxLen := by obtain ⟨vs, bss, ho, h1, _⟩ := h; rw [← h1]; exact own_len ho
  unfold maxLen at hlen
  have hsh : ∃ A cap, v = .slice A xs.length cap := OwL.shape h
  obtain ⟨A, cap, rfl⟩ := hsh
  have HO := Lib.hid h
  clear h
  go_enter Try.func38, Try.ntmps38
  go_wp2
  go_loopw [1, 5] (fun q i wr => ∃ j : Nat, j ≤ xs.length ∧ i = .int .i64 j ∧ q = .int .i64 (k + (numL (fun x : List Int => x.length) (xs.take j) : Int)) ∧ OwL (OwV ints 2) 42 wr lo (.slice A xs.length cap) ((mkL (mkI) (fun x : List Int => x.length) k xs).take j ++ xs.drop j) bs ∧ Only bs w wr) (fun _ i _ => xs.length - (intOf i).toNat)
  case atStart => exact ⟨0, Nat.zero_le _, rfl, by simp [numL], by simpa using HO.out, Only.refl _ _⟩
  case round =>
    obtain ⟨j, hj, rfl, rfl, hO, hB⟩ := hrel
    by_cases hlt : j < xs.length
    · have hx0 : xs[j]? = some xs[j] := List.getElem?_eq_getElem hlt
      have hx : ((mkL (mkI) (fun x : List Int => x.length) k xs).take j ++ xs.drop j)[j]? = some xs[j] := by
        rw [List.getElem?_append_right (by simp [mkL_len]; omega)]
        simp [mkL_len, Nat.min_eq_left (Nat.le_of_lt hlt), hlt]
      obtain ⟨g, cap', u, b, hv, hc, hR, hbb, hset⟩ := OwL.member (goodV ints 2) hO hx
      have hl0 : ((mkL (mkI) (fun x : List Int => x.length) k xs).take j ++ xs.drop j).length = xs.length := part_len (mkL_len _ _ k xs) hj
      rw [hl0] at hv
      cases hv
      have hn1 := numL_take (n := (fun x : List Int => x.length)) hx0
      have hn2 := numL_le (n := (fun x : List Int => x.length)) xs (j + 1)
      have HC := Lib.hid (markInt64S_own u xs[j] b lo (k + (numL (fun x : List Int => x.length) (xs.take j) : Int)) wr hR (by omega) (by omega))
      have HM := Lib.hid (part_step (mkL_len (mkI) (fun x : List Int => x.length) k xs) hlt (mkL_get (mkI) (fun x : List Int => x.length) k xs hx0))
      have HN := Lib.hid hn1
      have HH := Lib.hid (show _ ∧ _ ∧ _ from ⟨hset, hB, hbb⟩)
      have i1 : (0 : Int) ≤ j := by omega
      have i2 : (j : Int) < xs.length := by omega
      clear hx0 hx hR hset hB hbb hl0 hn1 hn2 hO
      go_wp2_with fail
      refine HC.out.mono ?_
      rintro e w1 ⟨rfl, hR1, hO1⟩
      obtain ⟨hset, hB, hbb⟩ := HH.out
      have hnew := hset w1 _ hR1 hO1
      rw [HM.out] at hnew
      have HW := Lib.hid (show _ ∧ _ from ⟨hnew, hB.trans (hO1.mono hbb)⟩)
      clear hset hB hbb hR1 hO1 hnew HC HM HH
      go_wp2
      go_roundw
      case rel => exact ⟨j + 1, by omega, by go_num, by have := HN.out; rw [this]; go_num, HW.out.1, HW.out.2⟩
      case measure => simp [intOf]; omega
    · have ej : j = xs.length := by omega
      subst ej
      have HW := Lib.hid (show _ ∧ _ from ⟨hO, hB⟩)
      clear hO hB
      go_wp2
      go_ret
      exact ⟨ret_int (by simp), by have := HW.out.1; rwa [part_done (mkL_len _ _ k xs) hlt] at this, HW.out.2⟩

set_option maxHeartbeats 800000 in
theorem heldInt64SS_any (v : Value) (xs : List (List Int)) (k : Int) (w : World) (h : RdL RdI w v (mkL (mkI) (fun x : List Int => x.length) k xs)) (hk0 : 0 ≤ k) (hk : k + (numL (fun x : List Int => x.length) xs : Int) ≤ 4611686018427387904) :
    Calls Try.prog 39 #[v, .int .i64 k] w fun e w' => e = .returned (.int .i64 (k + (numL (fun x : List Int => x.length) xs : Int))) ∧ Qt w w' := by
  obtain ⟨A, cap, rfl, h1, h2, h3⟩ := h.open
  rw [mkL_len] at h1 h3 ⊢
  unfold maxLen at h2
  go_enter Try.func39, Try.ntmps39
  go_wp2
  go_loopw [1, 5] (fun q i wr => ∃ j : Nat, j ≤ xs.length ∧ i = .int .i64 j ∧ q = .int .i64 (k + (numL (fun x : List Int => x.length) (xs.take j) : Int)) ∧ Qt w wr) (fun _ i _ => xs.length - (intOf i).toNat)
  case atStart => exact ⟨0, Nat.zero_le _, rfl, by simp [numL], Qt.refl _⟩
  case round =>
    obtain ⟨j, hj, rfl, rfl, hb⟩ := hrel
    have HB := Lib.hid hb
    by_cases hlt : j < xs.length
    · have hx0 : xs[j]? = some xs[j] := List.getElem?_eq_getElem hlt
      obtain ⟨b, off, u, z, rfl, hz, hc, hR⟩ := h3 j hlt
      have e := Option.some.inj ((mkL_get (mkI) (fun x : List Int => x.length) k xs hx0).symm.trans hz)
      subst e
      have gc := (hb.cell _).trans hc
      have hn1 := numL_take (n := (fun x : List Int => x.length)) hx0
      have hn2 := numL_le (n := (fun x : List Int => x.length)) xs (j + 1)
      have HC := Lib.hid (heldInt64S_any u xs[j] (k + (numL (fun x : List Int => x.length) (xs.take j) : Int)) wr (keepsI _ _ _ _ hR hb.below) (by omega) (by omega))
      have HN := Lib.hid hn1
      have i1 : (0 : Int) ≤ j := by omega
      have i2 : (j : Int) < xs.length := by omega
      have i3 : (0 : Int) ≤ k + (numL (fun x : List Int => x.length) (xs.take j) : Int) := by omega
      have i4 : (0 : Int) ≤ k + (numL (fun x : List Int => x.length) (xs.take j) : Int) + (xs[j].length : Int) := by omega
      clear h3 hz hc hb hR hx0 hn1 hn2
      go_wp2_with (go_at_call 32; refine HC.out.mono ?_; rintro e w' ⟨rfl, m, rfl⟩)
      go_roundw
      case rel => exact ⟨j + 1, by omega, by go_num, by have := HN.out; rw [this]; go_num, HB.out.drewN _⟩
      case measure => simp [intOf]; omega
    · have ej : j = xs.length := by omega
      subst ej
      clear h3 hb
      go_wp2
      go_ret
      exact ⟨ret_int (by simp), HB.out⟩

end Go.Proofs.Ytdkalefepdlccaa
