/-
  The least word behind all cuts: what it is; the program's search for equal sequences.
-/
import Derived.Test.YtjkkppmpakaagaaCw3
namespace Go.Proofs.Ytjkkppmpakaagaa
open Go.RowKit

def eqAt (xs : List (List Int)) (i j : Nat) : Bool := decide (xs.getD i [] = xs.getD j [])
def downF (xs : List (List Int)) (i : Nat) : Nat → Option Nat
  | 0 => none
  | j + 1 => if i < j + 1 then (if eqAt xs i (j + 1) = true then some (j + 1) else downF xs i j) else none
def upF (xs : List (List Int)) : Nat → Nat → Option (Nat × Nat)
  | 0, _ => none
  | f + 1, i => match downF xs i (xs.length - 1) with
    | some j => some (i, j)
    | none => upF xs f (i + 1)
def firstEq (xs : List (List Int)) : Option (Nat × Nat) := upF xs xs.length 0
theorem downF_stop {xs : List (List Int)} {i m : Nat} (h : ¬ i < m) : downF xs i m = none := by
  cases m with
  | zero => rfl
  | succ m => rw [downF, if_neg h]
theorem downF_yes {xs : List (List Int)} {i m : Nat} (h : i < m) (e : eqAt xs i m = true) : downF xs i m = some m := by
  cases m with
  | zero => omega
  | succ m => rw [downF, if_pos h, if_pos e]
theorem downF_no {xs : List (List Int)} {i m : Nat} (h : i < m) (e : eqAt xs i m = false) : downF xs i m = downF xs i (m - 1) := by
  cases m with
  | zero => omega
  | succ m => rw [downF, if_pos h, if_neg (by rw [e]; decide)]; rfl
theorem downF_lt {xs : List (List Int)} {i : Nat} : ∀ {m j : Nat}, downF xs i m = some j → i < j ∧ j ≤ m
  | 0, j => fun h => by cases h
  | m + 1, j => fun h => by
    rw [downF] at h
    split at h
    · split at h
      · cases h; omega
      · have := downF_lt h; omega
    · cases h
theorem upF_lt {xs : List (List Int)} : ∀ {f i : Nat} {p : Nat × Nat}, upF xs f i = some p → p.1 < p.2 ∧ p.2 ≤ xs.length - 1
  | 0, i, p => fun h => by cases h
  | f + 1, i, p => fun h => by
    rw [upF] at h
    split at h
    · rename_i j hj
      cases h
      exact downF_lt hj
    · exact upF_lt h
theorem upF_yes {xs : List (List Int)} {k j : Nat} (hk : k < xs.length) (h : downF xs k (xs.length - 1) = some j) : upF xs (xs.length - k) k = some (k, j) := by
  rw [show xs.length - k = (xs.length - (k + 1)) + 1 by omega, upF, h]
theorem upF_no {xs : List (List Int)} {k : Nat} (hk : k < xs.length) (h : downF xs k (xs.length - 1) = none) : upF xs (xs.length - k) k = upF xs (xs.length - (k + 1)) (k + 1) := by
  rw [show xs.length - k = (xs.length - (k + 1)) + 1 by omega, upF, h]
theorem eqAt_of {xs : List (List Int)} {i j : Nat} {x y : List Int} (hx : xs[i]? = some x) (hy : xs[j]? = some y) : eqAt xs i j = decide (x = y) := by simp [eqAt, List.getD, hx, hy]

def firstV (o : Option (Nat × Nat)) : Value := match o with
  | some p => .tuple #[.int .i64 (p.1 : Int), .int .i64 (p.2 : Int), .bool true]
  | none => .tuple #[.int .i64 0, .int .i64 0, .bool false]

set_option maxRecDepth 100000 in
set_option maxHeartbeats 3200000 in
theorem firstEqual_any (v : Value) (xs : List (List Int)) (w : World) (h : RdII w v xs) (hl : xs.length ≤ 61) :
    Calls Try.prog 53 #[v] w fun e w' => e = .returned (firstV (firstEq xs)) ∧ Qt w w' := by
  obtain ⟨A, cap, rfl, h1, h2, h3⟩ := RdL.open h
  unfold maxLen at h2
  clear h
  go_enter Try.func53, Try.ntmps53
  go_wp2
  go_loopw [9] (fun i wr => ∃ k : Nat, k ≤ xs.length ∧ i = .int .i64 k ∧ Qt w wr ∧ upF xs (xs.length - k) k = firstEq xs) (fun i _ => xs.length - (intOf i).toNat)
  case atStart => exact ⟨0, Nat.zero_le _, rfl, Qt.refl _, rfl⟩
  case round =>
    obtain ⟨wo, hwo⟩ : ∃ wo, wo = wr := ⟨wr, rfl⟩
    subst hwo
    obtain ⟨k, hk, rfl, hq, hp⟩ := hrel
    have HP := Lib.hid hp
    have HQ := Lib.hid hq
    clear hp
    by_cases hlt : k < xs.length
    · obtain ⟨b, off, u, x, rfl, hx, hc, hR⟩ := h3 k hlt
      have HX := Lib.hid (show _ ∧ _ ∧ _ from ⟨hx, hc, hR⟩)
      obtain ⟨Bx, cx, rfl⟩ := rdI_shape hR
      have i1 : (0 : Int) ≤ k := by omega
      have i2 : (k : Int) < xs.length := by omega
      clear hx hc hR hq
      go_wp2
      go_loopw [6] (fun j wr => ∃ m : Nat, k ≤ m ∧ m < xs.length ∧ j = .int .i64 m ∧ Qt w wr ∧ downF xs k m = downF xs k (xs.length - 1)) (fun j _ => (intOf j).toNat)
      case atStart => exact ⟨xs.length - 1, by omega, by omega, by congr 1; omega, HQ.out, rfl⟩
      case round =>
        obtain ⟨m, hm1, hm2, rfl, hq, hp⟩ := hrel
        have HPI := Lib.hid hp
        have HQI := Lib.hid hq
        clear hp
        by_cases hlm : k < m
        · obtain ⟨b', off', u', y, hA2, hy, hd, hS⟩ := h3 m hm2
          cases hA2
          obtain ⟨By, cy, rfl⟩ := rdI_shape hS
          have gc := (hq.cell _).trans HX.out.2.1
          have gd := (hq.cell _).trans hd
          have HC := Lib.hid (fun n => slEqualI_any _ _ x y (wr.drewN n) (keepsI _ _ _ _ HX.out.2.2 (hq.drewN n).below) (keepsI _ _ _ _ hS (hq.drewN n).below))
          have HE := Lib.hid (eqAt_of HX.out.1 hy)
          clear hy hd hS hq
          have j1 : (0 : Int) ≤ m := by omega
          have j2 : (m : Int) < xs.length := by omega
          have j3 : (k : Int) < (m : Int) := by omega
          by_cases hxy : x = y
          · have hd1 : decide (x = y) = true := by simpa using hxy
            have HF := Lib.hid (show firstEq xs = some (k, m) by rw [← HP.out]; exact upF_yes hlt (by rw [← HPI.out]; exact downF_yes hlm (by rw [HE.out]; exact hd1)))
            subst hxy
            go_wp2_with fail
            go_quiet ((go_at_call 50; exact Calls.quiet_of (HC.out _)))
            go_wp2
            refine bodyPost_ret (v := .tuple #[.int .i64 (k : Int), .int .i64 (m : Int), .bool true]) (by simp [results, Try.results53, go_sem]) rfl ?_
            exact ⟨by rw [HF.out]; rfl, HQI.out.drewN _⟩
          · have hd1 : decide (x = y) = false := by simpa using hxy
            have HN := Lib.hid (downF_no (xs := xs) hlm (by rw [HE.out]; exact hd1))
            go_wp2_with fail
            go_quiet ((go_at_call 50; exact Calls.quiet_of (HC.out _)))
            go_wp2
            go_roundw
            case rel => exact ⟨m - 1, by omega, by omega, by congr 1; omega, HQI.out.drewN _, by rw [← HN.out]; exact HPI.out⟩
            case measure => simp [intOf]; omega
        · have j3 : ¬ (k : Int) < (m : Int) := by omega
          have HQJ := Lib.hid hq
          clear hq
          go_wp2
          go_roundw
          case rel => exact ⟨k + 1, by omega, by go_num, HQJ.out, by rw [← HP.out]; exact (upF_no hlt (by rw [← HPI.out]; exact downF_stop hlm)).symm⟩
          case measure => simp [intOf]; omega
    · obtain rfl : k = xs.length := by omega
      clear hq h3
      go_wp2
      refine bodyPost_ret (v := .tuple #[.int .i64 0, .int .i64 0, .bool false]) (by simp [results, Try.results53, go_sem]) rfl ?_
      refine ⟨?_, HQ.out⟩
      have := HP.out
      rw [Nat.sub_self, upF] at this
      rw [← this]
      rfl
end Go.Proofs.Ytjkkppmpakaagaa
