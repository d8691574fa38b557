/-
  Marks of lists of integers and bools.
-/
import Derived.Test.YtfkicedhjipfmaaMk
import Derived.Test.YtfkicedhjipfmaaO1
namespace Go.Proofs.Ytfkicedhjipfmaa
open Go.RowKit

set_option maxHeartbeats 800000 in
theorem markInt64S_own (v : Value) (xs : List Int) (bs : List Nat) (lo : Nat) (k : Int) (w : World) (h : OwV ints 2 w lo v xs bs) (hk0 : 0 ≤ k) (hk : k + xs.length ≤ 4611686018427387904) :
    Calls Try.prog 82 #[v, .int .i64 k] w fun e w' => e = .returned (.int .i64 (k + xs.length)) ∧ OwV ints 2 w' lo v (mkI k xs) bs ∧ Only bs w w' := by
  obtain ⟨ho, rfl⟩ := h
  rcases ho.nil_or with ⟨rfl, hx⟩ | ⟨g, cap, rfl, hg⟩
  · have hx0 : xs = [] := by simpa [ints] using hx
    subst hx0
    go_enter Try.func82, Try.ntmps82
    go_wp2
    refine wp_loop_rounds 1 ?_
    rw [rounds_succ]
    go_wp2
    go_ret
    exact ⟨ret_int (by simp), ⟨ho, rfl⟩, Only.refl _ _⟩
  · rw [ints_len]
    rw [ints_len] at ho
    have HO := Lib.hid ho
    clear hg ho
    go_enter Try.func82, Try.ntmps82
    go_wp2
    go_loopw [1, 5] (fun q i wr => ∃ j : Nat, j ≤ xs.length ∧ i = .int .i64 j ∧ q = .int .i64 (k + j) ∧ Own wr 2 lo (.slice (some ⟨g, 0, none⟩) xs.length cap) (ints (partI k j xs)) ∧ Only [g] w wr) (fun _ i _ => xs.length - (intOf i).toNat)
    case atStart => exact ⟨0, Nat.zero_le _, rfl, by go_num, by simpa [partI] using HO.out, Only.refl _ _⟩
    case round =>
      obtain ⟨j, hj, rfl, rfl, hO, hB⟩ := hrel
      by_cases hlt : j < xs.length
      · have hl : (ints (partI k j xs)).length = xs.length := by rw [ints_len]; exact part_len (mkI_len k xs) hj
        have hO' : wr.ownsRow lo 2 1 (.slice (some ⟨g, 0, none⟩) xs.length cap) xs.length (ints (partI k j xs)) := by have := hO; unfold Own at this; rwa [hl] at this
        have hc := hO'.cellAt j (by omega)
        have hf := hO'.frozenAt j
        obtain ⟨old, hold⟩ : ∃ u, (ints (partI k j xs))[j]? = some u := ⟨_, List.getElem?_eq_getElem (by omega)⟩
        rw [hold] at hc
        have hst := hO'.stored j (.int .i64 (k + (j : Int)))
        have es : (ints (partI k j xs)).set j (.int .i64 (k + (j : Int))) = ints (partI k (j + 1) xs) := by
          unfold ints partI
          rw [← part_step (mkI_len k xs) hlt (mkI_get hlt), List.map_set]
        have i1 : (0 : Int) ≤ j := by omega
        have i2 : (j : Int) < xs.length := by omega
        have HS := Lib.hid (show _ ∧ _ ∧ _ ∧ _ from ⟨hst.1, es, hB, hl⟩)
        clear hO' hold hst es hB hO hl
        go_wp2
        obtain ⟨s1, s2, s3, s4⟩ := HS.out
        go_roundw
        case rel => exact ⟨j + 1, by omega, by go_num, by go_num, by rw [← s2]; unfold Own; rw [List.length_set, s4]; exact s1, s3.setCell (List.mem_singleton.2 rfl) _⟩
        case measure => simp [intOf]; omega
      · have HO2 := Lib.hid hO
        have HB2 := Lib.hid hB
        have ej : j = xs.length := by omega
        subst ej
        clear hO hB
        go_wp2
        go_ret
        exact ⟨rfl, ⟨by have := HO2.out; rwa [partI, part_done (mkI_len k xs) hlt] at this, rfl⟩, by rw [blks_some]; exact HB2.out⟩

set_option maxHeartbeats 800000 in
theorem markBoolS_own (v : Value) (xs : List Bool) (bs : List Nat) (lo : Nat) (k : Int) (w : World) (h : OwV bools 4 w lo v xs bs) (hk0 : 0 ≤ k) (hk : k + xs.length ≤ 4611686018427387904) :
    Calls Try.prog 51 #[v, .int .i64 k] w fun e w' => e = .returned (.int .i64 (k + xs.length)) ∧ OwV bools 4 w' lo v (mkB k xs) bs ∧ Only bs w w' := by
  obtain ⟨ho, rfl⟩ := h
  rcases ho.nil_or with ⟨rfl, hx⟩ | ⟨g, cap, rfl, hg⟩
  · have hx0 : xs = [] := by simpa [bools] using hx
    subst hx0
    go_enter Try.func51, Try.ntmps51
    go_wp2
    refine wp_loop_rounds 1 ?_
    rw [rounds_succ]
    go_wp2
    go_ret
    exact ⟨ret_int (by simp), ⟨ho, rfl⟩, Only.refl _ _⟩
  · rw [bools_len]
    rw [bools_len] at ho
    have HO := Lib.hid ho
    clear hg ho
    go_enter Try.func51, Try.ntmps51
    go_wp2
    go_loopw [1, 5] (fun q i wr => ∃ j : Nat, j ≤ xs.length ∧ i = .int .i64 j ∧ q = .int .i64 (k + j) ∧ Own wr 4 lo (.slice (some ⟨g, 0, none⟩) xs.length cap) (bools (partB k j xs)) ∧ Only [g] w wr) (fun _ i _ => xs.length - (intOf i).toNat)
    case atStart => exact ⟨0, Nat.zero_le _, rfl, by go_num, by simpa [partB] using HO.out, Only.refl _ _⟩
    case round =>
      obtain ⟨j, hj, rfl, rfl, hO, hB⟩ := hrel
      by_cases hlt : j < xs.length
      · have hl : (bools (partB k j xs)).length = xs.length := by rw [bools_len]; exact part_len (mkB_len k xs) hj
        have hO' : wr.ownsRow lo 4 1 (.slice (some ⟨g, 0, none⟩) xs.length cap) xs.length (bools (partB k j xs)) := by have := hO; unfold Own at this; rwa [hl] at this
        have hc := hO'.cellAt j (by omega)
        have hf := hO'.frozenAt j
        obtain ⟨old, hold⟩ : ∃ u, (bools (partB k j xs))[j]? = some u := ⟨_, List.getElem?_eq_getElem (by omega)⟩
        rw [hold] at hc
        have hst := hO'.stored j (.bool ((k + (j : Int)) % 3 == 0))
        have es : (bools (partB k j xs)).set j (.bool ((k + (j : Int)) % 3 == 0)) = bools (partB k (j + 1) xs) := by
          unfold bools partB
          rw [← part_step (mkB_len k xs) hlt (mkB_get hlt), List.map_set]
        have i1 : (0 : Int) ≤ j := by omega
        have i2 : (j : Int) < xs.length := by omega
        have HS := Lib.hid (show _ ∧ _ ∧ _ ∧ _ from ⟨hst.1, es, hB, hl⟩)
        clear hO' hold hst es hB hO hl
        go_wp2
        obtain ⟨s1, s2, s3, s4⟩ := HS.out
        go_roundw
        case rel => exact ⟨j + 1, by omega, by go_num, by go_num, by rw [← s2]; unfold Own; rw [List.length_set, s4]; exact s1, s3.setCell (List.mem_singleton.2 rfl) _⟩
        case measure => simp [intOf]; omega
      · have HO2 := Lib.hid hO
        have HB2 := Lib.hid hB
        have ej : j = xs.length := by omega
        subst ej
        clear hO hB
        go_wp2
        go_ret
        exact ⟨rfl, ⟨by have := HO2.out; rwa [partB, part_done (mkB_len k xs) hlt] at this, rfl⟩, by rw [blks_some]; exact HB2.out⟩

end Go.Proofs.Ytfkicedhjipfmaa
