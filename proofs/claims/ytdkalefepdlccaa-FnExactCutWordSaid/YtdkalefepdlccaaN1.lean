/-
  Marks of lists of integers and bools.
-/
import Derived.Test.YtdkalefepdlccaaMk
import Derived.Test.YtdkalefepdlccaaO1
namespace Go.Proofs.Ytdkalefepdlccaa
open Go.RowKit

set_option maxHeartbeats 800000 in
theorem markInt64S_own (v : Value) (xs : List Int) (bs : List Nat) (lo : Nat) (k : Int) (w : World) (h : OwV ints 2 w lo v xs bs) (hk0 : 0 ≤ k) (hk : k + xs.length ≤ 4611686018427387904) :
    Calls Try.prog 31 #[v, .int .i64 k] w fun e w' => e = .returned (.int .i64 (k + xs.length)) ∧ OwV ints 2 w' lo v (mkI k xs) bs ∧ Only bs w w' := by
  obtain ⟨ho, rfl⟩ := h
  rcases ho.nil_or with ⟨rfl, hx⟩ | ⟨g, cap, rfl, hg⟩
  · have hx0 : xs = [] := by simpa [ints] using hx
    subst hx0
    go_enter Try.func31, Try.ntmps31
    go_wp2
    refine wp_loop_rounds 1 ?_
    rw [rounds_succ]
    go_wp2
    go_ret
    exact ⟨ret_int (by simp), ⟨ho, rfl⟩, Only.refl _ _⟩
  · rw [ints_len]
    rw [ints_len] at ho
    have HO := Lib.hid ho
    clear hg ho
    go_enter Try.func31, Try.ntmps31
    go_wp2
    go_loopw [1, 5] (fun q i wr => ∃ j : Nat, j ≤ xs.length ∧ i = .int .i64 j ∧ q = .int .i64 (k + j) ∧ Own wr 2 lo (.slice (some ⟨g, 0, none⟩) xs.length cap) (ints (partI k j xs)) ∧ Only [g] w wr) (fun _ i _ => xs.length - (intOf i).toNat)
    case atStart => exact ⟨0, Nat.zero_le _, rfl, by go_num, by simpa [partI] using HO.out, Only.refl _ _⟩
    case round =>
      obtain ⟨j, hj, rfl, rfl, hO, hB⟩ := hrel
      by_cases hlt : j < xs.length
      · have hl : (ints (partI k j xs)).length = xs.length := by rw [ints_len]; exact part_len (mkI_len k xs) hj
        have hO' : wr.ownsRow lo 2 1 (.slice (some ⟨g, 0, none⟩) xs.length cap) xs.length (ints (partI k j xs)) := by have := hO; unfold Own at this; rwa [hl] at this
        have hc := hO'.cellAt j (by omega)
        have hf := hO'.frozenAt j
        obtain ⟨old, hold⟩ : ∃ u, (ints (partI k j xs))[j]? = some u := ⟨_, List.getElem?_eq_getElem (by omega)⟩
        rw [hold] at hc
        have hst := hO'.stored j (.int .i64 (k + (j : Int)))
        have es : (ints (partI k j xs)).set j (.int .i64 (k + (j : Int))) = ints (partI k (j + 1) xs) := by
          unfold ints partI
          rw [← part_step (mkI_len k xs) hlt (mkI_get hlt), List.map_set]
        have i1 : (0 : Int) ≤ j := by omega
        have i2 : (j : Int) < xs.length := by omega
        have HS := Lib.hid (show _ ∧ _ ∧ _ ∧ _ from ⟨hst.1, es, hB, hl⟩)
        clear hO' hold hst es hB hO hl
        go_wp2
        obtain ⟨s1, s2, s3, s4⟩ := HS.out
        go_roundw
        case rel => exact ⟨j + 1, by omega, by go_num, by go_num, by rw [← s2]; unfold Own; rw [List.length_set, s4]; exact s1, s3.setCell (List.mem_singleton.2 rfl) _⟩
        case measure => simp [intOf]; omega
      · have HO2 := Lib.hid hO
        have HB2 := Lib.hid hB
        have ej : j = xs.length := by omega
        subst ej
        clear hO hB
        go_wp2
        go_ret
        exact ⟨rfl, ⟨by have := HO2.out; rwa [partI, part_done (mkI_len k xs) hlt] at this, rfl⟩, by rw [blks_some]; exact HB2.out⟩

set_option maxHeartbeats 800000 in
theorem heldInt64S_any (v : Value) (xs : List Int) (k : Int) (w : World) (h : RdI w v (mkI k xs)) (hk0 : 0 ≤ k) (hk : k + xs.length ≤ 4611686018427387904) :
    Calls Try.prog 32 #[v, .int .i64 k] w fun e w' => e = .returned (.int .i64 (k + xs.length)) ∧ Qt w w' := by
  obtain ⟨A, cap, rfl, h1, h2, h3⟩ := h.open
  rw [mkI_len] at h1 h3 ⊢
  unfold maxLen at h2
  go_enter Try.func32, Try.ntmps32
  go_wp2
  go_loopw [1, 5] (fun q i wr => ∃ j : Nat, j ≤ xs.length ∧ i = .int .i64 j ∧ q = .int .i64 (k + j) ∧ Qt w wr) (fun _ i _ => xs.length - (intOf i).toNat)
  case atStart => exact ⟨0, Nat.zero_le _, rfl, by go_num, Qt.refl _⟩
  case round =>
    obtain ⟨j, hj, rfl, rfl, hb⟩ := hrel
    have HB := Lib.hid hb
    by_cases hlt : j < xs.length
    · obtain ⟨b, off, z, rfl, hz, hc⟩ := h3 j hlt
      have e := Option.some.inj ((mkI_get hlt).symm.trans hz)
      subst e
      have gc := (hb.cell _).trans hc
      have i1 : (0 : Int) ≤ j := by omega
      have i2 : (j : Int) < xs.length := by omega
      clear h3 hz hc hb
      have hne : (k + (j : Int) != k + (j : Int)) = false := by simp
      go_wp2
      
      go_roundw
      case rel => exact ⟨j + 1, by omega, by go_num, by go_num, HB.out⟩
      case measure => simp [intOf]; omega
    · have ej : j = xs.length := by omega
      subst ej
      clear h3 hb
      go_wp2
      go_ret
      exact ⟨rfl, HB.out⟩

end Go.Proofs.Ytdkalefepdlccaa
