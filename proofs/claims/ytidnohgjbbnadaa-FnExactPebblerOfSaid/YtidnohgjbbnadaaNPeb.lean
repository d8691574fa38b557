/-
  Marks of slices of structs of three integers.
-/
import Derived.Test.YtidnohgjbbnadaaQPeb
namespace Go.Proofs.Ytidnohgjbbnadaa
open Go.RowKit

set_option maxHeartbeats 800000 in
theorem markPebbleMoveS_own (v : Value) (xs : List Tri) (bs : List Nat) (lo : Nat) (k : Int) (w : World) (h : Ow3 102 w lo v xs bs) (hk0 : 0 ≤ k) (hk : k + ((3 * xs.length : Nat) : Int) ≤ 4611686018427387904) :
    Calls Try.prog 108 #[v, .int .i64 k] w fun e w' => e = .returned (.int .i64 (k + ((3 * xs.length : Nat) : Int))) ∧ Ow3 102 w' lo v (mk3 k xs) bs ∧ Only bs w w' := by
  rcases h.nil_or with ⟨rfl, rfl⟩ | ⟨g, cap, rfl, rfl, _, _⟩
  · go_enter Try.func108, Try.ntmps108
    go_wp2
    refine wp_loop_rounds 1 ?_
    rw [rounds_succ]
    go_wp2
    go_ret
    exact ⟨ret_int (by simp), h, Only.refl _ _⟩
  · have HO := Lib.hid h
    clear h
    go_enter Try.func108, Try.ntmps108
    go_wp2
    go_loopw [1, 5] (fun q i wr => ∃ j : Nat, j ≤ xs.length ∧ i = .int .i64 j ∧ q = .int .i64 (k + 3 * (j : Int)) ∧ Ow3 102 wr lo (.slice (some ⟨g, 0, none⟩) xs.length cap) ((mk3 k xs).take j ++ xs.drop j) [g] ∧ Only [g] w wr) (fun _ i _ => xs.length - (intOf i).toNat)
    case atStart => exact ⟨0, Nat.zero_le _, rfl, by go_num, by simpa using HO.out, Only.refl _ _⟩
    case round =>
      obtain ⟨j, hj, rfl, rfl, hO, hB⟩ := hrel
      by_cases hlt : j < xs.length
      · have hl : ((mk3 k xs).take j ++ xs.drop j).length = xs.length := part_len (mk3_len k xs) hj
        have hO' : Ow3 102 wr lo (.slice (some ⟨g, 0, none⟩) ((mk3 k xs).take j ++ xs.drop j).length cap) ((mk3 k xs).take j ++ xs.drop j) [g] := by rw [hl]; exact hO
        obtain ⟨⟨x, y, z⟩, hm0⟩ : ∃ m, ((mk3 k xs).take j ++ xs.drop j)[j]? = some m := ⟨_, List.getElem?_eq_getElem (by omega)⟩
        have hc0 := (hO'.1.cellAt (j * 3) (by omega)).trans (tcells_get hm0).1
        have hc1 := (hO'.1.cellAt (j * 3 + 1) (by omega)).trans (tcells_get hm0).2.1
        have hc2 := (hO'.1.cellAt (j * 3 + 2) (by omega)).trans (tcells_get hm0).2.2
        have hf0 := hO'.1.frozenAt (j * 3)
        have hf1 := hO'.1.frozenAt (j * 3 + 1)
        have hf2 := hO'.1.frozenAt (j * 3 + 2)
        have hS := hO'.stored (i := j) (by omega) (k + 3 * (j : Int), k + 3 * (j : Int) + 1, k + 3 * (j : Int) + 1 + 1)
        rw [part_step (mk3_len k xs) hlt (mk3_get hlt), part_len (mk3_len k xs) (by omega)] at hS
        have i1 : (0 : Int) ≤ j := by omega
        have i2 : (j : Int) < xs.length := by omega
        have HS := Lib.hid (show _ ∧ _ from ⟨hS, hB⟩)
        clear hO' hO hB hS hm0 hl
        go_wp2
        obtain ⟨s1, s2⟩ := HS.out
        go_roundw
        case rel => exact ⟨j + 1, by omega, by go_num, by go_num, s1, ((s2.setCell (List.mem_singleton.2 rfl) _).setCell (List.mem_singleton.2 rfl) _).setCell (List.mem_singleton.2 rfl) _⟩
        case measure => simp [intOf]; omega
      · have HO2 := Lib.hid hO
        have HB2 := Lib.hid hB
        have ej : j = xs.length := by omega
        subst ej
        clear hO hB
        go_wp2
        go_ret
        exact ⟨ret_int (by omega), by have := HO2.out; rwa [part_done (mk3_len k xs) hlt] at this, HB2.out⟩

set_option maxHeartbeats 800000 in
theorem heldPebbleMoveS_any (v : Value) (xs : List Tri) (k : Int) (w : World) (h : Rd3 w v (mk3 k xs)) (hk0 : 0 ≤ k) (hk : k + ((3 * xs.length : Nat) : Int) ≤ 4611686018427387904) :
    Calls Try.prog 109 #[v, .int .i64 k] w fun e w' => e = .returned (.int .i64 (k + ((3 * xs.length : Nat) : Int))) ∧ Qt w w' := by
  obtain ⟨A, cap, rfl, h1, h2, h3⟩ := h.open
  rw [mk3_len] at h1 h3 ⊢
  unfold maxLen at h2
  go_enter Try.func109, Try.ntmps109
  go_wp2
  go_loopw [1, 5] (fun q i wr => ∃ j : Nat, j ≤ xs.length ∧ i = .int .i64 j ∧ q = .int .i64 (k + 3 * (j : Int)) ∧ Qt w wr) (fun _ i _ => xs.length - (intOf i).toNat)
  case atStart => exact ⟨0, Nat.zero_le _, rfl, by go_num, Qt.refl _⟩
  case round =>
    obtain ⟨j, hj, rfl, rfl, hb⟩ := hrel
    have HB := Lib.hid hb
    by_cases hlt : j < xs.length
    · obtain ⟨b, off, x, y, z, rfl, hz, hc, hd, he⟩ := h3 j hlt
      have e := Option.some.inj ((mk3_get hlt).symm.trans hz)
      simp only [Prod.mk.injEq] at e
      obtain ⟨rfl, rfl, rfl⟩ := e
      have gc := (hb.cell _).trans hc
      have gd := (hb.cell _).trans hd
      have ge := (hb.cell _).trans he
      have i1 : (0 : Int) ≤ j := by omega
      have i2 : (j : Int) < xs.length := by omega
      clear h3 hz hc hd he hb
      have hne : (k + 3 * (j : Int) != k + 3 * (j : Int)) = false := by simp
      have hne' : (k + 3 * (j : Int) + 1 != k + 3 * (j : Int) + 1) = false := by simp
      have hne2 : (k + 3 * (j : Int) + 1 + 1 != k + 3 * (j : Int) + 1 + 1) = false := by simp
      go_wp2
      go_roundw
      case rel => exact ⟨j + 1, by omega, by go_num, by go_num, HB.out⟩
      case measure => simp [intOf]; omega
    · have ej : j = xs.length := by omega
      subst ej
      clear h3 hb
      go_wp2
      go_ret
      exact ⟨ret_int (by omega), HB.out⟩

end Go.Proofs.Ytidnohgjbbnadaa
