/-
  Marks of slices of structs of two integers.
-/
import Derived.Test.YtdkalefepdlccaaQMove
namespace Go.Proofs.Ytdkalefepdlccaa
open Go.RowKit

set_option maxHeartbeats 800000 in
theorem markMoveS_own (v : Value) (xs : List (Int × Int)) (bs : List Nat) (lo : Nat) (k : Int) (w : World) (h : OwP 96 w lo v xs bs) (hk0 : 0 ≤ k) (hk : k + ((2 * xs.length : Nat) : Int) ≤ 4611686018427387904) :
    Calls Try.prog 105 #[v, .int .i64 k] w fun e w' => e = .returned (.int .i64 (k + ((2 * xs.length : Nat) : Int))) ∧ OwP 96 w' lo v (mkP k xs) bs ∧ Only bs w w' := by
  rcases h.nil_or with ⟨rfl, rfl⟩ | ⟨g, cap, rfl, rfl, _, _⟩
  · go_enter Try.func105, Try.ntmps105
    go_wp2
    refine wp_loop_rounds 1 ?_
    rw [rounds_succ]
    go_wp2
    go_ret
    exact ⟨ret_int (by simp), h, Only.refl _ _⟩
  · have HO := Lib.hid h
    clear h
    go_enter Try.func105, Try.ntmps105
    go_wp2
    go_loopw [1, 5] (fun q i wr => ∃ j : Nat, j ≤ xs.length ∧ i = .int .i64 j ∧ q = .int .i64 (k + 2 * (j : Int)) ∧ OwP 96 wr lo (.slice (some ⟨g, 0, none⟩) xs.length cap) ((mkP k xs).take j ++ xs.drop j) [g] ∧ Only [g] w wr) (fun _ i _ => xs.length - (intOf i).toNat)
    case atStart => exact ⟨0, Nat.zero_le _, rfl, by go_num, by simpa using HO.out, Only.refl _ _⟩
    case round =>
      obtain ⟨j, hj, rfl, rfl, hO, hB⟩ := hrel
      by_cases hlt : j < xs.length
      · have hl : ((mkP k xs).take j ++ xs.drop j).length = xs.length := part_len (mkP_len k xs) hj
        have hO' : OwP 96 wr lo (.slice (some ⟨g, 0, none⟩) ((mkP k xs).take j ++ xs.drop j).length cap) ((mkP k xs).take j ++ xs.drop j) [g] := by rw [hl]; exact hO
        obtain ⟨⟨x, y⟩, hm0⟩ : ∃ m, ((mkP k xs).take j ++ xs.drop j)[j]? = some m := ⟨_, List.getElem?_eq_getElem (by omega)⟩
        have hc0 := (hO'.1.cellAt (j * 2) (by omega)).trans (pcells_get hm0).1
        have hc1 := (hO'.1.cellAt (j * 2 + 1) (by omega)).trans (pcells_get hm0).2
        have hf0 := hO'.1.frozenAt (j * 2)
        have hf1 := hO'.1.frozenAt (j * 2 + 1)
        have hS := hO'.stored (i := j) (by omega) (k + 2 * (j : Int), k + 2 * (j : Int) + 1)
        rw [part_step (mkP_len k xs) hlt (mkP_get hlt), part_len (mkP_len k xs) (by omega)] at hS
        have i1 : (0 : Int) ≤ j := by omega
        have i2 : (j : Int) < xs.length := by omega
        have HS := Lib.hid (show _ ∧ _ from ⟨hS, hB⟩)
        clear hO' hO hB hS hm0 hl
        go_wp2
        obtain ⟨s1, s2⟩ := HS.out
        go_roundw
        case rel => exact ⟨j + 1, by omega, by go_num, by go_num, s1, (s2.setCell (List.mem_singleton.2 rfl) _).setCell (List.mem_singleton.2 rfl) _⟩
        case measure => simp [intOf]; omega
      · have HO2 := Lib.hid hO
        have HB2 := Lib.hid hB
        have ej : j = xs.length := by omega
        subst ej
        clear hO hB
        go_wp2
        go_ret
        exact ⟨ret_int (by omega), by have := HO2.out; rwa [part_done (mkP_len k xs) hlt] at this, HB2.out⟩

end Go.Proofs.Ytdkalefepdlccaa
