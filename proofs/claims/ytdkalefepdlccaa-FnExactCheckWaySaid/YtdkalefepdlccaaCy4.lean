/-
  CheckWay: the model's answer, with its tests.
-/
import Derived.Test.YtdkalefepdlccaaCy3
namespace Go.Proofs.Ytdkalefepdlccaa
open Go.RowKit

set_option maxRecDepth 100000 in
set_option maxHeartbeats 1600000 in
theorem specCheckWay_any (v v2 : Value) (r : WData) (s : ByteArray) (l : List (Int × Int)) (w : World) (h : RdW w v r) (h2 : RdP w v2 l) (hs : s.size ≤ 140737488351232) :
    Calls Try.prog 56 #[v, .string s, v2] w fun e w' => e = .returned (.tuple #[.bool (wayRes r s l).1, .int .i64 (wayRes r s l).2]) ∧ Below w.heap.size w w' := by
  obtain ⟨va, vb, rfl, hA⟩ := atW_box h 68
  have HB0 := Lib.hid (below_alloc w (.cells #[.int .i64 r.L, va, vb] 68))
  have HG := Lib.hid (l04Given_any _ r s _ hA (by unfold maxLen; omega))
  have HA := Lib.hid hA
  have HR2 := Lib.hid (fun W (hb : Below w.heap.size w W) => keepsP _ _ _ _ h2 hb)
  obtain ⟨A2, k2, rfl, b1, b2, b3⟩ := RdP.open h2
  unfold maxLen at b2
  clear h h2 hA
  go_enter Try.func56, Try.ntmps56
  go_wp2_with fail
  refine HG.out.mono ?_
  generalize w.alloc (.cells #[.int .i64 r.L, va, vb] 68) = w0 at *
  generalize w.heap.size = p0 at HA
  rintro e w1 ⟨rfl, hb⟩
  have HB1 := Lib.hid (below_step HB0.out hb)
  have HA1 := Lib.hid (HA.out.below hb)
  clear hb HA
  by_cases hg : givenW r s = 0
  · obtain ⟨okw, oks⟩ := givenW_zero hg
    have ok := okW_out okw
    have hsp := okWord_parts oks
    have hs60 : s.size ≤ 60 := hsp.1
    have HOK := Lib.hid (show _ ∧ _ ∧ _ from ⟨ok, hsp.2, hg⟩)
    rw [hg]
    clear okw oks ok hsp hg
    go_wp2
    go_loopw [9] (fun i wr => ∃ k : Nat, k ≤ l.length ∧ i = .int .i64 k ∧ Below w1.heap.size w1 wr ∧ (l.take k).all (placeInW r s) = true) (fun i _ => l.length - (intOf i).toNat)
    case atStart => exact ⟨0, Nat.zero_le _, rfl, Below.refl _ _, by simp⟩
    case round =>
      obtain ⟨k, hk, rfl, hb, hp⟩ := hrel
      have HP := Lib.hid hp; clear hp
      have HQ := Lib.hid hb
      by_cases hlt : k < l.length
      · obtain ⟨b, off, px, py, rfl, hq, hc0, hc1⟩ := b3 k hlt
        have hc0' := below_keep (below_step HB1.out hb) hc0
        have hc1' := below_keep (below_step HB1.out hb) hc1
        have HX := Lib.hid hq
        have i1 : (0 : Int) ≤ k := by omega
        have i2 : (k : Int) < l.length := by omega
        have HPL := Lib.hid (l04Place_any p0 r s px py wr (HA1.out.below hb) HOK.out.1.n1 hs60)
        obtain ⟨y, hy⟩ : ∃ y, placeInW r s (px, py) = y := ⟨_, rfl⟩
        rw [hy] at HPL
        have HY := Lib.hid hy
        clear hc0 hc1 b3 hb hq hy
        cases y
        · have HE := Lib.hid (show wayRes r s l = (false, 2) by rw [wayRes, if_pos HOK.out.2.2, if_neg (by rw [pl_all_not HX.out HY.out]; decide)])
          go_wp2_with (go_at_call 83; refine HPL.out.mono ?_; rintro e w2 ⟨rfl, hb2⟩; have HW := Lib.hid (below_step HQ.out hb2))
          go_ret2
          exact ⟨ret_biC (by rw [HE.out]) (by rw [HE.out]), below_step HB1.out HW.out⟩
        · go_wp2_with (go_at_call 83; refine HPL.out.mono ?_; rintro e w2 ⟨rfl, hb2⟩; have HW := Lib.hid (below_step HQ.out hb2))
          go_roundw
          case rel => exact ⟨k + 1, by omega, by go_num, HW.out, pl_all_take HP.out HX.out HY.out⟩
          case measure => simp [intOf]; omega
      · have hall : l.all (placeInW r s) = true := by have := HP.out; rwa [List.take_of_length_le (by omega)] at this
        have HE := Lib.hid (show wayRes r s l = (wayGo r s (firstsOf r.st) false l, 0) by rw [wayRes, if_pos HOK.out.2.2, if_pos hall])
        have HWY := Lib.hid (l04Way_any p0 _ r s l wr (HA1.out.below hb) (HR2.out wr (below_step HB1.out hb)) HOK.out.1 HOK.out.2.1 hs60 hall)
        clear hb b3 hall
        go_wp2_with (go_at_call 93; refine HWY.out.mono ?_; rintro e w2 ⟨rfl, hb2⟩; have HW := Lib.hid (below_step HQ.out hb2))
        go_ret2
        exact ⟨ret_biC (by rw [HE.out]) (by rw [HE.out]), below_step HB1.out HW.out⟩
  · have HE := Lib.hid (show wayRes r s l = (false, 1) by rw [wayRes, if_neg hg])
    have hg1 : givenW r s = 1 := by rcases givenW_or r s with h | h; exact absurd h hg; exact h
    rw [hg1]
    clear hg hg1
    go_wp2
    go_ret2
    exact ⟨ret_biC (by rw [HE.out]) (by rw [HE.out]), HB1.out⟩
end Go.Proofs.Ytdkalefepdlccaa
