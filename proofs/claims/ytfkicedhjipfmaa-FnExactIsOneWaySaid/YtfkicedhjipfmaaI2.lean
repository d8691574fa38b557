/-
  Which turners go one way: the program's answer.
-/
import Derived.Test.YtfkicedhjipfmaaI1
namespace Go.Proofs.Ytfkicedhjipfmaa
open Go.RowKit

set_option maxRecDepth 100000 in
set_option maxHeartbeats 1600000 in
theorem implIsOneWay_any (v : Value) (t : TData) (w : World) (h : RdT w v t) :
    Calls Try.prog 36 #[v] w fun e w' => e = .returned (.tuple #[.bool (oneWayRes t).1, .int .i64 (oneWayRes t).2]) ∧ Below w.heap.size w w' := by
  have hV := fun W (hb : Below w.heap.size w W) => ValidTurner_any v t W (keepsT _ _ _ _ h hb)
  obtain ⟨L, S, mv⟩ := t
  obtain ⟨m, rfl, hm⟩ := h
  obtain ⟨A, cap, rfl, a1, a2, a3⟩ := RdL.open hm
  unfold maxLen at a2
  simp only at *
  have HV := Lib.hid hV
  clear hV hm
  have hx := Row.new w [.int .i64 L, .int .i64 S, .slice A mv.length cap] 29
  have HR := Lib.hid hx
  have HB := Lib.hid (below_alloc w (.cells #[.int .i64 L, .int .i64 S, .slice A mv.length cap] 29))
  clear hx
  have cc1 := taWalkYes
  have cc2 := taWalkNo
  by_cases hok : okT ⟨L, S, mv⟩ = true
  · obtain ⟨l1, l2, n1, n2, -, -, hlen, hmove⟩ := okT_out hok
    simp only at l1 l2 n1 n2 hlen hmove
    have HL := Lib.hid hlen
    have HMV := Lib.hid hmove
    have HOK := Lib.hid hok
    clear hlen hmove
    go_enter Try.func36, Try.ntmps36
    go_wp2_with fail
    refine (HV.out _ HB.out).mono ?_
    generalize w.alloc (.cells #[.int .i64 L, .int .i64 S, .slice A mv.length cap] 29) = W0 at *
    rintro e w1 ⟨rfl, hb1⟩
    have HB1 := Lib.hid hb1
    obtain ⟨⟨b0, b1, b2⟩, -⟩ := (HR.out.below hb1 HR.out.lt).three
    clear hb1
    go_wp2
    clear hok
    go_loopw [17] (fun i wr => ∃ s : Nat, s ≤ mv.length ∧ i = .int .i64 s ∧ Below W0.heap.size W0 wr ∧ (mv.take s).all (goodRow L) = true) (fun i _ => mv.length - (intOf i).toNat)
    case atStart => exact ⟨0, Nat.zero_le _, rfl, HB1.out, by simp⟩
    case round =>
      clear b0 b1 b2
      obtain ⟨s, hs, rfl, hb, hp⟩ := hrel
      have HP := Lib.hid hp; clear hp
      have HQ := Lib.hid hb
      by_cases hlt : s < mv.length
      · obtain ⟨b, off, u, x, rfl, hx, hc, hR⟩ := a3 s hlt
        obtain ⟨C, capx, rfl, x1, x2, x3⟩ := RdP.open hR
        unfold maxLen at x2
        have HW := Lib.hid (below_step HB.out hb)
        have gc := below_keep HW.out hc
        have HX := Lib.hid hx
        have hxl : (x.length : Int) = L + 2 := HL.out s x hx
        have HXL := Lib.hid hxl
        clear hc hx hR hb a3 hxl
        have i1 : (0 : Int) ≤ s := by omega
        have i2 : (s : Int) < mv.length := by omega
        go_wp2
        go_loopw [23] (fun i wi => ∃ k : Nat, k ≤ x.length ∧ i = .int .i64 k ∧ Below W0.heap.size W0 wi ∧ goodTo L x k = true) (fun i _ => x.length - (intOf i).toNat)
        case atStart => exact ⟨0, Nat.zero_le _, rfl, HQ.out, by simp [goodTo]⟩
        case round =>
          clear gc
          obtain ⟨k, hk, rfl, hq, hp⟩ := hrel
          have HP2 := Lib.hid hp; clear hp
          have HQ2 := Lib.hid hq
          by_cases hklt : k < x.length
          · obtain ⟨bx, offx, tx, ty, rfl, ht, hct, hdt⟩ := x3 k hklt
            have HW2 := Lib.hid (below_step HB.out hq)
            have gt := below_keep HW2.out hct
            have gd := below_keep HW2.out hdt
            have HT := Lib.hid ht
            have HBX := Lib.hid (okMove_out (HMV.out s x k (tx, ty) HX.out ht))
            clear hct hdt ht x3 hq
            have j1 : (0 : Int) ≤ k := by omega
            have j2 : (k : Int) < x.length := by omega
            have HD := Lib.hid (deedOf_any tx ty (wr.alloc (.cells #[.int .i64 tx, .int .i64 ty] 66)))
            by_cases hst : tx = -1 ∨ tx = -2
            · have hbad : badMove L k (tx, ty) = false := by unfold badMove; rw [decide_eq_false_iff_not]; intro h0; have := h0.1; simp only at this; omega
              have hdv : ∃ bb, deedV (tx, ty) = .iface 77 (.agg #[.bool bb]) := by
                rcases hst with rfl | rfl
                · exact ⟨true, by simp [deedV, stopV]⟩
                · exact ⟨false, by simp [deedV, stopV]⟩
              obtain ⟨bb, hdv⟩ := hdv
              have HDV := Lib.hid hdv
              have HBAD := Lib.hid hbad
              clear hdv hbad hst
              go_wp2_with fail
              refine HD.out.mono ?_
              rintro e w2 ⟨rfl, hb2⟩
              rw [HDV.out]
              have HB2 := Lib.hid (below_step (below_alloc wr _) hb2)
              obtain ⟨⟨b0, b1, b2⟩, -⟩ := (HR.out.below (below_step HQ2.out HB2.out) HR.out.lt).three
              have lt2 : w.heap.size < w2.heap.size := Nat.lt_of_lt_of_le HR.out.lt (Nat.le_trans HQ2.out.size HB2.out.size)
              clear hb2 HD
              go_wp2_with (go_at_call 47; refine (rightMark_any _ _ (by omega) (by omega)).mono ?_; rintro e w' ⟨rfl, rfl⟩)
              all_goals
                go_roundw
                case rel => exact ⟨k + 1, by omega, by go_num, below_step HQ2.out (below_step HB2.out (below_alloc _ _)), goodTo_succ HT.out HP2.out HBAD.out⟩
                case measure => simp [intOf]; omega
            · have hdv : deedV (tx, ty) = .iface 75 (.agg #[.int .i64 tx, .int .i64 ty]) := by
                simp only [not_or] at hst; simp [deedV, walkV, hst.1, hst.2]
              have htx : 0 ≤ tx := by have := HBX.out; simp only at this; omega
              have HDV := Lib.hid hdv
              clear hdv hst
              go_wp2_with fail
              refine HD.out.mono ?_
              rintro e w2 ⟨rfl, hb2⟩
              rw [HDV.out]
              have HB2 := Lib.hid (below_step (below_alloc wr _) hb2)
              obtain ⟨⟨b0, b1, b2⟩, -⟩ := (HR.out.below (below_step HQ2.out HB2.out) HR.out.lt).three
              have lt2 : w.heap.size < w2.heap.size := Nat.lt_of_lt_of_le HR.out.lt (Nat.le_trans HQ2.out.size HB2.out.size)
              clear hb2 HD
              go_wp2_with (go_at_call 47; refine (rightMark_any _ _ (by omega) (by omega)).mono ?_; rintro e w' ⟨rfl, rfl⟩)
              all_goals first
                | (go_ret2
                   exact ⟨ret_pair (by have hb : badMove L k (tx, ty) = true := (by unfold badMove; rw [decide_eq_true_iff]; simp_all <;> omega); simp only [oneWayRes, HOK.out, if_true]; rw [oneWay_not (t := ⟨L, S, mv⟩) HX.out (goodRow_not HT.out hb)]; rfl) (by simp [oneWayRes, HOK.out]), below_step HB.out (below_step HQ2.out (below_step HB2.out (below_alloc _ _)))⟩)
                | (go_roundw
                   case rel => exact ⟨k + 1, by omega, by go_num, below_step HQ2.out (below_step HB2.out (below_alloc _ _)), goodTo_succ HT.out HP2.out (by unfold badMove; rw [decide_eq_false_iff_not]; simp_all <;> omega)⟩
                   case measure => simp [intOf]; omega)
          · clear x3 hq
            go_wp2
            go_roundw
            case rel => exact ⟨s + 1, by omega, by go_num, HQ2.out, all_snoc HX.out HP.out (by unfold goodRow; have := HP2.out; rwa [show k = x.length by omega] at this)⟩
            case measure => simp [intOf]; omega
      · clear hb a3
        go_wp2
        go_ret2
        exact ⟨ret_pair (by simp only [oneWayRes, HOK.out, if_true]; have := HP.out; rw [List.take_of_length_le (by omega)] at this; rw [show oneWay ⟨L, S, mv⟩ = true from this]; rfl) (by simp [oneWayRes, HOK.out]), below_step HB.out HQ.out⟩
  · have hok' : okT ⟨L, S, mv⟩ = false := by simpa using hok
    clear hok
    go_enter Try.func36, Try.ntmps36
    go_wp2_with fail
    refine (HV.out _ HB.out).mono ?_
    rintro e w1 ⟨rfl, hb1⟩
    have HOK := Lib.hid hok'
    go_wp2
    go_ret2
    exact ⟨ret_pair (by simp [oneWayRes, HOK.out]) (by simp [oneWayRes, HOK.out]), below_step HB.out hb1⟩
end Go.Proofs.Ytfkicedhjipfmaa
