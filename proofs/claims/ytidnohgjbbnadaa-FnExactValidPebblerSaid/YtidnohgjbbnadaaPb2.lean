/-
  The program's test of a pebbler: true just for what 'okB' says.
-/
import Derived.Test.YtidnohgjbbnadaaPb1
import Derived.Test.YtidnohgjbbnadaaV2
namespace Go.Proofs.Ytidnohgjbbnadaa
open Go.RowKit

theorem frameIsStateB_any (L n S s : Int) (w : World) :
    Calls Try.prog 86 #[.agg #[.int .i64 L, .int .i64 n, .int .i64 S], .int .i64 s] w fun e w' => e = .returned (.bool (within s 0 (n - 1))) ∧ Below w.heap.size w w' := by
  have HB := Lib.hid (below_alloc w (.cells #[.int .i64 L, .int .i64 n, .int .i64 S] 95))
  go_enter Try.func86, Try.ntmps86
  go_wp2_with (go_at_call 97; refine (isState_w _ _ _).mono ?_; rintro e w' ⟨rfl, rfl⟩)
  go_ret
  exact ⟨rfl, HB.out⟩
def okFrameB (L n S most : Int) : Bool := decide (1 ≤ L ∧ L ≤ 3) && (decide (n ≤ most) && within S 0 (n - 1))
theorem frameIsValidB_any (L n S most : Int) (w : World) :
    Calls Try.prog 64 #[.agg #[.int .i64 L, .int .i64 n, .int .i64 S], .int .i64 most] w fun e w' => e = .returned (.bool (okFrameB L n S most)) ∧ Below w.heap.size w w' := by
  have HB := Lib.hid (below_alloc w (.cells #[.int .i64 L, .int .i64 n, .int .i64 S] 95))
  by_cases h1 : 1 ≤ L ∧ L ≤ 3
  · have d1 : decide (1 ≤ L ∧ L ≤ 3) = true := decide_eq_true h1
    by_cases h2 : n ≤ most
    · have d2 : decide (n ≤ most) = true := decide_eq_true h2
      have HE := Lib.hid (show okFrameB L n S most = within S 0 (n - 1) by simp [okFrameB, d1, d2])
      clear h1
      go_enter Try.func64, Try.ntmps64
      go_wp2_with (first | (go_at_call 92; refine (validLetters_any _ _).mono ?_; rintro e w' ⟨rfl, rfl⟩) | (go_at_call 86; refine (frameIsStateB_any _ _ _ _ _).mono ?_; rintro e w' ⟨rfl, hb⟩; have HB1 := Lib.hid (below_step HB.out hb)))
      go_ret
      exact ⟨ret_bool HE.out.symm, HB1.out⟩
    · have d2 : decide (n ≤ most) = false := decide_eq_false h2
      have HE := Lib.hid (show okFrameB L n S most = false by simp [okFrameB, d2])
      clear h1 h2
      go_enter Try.func64, Try.ntmps64
      go_wp2_with (go_at_call 92; refine (validLetters_any _ _).mono ?_; rintro e w' ⟨rfl, rfl⟩)
      go_ret
      exact ⟨ret_bool HE.out.symm, HB.out⟩
  · have d1 : decide (1 ≤ L ∧ L ≤ 3) = false := decide_eq_false h1
    have HE := Lib.hid (show okFrameB L n S most = false by simp [okFrameB, d1])
    clear h1
    go_enter Try.func64, Try.ntmps64
    go_wp2_with (go_at_call 92; refine (validLetters_any _ _).mono ?_; rintro e w' ⟨rfl, rfl⟩)
    go_ret
    exact ⟨ret_bool HE.out.symm, HB.out⟩
/-- A pebbler with its frame. -/
theorem carrierOf_any (L S : Int) (A : Option Addr) (n ka : Nat) (w : World) (hn : (n : Int) ≤ 9223372036854775807) :
    Calls Try.prog 63 #[.agg #[.int .i64 L, .int .i64 S, .slice A n ka]] w fun e w' => e = .returned (.agg #[.int .i64 L, .int .i64 n, .int .i64 S, .slice A n ka]) ∧ Below w.heap.size w w' := by
  have HB := Lib.hid (show Below w.heap.size w ((w.alloc (.cells #[.int .i64 L, .int .i64 S, .slice A n ka] 48)).alloc (.cells #[.int .i64 L, .int .i64 n, .int .i64 S, .slice A n ka] 97)) from below_step (below_alloc _ _) (below_alloc _ _))
  have hr := (Row.new (w.alloc (.cells #[.int .i64 L, .int .i64 S, .slice A n ka] 48)) [.int .i64 L, .int .i64 n, .int .i64 S, .slice A n ka] 97).four
  rw [show (w.alloc (.cells #[.int .i64 L, .int .i64 S, .slice A n ka] 48)).heap.size = w.heap.size + 1 by simp] at hr
  obtain ⟨⟨c0, c1, c2, c3⟩, -⟩ := hr
  go_enter Try.func63, Try.ntmps63
  go_wp2
  refine bodyPost_ret (v := .agg #[.int .i64 L, .int .i64 n, .int .i64 S, .slice A n ka]) (by simp [results, Try.results63, go_sem, c0, c1, c2, c3]) rfl ?_
  exact ⟨rfl, HB.out⟩
theorem canDo_any (x y z : Int) (h : Bool) (w : World) :
    Calls Try.prog 67 #[.agg #[.int .i64 x, .int .i64 y, .int .i64 z], .bool h] w fun e w' => e = .returned (.bool (canDoB h (x, y, z))) ∧ Below w.heap.size w w' := by
  cases h
  all_goals
    go_enter Try.func67, Try.ntmps67
    go_wp2
    all_goals go_ret
    all_goals refine ⟨ret_bool ?_, below_alloc _ _⟩
    all_goals rw [Bool.eq_iff_iff]
    all_goals simp_all [canDoB]
    all_goals omega

/-- The two boxes of the program's test. -/
def PbI (w : World) (p1 : Nat) (cR cS : List Value) (wr : World) : Prop :=
  Below w.heap.size w wr ∧ Row wr w.heap.size 48 cR ∧ Row wr p1 97 cS
theorem PbI.below {w : World} {p1 : Nat} {cR cS : List Value} {wr w' : World} (h : PbI w p1 cR cS wr) (hb : Below wr.heap.size wr w') : PbI w p1 cR cS w' :=
  ⟨below_step h.1 hb, h.2.1.below hb h.2.1.lt, h.2.2.below hb h.2.2.lt⟩

set_option maxHeartbeats 3200000 in
theorem ValidPebbler_any (v : Value) (t : PbData) (w : World) (h : RdPb w v t) :
    Calls Try.prog 23 #[v] w fun e w' => e = .returned (.bool (okB t)) ∧ Below w.heap.size w w' := by
  obtain ⟨L, S, mv⟩ := t
  obtain ⟨vm, rfl, hm⟩ := h
  simp only at hm
  obtain ⟨A, ka, rfl, a1, a2, a3⟩ := RdL.open hm
  unfold maxLen at a2
  have HR := Lib.hid (Row.new w [.int .i64 L, .int .i64 S, .slice A mv.length ka] 48)
  have HB := Lib.hid (below_alloc w (.cells #[.int .i64 L, .int .i64 S, .slice A mv.length ka] 48))
  clear hm
  by_cases hok : okFrameB L mv.length S 8 = true
  · have HV := Lib.hid (fun W => frameIsValidB_any L mv.length S 8 W)
    rw [hok] at HV
    have hok2 := hok
    simp only [okFrameB, Bool.and_eq_true, decide_eq_true_eq, within] at hok2
    obtain ⟨⟨l1, l2⟩, n8, s1, s2⟩ := hok2
    clear hok
    go_enter Try.func23, Try.ntmps23
    go_wp2_with fail
    refine (carrierOf_any _ _ _ _ _ _ (by omega)).mono ?_
    rintro e w1 ⟨rfl, hb1⟩
    have hR1 := HR.out.below hb1 HR.out.lt
    have HR1 := Lib.hid hR1
    have HB1 := Lib.hid (below_step HB.out hb1)
    have lt1 := hR1.lt
    clear hR1 hb1 HR HB
    go_wp2_with fail
    refine (HV.out _).mono ?_
    rintro e w2 ⟨rfl, hb2⟩
    have hS2 := (Row.new w1 [.int .i64 L, .int .i64 mv.length, .int .i64 S, .slice A mv.length ka] 97).below hb2 (Row.new w1 _ _).lt
    have hR2 := (HR1.out.alloc _).below hb2 (HR1.out.alloc _).lt
    have HI := Lib.hid (show PbI w w1.heap.size _ _ w2 from ⟨below_step HB1.out (below_step (below_alloc w1 _) hb2), hR2, hS2⟩)
    obtain ⟨⟨c0, c1, c2⟩, -⟩ := hR2.three
    have lt2 := hR2.lt
    clear hb2 hR2 hS2 HR1 HB1
    generalize w1.heap.size = p1 at *
    go_wp2
    go_loopw [19] (fun i wr => ∃ s : Nat, s ≤ mv.length ∧ i = .int .i64 s ∧ PbI w p1 [.int .i64 L, .int .i64 S, .slice A mv.length ka] [.int .i64 L, .int .i64 mv.length, .int .i64 S, .slice A mv.length ka] wr ∧ (mv.take s).all (okPMRow mv.length L) = true) (fun i _ => mv.length - (intOf i).toNat)
    case atStart => exact ⟨0, Nat.zero_le _, rfl, HI.out, by simp⟩
    case round =>
      clear HI c0 c1 c2 lt2
      obtain ⟨s, hs, rfl, hI, hp⟩ := hrel
      have HP := Lib.hid hp; clear hp
      have HI := Lib.hid hI
      obtain ⟨⟨c0, c1, c2⟩, -⟩ := hI.2.1.three
      have ltR := hI.2.1.lt
      by_cases hlt : s < mv.length
      · obtain ⟨b, off, u, x, rfl, hx, hc, hR⟩ := a3 s hlt
        obtain ⟨C, capx, rfl, x1, x2, x3⟩ := Rd3.open hR
        unfold maxLen at x2
        have gc := below_keep hI.1 hc
        have HX := Lib.hid hx
        have HCS := Lib.hid (fun W => countSigns_any L W (by omega) (by omega))
        have i1 : (0 : Int) ≤ s := by omega
        have i2 : (s : Int) < mv.length := by omega
        clear hc hx hR a3 hI
        by_cases hxl : (x.length : Int) = 2 * (L + 2)
        · have d5 : ((x.length : Int) != 2 * (L + 2)) = false := by simpa using hxl
          have HXL := Lib.hid hxl
          have hle1 : (x.length : Int) ≤ 10 := by omega
          clear hxl
          go_wp2_with (go_at_call 65; refine (HCS.out _).mono ?_; rintro e w' ⟨rfl, rfl⟩)
          clear d5
          go_loopw [32] (fun i wi => ∃ k : Nat, k ≤ x.length ∧ i = .int .i64 k ∧ PbI w p1 [.int .i64 L, .int .i64 S, .slice (some ⟨b, off, none⟩) mv.length ka] [.int .i64 L, .int .i64 mv.length, .int .i64 S, .slice (some ⟨b, off, none⟩) mv.length ka] wi ∧ okPMsTo mv.length L x k = true) (fun i _ => x.length - (intOf i).toNat)
          case atStart => exact ⟨0, Nat.zero_le _, rfl, HI.out, by simp [okPMsTo]⟩
          case round =>
            clear c0 c1 c2 gc ltR HI
            obtain ⟨k, hk, rfl, hI, hp⟩ := hrel
            have HP2 := Lib.hid hp; clear hp
            by_cases hklt : k < x.length
            · obtain ⟨bx, offx, tx, ty, tz, rfl, ht, hct, hdt, het⟩ := x3 k hklt
              have gt := below_keep hI.1 hct
              have gd := below_keep hI.1 hdt
              have ge := below_keep hI.1 het
              have HT := Lib.hid ht
              have j1 : (0 : Int) ≤ k := by omega
              have j2 : (k : Int) < x.length := by omega
              have HMV := Lib.hid (fun W => isMove_any tx ty mv.length L ((k : Int) / 2) W (by omega) (by omega) l1 l2)
              have HCD := Lib.hid (fun W => canDo_any tx ty tz ((k : Int).tmod 2 == 1) W)
              have hIb := hI.below (below_alloc wr (.cells #[.int .i64 tx, .int .i64 ty, .int .i64 tz] 102))
              have hbx := Row.new wr [.int .i64 tx, .int .i64 ty, .int .i64 tz] 102
              obtain ⟨⟨e0, e1, e2⟩, -⟩ := hbx.three
              obtain ⟨⟨q0, q1, q2, q3⟩, -⟩ := hIb.2.2.four
              have ltS := hIb.2.2.lt
              have HIB := Lib.hid (show _ ∧ _ from ⟨hIb, hbx⟩)
              have hw2 : IntKind.i64.wrap ((k : Int) / 2) = (k : Int) / 2 := IntWalk.i64_in _ (by omega)
              clear hct hdt het ht x3 hI hIb hbx
              by_cases hmv : okMove mv.length L ((k : Int) / 2) (tx, ty) = true
              · rw [hmv] at HMV
                by_cases hcd : canDoB ((k : Int).tmod 2 == 1) (tx, ty, tz) = true
                · rw [hcd] at HCD
                  have HIN := Lib.hid (show okPMat mv.length L k (tx, ty, tz) = true by simp only [okPMat, okPM, hmv, hcd, Bool.and_self])
                  clear hmv hcd
                  go_wp2_with fail
                  refine (HMV.out _).mono ?_
                  rintro e w3 ⟨rfl, hb3⟩
                  have HI3 := Lib.hid (HIB.out.1.below hb3)
                  obtain ⟨⟨y0, y1, y2⟩, -⟩ := (HIB.out.2.below hb3 HIB.out.2.lt).three
                  clear hb3 e0 e1 e2 q0 q1 q2 q3 gt gd ge
                  go_wp2_with fail
                  refine (HCD.out _).mono ?_
                  rintro e w4 ⟨rfl, hb4⟩
                  have HI4 := Lib.hid (HI3.out.below hb4)
                  clear hb4 y0 y1 y2
                  go_wp2
                  go_roundw
                  case rel => exact ⟨k + 1, by omega, by go_num, HI4.out, okPMsTo_succ HT.out HP2.out HIN.out⟩
                  case measure => simp [intOf]; omega
                · have hcd' : canDoB ((k : Int).tmod 2 == 1) (tx, ty, tz) = false := by simpa using hcd
                  rw [hcd'] at HCD
                  have HIN := Lib.hid (show okPMat mv.length L k (tx, ty, tz) = false by simp only [okPMat, okPM, hcd', Bool.and_false])
                  clear hmv hcd hcd'
                  go_wp2_with fail
                  refine (HMV.out _).mono ?_
                  rintro e w3 ⟨rfl, hb3⟩
                  have HI3 := Lib.hid (HIB.out.1.below hb3)
                  obtain ⟨⟨y0, y1, y2⟩, -⟩ := (HIB.out.2.below hb3 HIB.out.2.lt).three
                  clear hb3 e0 e1 e2 q0 q1 q2 q3 gt gd ge
                  go_wp2_with fail
                  refine (HCD.out _).mono ?_
                  rintro e w4 ⟨rfl, hb4⟩
                  have HI4 := Lib.hid (HI3.out.below hb4)
                  clear hb4 y0 y1 y2
                  go_wp2
                  go_ret
                  exact ⟨ret_bool (okB_row (t := ⟨L, S, mv⟩) HX.out (by unfold okPMRow; rw [okPMsTo_not HT.out HIN.out, Bool.and_false])).symm, HI4.out.1⟩
              · have hmv' : okMove mv.length L ((k : Int) / 2) (tx, ty) = false := by simpa using hmv
                rw [hmv'] at HMV
                have HIN := Lib.hid (show okPMat mv.length L k (tx, ty, tz) = false by simp only [okPMat, okPM, hmv', Bool.false_and])
                clear hmv hmv'
                go_wp2_with fail
                refine (HMV.out _).mono ?_
                rintro e w3 ⟨rfl, hb3⟩
                have HI3 := Lib.hid (HIB.out.1.below hb3)
                clear hb3 e0 e1 e2 q0 q1 q2 q3 gt gd ge
                go_wp2
                go_ret
                exact ⟨ret_bool (okB_row (t := ⟨L, S, mv⟩) HX.out (by unfold okPMRow; rw [okPMsTo_not HT.out HIN.out, Bool.and_false])).symm, HI3.out.1⟩
            · have HI5 := Lib.hid hI
              clear x3 hI
              go_wp2
              go_roundw
              case rel => exact ⟨s + 1, by omega, by go_num, HI5.out, all_snoc HX.out HP.out (okPRow_of HXL.out (by have := HP2.out; rwa [show k = x.length by omega] at this))⟩
              case measure => simp [intOf]; omega
        · have d5 : ((x.length : Int) != 2 * (L + 2)) = true := by simpa using hxl
          have HXL := Lib.hid hxl
          clear hxl
          go_wp2_with (go_at_call 65; refine (HCS.out _).mono ?_; rintro e w' ⟨rfl, rfl⟩)
          go_ret
          exact ⟨ret_bool (okB_row (t := ⟨L, S, mv⟩) HX.out (by simp [okPMRow, HXL.out])).symm, HI.out.1⟩
      · clear hI a3
        go_wp2
        go_ret
        exact ⟨ret_bool (okB_all (t := ⟨L, S, mv⟩) (decide_eq_true ⟨l1, l2⟩) (decide_eq_true (show 1 ≤ (mv.length : Int) ∧ (mv.length : Int) ≤ 8 from ⟨by omega, n8⟩)) (decide_eq_true (show 0 ≤ S ∧ S ≤ (mv.length : Int) - 1 from ⟨s1, s2⟩)) (by have := HP.out; rwa [List.take_of_length_le (by omega)] at this)).symm, HI.out.1⟩
  · have hok' : okFrameB L mv.length S 8 = false := by simpa using hok
    have HV := Lib.hid (fun W => frameIsValidB_any L mv.length S 8 W)
    rw [hok'] at HV
    have HE := Lib.hid (show okB ⟨L, S, mv⟩ = false by
      rw [← Bool.not_eq_true]; intro hk
      simp only [okB, Bool.and_eq_true, decide_eq_true_eq] at hk
      obtain ⟨l1, l2, l3, -⟩ := hk
      rw [okFrameB, decide_eq_true l1, decide_eq_true l2.2, within, decide_eq_true l3] at hok'
      simp at hok')
    clear hok hok'
    go_enter Try.func23, Try.ntmps23
    go_wp2_with fail
    refine (carrierOf_any _ _ _ _ _ _ (by omega)).mono ?_
    rintro e w1 ⟨rfl, hb1⟩
    have HB1 := Lib.hid (below_step HB.out hb1)
    clear hb1 HR HB
    go_wp2_with fail
    refine (HV.out _).mono ?_
    rintro e w2 ⟨rfl, hb2⟩
    have HB2 := Lib.hid (below_step HB1.out (below_step (below_alloc w1 _) hb2))
    clear hb2
    go_wp2_with fail
    go_ret
    exact ⟨ret_bool HE.out.symm, HB2.out⟩
end Go.Proofs.Ytidnohgjbbnadaa
