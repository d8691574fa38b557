/-
  The program's test of a writer: true just for what 'okWr' says.
-/
import Derived.Test.YtahgekjpnmmooaaWr1
import Derived.Deep.RegionLaw
import Derived.Test.YtahgekjpnmmooaaV5
import Derived.Test.YtahgekjpnmmooaaTd1
namespace Go.Proofs.Ytahgekjpnmmooaa
open Go.RowKit

theorem scribeOf_any (L S : Int) (A B : Option Addr) (n m ka kb : Nat) (w : World) :
    Calls Try.prog 53 #[.agg #[.int .i64 L, .int .i64 S, .slice A n ka, .slice B m kb]] w fun e w' => e = .returned (.agg #[.int .i64 L, .int .i64 S, .slice A n ka, .slice B m kb]) ∧ Below w.heap.size w w' := by
  have HB := Lib.hid (show Below w.heap.size w ((w.alloc (.cells #[.int .i64 L, .int .i64 S, .slice A n ka, .slice B m kb] 27)).alloc (.cells #[.int .i64 L, .int .i64 S, .slice A n ka, .slice B m kb] 80)) from below_step (below_alloc _ _) (below_alloc _ _))
  have hr := (Row.new (w.alloc (.cells #[.int .i64 L, .int .i64 S, .slice A n ka, .slice B m kb] 27)) [.int .i64 L, .int .i64 S, .slice A n ka, .slice B m kb] 80).four
  rw [show (w.alloc (.cells #[.int .i64 L, .int .i64 S, .slice A n ka, .slice B m kb] 27)).heap.size = w.heap.size + 1 by simp] at hr
  obtain ⟨⟨c0, c1, c2, c3⟩, -⟩ := hr
  go_enter Try.func53, Try.ntmps53
  go_wp2
  refine bodyPost_ret (v := .agg #[.int .i64 L, .int .i64 S, .slice A n ka, .slice B m kb]) (by simp [results, Try.results53, go_sem, c0, c1, c2, c3]) rfl ?_
  exact ⟨rfl, HB.out⟩

/-- The two boxes of the program's test. -/
def WrI (w : World) (p1 : Nat) (cR cS : List Value) (wr : World) : Prop :=
  Below w.heap.size w wr ∧ Row wr w.heap.size 27 cR ∧ Row wr p1 80 cS
theorem WrI.below {w : World} {p1 : Nat} {cR cS : List Value} {wr w' : World} (h : WrI w p1 cR cS wr) (hb : Below wr.heap.size wr w') : WrI w p1 cR cS w' :=
  ⟨below_step h.1 hb, h.2.1.below hb h.2.1.lt, h.2.2.below hb h.2.2.lt⟩

set_option maxHeartbeats 3200000 in
theorem ValidWriter_any (v : Value) (t : WrData) (w : World) (h : RdWr w v t) :
    Calls Try.prog 51 #[v] w fun e w' => e = .returned (.bool (okWr t)) ∧ Below w.heap.size w w' := by
  obtain ⟨L, S, mv, out⟩ := t
  obtain ⟨vm, vo, rfl, hm, ho⟩ := h
  simp only at hm ho
  obtain ⟨A, ka, rfl, a1, a2, -⟩ := RdL.open hm
  obtain ⟨B, kb, rfl, b1, b2, b3⟩ := RdL.open ho
  unfold maxLen at a2 b2
  have HR := Lib.hid (Row.new w [.int .i64 L, .int .i64 S, .slice A mv.length ka, .slice B out.length kb] 27)
  have HB := Lib.hid (below_alloc w (.cells #[.int .i64 L, .int .i64 S, .slice A mv.length ka, .slice B out.length kb] 27))
  have HV := Lib.hid (fun W (hb : Below w.heap.size w W) => ValidTurner_any (.agg #[.int .i64 L, .int .i64 S, .slice A mv.length ka]) ⟨L, S, mv⟩ W ⟨_, rfl, keepsPP _ _ _ _ hm hb⟩)
  have HST := Lib.hid (fun W (hb : Below w.heap.size w W) => states_any (.agg #[.int .i64 L, .int .i64 S, .slice A mv.length ka]) ⟨L, S, mv⟩ W ⟨_, rfl, keepsPP _ _ _ _ hm hb⟩)
  have HOO := Lib.hid ho
  clear hm ho
  have go : ∀ b, okT ⟨L, S, mv⟩ = b → _ := fun b hb => hb
  by_cases hok : okT ⟨L, S, mv⟩ = true
  · have l1 := (okT_out hok).l1
    have l2 := (okT_out hok).l2
    have n2 := (okT_out hok).n2
    simp only at l1 l2 n2
    have HV1 := Lib.hid (fun W (hb : Below w.heap.size w W) => (HV.out W hb).mono (fun e w' (h : _ ∧ _) => (⟨by rw [h.1, hok], h.2⟩ : e = .returned (.bool true) ∧ Below W.heap.size W w')))
    have HOK := Lib.hid hok
    clear hok HV go
    go_enter Try.func51, Try.ntmps51
    go_wp2_with fail
    refine (scribeOf_any _ _ _ _ _ _ _ _ _).mono ?_
    rintro e w1 ⟨rfl, hb1⟩
    have hR1 := HR.out.below hb1 HR.out.lt
    have HB1 := Lib.hid (below_step HB.out hb1)
    have hS1 := Row.new w1 [.int .i64 L, .int .i64 S, .slice A mv.length ka, .slice B out.length kb] 80
    have HI1 := Lib.hid (show WrI w w1.heap.size _ _ (w1.alloc (.cells #[.int .i64 L, .int .i64 S, .slice A mv.length ka, .slice B out.length kb] 80)) from ⟨below_step HB1.out (below_alloc w1 _), hR1.alloc _, hS1⟩)
    obtain ⟨⟨c0, c1, c2, c3⟩, -⟩ := hS1.four
    clear hb1 hR1 hS1 HR HB
    go_wp2_with fail
    generalize w1.alloc (.cells #[.int .i64 L, .int .i64 S, .slice A mv.length ka, .slice B out.length kb] 80) = W0 at *
    generalize w1.heap.size = p1 at *
    have HB0 := Lib.hid HI1.out.1
    by_cases hl : (out.length : Int) = mv.length
    · have hl' : ((out.length : Int) != (mv.length : Int)) = false := by simpa using hl
      have HL := Lib.hid hl
      clear hl
      go_region_held3 (fun W => W.cell? ⟨p1, 0, none⟩ = some (.int .i64 L) ∧ W.cell? ⟨p1, 1, none⟩ = some (.int .i64 S) ∧ W.cell? ⟨p1, 2, none⟩ = some (.slice A mv.length ka) ∧ W.cell? ⟨p1, 3, none⟩ = some (.slice B out.length kb))
        (first | go_keep | (go_split_ands; refine ⟨?_, ?_, ?_, ?_⟩ <;> exact below_keep hbk (by assumption)))
        (first
          | (go_at_call 77; (with_reducible refine (HV1.out _ (below_step HB0.out (by first | exact Below.refl _ _ | exact below_drew _ | exact below_drewN' _ _))).mono ?_); rintro e wy ⟨rfl, hbk⟩; have HC1 := Lib.hid (show Below W0.heap.size W0 wy from below_step (by first | exact Below.refl _ _ | exact below_drew _ | exact below_drewN' _ _) hbk))
          | (go_at_call 55; (with_reducible refine (HST.out _ (below_step HB0.out (below_step HC1.out (by first | exact Below.refl _ _ | exact below_drew _ | exact below_drewN' _ _)))).mono ?_); rintro e wz ⟨rfl, hbk⟩; have HC2 := Lib.hid (below_step HC1.out (below_step (by first | exact Below.refl _ _ | exact below_drew _ | exact below_drewN' _ _) hbk))))
      have HI2 := Lib.hid (HI1.out.below HC2.out)
      clear c0 c1 c2 c3 hl' HC1 HC2 HB0 HI1 HV1 HST
      obtain ⟨⟨c0, c1, c2, c3⟩, -⟩ := HI2.out.2.2.four
      go_wp2
      go_loopw [24] (fun i wr => ∃ s : Nat, s ≤ out.length ∧ i = .int .i64 s ∧ WrI w p1 [.int .i64 L, .int .i64 S, .slice A mv.length ka, .slice B out.length kb] [.int .i64 L, .int .i64 S, .slice A mv.length ka, .slice B out.length kb] wr ∧ (out.take s).all (okRowWr L) = true) (fun i _ => out.length - (intOf i).toNat)
      case atStart => exact ⟨0, Nat.zero_le _, rfl, HI2.out, by simp⟩
      case round =>
        clear HI2 c0 c1 c2 c3
        obtain ⟨s, hs, rfl, hI, hp⟩ := hrel
        have HP := Lib.hid hp; clear hp
        have HI := Lib.hid hI
        obtain ⟨⟨c0, c1, c2, c3⟩, -⟩ := hI.2.2.four
        by_cases hlt : s < out.length
        · obtain ⟨b, off, u, x, rfl, hx, hc, hR⟩ := b3 s hlt
          have hR' := keepsS _ _ _ _ hR hI.1
          obtain ⟨C, capx, rfl, x1, x2, -⟩ := RdS.open hR
          unfold maxLen at x2
          have gc := below_keep hI.1 hc
          have HX := Lib.hid hx
          have HCS := Lib.hid (fun W => countSigns_any L W (by omega) (by omega))
          have HAO := Lib.hid (areOuts_any _ x wr hR')
          have i1 : (0 : Int) ≤ s := by omega
          have i2 : (s : Int) < out.length := by omega
          clear hc hx hR hR' b3 hI
          by_cases hxl : (x.length : Int) = L + 2
          · have d5 : ((x.length : Int) != L + 2) = false := by simpa using hxl
            have HXL := Lib.hid hxl
            clear hxl
            by_cases hto : textsOk x = true
            · rw [hto] at HAO
              have HTO := Lib.hid hto
              clear hto
              go_wp2_with (first | (go_at_call 67; refine (HCS.out _).mono ?_; rintro e w' ⟨rfl, rfl⟩) | (go_at_call 60; refine HAO.out.mono ?_; rintro e w' ⟨rfl, rfl⟩))
              go_roundw
              case rel => exact ⟨s + 1, by omega, by go_num, HI.out, all_snoc HX.out HP.out (by simp [okRowWr, HXL.out, HTO.out])⟩
              case measure => simp [intOf]; omega
            · have hto' : textsOk x = false := by simpa using hto
              rw [hto'] at HAO
              have HTO := Lib.hid hto'
              clear hto hto'
              go_wp2_with (first | (go_at_call 67; refine (HCS.out _).mono ?_; rintro e w' ⟨rfl, rfl⟩) | (go_at_call 60; refine HAO.out.mono ?_; rintro e w' ⟨rfl, rfl⟩))
              go_ret
              exact ⟨ret_bool (okWr_row (r := ⟨L, S, mv, out⟩) HX.out (by simp [okRowWr, HTO.out])).symm, HI.out.1⟩
          · have d5 : ((x.length : Int) != L + 2) = true := by simpa using hxl
            have HXL := Lib.hid hxl
            clear hxl
            go_wp2_with (go_at_call 67; refine (HCS.out _).mono ?_; rintro e w' ⟨rfl, rfl⟩)
            go_ret
            exact ⟨ret_bool (okWr_row (r := ⟨L, S, mv, out⟩) HX.out (by simp [okRowWr, HXL.out])).symm, HI.out.1⟩
        · clear b3 hI
          go_wp2
          go_ret
          exact ⟨ret_bool (okWr_all (r := ⟨L, S, mv, out⟩) HOK.out HL.out (by have := HP.out; rwa [List.take_of_length_le (by omega)] at this)).symm, HI.out.1⟩
    · have hl' : ((out.length : Int) != (mv.length : Int)) = true := by simpa using hl
      have HL := Lib.hid hl
      clear hl
      go_region_held3 (fun W => W.cell? ⟨p1, 0, none⟩ = some (.int .i64 L) ∧ W.cell? ⟨p1, 1, none⟩ = some (.int .i64 S) ∧ W.cell? ⟨p1, 2, none⟩ = some (.slice A mv.length ka) ∧ W.cell? ⟨p1, 3, none⟩ = some (.slice B out.length kb))
        (first | go_keep | (go_split_ands; refine ⟨?_, ?_, ?_, ?_⟩ <;> exact below_keep hbk (by assumption)))
        (first
          | (go_at_call 77; (with_reducible refine (HV1.out _ (below_step HB0.out (by first | exact Below.refl _ _ | exact below_drew _ | exact below_drewN' _ _))).mono ?_); rintro e wy ⟨rfl, hbk⟩; have HC1 := Lib.hid (show Below W0.heap.size W0 wy from below_step (by first | exact Below.refl _ _ | exact below_drew _ | exact below_drewN' _ _) hbk))
          | (go_at_call 55; (with_reducible refine (HST.out _ (below_step HB0.out (below_step HC1.out (by first | exact Below.refl _ _ | exact below_drew _ | exact below_drewN' _ _)))).mono ?_); rintro e wz ⟨rfl, hbk⟩; have HC2 := Lib.hid (below_step HC1.out (below_step (by first | exact Below.refl _ _ | exact below_drew _ | exact below_drewN' _ _) hbk))))
      clear c0 c1 c2 c3 b3
      go_wp2
      go_ret
      exact ⟨ret_bool (by have := HL.out; simp [okWr, this]), below_step HB0.out HC2.out⟩
  · have hok' : okT ⟨L, S, mv⟩ = false := by simpa using hok
    have HV1 := Lib.hid (fun W (hb : Below w.heap.size w W) => (HV.out W hb).mono (fun e w' (h : _ ∧ _) => (⟨by rw [h.1, hok'], h.2⟩ : e = .returned (.bool false) ∧ Below W.heap.size W w')))
    have HOK := Lib.hid hok'
    clear hok hok' HV go b3
    go_enter Try.func51, Try.ntmps51
    go_wp2_with fail
    refine (scribeOf_any _ _ _ _ _ _ _ _ _).mono ?_
    rintro e w1 ⟨rfl, hb1⟩
    have HB1 := Lib.hid (below_step HB.out hb1)
    have hS1 := Row.new w1 [.int .i64 L, .int .i64 S, .slice A mv.length ka, .slice B out.length kb] 80
    have HB0 := Lib.hid (below_step HB1.out (below_alloc w1 (.cells #[.int .i64 L, .int .i64 S, .slice A mv.length ka, .slice B out.length kb] 80)))
    obtain ⟨⟨c0, c1, c2, c3⟩, -⟩ := hS1.four
    clear hb1 hS1 HR HB
    go_wp2_with fail
    generalize w1.alloc (.cells #[.int .i64 L, .int .i64 S, .slice A mv.length ka, .slice B out.length kb] 80) = W0 at *
    generalize w1.heap.size = p1 at *
    first | go_region_law (first | (go_simp; go_at_call 77; (with_reducible refine (HV1.out _ (below_step HB0.out (by first | exact Below.refl _ _ | exact below_drew _ | exact below_drewN' _ _))).mono ?_); rintro e wy ⟨rfl, hbk⟩; have HC1 := Lib.hid (show Below W0.heap.size W0 wy from below_step (by first | exact Below.refl _ _ | exact below_drew _ | exact below_drewN' _ _) hbk))) | fail
    all_goals
      clear c0 c1 c2 c3
      go_wp2
      go_ret
      exact ⟨ret_bool (by have := HOK.out; simp [okWr, WrData.t, this]), by first | exact below_step HB0.out HC1.out | exact below_drewN (below_step HB0.out HC1.out) _⟩
end Go.Proofs.Ytahgekjpnmmooaa
