/-
  The model's test of a writer: true just for what 'okWr' says.
-/
import Derived.Test.YtahgekjpnmmooaaWr3a
import Derived.Deep.RegionLaw
import Derived.Test.YtahgekjpnmmooaaV5
namespace Go.Proofs.Ytahgekjpnmmooaa
open Go.RowKit

set_option maxHeartbeats 3200000 in
theorem l07Ok_any (p : Nat) (t : WrData) (w : World) (h : AtWr w p t) :
    Calls Try.prog 46 #[.pointer (some ⟨p, 0, none⟩)] w fun e w' => e = .returned (.bool (okWr t)) ∧ Below w.heap.size w w' := by
  have HO := Lib.hid (fun W (hb : Below w.heap.size w W) => l02Ok_any p t.t W (h.t.below hb))
  have HAT := Lib.hid h
  obtain ⟨L, S, mv, out⟩ := t
  obtain ⟨m, o, c0, c1, c2, c3, hm, ho⟩ := h
  simp only at c0 c1 hm ho
  obtain ⟨A, ka, rfl, a1, a2, a3⟩ := RdL.open hm
  obtain ⟨B, kb, rfl, b1, b2, b3⟩ := RdL.open ho
  unfold maxLen at a2 b2
  clear hm ho
  by_cases hok : okT ⟨L, S, mv⟩ = true
  · have l1 := (okT_out hok).l1
    have l2 := (okT_out hok).l2
    simp only at l1 l2
    have HV1 := Lib.hid (fun W (hb : Below w.heap.size w W) => (HO.out W hb).mono (fun e w' (h : _ ∧ _) => (⟨by rw [h.1]; simp only [WrData.t]; rw [hok], h.2⟩ : e = .returned (.bool true) ∧ Below W.heap.size W w')))
    have HOK := Lib.hid hok
    clear hok HO
    have HC := Lib.hid (show _ ∧ _ ∧ _ ∧ _ from ⟨c0, c1, c2, c3⟩)
    by_cases hl : (out.length : Int) = mv.length
    · have hl' : ((out.length : Int) != (mv.length : Int)) = false := by simpa using hl
      have HL := Lib.hid hl
      clear hl
      go_enter Try.func46, Try.ntmps46
      go_wp2_with fail
      go_region_held3 (fun W => W.cell? ⟨p, 0, none⟩ = some (.int .i64 L) ∧ W.cell? ⟨p, 1, none⟩ = some (.int .i64 S) ∧ W.cell? ⟨p, 2, none⟩ = some (.slice A mv.length ka) ∧ W.cell? ⟨p, 3, none⟩ = some (.slice B out.length kb))
        (first | go_keep | (go_split_ands; refine ⟨?_, ?_, ?_, ?_⟩ <;> exact below_keep hbk (by assumption)))
        (first | (go_at_call 74; (with_reducible refine (HV1.out _ (by first | exact Below.refl _ _ | exact below_drew _ | exact below_drewN' _ _)).mono ?_); rintro e wy ⟨rfl, hbk⟩; have HC1 := Lib.hid (show Below w.heap.size w wy from below_step (by first | exact Below.refl _ _ | exact below_drew _ | exact below_drewN' _ _) hbk)))
      clear c0 c1 c2 c3 hl' HV1
      go_wp2
      go_loopw [3] (fun i wr => ∃ s : Nat, s ≤ out.length ∧ i = .int .i64 s ∧ Below w.heap.size w wr ∧ (out.take s).all (okRowWr L) = true) (fun i _ => out.length - (intOf i).toNat)
      case atStart => exact ⟨0, Nat.zero_le _, rfl, by first | exact HC1.out | exact below_drewN HC1.out _, by simp⟩
      case round =>
        obtain ⟨s, hs, rfl, hb, hp⟩ := hrel
        have HP := Lib.hid hp; clear hp
        have HB := Lib.hid hb
        obtain ⟨c0, c1, c2, c3⟩ := HC.out
        have g0 := below_keep hb c0
        have g2 := below_keep hb c2
        have g3 := below_keep hb c3
        clear c0 c1 c2 c3
        by_cases hlt : s < out.length
        · obtain ⟨b, off, u, x, rfl, hx, hc, hR⟩ := b3 s hlt
          obtain ⟨C, capx, rfl, x1, x2, x3⟩ := RdS.open hR
          unfold maxLen at x2
          obtain ⟨b', off', u', y, rfl, hy, hd, hR'⟩ := a3 s (by have := HL.out; omega)
          obtain ⟨C', capy, rfl, -, -, -⟩ := RdP.open hR'
          have gc := below_keep hb hc
          have gd := below_keep hb hd
          have hyl := len_of_row HOK.out hy
          have HX := Lib.hid hx
          have HCC := Lib.hid (show _ ∧ _ from ⟨hc, hd⟩)
          have i1 : (0 : Int) ≤ s := by omega
          have i2 : (s : Int) < out.length := by omega
          have i3 : (s : Int) < mv.length := by have := HL.out; omega
          clear hc hx hR b3 hb a3 hd hR' hy
          by_cases hxl : (x.length : Int) = L + 2
          · have d5 : ((x.length : Int) != (y.length : Int)) = false := by simpa using hxl.trans hyl.symm
            have HXL := Lib.hid hxl
            clear hxl hyl
            go_wp2
            go_quiet (fail)
            clear d5 g0 g2 g3 gc gd
            go_wp2
            go_loopw [4] (fun i wi => ∃ k : Nat, k ≤ x.length ∧ i = .int .i64 k ∧ Below w.heap.size w wi ∧ (x.take k).all textOk = true) (fun i _ => x.length - (intOf i).toNat)
            case atStart => exact ⟨0, Nat.zero_le _, rfl, by first | exact HB.out | exact below_drewN HB.out _, by simp⟩
            case round =>
              obtain ⟨k, hk, rfl, hq, hp⟩ := hrel
              have HP2 := Lib.hid hp; clear hp
              have HQ := Lib.hid hq
              obtain ⟨c0, c1, c2, c3⟩ := HC.out
              have g3 := below_keep hq c3
              have gc := below_keep hq HCC.out.1
              clear c0 c1 c2 c3
              by_cases hklt : k < x.length
              · obtain ⟨bx, offx, z, rfl, hz, hcz⟩ := x3 k hklt
                have gz := below_keep hq hcz
                have HZ := Lib.hid hz
                have j1 : (0 : Int) ≤ k := by omega
                have j2 : (k : Int) < x.length := by omega
                have HT := Lib.hid (fun W => l07Text_any z W)
                clear hcz hz x3 hq
                by_cases hto : textOk z = true
                · rw [hto] at HT
                  have HTO := Lib.hid hto
                  clear hto
                  go_wp2_with (go_at_call 58; refine (HT.out _).mono ?_; rintro e w' ⟨rfl, rfl⟩)
                  go_roundw
                  case rel => exact ⟨k + 1, by omega, by go_num, HQ.out, all_snoc HZ.out HP2.out HTO.out⟩
                  case measure => simp [intOf]; omega
                · have hto' : textOk z = false := by simpa using hto
                  rw [hto'] at HT
                  have HTO := Lib.hid hto'
                  clear hto hto'
                  go_wp2_with (go_at_call 58; refine (HT.out _).mono ?_; rintro e w' ⟨rfl, rfl⟩)
                  go_ret
                  exact ⟨ret_bool (okWr_row (r := ⟨L, S, mv, out⟩) HX.out (by simp [okRowWr, textsOk_not HZ.out HTO.out])).symm, HQ.out⟩
              · clear x3 hq
                go_wp2
                go_roundw
                case rel => exact ⟨s + 1, by omega, by go_num, HQ.out, all_snoc HX.out HP.out (by have := HP2.out; rw [List.take_of_length_le (by omega)] at this; simp [okRowWr, HXL.out, textsOk, this])⟩
                case measure => simp [intOf]; omega
          · have d5 : ((x.length : Int) != (y.length : Int)) = true := by simp; omega
            have HXL := Lib.hid hxl
            clear hxl hyl
            go_wp2
            go_quiet (fail)
            clear d5 g0 g2 g3 gc gd
            go_wp2
            go_ret
            exact ⟨ret_bool (okWr_row (r := ⟨L, S, mv, out⟩) HX.out (by simp [okRowWr, HXL.out])).symm, by first | exact HB.out | exact below_drewN HB.out _⟩
        · clear b3 hb a3
          go_wp2
          go_ret
          exact ⟨ret_bool (okWr_all (r := ⟨L, S, mv, out⟩) HOK.out HL.out (by have := HP.out; rwa [List.take_of_length_le (by omega)] at this)).symm, HB.out⟩
    · have hl' : ((out.length : Int) != (mv.length : Int)) = true := by simpa using hl
      have HL := Lib.hid hl
      clear hl
      go_enter Try.func46, Try.ntmps46
      go_wp2_with fail
      go_region_held3 (fun W => W.cell? ⟨p, 0, none⟩ = some (.int .i64 L) ∧ W.cell? ⟨p, 1, none⟩ = some (.int .i64 S) ∧ W.cell? ⟨p, 2, none⟩ = some (.slice A mv.length ka) ∧ W.cell? ⟨p, 3, none⟩ = some (.slice B out.length kb))
        (first | go_keep | (go_split_ands; refine ⟨?_, ?_, ?_, ?_⟩ <;> exact below_keep hbk (by assumption)))
        (first | (go_at_call 74; (with_reducible refine (HV1.out _ (by first | exact Below.refl _ _ | exact below_drew _ | exact below_drewN' _ _)).mono ?_); rintro e wy ⟨rfl, hbk⟩; have HC1 := Lib.hid (show Below w.heap.size w wy from below_step (by first | exact Below.refl _ _ | exact below_drew _ | exact below_drewN' _ _) hbk)))
      clear c0 c1 c2 c3 b3 a3
      go_wp2
      go_ret
      exact ⟨ret_bool (by have := HL.out; simp [okWr, this]), by first | exact HC1.out | exact below_drewN HC1.out _⟩
  · exact l07Ok_no p ⟨L, S, mv, out⟩ w HAT.out (by simpa [WrData.t] using hok)

end Go.Proofs.Ytahgekjpnmmooaa
