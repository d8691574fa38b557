/-
  Tables: valid ones, by the model and by the program.
-/
import Derived.Test.YtnpbfafcfghmcabVx1
namespace Go.Proofs.Ytnpbfafcfghmcab
open Go.RowKit

/-- A table behind a pointer. -/
def AtX (w : World) (p : Nat) (x : XData) : Prop :=
  ∃ a b, w.cell? ⟨p, 0, none⟩ = some a ∧ w.cell? ⟨p, 1, none⟩ = some b ∧ RdP w a x.fl ∧ RdP w b x.fr
theorem AtX.below {w w' : World} {p : Nat} {x : XData} (h : AtX w p x) (hb : Below w.heap.size w w') : AtX w' p x := by
  obtain ⟨a, b, c0, c1, ha, hb'⟩ := h
  exact ⟨a, b, below_keep hb c0, below_keep hb c1, keepsP _ _ _ _ ha hb, keepsP _ _ _ _ hb' hb⟩
theorem atX_box {w : World} {v : Value} {x : XData} (h : RdX w v x) (e : TypeId) : ∃ a b, v = .agg #[a, b] ∧ AtX (w.alloc (.cells #[a, b] e)) w.heap.size x := by
  obtain ⟨a, b, rfl, ha, hb⟩ := h
  obtain ⟨⟨q0, q1⟩, -⟩ := (Row.new w [a, b] e).two
  exact ⟨a, b, rfl, a, b, q0, q1, keepsP _ _ _ _ ha (below_alloc _ _), keepsP _ _ _ _ hb (below_alloc _ _)⟩

theorem okX_left {x : XData} (h : allE x.fl.length x.fl = false) : okX x = false := by simp [okX, h]
theorem okX_right {x : XData} (h : allE x.fl.length x.fr = false) : okX x = false := by simp [okX, h]

set_option maxHeartbeats 1600000 in
theorem l03Ok_any (p : Nat) (x : XData) (w : World) (h : AtX w p x) :
    Calls Try.prog 21 #[.pointer (some ⟨p, 0, none⟩)] w fun e w' => e = .returned (.bool (okX x)) ∧ Below w.heap.size w w' := by
  obtain ⟨fl, fr⟩ := x
  obtain ⟨a, b, c0, c1, ha, hb⟩ := h
  obtain ⟨A, cap, rfl, a1, a2, a3⟩ := RdP.open ha
  obtain ⟨B, cap', rfl, b1, b2, b3⟩ := RdP.open hb
  unfold maxLen at a2 b2
  simp only at *
  clear ha hb
  by_cases hl : fr.length = fl.length
  · have d1 : ((fr.length : Int) != (fl.length : Int)) = false := by simp [hl]
    have HL := Lib.hid hl
    clear hl
    by_cases h2 : 1 ≤ (fl.length : Int) ∧ (fl.length : Int) ≤ 12
    · have d2 : decide (1 ≤ (fl.length : Int) ∧ (fl.length : Int) ≤ 12) = true := by simpa using h2
      obtain ⟨h2a, h2b⟩ := h2
      go_enter Try.func21, Try.ntmps21
      go_wp2_with (go_at_call 27; refine (l00In_any _ _ _ _).mono ?_; rintro e w' ⟨rfl, rfl⟩)
      have H0 := Lib.hid (show _ ∧ _ from ⟨c0, c1⟩)
      clear c0 c1
      go_loopw [4] (fun i wr => ∃ k : Nat, k ≤ fl.length ∧ i = .int .i64 k ∧ Below w.heap.size w wr ∧ (fl.take k).all (okE fl.length) = true ∧ (fr.take k).all (okE fl.length) = true) (fun i _ => fl.length - (intOf i).toNat)
      case atStart => exact ⟨0, Nat.zero_le _, rfl, Below.refl _ _, by simp, by simp⟩
      case round =>
        obtain ⟨k, hk, rfl, hb, hp, hq⟩ := hrel
        have HP := Lib.hid hp; clear hp
        have HQ := Lib.hid hq; clear hq
        have HB := Lib.hid hb
        have g0 := below_keep hb H0.out.1
        have g1 := below_keep hb H0.out.2
        by_cases hlt : k < fl.length
        · obtain ⟨bl, ol, x, y, rfl, hx, hc0, hc1⟩ := a3 k hlt
          obtain ⟨br, or', x', y', rfl, hx', hd0, hd1⟩ := b3 k (by have := HL.out; omega)
          have gc0 := below_keep hb hc0
          have gc1 := below_keep hb hc1
          have gd0 := below_keep hb hd0
          have gd1 := below_keep hb hd1
          have HX := Lib.hid hx
          have HX' := Lib.hid hx'
          clear hc0 hc1 hd0 hd1 a3 b3 hb hx hx'
          have i1 : (0 : Int) ≤ k := by omega
          have i2 : (k : Int) < fl.length := by omega
          have i3 : (k : Int) < fr.length := by have := HL.out; omega
          have HE := Lib.hid (fun W => l03Exit_any x y fl.length W (by omega) h2b)
          have HE' := Lib.hid (fun W => l03Exit_any x' y' fl.length W (by omega) h2b)
          have HK := Lib.hid (show _ ∧ _ ∧ _ ∧ _ from ⟨g0, g1, gd0, gd1⟩)
          by_cases ok1 : okE fl.length (x, y) = true
          · go_wp2_with fail
            refine (HE.out _).mono ?_
            rintro e w1 ⟨rfl, hb1⟩
            have HB1 := Lib.hid (below_step HB.out hb1)
            obtain ⟨k0, k1, k2, k3⟩ := HK.out
            have m0 := below_keep hb1 k0
            have m1 := below_keep hb1 k1
            have m2 := below_keep hb1 k2
            have m3 := below_keep hb1 k3
            clear hb1 k0 k1 k2 k3 g0 g1 gc0 gc1 gd0 gd1
            by_cases ok2 : okE fl.length (x', y') = true
            · go_wp2_with fail
              refine (HE'.out _).mono ?_
              rintro e w2 ⟨rfl, hb2⟩
              have HB2 := Lib.hid (below_step HB1.out hb2)
              clear hb2
              have HO := Lib.hid (show _ ∧ _ from ⟨ok1, ok2⟩)
              go_wp2
              go_roundw
              case rel => exact ⟨k + 1, by omega, by go_num, HB2.out, all_snocE HX.out HP.out HO.out.1, all_snocE HX'.out HQ.out HO.out.2⟩
              case measure => simp [intOf]; omega
            · have ok2' : okE fl.length (x', y') = false := by simpa using ok2
              clear ok2
              go_wp2_with fail
              refine (HE'.out _).mono ?_
              rintro e w2 ⟨rfl, hb2⟩
              have HB2 := Lib.hid (below_step HB1.out hb2)
              clear hb2
              have HO := Lib.hid ok2'
              go_wp2
              go_ret
              exact ⟨ret_bool (okX_right (x := ⟨fl, fr⟩) (all_notE HX'.out HO.out)).symm, HB2.out⟩
          · have ok1' : okE fl.length (x, y) = false := by simpa using ok1
            clear ok1
            go_wp2_with fail
            refine (HE.out _).mono ?_
            rintro e w1 ⟨rfl, hb1⟩
            have HB1 := Lib.hid (below_step HB.out hb1)
            clear hb1 g0 g1 gc0 gc1 gd0 gd1
            have HO := Lib.hid ok1'
            go_wp2
            go_ret
            exact ⟨ret_bool (okX_left (x := ⟨fl, fr⟩) (all_notE HX.out HO.out)).symm, HB1.out⟩
        · clear hb a3 b3
          go_wp2
          go_ret
          have hall : okX ⟨fl, fr⟩ = true := by
            have e1 := HP.out
            have e2 := HQ.out
            have e3 := HL.out
            rw [List.take_of_length_le (by omega)] at e1 e2
            simp only [okX, allE, e1, e2, e3, d2, decide_true, Bool.and_true]
          exact ⟨ret_bool hall.symm, HB.out⟩
    · have d2 : decide (1 ≤ (fl.length : Int) ∧ (fl.length : Int) ≤ 12) = false := by simpa using h2
      have H2 := Lib.hid h2
      clear h2
      go_enter Try.func21, Try.ntmps21
      go_wp2_with (go_at_call 27; refine (l00In_any _ _ _ _).mono ?_; rintro e w' ⟨rfl, rfl⟩)
      go_ret
      exact ⟨ret_bool (by simp [okX, d2]), Below.refl _ _⟩
  · have d1 : ((fr.length : Int) != (fl.length : Int)) = true := by simp; omega
    have HL := Lib.hid hl
    clear hl
    go_enter Try.func21, Try.ntmps21
    go_wp2
    go_ret
    exact ⟨ret_bool (by simp [okX, HL.out]), Below.refl _ _⟩

theorem specValidTable_any (v : Value) (x : XData) (w : World) (h : RdX w v x) :
    Calls Try.prog 8 #[v] w fun e w' => e = .returned (.bool (okX x)) ∧ Below w.heap.size w w' := by
  obtain ⟨a, b, rfl, hA⟩ := atX_box h 29
  have H := Lib.hid (l03Ok_any _ _ _ hA)
  clear h hA
  go_enter Try.func8, Try.ntmps8
  go_wp2_with (go_at_call 21; refine H.out.mono ?_; rintro e w' ⟨rfl, hb⟩)
  go_ret
  exact ⟨rfl, below_step (below_alloc _ _) hb⟩

set_option maxHeartbeats 1600000 in
theorem ValidTable_any (v : Value) (x : XData) (w : World) (h : RdX w v x) :
    Calls Try.prog 10 #[v] w fun e w' => e = .returned (.bool (okX x)) ∧ Below w.heap.size w w' := by
  obtain ⟨fl, fr⟩ := x
  obtain ⟨a, b, rfl, ha, hb⟩ := h
  simp only at *
  have HA := Lib.hid (fun W (hw : Below w.heap.size w W) (h1 : (fl.length : Int) ≤ 12) => areExits_any a fl fl.length W (keepsP _ _ _ _ ha hw) (by omega) h1)
  have HA' := Lib.hid (fun W (hw : Below w.heap.size w W) (h1 : (fl.length : Int) ≤ 12) => areExits_any b fr fl.length W (keepsP _ _ _ _ hb hw) (by omega) h1)
  obtain ⟨A, cap, rfl, a1, a2, -⟩ := RdP.open ha
  obtain ⟨B, cap', rfl, b1, b2, -⟩ := RdP.open hb
  unfold maxLen at a2 b2
  clear ha hb
  have HR := Lib.hid (Row.new w [.slice A fl.length cap, .slice B fr.length cap'] 29)
  have HB := Lib.hid (below_alloc w (.cells #[.slice A fl.length cap, .slice B fr.length cap'] 29))
  by_cases h1 : 1 ≤ (fl.length : Int)
  · by_cases h2 : (fl.length : Int) ≤ 12
    · by_cases h3 : (fr.length : Int) = fl.length
      · have d3 : ((fr.length : Int) == (fl.length : Int)) = true := by simpa using h3
        have H3 := Lib.hid h3; clear h3
        by_cases ok1 : allE fl.length fl = true
        · go_enter Try.func10, Try.ntmps10
          go_wp2_with fail
          refine (HA.out _ HB.out h2).mono ?_
          rintro e w1 ⟨rfl, hb1⟩
          obtain ⟨⟨b0, b1⟩, -⟩ := (HR.out.below hb1 HR.out.lt).two
          have HB1 := Lib.hid (below_step HB.out hb1)
          clear hb1
          go_wp2_with fail
          refine (HA'.out _ HB1.out h2).mono ?_
          rintro e w2 ⟨rfl, hb2⟩
          have HB2 := Lib.hid (below_step HB1.out hb2)
          clear hb2
          go_wp2
          go_ret
          have e3 : fr.length = fl.length := by have := H3.out; omega
          have e2 : decide (1 ≤ (fl.length : Int) ∧ (fl.length : Int) ≤ 12) = true := decide_eq_true ⟨h1, h2⟩
          exact ⟨ret_bool (by simp only [okX, ok1, e3, e2, decide_true, Bool.true_and]), HB2.out⟩
        · have ok1' : allE fl.length fl = false := by simpa using ok1
          clear ok1
          go_enter Try.func10, Try.ntmps10
          go_wp2_with fail
          refine (HA.out _ HB.out h2).mono ?_
          rintro e w1 ⟨rfl, hb1⟩
          have HB1 := Lib.hid (below_step HB.out hb1)
          clear hb1
          go_wp2
          go_ret
          exact ⟨ret_bool (by simp [okX, ok1']), HB1.out⟩
      · have d3 : ((fr.length : Int) == (fl.length : Int)) = false := by simpa using h3
        have H3 := Lib.hid h3; clear h3
        go_enter Try.func10, Try.ntmps10
        go_wp2
        go_ret
        exact ⟨ret_bool (by have := H3.out; simp [okX]; omega), HB.out⟩
    · go_enter Try.func10, Try.ntmps10
      go_wp2
      go_ret
      exact ⟨ret_bool (by simp [okX]; omega), HB.out⟩
  · go_enter Try.func10, Try.ntmps10
    go_wp2
    go_ret
    exact ⟨ret_bool (by simp only [okX]; rw [decide_eq_false (p := 1 ≤ (fl.length : Int) ∧ (fl.length : Int) ≤ 12) (by omega)]; simp), HB.out⟩
end Go.Proofs.Ytnpbfafcfghmcab
