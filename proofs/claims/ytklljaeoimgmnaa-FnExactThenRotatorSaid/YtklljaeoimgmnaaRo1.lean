/-
  The model's test of a rotator: true just for what 'okO' says.
-/
import Derived.Test.YtklljaeoimgmnaaT6
import Derived.Test.YtklljaeoimgmnaaKO
namespace Go.Proofs.Ytklljaeoimgmnaa
open Go.RowKit

def okEnd (n e : Int) : Bool := decide (-2 ≤ e ∧ e ≤ n - 1)
def okO (r : OData) : Bool := decide (1 ≤ r.L ∧ r.L ≤ 3) && (decide (1 ≤ (r.next.length : Int) ∧ (r.next.length : Int) ≤ 6) && (decide (0 ≤ r.S ∧ r.S ≤ (r.next.length : Int) - 1) && (decide ((r.fin.length : Int) = r.next.length) && (r.next.all (okRow r.L r.next.length) && r.fin.all (okEnd r.next.length)))))

theorem okO_row {r : OData} {s : Nat} {x : List Int} (h : r.next[s]? = some x) (d : okRow r.L r.next.length x = false) : okO r = false := by
  have : r.next.all (okRow r.L r.next.length) = false := by
    rw [List.all_eq_false]
    exact ⟨x, List.mem_of_getElem? h, by simp [d]⟩
  simp only [okO, this, Bool.and_false, Bool.false_and]
theorem okO_end {r : OData} {s : Nat} {e : Int} (h : r.fin[s]? = some e) (d : okEnd r.next.length e = false) : okO r = false := by
  have : r.fin.all (okEnd r.next.length) = false := by
    rw [List.all_eq_false]
    exact ⟨e, List.mem_of_getElem? h, by simp [d]⟩
  simp only [okO, this, Bool.and_false]
theorem okO_all {r : OData} (d1 : decide (1 ≤ r.L ∧ r.L ≤ 3) = true) (d2 : decide (1 ≤ (r.next.length : Int) ∧ (r.next.length : Int) ≤ 6) = true) (d3 : decide (0 ≤ r.S ∧ r.S ≤ (r.next.length : Int) - 1) = true) (d4 : (r.fin.length : Int) = r.next.length)
    (d5 : r.next.all (okRow r.L r.next.length) = true) (d6 : r.fin.all (okEnd r.next.length) = true) : okO r = true := by
  simp only [okO, d1, d2, d3, d4, d5, d6, decide_true, Bool.and_true]
theorem okO_parts {r : OData} (h : okO r = true) : (1 ≤ r.L ∧ r.L ≤ 3) ∧ (1 ≤ (r.next.length : Int) ∧ (r.next.length : Int) ≤ 6) ∧ (0 ≤ r.S ∧ r.S ≤ (r.next.length : Int) - 1) ∧ (r.fin.length : Int) = r.next.length ∧ r.next.all (okRow r.L r.next.length) = true ∧ r.fin.all (okEnd r.next.length) = true := by
  simpa [okO] using h
theorem okO_at {r : OData} (h : okO r = true) {s : Nat} {x : List Int} (hx : r.next[s]? = some x) : (x.length : Int) = r.L ∧ ∀ t ∈ x, 0 ≤ t ∧ t ≤ (r.next.length : Int) - 1 := by
  have := List.all_eq_true.1 (okO_parts h).2.2.2.2.1 x (List.mem_of_getElem? hx)
  simpa [okRow, inB] using this
theorem okO_fin {r : OData} (h : okO r = true) {s : Nat} {e : Int} (hx : r.fin[s]? = some e) : -2 ≤ e ∧ e ≤ (r.next.length : Int) - 1 := by
  have := List.all_eq_true.1 (okO_parts h).2.2.2.2.2 e (List.mem_of_getElem? hx)
  simpa [okEnd] using this

theorem l00In_q (n lo hi : Int) (w : World) :
    Calls Try.prog 53 #[.int .i64 n, .int .i64 lo, .int .i64 hi] w fun e w' => e = .returned (.bool (decide (lo ≤ n ∧ n ≤ hi))) ∧ Qt w w' := (l00In_any n lo hi w).mono fun _ _ ⟨h1, h2⟩ => ⟨h1, h2 ▸ Qt.refl _⟩

/-- A rotator behind a pointer. -/
def AtO (w : World) (p : Nat) (r : OData) : Prop :=
  ∃ n e, w.cell? ⟨p, 0, none⟩ = some (.int .i64 r.L) ∧ w.cell? ⟨p, 1, none⟩ = some (.int .i64 r.S) ∧ w.cell? ⟨p, 2, none⟩ = some n ∧ w.cell? ⟨p, 3, none⟩ = some e ∧ RdII w n r.next ∧ RdI w e r.fin
theorem AtO.below {w w' : World} {p : Nat} {r : OData} (h : AtO w p r) (hb : Below w.heap.size w w') : AtO w' p r := by
  obtain ⟨n, e, c0, c1, c2, c3, hn, he⟩ := h
  exact ⟨n, e, below_keep hb c0, below_keep hb c1, below_keep hb c2, below_keep hb c3, keepsII _ _ _ _ hn hb, keepsI _ _ _ _ he hb⟩
theorem atO_box {w : World} {v : Value} {r : OData} (h : RdO w v r) (e : TypeId) : ∃ a n, v = .agg #[.int .i64 r.L, .int .i64 r.S, a, n] ∧ AtO (w.alloc (.cells #[.int .i64 r.L, .int .i64 r.S, a, n] e)) w.heap.size r := by
  obtain ⟨a, n, rfl, ha, hn⟩ := h
  obtain ⟨⟨q0, q1, q2, q3⟩, -⟩ := (Row.new w [.int .i64 r.L, .int .i64 r.S, a, n] e).four
  exact ⟨a, n, rfl, a, n, q0, q1, q2, q3, keepsII _ _ _ _ ha (below_alloc _ _), keepsI _ _ _ _ hn (below_alloc _ _)⟩

set_option maxHeartbeats 1600000 in
theorem l06Ok_any (p : Nat) (r : OData) (w : World) (h : AtO w p r) :
    Calls Try.prog 38 #[.pointer (some ⟨p, 0, none⟩)] w fun e w' => e = .returned (.bool (okO r)) ∧ Qt w w' := by
  obtain ⟨L, S, next, fin⟩ := r
  obtain ⟨n, a, c0, c1, c2, c3, hn, ha⟩ := h
  obtain ⟨A, cap, rfl, a1, a2, a3⟩ := ha.open
  obtain ⟨B, cap', rfl, n1, n2, n3⟩ := RdL.open hn
  unfold maxLen at a2 n2
  simp only at *
  by_cases h1 : 1 ≤ L ∧ L ≤ 3
  · have d1 : decide (1 ≤ L ∧ L ≤ 3) = true := by simpa using h1
    by_cases h2 : 1 ≤ (next.length : Int) ∧ (next.length : Int) ≤ 6
    · have d2 : decide (1 ≤ (next.length : Int) ∧ (next.length : Int) ≤ 6) = true := by simpa using h2
      by_cases h3 : 0 ≤ S ∧ S ≤ (next.length : Int) - 1
      · have d3 : decide (0 ≤ S ∧ S ≤ (next.length : Int) - 1) = true := by simpa using h3
        by_cases h4 : (fin.length : Int) = next.length
        · have d4 : ((fin.length : Int) != (next.length : Int)) = false := by simpa using h4
          have H4 := Lib.hid h4; clear h4
          go_enter Try.func38, Try.ntmps38
          go_wp2_with (go_at_call 53; refine (l00In_any _ _ _ _).mono ?_; rintro e w' ⟨rfl, rfl⟩)
          go_loopw [4] (fun i wr => ∃ s : Nat, s ≤ next.length ∧ i = .int .i64 s ∧ Qt w wr ∧ (next.take s).all (okRow L next.length) = true ∧ (fin.take s).all (okEnd next.length) = true) (fun i _ => next.length - (intOf i).toNat)
          case atStart => exact ⟨0, Nat.zero_le _, rfl, Qt.refl _, by simp, by simp⟩
          case round =>
            obtain ⟨s, hs, rfl, hb, hp, hpe⟩ := hrel
            have HP := Lib.hid hp; clear hp
            have HPE := Lib.hid hpe; clear hpe
            have HB := Lib.hid hb
            by_cases hlt : s < next.length
            · obtain ⟨b, off, u, x, rfl, hx, hc, hR⟩ := n3 s hlt
              obtain ⟨be, offe, z, rfl, hz, hce⟩ := a3 s (by have := H4.out; omega)
              obtain ⟨C, capx, rfl, x1, x2, x3⟩ := RdI.open hR
              unfold maxLen at x2
              have g0 := (hb.cell _).trans c0
              have g2 := (hb.cell _).trans c2
              have g3 := (hb.cell _).trans c3
              have gc := (hb.cell _).trans hc
              have ge := (hb.cell _).trans hce
              have HX := Lib.hid hx
              have HZ := Lib.hid hz
              have HC := Lib.hid (show _ ∧ _ ∧ _ from ⟨c0, c2, hc⟩)
              clear c0 c1 c2 c3 hc hce hx hz hR hb n3 a3
              have i1 : (0 : Int) ≤ s := by omega
              have i2 : (s : Int) < next.length := by omega
              have i3 : (s : Int) < fin.length := by have := H4.out; omega
              by_cases hxl : (x.length : Int) = L
              · have d5 : ((x.length : Int) != L) = false := by simpa using hxl
                have HXL := Lib.hid hxl; clear hxl
                by_cases he : -2 ≤ z ∧ z ≤ (next.length : Int) - 1
                · have d7 : decide (-2 ≤ z ∧ z ≤ (next.length : Int) - 1) = true := by simpa using he
                  have HE := Lib.hid he; clear he
                  have HQ7 := Lib.hid (fun W => l00In_q z (-2) ((next.length : Int) - 1) W)
                  rw [d7] at HQ7
                  clear d7
                  go_wp2_with fail
                  go_quiet ((go_at_call 53; exact Calls.quiet_of (HQ7.out _)))
                  go_wp2
                  go_loopw [5] (fun i wi => ∃ a : Nat, a ≤ x.length ∧ i = .int .i64 a ∧ Qt w wi ∧ (x.take a).all (inB next.length) = true) (fun i _ => x.length - (intOf i).toNat)
                  case atStart => exact ⟨0, Nat.zero_le _, rfl, HB.out.drewN _, by simp⟩
                  case round =>
                    clear g0 g2 g3 gc ge
                    obtain ⟨a, ha, rfl, hq, hp⟩ := hrel
                    have HP2 := Lib.hid hp; clear hp
                    have HQ := Lib.hid hq
                    obtain ⟨c0, c2, hc⟩ := HC.out
                    have g0 := (hq.cell _).trans c0
                    have g2 := (hq.cell _).trans c2
                    have gc := (hq.cell _).trans hc
                    clear c0 c2 hc
                    by_cases halt : a < x.length
                    · obtain ⟨bx, offx, t, rfl, ht, hct⟩ := x3 a halt
                      have gt := (hq.cell _).trans hct
                      have HT := Lib.hid ht
                      clear hct ht x3 hq
                      have j1 : (0 : Int) ≤ a := by omega
                      have j2 : (a : Int) < x.length := by omega
                      have j3 : (a : Int) < L := by have := HXL.out; omega
                      by_cases hin : 0 ≤ t ∧ t ≤ (next.length : Int) - 1
                      · have d6 : decide (0 ≤ t ∧ t ≤ (next.length : Int) - 1) = true := by simpa using hin
                        clear hin
                        go_wp2_with (go_at_call 53; refine (l00In_any _ _ _ _).mono ?_; rintro e w' ⟨rfl, rfl⟩)
                        go_roundw
                        case rel => exact ⟨a + 1, by omega, by go_num, HQ.out, by rw [take_succ_of HT.out, List.all_append, HP2.out]; simpa [inB] using d6⟩
                        case measure => simp [intOf]; omega
                      · have d6 : decide (0 ≤ t ∧ t ≤ (next.length : Int) - 1) = false := by simpa using hin
                        clear hin
                        go_wp2_with (go_at_call 53; refine (l00In_any _ _ _ _).mono ?_; rintro e w' ⟨rfl, rfl⟩)
                        go_ret
                        exact ⟨ret_bool (okO_row (r := ⟨L, S, next, fin⟩) HX.out (okRow_not HT.out d6)).symm, HQ.out⟩
                    · clear hq x3
                      have j3 : ¬ (a : Int) < L := by have := HXL.out; omega
                      go_wp2
                      go_roundw
                      case rel => exact ⟨s + 1, by omega, by go_num, HQ.out, by rw [take_succ_of HX.out, List.all_append, HP.out]; simp [okRow, HXL.out]; rw [List.take_of_length_le (by omega)] at HP2; simpa using HP2.out, by rw [take_succ_of HZ.out, List.all_append, HPE.out]; simpa [okEnd] using HE.out⟩
                      case measure => simp [intOf]; omega
                · have d7 : decide (-2 ≤ z ∧ z ≤ (next.length : Int) - 1) = false := by simpa using he
                  clear he
                  have HE := Lib.hid d7
                  have HQ7 := Lib.hid (fun W => l00In_q z (-2) ((next.length : Int) - 1) W)
                  rw [d7] at HQ7
                  clear d7
                  go_wp2_with fail
                  go_quiet ((go_at_call 53; exact Calls.quiet_of (HQ7.out _)))
                  go_wp2
                  go_ret
                  exact ⟨ret_bool (okO_end (r := ⟨L, S, next, fin⟩) HZ.out HE.out).symm, HB.out.drewN _⟩
              · have d5 : ((x.length : Int) != L) = true := by simpa using hxl
                have HXL := Lib.hid hxl; clear hxl
                go_wp2
                go_quiet (fail)
                go_wp2
                go_ret
                exact ⟨ret_bool (okO_row (r := ⟨L, S, next, fin⟩) HX.out (by simp [okRow, HXL.out])).symm, HB.out.drewN _⟩
            · clear hb n3 c1 c2 a3
              have g0 := (HB.out.cell _).trans c0
              have g3 := (HB.out.cell _).trans c3
              clear c0 c3
              go_wp2
              go_ret
              exact ⟨ret_bool (okO_all (r := ⟨L, S, next, fin⟩) d1 d2 d3 H4.out (by have := HP.out; rwa [List.take_of_length_le (by omega)] at this) (by have := HPE.out; have e4 := H4.out; rwa [List.take_of_length_le (by omega)] at this)).symm, HB.out⟩
        · have d4 : ((fin.length : Int) != (next.length : Int)) = true := by simpa using h4
          have H4 := Lib.hid h4; clear h4
          go_enter Try.func38, Try.ntmps38
          go_wp2_with (go_at_call 53; refine (l00In_any _ _ _ _).mono ?_; rintro e w' ⟨rfl, rfl⟩)
          go_ret
          exact ⟨ret_bool (by simp [okO, H4.out]), Qt.refl _⟩
      · have d3 : decide (0 ≤ S ∧ S ≤ (next.length : Int) - 1) = false := by simpa using h3
        have H3 := Lib.hid h3; clear h3
        go_enter Try.func38, Try.ntmps38
        go_wp2_with (go_at_call 53; refine (l00In_any _ _ _ _).mono ?_; rintro e w' ⟨rfl, rfl⟩)
        go_ret
        exact ⟨ret_bool (by simp [okO, d3]), Qt.refl _⟩
    · have d2 : decide (1 ≤ (next.length : Int) ∧ (next.length : Int) ≤ 6) = false := by simpa using h2
      have H2 := Lib.hid h2; clear h2
      go_enter Try.func38, Try.ntmps38
      go_wp2_with (go_at_call 53; refine (l00In_any _ _ _ _).mono ?_; rintro e w' ⟨rfl, rfl⟩)
      go_ret
      exact ⟨ret_bool (by simp only [okO, d2, Bool.and_false, Bool.false_and]), Qt.refl _⟩
  · have d1 : decide (1 ≤ L ∧ L ≤ 3) = false := by simpa using h1
    have H1 := Lib.hid h1; clear h1
    go_enter Try.func38, Try.ntmps38
    go_wp2_with (go_at_call 53; refine (l00In_any _ _ _ _).mono ?_; rintro e w' ⟨rfl, rfl⟩)
    go_ret
    exact ⟨ret_bool (by simp [okO, d1]), Qt.refl _⟩

end Go.Proofs.Ytklljaeoimgmnaa
