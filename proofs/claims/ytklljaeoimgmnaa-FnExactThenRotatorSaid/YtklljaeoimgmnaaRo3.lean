/-
  The program's test of a rotator: true just for what 'okO' says.
-/
import Derived.Test.YtklljaeoimgmnaaRo2
import Derived.Laws.EntriesVeiled
namespace Go.Proofs.Ytklljaeoimgmnaa
open Go.RowKit

theorem frameIsState_any (L n S s : Int) (w : World) :
    Calls Try.prog 68 #[.agg #[.int .i64 L, .int .i64 n, .int .i64 S], .int .i64 s] w fun e w' => e = .returned (.bool (within s 0 (n - 1))) ∧ Below w.heap.size w w' := by
  have HB := Lib.hid (below_alloc w (.cells #[.int .i64 L, .int .i64 n, .int .i64 S] 95))
  go_enter Try.func68, Try.ntmps68
  go_wp2_with (go_at_call 57; refine (isState_w _ _ _).mono ?_; rintro e w' ⟨rfl, rfl⟩)
  go_ret
  exact ⟨rfl, HB.out⟩
def okFrame (L n S most : Int) : Bool := decide (1 ≤ L ∧ L ≤ 3) && (decide (n ≤ most) && within S 0 (n - 1))
theorem frameIsValid_any (L n S most : Int) (w : World) :
    Calls Try.prog 66 #[.agg #[.int .i64 L, .int .i64 n, .int .i64 S], .int .i64 most] w fun e w' => e = .returned (.bool (okFrame L n S most)) ∧ Below w.heap.size w w' := by
  have HB := Lib.hid (below_alloc w (.cells #[.int .i64 L, .int .i64 n, .int .i64 S] 95))
  by_cases h1 : 1 ≤ L ∧ L ≤ 3
  · have d1 : decide (1 ≤ L ∧ L ≤ 3) = true := decide_eq_true h1
    by_cases h2 : n ≤ most
    · have d2 : decide (n ≤ most) = true := decide_eq_true h2
      have HE := Lib.hid (show okFrame L n S most = within S 0 (n - 1) by simp [okFrame, d1, d2])
      clear h1
      go_enter Try.func66, Try.ntmps66
      go_wp2_with (first | (go_at_call 56; refine (validLetters_any _ _).mono ?_; rintro e w' ⟨rfl, rfl⟩) | (go_at_call 68; refine (frameIsState_any _ _ _ _ _).mono ?_; rintro e w' ⟨rfl, hb⟩; have HB1 := Lib.hid (below_step HB.out hb)))
      go_ret
      exact ⟨ret_bool HE.out.symm, HB1.out⟩
    · have d2 : decide (n ≤ most) = false := decide_eq_false h2
      have HE := Lib.hid (show okFrame L n S most = false by simp [okFrame, d2])
      clear h1 h2
      go_enter Try.func66, Try.ntmps66
      go_wp2_with (go_at_call 56; refine (validLetters_any _ _).mono ?_; rintro e w' ⟨rfl, rfl⟩)
      go_ret
      exact ⟨ret_bool HE.out.symm, HB.out⟩
  · have d1 : decide (1 ≤ L ∧ L ≤ 3) = false := decide_eq_false h1
    have HE := Lib.hid (show okFrame L n S most = false by simp [okFrame, d1])
    clear h1
    go_enter Try.func66, Try.ntmps66
    go_wp2_with (go_at_call 56; refine (validLetters_any _ _).mono ?_; rintro e w' ⟨rfl, rfl⟩)
    go_ret
    exact ⟨ret_bool HE.out.symm, HB.out⟩
/-- A rotator with its frame. -/
theorem spinnerOf_any (L S : Int) (A B : Option Addr) (n ka m kb : Nat) (w : World) (hn : (n : Int) ≤ 9223372036854775807) :
    Calls Try.prog 65 #[.agg #[.int .i64 L, .int .i64 S, .slice A n ka, .slice B m kb]] w fun e w' => e = .returned (.agg #[.int .i64 L, .int .i64 n, .int .i64 S, .slice A n ka, .slice B m kb]) ∧ Below w.heap.size w w' := by
  have HB := Lib.hid (show Below w.heap.size w ((w.alloc (.cells #[.int .i64 L, .int .i64 S, .slice A n ka, .slice B m kb] 40)).alloc (.cells #[.int .i64 L, .int .i64 n, .int .i64 S, .slice A n ka, .slice B m kb] 97)) from below_step (below_alloc _ _) (below_alloc _ _))
  have hr := (Row.new (w.alloc (.cells #[.int .i64 L, .int .i64 S, .slice A n ka, .slice B m kb] 40)) [.int .i64 L, .int .i64 n, .int .i64 S, .slice A n ka, .slice B m kb] 97).five
  rw [show (w.alloc (.cells #[.int .i64 L, .int .i64 S, .slice A n ka, .slice B m kb] 40)).heap.size = w.heap.size + 1 by simp] at hr
  obtain ⟨⟨c0, c1, c2, c3, c4⟩, -⟩ := hr
  go_enter Try.func65, Try.ntmps65
  go_wp2
  refine bodyPost_ret (v := .agg #[.int .i64 L, .int .i64 n, .int .i64 S, .slice A n ka, .slice B m kb]) (by simp [results, Try.results65, go_sem, c0, c1, c2, c3, c4]) rfl ?_
  exact ⟨rfl, HB.out⟩
theorem Vr1_any (L n S x : Int) (p : Nat) (w : World) (c0 : w.cell? ⟨p, 0, none⟩ = some (.int .i64 L)) (c1 : w.cell? ⟨p, 1, none⟩ = some (.int .i64 n)) (c2 : w.cell? ⟨p, 2, none⟩ = some (.int .i64 S)) :
    Calls Try.prog 67 #[.int .i64 x, .pointer (some ⟨p, 0, none⟩)] w fun e w' => e = .returned (.bool (!inB n x)) ∧ Below w.heap.size w w' := by
  go_enter Try.func67, Try.ntmps67
  go_wp2_with (go_at_call 68; refine (frameIsState_any _ _ _ _ _).mono ?_; rintro e w' ⟨rfl, hb⟩; have HB := Lib.hid hb)
  go_ret
  exact ⟨rfl, HB.out⟩
theorem Vr2_any (L n S x : Int) (p q : Nat) (w : World) (hn : 0 ≤ n) (hq : w.cell? ⟨q, 0, none⟩ = some (.func (.func 67) #[] #[.pointer (some ⟨p, 0, none⟩)])) (c0 : w.cell? ⟨p, 0, none⟩ = some (.int .i64 L)) (c1 : w.cell? ⟨p, 1, none⟩ = some (.int .i64 n)) (c2 : w.cell? ⟨p, 2, none⟩ = some (.int .i64 S)) :
    Calls Try.prog 70 #[.int .i64 x, .pointer (some ⟨q, 0, none⟩)] w fun e w' => e = .returned (.bool (!okEnd n x)) ∧ Below w.heap.size w w' := by
  have HC := Lib.hid (Vr1_any L n S x p w c0 c1 c2)
  clear c0 c1 c2
  by_cases h1 : x = -1
  · have HE := Lib.hid (show (!okEnd n x) = false by simp [okEnd]; omega)
    subst h1
    go_enter Try.func70, Try.ntmps70
    go_wp2_with fail
    go_ret
    exact ⟨ret_bool HE.out.symm, Below.refl _ _⟩
  · have e1 : (x != -1) = true := by simpa using h1
    by_cases h2 : x = -2
    · have HE := Lib.hid (show (!okEnd n x) = false by simp [okEnd]; omega)
      subst h2
      clear h1
      go_enter Try.func70, Try.ntmps70
      go_wp2_with fail
      go_ret
      exact ⟨ret_bool HE.out.symm, Below.refl _ _⟩
    · have e2 : (x != -2) = true := by simpa using h2
      have HE := Lib.hid (show (!okEnd n x) = !inB n x by simp only [okEnd, inB]; congr 1; exact decide_eq_decide.2 (by omega))
      clear h1 h2
      go_enter Try.func70, Try.ntmps70
      go_wp2_with (go_at_call 67; refine HC.out.mono ?_; rintro e w' ⟨rfl, hb⟩; have HB := Lib.hid hb)
      go_ret
      exact ⟨ret_bool HE.out.symm, HB.out⟩

/-- The three boxes of the program's test. -/
def VrI (w : World) (p1 p2 : Nat) (cR cS cF : List Value) (wr : World) : Prop :=
  Below w.heap.size w wr ∧ Row wr w.heap.size 40 cR ∧ Row wr p1 97 cS ∧ Row wr p2 88 cF
theorem VrI.below {w : World} {p1 p2 : Nat} {cR cS cF : List Value} {wr w' : World} (h : VrI w p1 p2 cR cS cF wr) (hb : Below wr.heap.size wr w') : VrI w p1 p2 cR cS cF w' :=
  ⟨below_step h.1 hb, h.2.1.below hb h.2.1.lt, h.2.2.1.below hb h.2.2.1.lt, h.2.2.2.below hb h.2.2.2.lt⟩

set_option maxHeartbeats 1600000 in
theorem ValidRotator_any (v : Value) (r : OData) (w : World) (h : RdO w v r) :
    Calls Try.prog 42 #[v] w fun e w' => e = .returned (.bool (okO r)) ∧ Below w.heap.size w w' := by
  obtain ⟨L, S, next, fin⟩ := r
  obtain ⟨vn, vf, rfl, hn, hf⟩ := h
  have hfr := hf
  obtain ⟨A, ka, rfl, a1, a2, a3⟩ := RdL.open hn
  obtain ⟨B, kb, rfl, b1, b2, -⟩ := RdI.open hf
  unfold maxLen at a2 b2
  simp only at *
  have HF := Lib.hid hfr
  have HR := Lib.hid (Row.new w [.int .i64 L, .int .i64 S, .slice A next.length ka, .slice B fin.length kb] 40)
  have HB := Lib.hid (below_alloc w (.cells #[.int .i64 L, .int .i64 S, .slice A next.length ka, .slice B fin.length kb] 40))
  clear hn hf hfr
  by_cases hok : okFrame L next.length S 6 = true
  · have HV := Lib.hid (fun W => frameIsValid_any L next.length S 6 W)
    rw [hok] at HV
    have HOK := Lib.hid hok
    clear hok
    go_enter Try.func42, Try.ntmps42
    go_wp2_with fail
    refine (spinnerOf_any _ _ _ _ _ _ _ _ _ (by omega)).mono ?_
    rintro e w1 ⟨rfl, hb1⟩
    have hR1 := HR.out.below hb1 HR.out.lt
    have HR1 := Lib.hid hR1
    have HB1 := Lib.hid (below_step HB.out hb1)
    obtain ⟨⟨c0, c1, c2, c3⟩, -⟩ := hR1.four
    have lt1 := hR1.lt
    clear hR1 hb1 HR HB c0 c1 c2 c3
    go_wp2_with fail
    refine (HV.out _).mono ?_
    rintro e w2 ⟨rfl, hb2⟩
    have hS2 := (Row.new w1 [.int .i64 L, .int .i64 next.length, .int .i64 S, .slice A next.length ka, .slice B fin.length kb] 97).below hb2 (Row.new w1 _ _).lt
    have hR2 := (HR1.out.alloc _).below hb2 (HR1.out.alloc _).lt
    have HB2 := Lib.hid (below_step HB1.out (below_step (below_alloc w1 _) hb2))
    obtain ⟨⟨c0, c1, c2, c3⟩, -⟩ := hR2.four
    obtain ⟨⟨s0, s1, s2, s3, s4⟩, -⟩ := hS2.five
    have lt2 := hR2.lt
    have lt3 := hS2.lt
    have HI := Lib.hid (show VrI w w1.heap.size w2.heap.size _ _ _ (w2.alloc (.cells #[.func (.func 67) #[] #[.pointer (some ⟨w1.heap.size, 0, none⟩)]] 88)) from ⟨below_step HB2.out (below_alloc _ _), hR2.alloc _, hS2.alloc _, Row.new w2 [.func (.func 67) #[] #[.pointer (some ⟨w1.heap.size, 0, none⟩)]] _⟩)
    clear hb2 hR2 hS2 HR1 HB1
    generalize w1.heap.size = p1 at *
    by_cases h4 : (fin.length : Int) = next.length
    · have d4 : ((fin.length : Int) != (next.length : Int)) = false := by simpa using h4
      have H4 := Lib.hid h4; clear h4
      go_wp2
      generalize hp2 : w2.heap.size = p2 at *
      clear hp2
      go_loopw [27] (fun i wr => ∃ k : Nat, k ≤ next.length ∧ i = .int .i64 k ∧ VrI w p1 p2 [.int .i64 L, .int .i64 S, .slice A next.length ka, .slice B fin.length kb] [.int .i64 L, .int .i64 next.length, .int .i64 S, .slice A next.length ka, .slice B fin.length kb] [.func (.func 67) #[] #[.pointer (some ⟨p1, 0, none⟩)]] wr ∧ (next.take k).all (okRow L next.length) = true) (fun i _ => next.length - (intOf i).toNat)
      case atStart => exact ⟨0, Nat.zero_le _, rfl, HI.out, by simp⟩
      case round =>
        clear HI c0 c1 c2 c3 s0 s1 s2 s3 s4 lt2 lt3
        obtain ⟨k, hk, rfl, hI, hp⟩ := hrel
        have HP := Lib.hid hp; clear hp
        have HI := Lib.hid hI
        obtain ⟨⟨c0, c1, c2, c3⟩, -⟩ := hI.2.1.four
        obtain ⟨⟨s0, s1, s2, s3, s4⟩, -⟩ := hI.2.2.1.five
        obtain ⟨f0, -⟩ := hI.2.2.2.one
        have lt1 := hI.2.1.lt
        have lt2 := hI.2.2.1.lt
        have lt3 := hI.2.2.2.lt
        by_cases hlt : k < next.length
        · obtain ⟨b, off, u, x, rfl, hx, hc, hR⟩ := a3 k hlt
          have hRw := keepsI _ _ _ _ hR hI.1
          obtain ⟨C, capx, rfl, x1, x2, -⟩ := RdI.open hR
          unfold maxLen at x2
          have hc' := below_keep hI.1 hc
          have HX := Lib.hid hx
          have HH := Lib.hid (hasVrA_any _ p1 x (fun t => !inB next.length t) wr hRw (fun W hb y _ => by
            have hs := hI.2.2.1.below hb lt2
            obtain ⟨⟨t0, t1, t2, -, -⟩, -⟩ := hs.five
            exact Vr1_any L next.length S y p1 W t0 t1 t2))
          rw [any_not_allI] at HH
          have i1 : (0 : Int) ≤ k := by omega
          have i2 : (k : Int) < next.length := by omega
          clear hx hR a3 hRw hI hc
          by_cases hxl : (x.length : Int) = L
          · have d5 : ((x.length : Int) != L) = false := by simpa using hxl
            have HXL := Lib.hid hxl; clear hxl
            by_cases hall : x.all (inB next.length) = true
            · rw [hall] at HH
              have HA := Lib.hid hall; clear hall
              simp only [Bool.not_true] at HH
              go_wp2_with (go_at_call 69; refine HH.out.mono ?_; rintro e w' ⟨rfl, hb⟩; have HI2 := Lib.hid (HI.out.below hb))
              go_roundw
              case rel => exact ⟨k + 1, by omega, by go_num, HI2.out, by rw [take_succ_of HX.out, List.all_append, HP.out]; simp [okRow, HXL.out]; simpa using HA.out⟩
              case measure => simp [intOf]; omega
            · have hall' : x.all (inB next.length) = false := by simpa using hall
              rw [hall'] at HH
              have HA := Lib.hid hall'; clear hall hall'
              simp only [Bool.not_false] at HH
              go_wp2_with (go_at_call 69; refine HH.out.mono ?_; rintro e w' ⟨rfl, hb⟩; have HI2 := Lib.hid (HI.out.below hb))
              go_ret
              exact ⟨ret_bool (okO_row (r := ⟨L, S, next, fin⟩) HX.out (by simp only [okRow, HA.out, Bool.and_false])).symm, HI2.out.1⟩
          · have d5 : ((x.length : Int) != L) = true := by simpa using hxl
            have HXL := Lib.hid hxl; clear hxl
            go_wp2_with fail
            go_ret
            exact ⟨ret_bool (okO_row (r := ⟨L, S, next, fin⟩) HX.out (by simp [okRow, HXL.out])).symm, HI.out.1⟩
        · have HH := Lib.hid (hasVrB_any _ p2 fin (fun t => !okEnd next.length t) wr (keepsI _ _ _ _ HF.out hI.1) (fun W hb y _ => by
            have hs := hI.2.2.1.below hb lt2
            obtain ⟨⟨t0, t1, t2, -, -⟩, -⟩ := hs.five
            have hq := hI.2.2.2.below hb lt3
            exact Vr2_any L next.length S y p1 p2 W (by omega) hq.one.1 t0 t1 t2))
          rw [any_not_allI] at HH
          have HE := Lib.hid (show okO ⟨L, S, next, fin⟩ = fin.all (okEnd next.length) by
            have e1 := HP.out
            rw [List.take_of_length_le (by omega)] at e1
            have e2 := HOK.out
            simp only [okFrame, Bool.and_eq_true, decide_eq_true_eq, within] at e2
            obtain ⟨l1, l2, l3⟩ := e2
            simp only [okO, e1, H4.out, decide_true, Bool.true_and, Bool.and_true]
            rw [decide_eq_true l1, decide_eq_true (show 1 ≤ (next.length : Int) ∧ (next.length : Int) ≤ 6 by omega), decide_eq_true l3]; simp)
          clear hI a3
          go_wp2_with (go_at_call 69; refine HH.out.mono ?_; rintro e w' ⟨rfl, hb⟩; have HI2 := Lib.hid (HI.out.below hb))
          go_ret
          exact ⟨ret_bool (by first | (rw [HE.out]; done) | (rw [HE.out]; simp)), HI2.out.1⟩
    · have d4 : ((fin.length : Int) != (next.length : Int)) = true := by simpa using h4
      have H4 := Lib.hid h4; clear h4
      go_wp2_with fail
      go_ret
      exact ⟨ret_bool (by simp [okO, H4.out]), HB2.out⟩
  · have hok' : okFrame L next.length S 6 = false := by simpa using hok
    have HV := Lib.hid (fun W => frameIsValid_any L next.length S 6 W)
    rw [hok'] at HV
    have HE := Lib.hid (show okO ⟨L, S, next, fin⟩ = false by
      rw [← Bool.not_eq_true]; intro hk
      obtain ⟨l1, l2, l3, -⟩ := okO_parts hk
      simp only at l1 l2 l3
      rw [okFrame, decide_eq_true l1, decide_eq_true l2.2, within, decide_eq_true l3] at hok'
      simp at hok')
    clear hok hok'
    go_enter Try.func42, Try.ntmps42
    go_wp2_with fail
    refine (spinnerOf_any _ _ _ _ _ _ _ _ _ (by omega)).mono ?_
    rintro e w1 ⟨rfl, hb1⟩
    have hR1 := HR.out.below hb1 HR.out.lt
    have HB1 := Lib.hid (below_step HB.out hb1)
    obtain ⟨⟨c0, c1, c2, c3⟩, -⟩ := hR1.four
    have lt1 := hR1.lt
    clear hR1 hb1 HR HB
    go_wp2_with fail
    refine (HV.out _).mono ?_
    rintro e w2 ⟨rfl, hb2⟩
    have HB2 := Lib.hid (below_step HB1.out (below_step (below_alloc w1 _) hb2))
    clear hb2
    go_wp2_with fail
    go_ret
    exact ⟨ret_bool HE.out.symm, HB2.out⟩
end Go.Proofs.Ytklljaeoimgmnaa
