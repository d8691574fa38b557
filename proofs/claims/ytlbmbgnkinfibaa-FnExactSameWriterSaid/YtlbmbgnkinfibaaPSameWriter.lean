/-
  For every input that can be read as data, FnExactSameWriter returns true, and its arguments read behind the call as before: the program's SameWriter answers as its model.
-/
import Derived.Test.YtlbmbgnkinfibaaRows
import Derived.Test.YtlbmbgnkinfibaaOpen
import Derived.Test.YtlbmbgnkinfibaaWr4
import Derived.Test.YtlbmbgnkinfibaaWr5
import Derived.Test.YtlbmbgnkinfibaaGWr
namespace Go.Proofs.Ytlbmbgnkinfibaa.sameWriter
open Go.ChangeShapes Go.WideShapes Go.ChangeAt Go.RowKit Go.Joins
open Go.ChangeMaps (open_string shut_string)
set_option linter.unusedVariables false


set_option maxRecDepth 100000 in
set_option maxHeartbeats 1600000 in
theorem walk (v0 : Value) (r : WrData) (v1 : Value) (s : WrData) (w : World) (h0 : RdWr w v0 r) (s0 : WrSmall r) (h1 : RdWr w v1 s) (s1 : WrSmall s) :
    Calls Try.prog 4 #[v0, v1] w fun e w' => e = .returned (.bool true) ∧ Below w.heap.size w w' := by
  have hs0 := h0.shape
  obtain ⟨A0, ka0, B0, kb0, rfl⟩ := hs0
  have HK0 := Lib.hid (fun W (hb : Below w.heap.size w W) => keepsWr _ _ _ _ h0 hb)
  have HS0 := Lib.hid s0
  clear h0 s0
  have hs1 := h1.shape
  obtain ⟨A1, ka1, B1, kb1, rfl⟩ := hs1
  have HK1 := Lib.hid (fun W (hb : Below w.heap.size w W) => keepsWr _ _ _ _ h1 hb)
  have HS1 := Lib.hid s1
  clear h1 s1
  have HB := Lib.hid (show Below w.heap.size w ((w.alloc (.cells #[.int .i64 r.L, .int .i64 r.S, .slice A0 r.mv.length ka0, .slice B0 r.out.length kb0] 27)).alloc (.cells #[.int .i64 s.L, .int .i64 s.S, .slice A1 s.mv.length ka1, .slice B1 s.out.length kb1] 27)) from (below_alloc w _).alloc (by simp) _)
  have hx0 : Row ((w.alloc (.cells #[.int .i64 r.L, .int .i64 r.S, .slice A0 r.mv.length ka0, .slice B0 r.out.length kb0] 27)).alloc (.cells #[.int .i64 s.L, .int .i64 s.S, .slice A1 s.mv.length ka1, .slice B1 s.out.length kb1] 27)) (w.heap.size) 27 [.int .i64 r.L, .int .i64 r.S, .slice A0 r.mv.length ka0, .slice B0 r.out.length kb0] := by
    have := ((Row.new w [.int .i64 r.L, .int .i64 r.S, .slice A0 r.mv.length ka0, .slice B0 r.out.length kb0] 27).alloc (.cells #[.int .i64 s.L, .int .i64 s.S, .slice A1 s.mv.length ka1, .slice B1 s.out.length kb1] 27))
    simpa using this
  have hx1 : Row ((w.alloc (.cells #[.int .i64 r.L, .int .i64 r.S, .slice A0 r.mv.length ka0, .slice B0 r.out.length kb0] 27)).alloc (.cells #[.int .i64 s.L, .int .i64 s.S, .slice A1 s.mv.length ka1, .slice B1 s.out.length kb1] 27)) (w.heap.size + 1) 27 [.int .i64 s.L, .int .i64 s.S, .slice A1 s.mv.length ka1, .slice B1 s.out.length kb1] := by
    have := (Row.new (w.alloc (.cells #[.int .i64 r.L, .int .i64 r.S, .slice A0 r.mv.length ka0, .slice B0 r.out.length kb0] 27)) [.int .i64 s.L, .int .i64 s.S, .slice A1 s.mv.length ka1, .slice B1 s.out.length kb1] 27)
    simpa using this
  have HR := Lib.hid (show _ ∧ _ from ⟨hx0, hx1⟩)
  clear hx0 hx1
  go_enter Try.func4, Try.ntmps4
  go_wp2_with fail
  refine (szWr_tot _ r _ _ (HK0.out _ HB.out) HS0.out (by omega) (by omega)).mono ?_
  rintro e w1 ⟨⟨m0, rfl, hn0⟩, hb⟩
  have HB1 := Lib.hid (below_step HB.out hb)
  have hx0 := (HR.out.1).below hb (HR.out.1).lt
  have hx1 := (HR.out.2).below hb (HR.out.2).lt
  obtain ⟨⟨q1_0_0, q1_0_1, q1_0_2, q1_0_3⟩, -⟩ := Row.four hx0
  have lt1_0 := hx0.lt
  obtain ⟨⟨q1_1_0, q1_1_1, q1_1_2, q1_1_3⟩, -⟩ := Row.four hx1
  have lt1_1 := hx1.lt
  have HR1 := Lib.hid (show _ ∧ _ from ⟨hx0, hx1⟩)
  clear HR HB hx0 hx1 hb
  have hl0 : m0 ≤ 4611686018427387904 := by omega
  clear hn0
  by_cases hm0 : m0 < 0
  · go_wp2_with fail
    go_ret
    exact ⟨rfl, HB1.out⟩
  · go_wp2_with fail
    refine (szWr_tot _ s _ _ (HK1.out _ HB1.out) HS1.out (by omega) (by omega)).mono ?_
    rintro e w2 ⟨⟨m1, rfl, hn1⟩, hb⟩
    have HB2 := Lib.hid (below_step HB1.out hb)
    have hx0 := (HR1.out.1).below hb (HR1.out.1).lt
    have hx1 := (HR1.out.2).below hb (HR1.out.2).lt
    obtain ⟨⟨q2_0_0, q2_0_1, q2_0_2, q2_0_3⟩, -⟩ := Row.four hx0
    have lt2_0 := hx0.lt
    obtain ⟨⟨q2_1_0, q2_1_1, q2_1_2, q2_1_3⟩, -⟩ := Row.four hx1
    have lt2_1 := hx1.lt
    have HR2 := Lib.hid (show _ ∧ _ from ⟨hx0, hx1⟩)
    clear HR1 HB1 hx0 hx1 hb q1_0_0 q1_0_1 q1_0_2 q1_0_3 lt1_0 q1_1_0 q1_1_1 q1_1_2 q1_1_3 lt1_1
    have hl1 : m1 ≤ 4611686018427387904 := by omega
    clear hn1
    by_cases hm1 : m1 < 0
    · go_wp2_with fail
      go_ret
      exact ⟨rfl, HB2.out⟩
    · go_wp2_with fail
      go_region_held3 (fun W => W.cell? ⟨w.heap.size, 0, none⟩ = some (.int .i64 r.L) ∧ W.cell? ⟨w.heap.size, 1, none⟩ = some (.int .i64 r.S) ∧ W.cell? ⟨w.heap.size, 2, none⟩ = some (.slice A0 r.mv.length ka0) ∧ W.cell? ⟨w.heap.size, 3, none⟩ = some (.slice B0 r.out.length kb0) ∧ W.cell? ⟨w.heap.size + 1, 0, none⟩ = some (.int .i64 s.L) ∧ W.cell? ⟨w.heap.size + 1, 1, none⟩ = some (.int .i64 s.S) ∧ W.cell? ⟨w.heap.size + 1, 2, none⟩ = some (.slice A1 s.mv.length ka1) ∧ W.cell? ⟨w.heap.size + 1, 3, none⟩ = some (.slice B1 s.out.length kb1))
        (first | go_keep | (go_split_ands; refine ⟨?_, ?_, ?_, ?_, ?_, ?_, ?_, ?_⟩ <;> exact below_keep hbk (by assumption)))
        (first
          | (go_at_call 11; (with_reducible refine (toWr_own _ r _ (HK0.out _ ?_) HS0.out).mono ?_); (first | exact HB2.out | exact HB2.out.drew); rintro e wa0 ⟨u0, bu, rfl, hu, hbk⟩; have HC0 := Lib.hid (show Below w2.heap.size w2 wa0 from below_step (by first | exact Below.refl _ _ | exact below_drew _) hbk); have HU0 := Lib.hid hu.rd; clear hu)
          | (go_at_call 11; (with_reducible refine (toWr_own _ s _ (HK1.out _ ?_) HS1.out).mono ?_); (exact below_step HB2.out HC0.out); rintro e wa1 ⟨u1, bu, rfl, hu, hbk⟩; have HC1 := Lib.hid (below_step HC0.out hbk); have HU1 := Lib.hid hu.rd; clear hu; have HU0_1 := Lib.hid (keepsWr _ _ _ _ HU0.out hbk))
          | (go_at_call 14; refine (specSameWriter_any _ _ r s _ HU0_1.out HU1.out).mono ?_; rintro e wb ⟨rfl, hbk⟩; have HCs := Lib.hid (below_step HC1.out hbk)))
      have hb := HCs.out
      have HB3 := Lib.hid (below_step HB2.out hb)
      have hx0 := (HR2.out.1).below hb (HR2.out.1).lt
      have hx1 := (HR2.out.2).below hb (HR2.out.2).lt
      obtain ⟨⟨q3_0_0, q3_0_1, q3_0_2, q3_0_3⟩, -⟩ := Row.four hx0
      have lt3_0 := hx0.lt
      obtain ⟨⟨q3_1_0, q3_1_1, q3_1_2, q3_1_3⟩, -⟩ := Row.four hx1
      have lt3_1 := hx1.lt
      have HR3 := Lib.hid (show _ ∧ _ from ⟨hx0, hx1⟩)
      clear HR2 HB2 hx0 hx1 hb HCs hbk q2_0_0 q2_0_1 q2_0_2 q2_0_3 lt2_0 q2_1_0 q2_1_1 q2_1_2 q2_1_3 lt2_1 HC0 HC1 HU0 HU1
      go_wp2_with fail
      refine (toWr_own _ r _ (HK0.out _ HB3.out) HS0.out).mono ?_
      rintro e w4 ⟨x0, bx0, rfl, hx, hb⟩
      have HB4 := Lib.hid (below_step HB3.out hb)
      have hx0 := (HR3.out.1).below hb (HR3.out.1).lt
      have hx1 := (HR3.out.2).below hb (HR3.out.2).lt
      obtain ⟨⟨q4_0_0, q4_0_1, q4_0_2, q4_0_3⟩, -⟩ := Row.four hx0
      have lt4_0 := hx0.lt
      obtain ⟨⟨q4_1_0, q4_1_1, q4_1_2, q4_1_3⟩, -⟩ := Row.four hx1
      have lt4_1 := hx1.lt
      have HR4 := Lib.hid (show _ ∧ _ from ⟨hx0, hx1⟩)
      have HX0 := Lib.hid hx.rd
      have hsx := hx.rd.shape
      obtain ⟨Ax0, kax0, Bx0, kbx0, rfl⟩ := hsx
      clear hx HR3 HB3 hx0 hx1 hb q3_0_0 q3_0_1 q3_0_2 q3_0_3 lt3_0 q3_1_0 q3_1_1 q3_1_2 q3_1_3 lt3_1
      go_wp2_with fail
      refine (toWr_own _ s _ (HK1.out _ (HB4.out.alloc HB4.out.size _)) HS1.out).mono ?_
      rintro e w5 ⟨x1, bx1, rfl, hx, hb⟩
      have hst := below_step (below_alloc w4 (.cells #[.int .i64 r.L, .int .i64 r.S, .slice Ax0 r.mv.length kax0, .slice Bx0 r.out.length kbx0] 34)) hb
      have HB5 := Lib.hid (below_step HB4.out hst)
      have hx0 := (HR4.out.1).below hst (HR4.out.1).lt
      have hx1 := (HR4.out.2).below hst (HR4.out.2).lt
      have hx2 := (Row.new w4 [.int .i64 r.L, .int .i64 r.S, .slice Ax0 r.mv.length kax0, .slice Bx0 r.out.length kbx0] 34).below hb (Row.new w4 [.int .i64 r.L, .int .i64 r.S, .slice Ax0 r.mv.length kax0, .slice Bx0 r.out.length kbx0] 34).lt
      obtain ⟨⟨q5_0_0, q5_0_1, q5_0_2, q5_0_3⟩, -⟩ := Row.four hx0
      have lt5_0 := hx0.lt
      obtain ⟨⟨q5_1_0, q5_1_1, q5_1_2, q5_1_3⟩, -⟩ := Row.four hx1
      have lt5_1 := hx1.lt
      obtain ⟨⟨q5_2_0, q5_2_1, q5_2_2, q5_2_3⟩, -⟩ := Row.four hx2
      have lt5_2 := hx2.lt
      have HR5 := Lib.hid (show _ ∧ _ ∧ _ from ⟨hx0, hx1, hx2⟩)
      have HX0' := Lib.hid (keepsWr _ _ _ _ HX0.out hst)
      clear HX0
      have HX0 := HX0'
      clear HX0'
      have HX1 := Lib.hid hx.rd
      have hsx := hx.rd.shape
      obtain ⟨Ax1, kax1, Bx1, kbx1, rfl⟩ := hsx
      clear hx HR4 HB4 hx0 hx1 hx2 hb hst q4_0_0 q4_0_1 q4_0_2 q4_0_3 lt4_0 q4_1_0 q4_1_1 q4_1_2 q4_1_3 lt4_1
      go_wp2_with fail
      refine (implSameWriter_any _ _ r s _ (keepsWr _ _ _ _ HX0.out (below_alloc _ _)) (keepsWr _ _ _ _ HX1.out (below_alloc _ _))).mono ?_
      rintro e w6 ⟨rfl, hb⟩
      have hst := below_step (below_alloc w5 (.cells #[.int .i64 s.L, .int .i64 s.S, .slice Ax1 s.mv.length kax1, .slice Bx1 s.out.length kbx1] 34)) hb
      have HB6 := Lib.hid (below_step HB5.out hst)
      have hx0 := (HR5.out.1).below hst (HR5.out.1).lt
      have hx1 := (HR5.out.2.1).below hst (HR5.out.2.1).lt
      have hx2 := (HR5.out.2.2).below hst (HR5.out.2.2).lt
      have hx3 := (Row.new w5 [.int .i64 s.L, .int .i64 s.S, .slice Ax1 s.mv.length kax1, .slice Bx1 s.out.length kbx1] 34).below hb (Row.new w5 [.int .i64 s.L, .int .i64 s.S, .slice Ax1 s.mv.length kax1, .slice Bx1 s.out.length kbx1] 34).lt
      obtain ⟨⟨q6_0_0, q6_0_1, q6_0_2, q6_0_3⟩, -⟩ := Row.four hx0
      have lt6_0 := hx0.lt
      obtain ⟨⟨q6_1_0, q6_1_1, q6_1_2, q6_1_3⟩, -⟩ := Row.four hx1
      have lt6_1 := hx1.lt
      obtain ⟨⟨q6_2_0, q6_2_1, q6_2_2, q6_2_3⟩, -⟩ := Row.four hx2
      have lt6_2 := hx2.lt
      obtain ⟨⟨q6_3_0, q6_3_1, q6_3_2, q6_3_3⟩, -⟩ := Row.four hx3
      have lt6_3 := hx3.lt
      have HR6 := Lib.hid (show _ ∧ _ ∧ _ ∧ _ from ⟨hx0, hx1, hx2, hx3⟩)
      have HX0' := Lib.hid (keepsWr _ _ _ _ HX0.out hst)
      clear HX0
      have HX0 := HX0'
      clear HX0'
      have HX1' := Lib.hid (keepsWr _ _ _ _ HX1.out hst)
      clear HX1
      have HX1 := HX1'
      clear HX1'
      clear HR5 HB5 hx0 hx1 hx2 hx3 hb hst q5_0_0 q5_0_1 q5_0_2 q5_0_3 lt5_0 q5_1_0 q5_1_1 q5_1_2 q5_1_3 lt5_1 q5_2_0 q5_2_1 q5_2_2 q5_2_3 lt5_2
      have hne : (!(sameWr r s == sameWr r s)) = false := by simp
      go_wp2_with fail
      go_region_held3 (fun W => W.cell? ⟨w.heap.size, 0, none⟩ = some (.int .i64 r.L) ∧ W.cell? ⟨w.heap.size, 1, none⟩ = some (.int .i64 r.S) ∧ W.cell? ⟨w.heap.size, 2, none⟩ = some (.slice A0 r.mv.length ka0) ∧ W.cell? ⟨w.heap.size, 3, none⟩ = some (.slice B0 r.out.length kb0) ∧ W.cell? ⟨w.heap.size + 1, 0, none⟩ = some (.int .i64 s.L) ∧ W.cell? ⟨w.heap.size + 1, 1, none⟩ = some (.int .i64 s.S) ∧ W.cell? ⟨w.heap.size + 1, 2, none⟩ = some (.slice A1 s.mv.length ka1) ∧ W.cell? ⟨w.heap.size + 1, 3, none⟩ = some (.slice B1 s.out.length kb1) ∧ W.cell? ⟨w4.heap.size, 0, none⟩ = some (.int .i64 r.L) ∧ W.cell? ⟨w4.heap.size, 1, none⟩ = some (.int .i64 r.S) ∧ W.cell? ⟨w4.heap.size, 2, none⟩ = some (.slice Ax0 r.mv.length kax0) ∧ W.cell? ⟨w4.heap.size, 3, none⟩ = some (.slice Bx0 r.out.length kbx0) ∧ W.cell? ⟨w5.heap.size, 0, none⟩ = some (.int .i64 s.L) ∧ W.cell? ⟨w5.heap.size, 1, none⟩ = some (.int .i64 s.S) ∧ W.cell? ⟨w5.heap.size, 2, none⟩ = some (.slice Ax1 s.mv.length kax1) ∧ W.cell? ⟨w5.heap.size, 3, none⟩ = some (.slice Bx1 s.out.length kbx1))
        (first | go_keep | (go_split_ands; refine ⟨?_, ?_, ?_, ?_, ?_, ?_, ?_, ?_, ?_, ?_, ?_, ?_, ?_, ?_, ?_, ?_⟩ <;> exact below_keep hbk (by assumption)))
        (first
          | (go_at_call 11; (with_reducible refine (toWr_own _ r _ (HK0.out _ ?_) HS0.out).mono ?_); (exact below_step HB6.out (by first | exact Below.refl _ _ | exact below_drew _ | exact below_drewN (Below.refl _ _) _ | exact (below_drewN (Below.refl _ _) _).drew)); rintro e wy0 ⟨y0, by0, rfl, hy, hbk⟩; have HCy := Lib.hid (show Below w6.heap.size w6 wy0 from below_step (by first | exact Below.refl _ _ | exact below_drew _ | exact below_drewN (Below.refl _ _) _ | exact (below_drewN (Below.refl _ _) _).drew) hbk); have HY := Lib.hid hy.rd; clear hy)
          | (go_at_call 13; refine (eqWr_same _ _ r _ (keepsWr _ _ _ _ HX0.out HCy.out) HY.out).mono ?_; rintro e wz0 ⟨rfl, hbk⟩; have HCz := Lib.hid (below_step HCy.out hbk)))
      have hb := HCz.out
      have HB7 := Lib.hid (below_step HB6.out hb)
      have HX0' := Lib.hid (keepsWr _ _ _ _ HX0.out hb)
      clear HX0
      have HX0 := HX0'
      clear HX0'
      have HX1' := Lib.hid (keepsWr _ _ _ _ HX1.out hb)
      clear HX1
      have HX1 := HX1'
      clear HX1'
      have hx0 := (HR6.out.1).below hb (HR6.out.1).lt
      have hx1 := (HR6.out.2.1).below hb (HR6.out.2.1).lt
      have hx2 := (HR6.out.2.2.1).below hb (HR6.out.2.2.1).lt
      have hx3 := (HR6.out.2.2.2).below hb (HR6.out.2.2.2).lt
      obtain ⟨⟨q7_0_0, q7_0_1, q7_0_2, q7_0_3⟩, -⟩ := Row.four hx0
      have lt7_0 := hx0.lt
      obtain ⟨⟨q7_1_0, q7_1_1, q7_1_2, q7_1_3⟩, -⟩ := Row.four hx1
      have lt7_1 := hx1.lt
      obtain ⟨⟨q7_2_0, q7_2_1, q7_2_2, q7_2_3⟩, -⟩ := Row.four hx2
      have lt7_2 := hx2.lt
      obtain ⟨⟨q7_3_0, q7_3_1, q7_3_2, q7_3_3⟩, -⟩ := Row.four hx3
      have lt7_3 := hx3.lt
      have HR7 := Lib.hid (show _ ∧ _ ∧ _ ∧ _ from ⟨hx0, hx1, hx2, hx3⟩)
      clear HR6 HB6 hx0 hx1 hx2 hx3 hb HCy HCz hbk HY q6_0_0 q6_0_1 q6_0_2 q6_0_3 lt6_0 q6_1_0 q6_1_1 q6_1_2 q6_1_3 lt6_1 q6_2_0 q6_2_1 q6_2_2 q6_2_3 lt6_2 q6_3_0 q6_3_1 q6_3_2 q6_3_3 lt6_3
      go_wp2_with fail
      go_region_held3 (fun W => W.cell? ⟨w.heap.size, 0, none⟩ = some (.int .i64 r.L) ∧ W.cell? ⟨w.heap.size, 1, none⟩ = some (.int .i64 r.S) ∧ W.cell? ⟨w.heap.size, 2, none⟩ = some (.slice A0 r.mv.length ka0) ∧ W.cell? ⟨w.heap.size, 3, none⟩ = some (.slice B0 r.out.length kb0) ∧ W.cell? ⟨w.heap.size + 1, 0, none⟩ = some (.int .i64 s.L) ∧ W.cell? ⟨w.heap.size + 1, 1, none⟩ = some (.int .i64 s.S) ∧ W.cell? ⟨w.heap.size + 1, 2, none⟩ = some (.slice A1 s.mv.length ka1) ∧ W.cell? ⟨w.heap.size + 1, 3, none⟩ = some (.slice B1 s.out.length kb1) ∧ W.cell? ⟨w4.heap.size, 0, none⟩ = some (.int .i64 r.L) ∧ W.cell? ⟨w4.heap.size, 1, none⟩ = some (.int .i64 r.S) ∧ W.cell? ⟨w4.heap.size, 2, none⟩ = some (.slice Ax0 r.mv.length kax0) ∧ W.cell? ⟨w4.heap.size, 3, none⟩ = some (.slice Bx0 r.out.length kbx0) ∧ W.cell? ⟨w5.heap.size, 0, none⟩ = some (.int .i64 s.L) ∧ W.cell? ⟨w5.heap.size, 1, none⟩ = some (.int .i64 s.S) ∧ W.cell? ⟨w5.heap.size, 2, none⟩ = some (.slice Ax1 s.mv.length kax1) ∧ W.cell? ⟨w5.heap.size, 3, none⟩ = some (.slice Bx1 s.out.length kbx1))
        (first | go_keep | (go_split_ands; refine ⟨?_, ?_, ?_, ?_, ?_, ?_, ?_, ?_, ?_, ?_, ?_, ?_, ?_, ?_, ?_, ?_⟩ <;> exact below_keep hbk (by assumption)))
        (first
          | (go_at_call 11; (with_reducible refine (toWr_own _ s _ (HK1.out _ ?_) HS1.out).mono ?_); (exact below_step HB7.out (by first | exact Below.refl _ _ | exact below_drew _ | exact below_drewN (Below.refl _ _) _ | exact (below_drewN (Below.refl _ _) _).drew)); rintro e wy1 ⟨y1, by0, rfl, hy, hbk⟩; have HCy := Lib.hid (show Below wz0.heap.size wz0 wy1 from below_step (by first | exact Below.refl _ _ | exact below_drew _ | exact below_drewN (Below.refl _ _) _ | exact (below_drewN (Below.refl _ _) _).drew) hbk); have HY := Lib.hid hy.rd; clear hy)
          | (go_at_call 13; refine (eqWr_same _ _ s _ (keepsWr _ _ _ _ HX1.out HCy.out) HY.out).mono ?_; rintro e wz1 ⟨rfl, hbk⟩; have HCz := Lib.hid (below_step HCy.out hbk)))
      have hb := HCz.out
      have HB8 := Lib.hid (below_step HB7.out hb)
      go_wp2
      go_ret
      exact ⟨rfl, HB8.out⟩

theorem own : ownKnob Try.prog.godebug = none := by kernel_rfl
theorem laidOut : laidOutB Try.prog = true := by kernel_rfl

set_option maxRecDepth 100000 in
theorem lifted (os : Os) (started : os.Started) (H : Type) (enc : TypeId × Value → H) :
    ReturnsInHanded {} Try.checked os 4 .any (Rows.fnExactSameWriterSpec.pre6 enc Try.prog Try.f4 Rows.fnExactSameWriterRow.domain false) (Rows.fnExactSameWriterSpec.post enc Try.prog Try.f4 false true false false) := by
  refine returnsInHanded_of_change_sized (C := Try.checked) own started (by kernel_rfl) Try.func4
    (ChangeSpec.witness6 (enc := enc) (C := Try.checked) false ⟨#[], #[.agg #[.int .i64 0, .int .i64 0, .slice none 0 0, .slice none 0 0], .agg #[.int .i64 0, .int .i64 0, .slice none 0 0, .slice none 0 0]], []⟩ 8 (by kernel_rfl) (by kernel_rfl) (by kernel_rfl) (by kernel_rfl)) ?_
  intro W base args ds gs before hval0 hW _ hsz0 _
  have hsz : (DataW.weightsEach Try.prog (Try.f4.params.toList ++ Rows.fnExactSameWriterSpec.plain.varTypes Try.prog) (ds ++ gs)).all (· ≤ reachBytes) = true := hsz0
  clear hsz0
  have hval : ∀ (j : Nat) t v, Try.f4.params[j]? = some t → args[j]? = some v → Value.okWide Try.prog W .any base t v := hval0
  have hW' := hW
  obtain ⟨p, q, hA0, hV, rfl, hfz, hnd⟩ := hW
  have hA : DataW.TrodAll enc Try.prog W 0 (fun _ => true) true Try.f4.params.toList args.toList ds p := hA0
  have hK := fun W' hb => args_kept (W' := W') laidOut (by decide +kernel) hA hb
  rw [Try.params4] at hA hval hsz
  obtain ⟨v0, vs0, d0, ds0, p0, q0, hargs, rfl, rfl, h0, r0⟩ := trodAll_cons hA
  obtain ⟨v1, vs1, d1, ds1, p1, q1, rfl, rfl, rfl, h1, r1⟩ := trodAll_cons r0
  obtain ⟨rfl, rfl, rfl⟩ := trodAll_nil r1
  obtain rfl : args = #[v0, v1] := by cases args; simp_all
  obtain ⟨rfl, rfl⟩ := trodVars_none hV
  obtain ⟨r, hr0, hs0⟩ := open_writer (hval 0 _ v0 rfl rfl) h0 (fit_arg hsz (j := 0) rfl rfl)
  obtain ⟨s, hr1, hs1⟩ := open_writer (hval 1 _ v1 rfl rfl) h1 (fit_arg hsz (j := 1) rfl rfl)
  clear hA0 hval0
  refine (walk v0 r v1 s W hr0 hs0 hr1 hs1).mono fun e W' ⟨he, bel⟩ => ?_
  subst he
  exact ⟨_, rfl, _, _, _, [], _, [], hW', trodAll_mk1 (shut_bool Try.underlying4 _), hK W' bel, rfl, bel.frame _, fun h => by cases h⟩

theorem over : Rows.fnExactSameWriterRow.holds Try.pinned (OpenSpec.ofChange Rows.fnExactSameWriterSpec) :=
  OpenClaim.holds_of_wide 4 Try.f4 rfl rfl rfl rfl rfl rfl rfl ⟨rfl, rfl, rfl, rfl, rfl⟩ rfl rfl rfl rfl rfl (by kernel_rfl) Try.func4 (by kernel_rfl)
    (of_decide_eq_true (by kernel_rfl)) (by unfold Func.isWrapper; first | (rw [if_pos (by decide +kernel)]; kernel_rfl) | (rw [if_neg (by decide +kernel)]; exact ⟨rfl, rfl⟩))
    (fun os started H enc _ => lifted os started H enc)

theorem holds : Rows.FnExactSameWriterSaid := over
#print axioms holds
end Go.Proofs.Ytlbmbgnkinfibaa.sameWriter
