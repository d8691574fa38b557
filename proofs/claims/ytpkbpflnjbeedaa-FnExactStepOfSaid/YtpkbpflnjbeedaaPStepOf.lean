/-
  For every input that can be read as data, FnExactStepOf returns true, and its arguments read behind the call as before: the program's StepOf answers as its model.
-/
import Derived.Test.YtpkbpflnjbeedaaRows
import Derived.Test.YtpkbpflnjbeedaaOpen
import Derived.Test.YtpkbpflnjbeedaaSt4
import Derived.Test.YtpkbpflnjbeedaaQPlace
import Derived.Deep.CutRange
namespace Go.Proofs.Ytpkbpflnjbeedaa.stepOf
open Go.ChangeShapes Go.WideShapes Go.ChangeAt Go.RowKit Go.Joins
open Go.ChangeMaps (open_string shut_string)
set_option linter.unusedVariables false
/-- What a place reads as. -/
def RdPl (v : Value) (p : Int × Int) : Prop := v = .agg #[.int .i64 p.1, .int .i64 p.2]
/-- A place that a call has laid somewhere behind what was there, and a code. -/
def AtPl (W : World) (res : (Int × Int) × Int) (s8 s9 : Value) (wx : World) : Prop :=
  ∃ po, s8 = .pointer (some ⟨po, 0, none⟩) ∧ s9 = .int .i64 res.2 ∧ Row wx po 55 [.int .i64 res.1.1, .int .i64 res.1.2] ∧ Below W.heap.size W wx
theorem AtPl.drew {W : World} {res : (Int × Int) × Int} {s8 s9 : Value} {wx : World} (h : AtPl W res s8 s9 wx) : AtPl W res s8 s9 wx.drew := by
  obtain ⟨po, a, b, c, d⟩ := h
  exact ⟨po, a, b, c, d.drew⟩
theorem keep_realloc {w : World} {o o' : Obj} {b i : Nat} {v : Value} (hp : b < w.heap.size) (h : (w.alloc o).cell? ⟨b, i, none⟩ = some v) : (w.alloc o').cell? ⟨b, i, none⟩ = some v := by
  have e1 := (below_alloc w o).cell (p := ⟨b, i, none⟩) hp
  have e2 := (below_alloc w o').cell (p := ⟨b, i, none⟩) hp
  rw [e2, ← e1]; exact h
theorem atPl_new {W wb : World} {res : (Int × Int) × Int} (h : Below W.heap.size W wb) : AtPl W res (.pointer (some ⟨wb.heap.size, 0, none⟩)) (.int .i64 res.2) (wb.alloc (.cells #[.int .i64 res.1.1, .int .i64 res.1.2] 55)) :=
  ⟨_, rfl, rfl, Row.new _ _ _, below_step h (below_alloc _ _)⟩
theorem atPl_old {W wa wb : World} {po : Nat} {res : (Int × Int) × Int} {x y : Value} (h : Row wa po 55 [x, y]) (hp : W.heap.size ≤ po) (h0 : Below W.heap.size W wa) (h1 : Below wa.heap.size wa wb) :
    AtPl W res (.pointer (some ⟨po, 0, none⟩)) (.int .i64 res.2) ((wb.setCell ⟨po, 0, none⟩ (.int .i64 res.1.1)).setCell ⟨po, 1, none⟩ (.int .i64 res.1.2)) :=
  ⟨_, rfl, rfl, ((h.below h1 h.lt).stored 0 _).stored 1 _, ((below_step h0 h1).setCell (p := ⟨po, 0, none⟩) hp _).setCell (p := ⟨po, 1, none⟩) hp _⟩

set_option maxRecDepth 100000 in
set_option maxHeartbeats 6400000 in
theorem walk (v0 : Value) (r : TData) (t : ByteArray) (v2 : Value) (p : Int × Int) (w : World) (h0 : RdT w v0 r) (s0 : TSmall r) (s1 : t.size ≤ 140737488351232) (h2 : RdPl v2 p) (s2 : True) :
    Calls Try.prog 7 #[v0, .string t, v2] w fun e w' => e = .returned (.bool true) ∧ Below w.heap.size w w' := by
  obtain rfl := h2
  have hs0 := h0.shape
  obtain ⟨A0, c0, rfl⟩ := hs0
  have HK0 := Lib.hid (fun W (hb : Below w.heap.size w W) => keepsT _ _ _ _ h0 hb)
  have HS0 := Lib.hid s0
  clear h0 s0
  have HB := Lib.hid (show Below w.heap.size w ((w.alloc (.cells #[.int .i64 r.L, .int .i64 r.S, .slice A0 r.mv.length c0] 24)).alloc (.cells #[.int .i64 p.1, .int .i64 p.2] 53)) from (below_alloc w _).alloc (by simp) _)
  have hx0 : Row ((w.alloc (.cells #[.int .i64 r.L, .int .i64 r.S, .slice A0 r.mv.length c0] 24)).alloc (.cells #[.int .i64 p.1, .int .i64 p.2] 53)) (w.heap.size) 24 [.int .i64 r.L, .int .i64 r.S, .slice A0 r.mv.length c0] := (Row.new w _ _).alloc _
  have hx1 : Row ((w.alloc (.cells #[.int .i64 r.L, .int .i64 r.S, .slice A0 r.mv.length c0] 24)).alloc (.cells #[.int .i64 p.1, .int .i64 p.2] 53)) (w.heap.size + 1) 53 [.int .i64 p.1, .int .i64 p.2] := by simpa using Row.new (w.alloc (.cells #[.int .i64 r.L, .int .i64 r.S, .slice A0 r.mv.length c0] 24)) [.int .i64 p.1, .int .i64 p.2] 53
  have HR := Lib.hid (show _ ∧ _ from ⟨hx0, hx1⟩)
  clear hx0 hx1
  by_cases hm1 : 1048576 < (t.size : Int)
  · go_enter Try.func7, Try.ntmps7
    go_wp2_with fail
    go_ret
    exact ⟨rfl, HB.out⟩
  go_enter Try.func7, Try.ntmps7
  go_wp2_with fail
  refine (szT_any _ r _ _ (HK0.out _ HB.out)).mono ?_
  generalize ((w.alloc (.cells #[.int .i64 r.L, .int .i64 r.S, .slice A0 r.mv.length c0] 24)).alloc (.cells #[.int .i64 p.1, .int .i64 p.2] 53)) = W0 at *
  rintro e w1 ⟨⟨m0, rfl⟩, hb⟩
  have HB1 := Lib.hid (below_step HB.out hb)
  have HR1 := Lib.hid (show _ ∧ _ from ⟨HR.out.1.below hb HR.out.1.lt, HR.out.2.below hb HR.out.2.lt⟩)
  obtain ⟨⟨q0, q1, q2⟩, -⟩ := HR1.out.1.three
  obtain ⟨⟨q3, q4⟩, -⟩ := HR1.out.2.two
  have lt1 := HR1.out.2.lt
  clear HR HB hb
  by_cases hm0 : m0 < 0
  · go_wp2_with fail
    go_ret
    exact ⟨rfl, HB1.out⟩
  go_upto_region 7 with fail
  go_cut [8, 9] from 21 to 29 (fun s8 s9 wx => AtPl w1 (stepRes r t p) s8 s9 wx)
  case first =>
    go_region_held3 (fun W => W.cell? ⟨w.heap.size, 0, none⟩ = some (.int .i64 r.L) ∧ W.cell? ⟨w.heap.size, 1, none⟩ = some (.int .i64 r.S) ∧ W.cell? ⟨w.heap.size, 2, none⟩ = some (.slice A0 r.mv.length c0) ∧ W.cell? ⟨w.heap.size + 1, 0, none⟩ = some (.int .i64 p.1) ∧ W.cell? ⟨w.heap.size + 1, 1, none⟩ = some (.int .i64 p.2))
      (first | (go_split_ands; refine ⟨?_, ?_, ?_, ?_, ?_⟩ <;> (first | assumption | exact below_keep hbk (by assumption) | exact below_keep (below_alloc _ _) (by assumption) | exact below_keep ((below_alloc _ _).drew) (by assumption) | exact keep_realloc (by omega) (by assumption) | exact keep_two (by omega) (by assumption) | exact keep_two_drew (by omega) (by assumption))) | go_keep)
      (first
        | (go_at_call 23; (with_reducible refine (toT_own _ r _ (HK0.out _ ?_) HS0.out).mono ?_); (exact below_step HB1.out (by first | with_reducible exact (Below.refl _ _) | with_reducible exact (Below.refl _ _).drew | with_reducible exact (below_step (Below.refl _ _) (below_alloc _ _)) | with_reducible exact (below_step (Below.refl _ _) (below_alloc _ _)).drew | with_reducible exact HCp.out | with_reducible exact HCp.out.drew | with_reducible exact (below_step HCp.out (below_alloc _ _)) | with_reducible exact (below_step HCp.out (below_alloc _ _)).drew)); rintro e wa ⟨u0, bu, rfl, hu, hbk⟩; have HCa := Lib.hid (show Below w1.heap.size w1 wa from below_step (by first | with_reducible exact (Below.refl _ _) | with_reducible exact (Below.refl _ _).drew | with_reducible exact (below_step (Below.refl _ _) (below_alloc _ _)) | with_reducible exact (below_step (Below.refl _ _) (below_alloc _ _)).drew | with_reducible exact HCp.out | with_reducible exact HCp.out.drew | with_reducible exact (below_step HCp.out (below_alloc _ _)) | with_reducible exact (below_step HCp.out (below_alloc _ _)).drew) hbk); have HU := Lib.hid hu.rd; clear hu; have hsza := HCa.out.size; (first | (have HZn := Lib.hid (show Row wa w1.heap.size 55 [.int .i64 0, .int .i64 0] from Row.below (Row.new w1 [.int .i64 0, .int .i64 0] 55) hbk (Row.lt (Row.new w1 [.int .i64 0, .int .i64 0] 55)))) | (have HZn := Lib.hid (show Row wa w1.heap.size 55 [.int .i64 0, .int .i64 0] from Row.below (Row.new w1 [.int .i64 0, .int .i64 0] 55).drew hbk (Row.lt (Row.new w1 [.int .i64 0, .int .i64 0] 55).drew))) | (have HZn := Lib.hid (show Row wa wp.heap.size 55 [.int .i64 0, .int .i64 0] from Row.below (Row.new wp [.int .i64 0, .int .i64 0] 55) hbk (Row.lt (Row.new wp [.int .i64 0, .int .i64 0] 55)))) | (have HZn := Lib.hid (show Row wa wp.heap.size 55 [.int .i64 0, .int .i64 0] from Row.below (Row.new wp [.int .i64 0, .int .i64 0] 55).drew hbk (Row.lt (Row.new wp [.int .i64 0, .int .i64 0] 55).drew))) | (have HZn := Lib.hid (Row.below (HZn.out) hbk (Row.lt (HZn.out)))) | (have HZn := Lib.hid (Row.below (HZn.out.drew) hbk (Row.lt (HZn.out.drew)))) | skip))
        | (go_at_call 24; (with_reducible refine (toPlace_any p.1 p.2 _).mono ?_); rintro e wp ⟨rfl, hbk⟩; have HCp := Lib.hid (show Below w1.heap.size w1 wp from below_step (by first | with_reducible exact (Below.refl _ _) | with_reducible exact (Below.refl _ _).drew | with_reducible exact (below_step (Below.refl _ _) (below_alloc _ _)) | with_reducible exact (below_step (Below.refl _ _) (below_alloc _ _)).drew | with_reducible exact HCa.out | with_reducible exact HCa.out.drew | with_reducible exact (below_step HCa.out (below_alloc _ _)) | with_reducible exact (below_step HCa.out (below_alloc _ _)).drew) hbk); (first | (have HPK := Lib.hid (show Below wa.heap.size wa wp from below_step (by first | with_reducible exact (Below.refl _ _) | with_reducible exact (Below.refl _ _).drew | with_reducible exact (below_step (Below.refl _ _) (below_alloc _ _)) | with_reducible exact (below_step (Below.refl _ _) (below_alloc _ _)).drew) hbk)) | skip); have hszp := HCp.out.size; (first | (have HZn := Lib.hid (show Row wp w1.heap.size 55 [.int .i64 0, .int .i64 0] from Row.below (Row.new w1 [.int .i64 0, .int .i64 0] 55) hbk (Row.lt (Row.new w1 [.int .i64 0, .int .i64 0] 55)))) | (have HZn := Lib.hid (show Row wp w1.heap.size 55 [.int .i64 0, .int .i64 0] from Row.below (Row.new w1 [.int .i64 0, .int .i64 0] 55).drew hbk (Row.lt (Row.new w1 [.int .i64 0, .int .i64 0] 55).drew))) | (have HZn := Lib.hid (show Row wp wa.heap.size 55 [.int .i64 0, .int .i64 0] from Row.below (Row.new wa [.int .i64 0, .int .i64 0] 55) hbk (Row.lt (Row.new wa [.int .i64 0, .int .i64 0] 55)))) | (have HZn := Lib.hid (show Row wp wa.heap.size 55 [.int .i64 0, .int .i64 0] from Row.below (Row.new wa [.int .i64 0, .int .i64 0] 55).drew hbk (Row.lt (Row.new wa [.int .i64 0, .int .i64 0] 55).drew))) | (have HZn := Lib.hid (Row.below (HZn.out) hbk (Row.lt (HZn.out)))) | (have HZn := Lib.hid (Row.below (HZn.out.drew) hbk (Row.lt (HZn.out.drew)))) | skip))
        | (go_at_call 22; (with_reducible refine (specStepOf_any _ r t p _ ?_ (by unfold maxLen; omega)).mono ?_); (first | exact HU.out | exact keepsT _ _ _ _ HU.out (by first | with_reducible exact (Below.refl _ _) | with_reducible exact (Below.refl _ _).drew | with_reducible exact (below_step (Below.refl _ _) (below_alloc _ _)) | with_reducible exact (below_step (Below.refl _ _) (below_alloc _ _)).drew | with_reducible exact HPK.out | with_reducible exact HPK.out.drew | with_reducible exact (below_step HPK.out (below_alloc _ _)) | with_reducible exact (below_step HPK.out (below_alloc _ _)).drew)); rintro e wb ⟨rfl, hbk⟩; have HCb := Lib.hid (show Below w1.heap.size w1 wb from below_step (by first | with_reducible exact HCa.out | with_reducible exact HCa.out.drew | with_reducible exact (below_step HCa.out (below_alloc _ _)) | with_reducible exact (below_step HCa.out (below_alloc _ _)).drew | with_reducible exact HCp.out | with_reducible exact HCp.out.drew | with_reducible exact (below_step HCp.out (below_alloc _ _)) | with_reducible exact (below_step HCp.out (below_alloc _ _)).drew) hbk); have hszb := HCb.out.size; (first | (have HZn := Lib.hid (show Row wb wa.heap.size 55 [.int .i64 0, .int .i64 0] from Row.below (Row.new wa [.int .i64 0, .int .i64 0] 55) hbk (Row.lt (Row.new wa [.int .i64 0, .int .i64 0] 55)))) | (have HZn := Lib.hid (show Row wb wa.heap.size 55 [.int .i64 0, .int .i64 0] from Row.below (Row.new wa [.int .i64 0, .int .i64 0] 55).drew hbk (Row.lt (Row.new wa [.int .i64 0, .int .i64 0] 55).drew))) | (have HZn := Lib.hid (show Row wb wp.heap.size 55 [.int .i64 0, .int .i64 0] from Row.below (Row.new wp [.int .i64 0, .int .i64 0] 55) hbk (Row.lt (Row.new wp [.int .i64 0, .int .i64 0] 55)))) | (have HZn := Lib.hid (show Row wb wp.heap.size 55 [.int .i64 0, .int .i64 0] from Row.below (Row.new wp [.int .i64 0, .int .i64 0] 55).drew hbk (Row.lt (Row.new wp [.int .i64 0, .int .i64 0] 55).drew))) | (have HZn := Lib.hid (Row.below (HZn.out) hbk (Row.lt (HZn.out)))) | (have HZn := Lib.hid (Row.below (HZn.out.drew) hbk (Row.lt (HZn.out.drew)))) | skip); (first | (obtain ⟨⟨z0, z1⟩, zf⟩ := HZn.out.two; have ltz := HZn.out.lt) | skip)))
    all_goals
      go_wp2_with fail
      go_meet
      first | exact atPl_new HCb.out | exact (atPl_new HCb.out).drew | exact atPl_old (W := w1) HZn.out (by omega) HCb.out (Below.refl _ _) | exact (atPl_old (W := w1) HZn.out (by omega) HCb.out (Below.refl _ _)).drew
  case rest =>
    obtain ⟨po, rfl, rfl, hrow, hbw⟩ := hcut
    have HB2 := Lib.hid (below_step HB1.out hbw)
    have HR2 := Lib.hid (show _ ∧ _ ∧ _ from ⟨HR1.out.1.below hbw HR1.out.1.lt, HR1.out.2.below hbw HR1.out.2.lt, hrow⟩)
    have lt2 := Nat.lt_of_lt_of_le lt1 hbw.size
    clear q0 q1 q2 q3 q4 lt1 hrow hbw HR1 HB1
    obtain ⟨⟨q0, q1, q2⟩, -⟩ := HR2.out.1.three
    go_wp2_with fail
    refine (toT_own _ r _ (HK0.out _ HB2.out) HS0.out).mono ?_
    rintro e w4 ⟨x0, bx0, rfl, hx, hb⟩
    have hsx := hx.rd.shape
    obtain ⟨Ax, cx, rfl⟩ := hsx
    have HX := Lib.hid (keepsT _ _ _ _ hx.rd (below_alloc w4 (.cells #[.int .i64 r.L, .int .i64 r.S, .slice Ax r.mv.length cx] 32)))
    have HXR := Lib.hid (Row.new w4 [.int .i64 r.L, .int .i64 r.S, .slice Ax r.mv.length cx] 32)
    have hb5 := below_step hb (below_alloc w4 (.cells #[.int .i64 r.L, .int .i64 r.S, .slice Ax r.mv.length cx] 32))
    have HB3 := Lib.hid (below_step HB2.out hb5)
    have HR3 := Lib.hid (show _ ∧ _ ∧ _ from ⟨HR2.out.1.below hb5 HR2.out.1.lt, HR2.out.2.1.below hb5 HR2.out.2.1.lt, HR2.out.2.2.below hb5 HR2.out.2.2.lt⟩)
    clear q0 q1 q2 hb hb5 hx HR2 HB2 lt2
    go_upto_region 9 with fail
    have lt4 := HXR.out.lt
    generalize w4.heap.size = bx at *
    generalize w4.alloc (.cells #[.int .i64 r.L, .int .i64 r.S, .slice Ax r.mv.length cx] 32) = w5 at *
    obtain ⟨⟨q0, q1, q2⟩, -⟩ := HXR.out.three
    obtain ⟨⟨q3, q4⟩, -⟩ := HR3.out.2.1.two
    have lt5 := HR3.out.2.1.lt
    go_cut [11, 12] from 32 to 39 (fun s11 s12 wx => AtPl w5 (stepRes r t p) s11 s12 wx)
    case first =>
      go_region_held3 (fun W => W.cell? ⟨bx, 0, none⟩ = some (.int .i64 r.L) ∧ W.cell? ⟨bx, 1, none⟩ = some (.int .i64 r.S) ∧ W.cell? ⟨bx, 2, none⟩ = some (.slice Ax r.mv.length cx) ∧ W.cell? ⟨w.heap.size + 1, 0, none⟩ = some (.int .i64 p.1) ∧ W.cell? ⟨w.heap.size + 1, 1, none⟩ = some (.int .i64 p.2))
        (first | (go_split_ands; refine ⟨?_, ?_, ?_, ?_, ?_⟩ <;> (first | assumption | exact below_keep hbk (by assumption) | exact below_keep (below_alloc _ _) (by assumption) | exact below_keep ((below_alloc _ _).drew) (by assumption) | exact keep_realloc (by omega) (by assumption) | exact keep_two (by omega) (by assumption) | exact keep_two_drew (by omega) (by assumption))) | go_keep)
        (first
          | (go_at_call 24; (with_reducible refine (toPlace_any p.1 p.2 _).mono ?_); rintro e wp ⟨rfl, hbk⟩; have HCp := Lib.hid (show Below w5.heap.size w5 wp from below_step (by first | with_reducible exact (Below.refl _ _) | with_reducible exact (Below.refl _ _).drew | with_reducible exact (below_step (Below.refl _ _) (below_alloc _ _)) | with_reducible exact (below_step (Below.refl _ _) (below_alloc _ _)).drew) hbk); have hszp := HCp.out.size; (first | (have HZn := Lib.hid (show Row wp w5.heap.size 55 [.int .i64 0, .int .i64 0] from Row.below (Row.new w5 [.int .i64 0, .int .i64 0] 55) hbk (Row.lt (Row.new w5 [.int .i64 0, .int .i64 0] 55)))) | (have HZn := Lib.hid (show Row wp w5.heap.size 55 [.int .i64 0, .int .i64 0] from Row.below (Row.new w5 [.int .i64 0, .int .i64 0] 55).drew hbk (Row.lt (Row.new w5 [.int .i64 0, .int .i64 0] 55).drew))) | (have HZn := Lib.hid (Row.below (HZn.out) hbk (Row.lt (HZn.out)))) | (have HZn := Lib.hid (Row.below (HZn.out.drew) hbk (Row.lt (HZn.out.drew)))) | skip))
          | (go_at_call 25; (with_reducible refine (implStepOf_any _ r t p _ ?_ (by unfold maxLen; omega)).mono ?_); (exact keepsT _ _ _ _ HX.out (by first | with_reducible exact HCp.out | with_reducible exact HCp.out.drew | with_reducible exact (below_step HCp.out (below_alloc _ _)) | with_reducible exact (below_step HCp.out (below_alloc _ _)).drew)); rintro e wb ⟨rfl, hbk⟩; have HCb := Lib.hid (show Below w5.heap.size w5 wb from below_step (by first | with_reducible exact HCp.out | with_reducible exact HCp.out.drew | with_reducible exact (below_step HCp.out (below_alloc _ _)) | with_reducible exact (below_step HCp.out (below_alloc _ _)).drew) hbk); have hszb := HCb.out.size; (first | (have HZn := Lib.hid (show Row wb wp.heap.size 55 [.int .i64 0, .int .i64 0] from Row.below (Row.new wp [.int .i64 0, .int .i64 0] 55) hbk (Row.lt (Row.new wp [.int .i64 0, .int .i64 0] 55)))) | (have HZn := Lib.hid (show Row wb wp.heap.size 55 [.int .i64 0, .int .i64 0] from Row.below (Row.new wp [.int .i64 0, .int .i64 0] 55).drew hbk (Row.lt (Row.new wp [.int .i64 0, .int .i64 0] 55).drew))) | (have HZn := Lib.hid (Row.below (HZn.out) hbk (Row.lt (HZn.out)))) | (have HZn := Lib.hid (Row.below (HZn.out.drew) hbk (Row.lt (HZn.out.drew)))) | skip); (first | (obtain ⟨⟨z0, z1⟩, zf⟩ := HZn.out.two; have ltz := HZn.out.lt) | skip)))
      all_goals
        go_wp2_with fail
        go_meet
        first | exact atPl_new HCb.out | exact (atPl_new HCb.out).drew | exact atPl_old (W := w5) HZn.out (by omega) HCb.out (Below.refl _ _) | exact (atPl_old (W := w5) HZn.out (by omega) HCb.out (Below.refl _ _)).drew
    case rest =>
      obtain ⟨pq, rfl, rfl, hrow, hbw⟩ := hcut
      have HB4 := Lib.hid (below_step HB3.out hbw)
      have HXR4 := Lib.hid (HXR.out.below hbw HXR.out.lt)
      have HX4 := Lib.hid (keepsT _ _ _ _ HX.out hbw)
      have HR4 := Lib.hid (show _ ∧ _ ∧ _ from ⟨HR3.out.1.below hbw HR3.out.1.lt, HR3.out.2.2.below hbw HR3.out.2.2.lt, hrow⟩)
      clear q0 q1 q2 q3 q4 lt4 lt5 hrow hbw HR3 HXR HX HB3
      obtain ⟨⟨q0, q1⟩, -⟩ := HR4.out.2.1.two
      obtain ⟨⟨q2, q3⟩, -⟩ := HR4.out.2.2.two
      have hne : ((stepRes r t p).2 != (stepRes r t p).2) = false := by simp
      have heq : eqPair ((stepRes r t p).1.1, (stepRes r t p).1.2) ((stepRes r t p).1.1, (stepRes r t p).1.2) = true := by simp [eqPair]
      have HE := Lib.hid (fun W => heq ▸ eqPlace_any (stepRes r t p).1.1 (stepRes r t p).1.2 (stepRes r t p).1.1 (stepRes r t p).1.2 W)
      clear heq
      go_wp2_with fail
      refine (HE.out _).mono ?_
      rintro e w6 ⟨rfl, hb⟩
      have HB5 := Lib.hid (below_step HB4.out hb)
      have HX5 := Lib.hid (keepsT _ _ _ _ HX4.out hb)
      have HXR5 := Lib.hid (HXR4.out.below hb HXR4.out.lt)
      have HR5 := Lib.hid (HR4.out.1.below hb HR4.out.1.lt)
      clear q0 q1 q2 q3 hb HR4 HXR4 HX4 HB4
      obtain ⟨⟨q0, q1, q2⟩, -⟩ := HXR5.out.three
      obtain ⟨⟨q3, q4, q5⟩, -⟩ := HR5.out.three
      go_wp2_with fail
      go_region_held3 (fun W => W.cell? ⟨bx, 0, none⟩ = some (.int .i64 r.L) ∧ W.cell? ⟨bx, 1, none⟩ = some (.int .i64 r.S) ∧ W.cell? ⟨bx, 2, none⟩ = some (.slice Ax r.mv.length cx) ∧ W.cell? ⟨w.heap.size, 0, none⟩ = some (.int .i64 r.L) ∧ W.cell? ⟨w.heap.size, 1, none⟩ = some (.int .i64 r.S) ∧ W.cell? ⟨w.heap.size, 2, none⟩ = some (.slice A0 r.mv.length c0))
        (first | (go_split_ands; refine ⟨?_, ?_, ?_, ?_, ?_, ?_⟩ <;> (first | assumption | exact below_keep hbk (by assumption))) | go_keep)
        (first
          | (go_at_call 23; (with_reducible refine (toT_own _ r _ (HK0.out _ ?_) HS0.out).mono ?_); (exact below_step HB5.out (by first | with_reducible exact (Below.refl _ _) | with_reducible exact (Below.refl _ _).drew | with_reducible exact (below_step (Below.refl _ _) (below_alloc _ _)) | with_reducible exact (below_step (Below.refl _ _) (below_alloc _ _)).drew)); rintro e wy ⟨y0, by0, rfl, hy, hbk⟩; have HCy := Lib.hid (show Below w6.heap.size w6 wy from below_step (by first | with_reducible exact (Below.refl _ _) | with_reducible exact (Below.refl _ _).drew | with_reducible exact (below_step (Below.refl _ _) (below_alloc _ _)) | with_reducible exact (below_step (Below.refl _ _) (below_alloc _ _)).drew) hbk); have HY := Lib.hid hy.rd; clear hy)
          | (go_at_call 27; refine (eqT_same _ _ r _ (keepsT _ _ _ _ HX5.out HCy.out) HY.out).mono ?_; rintro e wz ⟨rfl, hbk⟩; have HCz := Lib.hid (below_step HCy.out hbk)))
      go_wp2
      go_ret
      exact ⟨rfl, below_step HB5.out HCz.out⟩

set_option maxRecDepth 100000 in
theorem open_place {H : Type} {enc : TypeId × Value → H} {W : World} {base : Nat} {v : Value} {d : DataW H} {p : List MemPlace} (hv : Value.okWide Try.prog W .any base 53 v) (h : DataW.Trod enc Try.prog W 0 (fun _ => true) true 53 v d p)
    (hf : Fit Try.prog 53 d) : ∃ r : Int × Int, RdPl v r ∧ True := by
  obtain ⟨v0, v1, y0, y1, n, rfl, rfl, _, g0, g1⟩ := open_agg2 Try.underlying53 (by kernel_rfl) (by kernel_rfl) hv h
  obtain ⟨x, rfl, -⟩ := opens_int Try.underlying2 n v0 y0 g0 (hf.part Try.underlying53 (j := 0) rfl rfl)
  obtain ⟨y, rfl, -⟩ := opens_int Try.underlying2 n v1 y1 g1 (hf.part Try.underlying53 (j := 1) rfl rfl)
  exact ⟨(x, y), rfl, trivial⟩

theorem own : ownKnob Try.prog.godebug = none := by kernel_rfl
theorem laidOut : laidOutB Try.prog = true := by kernel_rfl

set_option maxRecDepth 100000 in
theorem lifted (os : Os) (started : os.Started) (H : Type) (enc : TypeId × Value → H) :
    ReturnsInHanded {} Try.checked os 7 .any (Rows.fnExactStepOfSpec.pre6 enc Try.prog Try.f7 Rows.fnExactStepOfRow.domain false) (Rows.fnExactStepOfSpec.post enc Try.prog Try.f7 false true false false) := by
  refine returnsInHanded_of_change_sized (C := Try.checked) own started (by kernel_rfl) Try.func7
    (ChangeSpec.witness6 (enc := enc) (C := Try.checked) false ⟨#[], #[.agg #[.int .i64 0, .int .i64 0, .slice none 0 0], .string (ByteArray.mk #[]), .agg #[.int .i64 0, .int .i64 0]], []⟩ 8 (by kernel_rfl) (by kernel_rfl) (by kernel_rfl) (by kernel_rfl)) ?_
  intro W base args ds gs before hval0 hW _ hsz0 _
  have hsz : (DataW.weightsEach Try.prog (Try.f7.params.toList ++ Rows.fnExactStepOfSpec.plain.varTypes Try.prog) (ds ++ gs)).all (· ≤ reachBytes) = true := hsz0
  clear hsz0
  have hval : ∀ (j : Nat) t v, Try.f7.params[j]? = some t → args[j]? = some v → Value.okWide Try.prog W .any base t v := hval0
  have hW' := hW
  obtain ⟨p, q, hA0, hV, rfl, hfz, hnd⟩ := hW
  have hA : DataW.TrodAll enc Try.prog W 0 (fun _ => true) true Try.f7.params.toList args.toList ds p := hA0
  have hK := fun W' hb => args_kept (W' := W') laidOut (by decide +kernel) hA hb
  rw [Try.params7] at hA hval hsz
  obtain ⟨v0, vs0, d0, ds0, p0, q0, hargs, rfl, rfl, h0, r0⟩ := trodAll_cons hA
  obtain ⟨v1, vs1, d1, ds1, p1, q1, rfl, rfl, rfl, h1, r1⟩ := trodAll_cons r0
  obtain ⟨v2, vs2, d2, ds2, p2, q2, rfl, rfl, rfl, h2, r2⟩ := trodAll_cons r1
  obtain ⟨rfl, rfl, rfl⟩ := trodAll_nil r2
  obtain rfl : args = #[v0, v1, v2] := by cases args; simp_all
  obtain ⟨rfl, rfl⟩ := trodVars_none hV
  obtain ⟨r, hr0, hs0⟩ := open_turner (hval 0 _ v0 rfl rfl) h0 (fit_arg hsz (j := 0) rfl rfl)
  have hf1 := fit_arg hsz (j := 1) rfl rfl
  obtain ⟨t, rfl, rfl, rfl, hl1⟩ := open_string Try.underlying9 (hval 1 _ v1 rfl rfl) h1
  obtain ⟨p, hr2, hs2⟩ := open_place (hval 2 _ v2 rfl rfl) h2 (fit_arg hsz (j := 2) rfl rfl)
  clear hA0 hval0
  refine (walk v0 r t v2 p W hr0 hs0 (fit_string hf1) hr2 hs2).mono fun e W' ⟨he, bel⟩ => ?_
  subst he
  exact ⟨_, rfl, _, _, _, [], _, [], hW', trodAll_mk1 (shut_bool Try.underlying4 _), hK W' bel, rfl, bel.frame _, fun h => by cases h⟩

theorem over : Rows.fnExactStepOfRow.holds Try.pinned (OpenSpec.ofChange Rows.fnExactStepOfSpec) :=
  OpenClaim.holds_of_wide 7 Try.f7 rfl rfl rfl rfl rfl rfl rfl ⟨rfl, rfl, rfl, rfl, rfl⟩ rfl rfl rfl rfl rfl (by kernel_rfl) Try.func7 (by kernel_rfl)
    (of_decide_eq_true (by kernel_rfl)) (by unfold Func.isWrapper; first | (rw [if_pos (by decide +kernel)]; kernel_rfl) | (rw [if_neg (by decide +kernel)]; exact ⟨rfl, rfl⟩))
    (fun os started H enc _ => lifted os started H enc)

theorem holds : Rows.FnExactStepOfSaid := over
#print axioms holds
end Go.Proofs.Ytpkbpflnjbeedaa.stepOf
