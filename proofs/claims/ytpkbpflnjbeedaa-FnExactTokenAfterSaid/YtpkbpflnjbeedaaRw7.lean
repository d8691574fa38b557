/-
  Tokens: the program's step.
-/
import Derived.Test.YtpkbpflnjbeedaaRw6
import Derived.Test.YtpkbpflnjbeedaaSt4
import Derived.Test.YtpkbpflnjbeedaaSv
import Derived.BigRegion
namespace Go.Proofs.Ytpkbpflnjbeedaa
open Go.RowKit

theorem isOver_any (x : Tok) (w : World) :
    Calls Try.prog 39 #[tokV x] w fun e w' => e = .returned (.bool (x.v != 0)) ∧ Below w.heap.size w w' := by
  go_enter Try.func39, Try.ntmps39
  go_wp2
  go_ret
  exact ⟨rfl, below_alloc _ _⟩

theorem firstToken_any (v : Value) (r : RwData) (w : World) (h : RdRw w v r) (ok : OkRow r) :
    Calls Try.prog 38 #[v] w fun e w' => e = .returned (tokV (firstTk r)) ∧ Below w.heap.size w w' := by
  obtain ⟨m, c, rfl, -, -⟩ := h
  have HS := Lib.hid (firstTk_ok ok).2
  have HB := Lib.hid (show Below w.heap.size w ((w.alloc (.cells #[.int .i64 r.L, .int .i64 r.S, m, .string r.wd, c] 34)).alloc (.cells #[.int .i64 0, .int .i64 r.S, .int .i64 0, .int .i64 0] 42)) from (below_alloc _ _).alloc (by simp) _)
  clear ok
  go_enter Try.func38, Try.ntmps38
  go_wp2
  refine bodyPost_ret (v := .agg #[.int .i64 0, .int .i64 r.S, .int .i64 0, .int .i64 0]) (by simp [results, Try.results38, go_sem]) rfl ⟨?_, HB.out⟩
  show _ = Ending.returned (tokV ⟨0, r.S.toNat, 0, 0⟩)
  simp only [tokV]
  rw [HS.out]; rfl

set_option maxHeartbeats 1600000 in
theorem countPlaces_any (v : Value) (r : RwData) (w : World) (h : RdRw w v r) (ok : OkRow r) :
    Calls Try.prog 61 #[v] w fun e w' => e = .returned (.int .i64 ((placesR r : Nat) : Int)) ∧ Below w.heap.size w w' := by
  obtain ⟨m, c, rfl, hm, -⟩ := h
  have HST := Lib.hid (fun W (hb : Below w.heap.size w W) => states_any (.agg #[.int .i64 r.L, .int .i64 r.S, m]) r.t W ⟨m, rfl, keepsPP _ _ _ _ hm hb⟩)
  have HCC := Lib.hid (fun W => countCells_any r.wd W ok.s)
  have HB := Lib.hid (below_alloc w (.cells #[.int .i64 r.L, .int .i64 r.S, m, .string r.wd, c] 34))
  have HR := Lib.hid (Row.new w [.int .i64 r.L, .int .i64 r.S, m, .string r.wd, c] 34)
  have hw : IntKind.i64.wrap ((r.t.mv.length : Int) * ((r.wd.size : Int) + 2)) = ((placesR r : Nat) : Int) := by
    have e : (r.t.mv.length : Int) * ((r.wd.size : Int) + 2) = ((placesR r : Nat) : Int) := by unfold placesR; push_cast; rfl
    have := places_le ok
    rw [e]; exact IntWalk.i64_in _ (by omega)
  clear hm ok
  go_enter Try.func61, Try.ntmps61
  go_wp2_with fail
  generalize w.alloc (.cells #[.int .i64 r.L, .int .i64 r.S, m, .string r.wd, c] 34) = W0 at *
  obtain ⟨⟨c0, c1, c2, c3, c4⟩, -⟩ := HR.out.five
  go_region_held3 (fun W => W.cell? ⟨w.heap.size, 0, none⟩ = some (.int .i64 r.L) ∧ W.cell? ⟨w.heap.size, 1, none⟩ = some (.int .i64 r.S) ∧ W.cell? ⟨w.heap.size, 2, none⟩ = some m ∧ W.cell? ⟨w.heap.size, 3, none⟩ = some (.string r.wd))
    (first | go_keep | (go_split_ands; refine ⟨?_, ?_, ?_, ?_⟩ <;> exact below_keep hbk (by assumption)))
    (first
      | (go_at_call 57; (with_reducible refine (HCC.out _).mono ?_); rintro e wy ⟨rfl, rfl⟩)
      | (go_at_call 48; (with_reducible refine (HST.out _ (below_step HB.out (by first | exact Below.refl _ _ | exact below_drew _ | exact below_drewN' _ _))).mono ?_); rintro e wz ⟨rfl, hbk⟩; have HC1 := Lib.hid (show Below W0.heap.size W0 wz from below_step (by first | exact Below.refl _ _ | exact below_drew _ | exact below_drewN' _ _) hbk)))
  all_goals go_wp2
  all_goals go_ret
  all_goals exact ⟨rfl, by first | exact below_step HB.out HC1.out | exact below_drewN (below_step HB.out HC1.out) _⟩

/-- The four boxes of the program's step. -/
structure NxI (w wr : World) (r : RwData) (m c : Value) (x y : List Value) (z : List Value) : Prop where
  bel : Below w.heap.size w wr
  row : Row wr w.heap.size 34 [.int .i64 r.L, .int .i64 r.S, m, .string r.wd, c]
  tok : Row wr (w.heap.size + 1) 42 x
  res : Row wr (w.heap.size + 1 + 1) 42 y
  pl : Row wr (w.heap.size + 1 + 1 + 1) 55 z
theorem NxI.below {w wr w' : World} {r : RwData} {m c : Value} {x y z : List Value} (h : NxI w wr r m c x y z) (hb : Below wr.heap.size wr w') : NxI w w' r m c x y z :=
  ⟨below_step h.bel hb, h.row.below hb h.row.lt, h.tok.below hb h.tok.lt, h.res.below hb h.res.lt, h.pl.below hb h.pl.lt⟩
theorem NxI.setTok {w wr : World} {r : RwData} {m c : Value} {x y z : List Value} (h : NxI w wr r m c x y z) (i : Nat) (u : Value) : NxI w (wr.setCell ⟨w.heap.size + 1, i, none⟩ u) r m c (x.set i u) y z :=
  ⟨h.bel.setCell (p := ⟨w.heap.size + 1, i, none⟩) (by show w.heap.size ≤ w.heap.size + 1; omega) u, h.row.other (a := ⟨w.heap.size + 1, i, none⟩) (by show w.heap.size + 1 ≠ w.heap.size; omega) u, h.tok.stored i u, h.res.other (a := ⟨w.heap.size + 1, i, none⟩) (by show w.heap.size + 1 ≠ w.heap.size + 1 + 1; omega) u, h.pl.other (a := ⟨w.heap.size + 1, i, none⟩) (by show w.heap.size + 1 ≠ w.heap.size + 1 + 1 + 1; omega) u⟩
theorem NxI.setRes {w wr : World} {r : RwData} {m c : Value} {x y z : List Value} (h : NxI w wr r m c x y z) (i : Nat) (u : Value) : NxI w (wr.setCell ⟨w.heap.size + 1 + 1, i, none⟩ u) r m c x (y.set i u) z :=
  ⟨h.bel.setCell (p := ⟨w.heap.size + 1 + 1, i, none⟩) (by show w.heap.size ≤ w.heap.size + 1 + 1; omega) u, h.row.other (a := ⟨w.heap.size + 1 + 1, i, none⟩) (by show w.heap.size + 1 + 1 ≠ w.heap.size; omega) u, h.tok.other (a := ⟨w.heap.size + 1 + 1, i, none⟩) (by show w.heap.size + 1 + 1 ≠ w.heap.size + 1; omega) u, h.res.stored i u, h.pl.other (a := ⟨w.heap.size + 1 + 1, i, none⟩) (by show w.heap.size + 1 + 1 ≠ w.heap.size + 1 + 1 + 1; omega) u⟩
theorem NxI.setPl {w wr : World} {r : RwData} {m c : Value} {x y z : List Value} (h : NxI w wr r m c x y z) (i : Nat) (u : Value) : NxI w (wr.setCell ⟨w.heap.size + 1 + 1 + 1, i, none⟩ u) r m c x y (z.set i u) :=
  ⟨h.bel.setCell (p := ⟨w.heap.size + 1 + 1 + 1, i, none⟩) (by show w.heap.size ≤ w.heap.size + 1 + 1 + 1; omega) u, h.row.other (a := ⟨w.heap.size + 1 + 1 + 1, i, none⟩) (by show w.heap.size + 1 + 1 + 1 ≠ w.heap.size; omega) u, h.tok.other (a := ⟨w.heap.size + 1 + 1 + 1, i, none⟩) (by show w.heap.size + 1 + 1 + 1 ≠ w.heap.size + 1; omega) u, h.res.other (a := ⟨w.heap.size + 1 + 1 + 1, i, none⟩) (by show w.heap.size + 1 + 1 + 1 ≠ w.heap.size + 1 + 1; omega) u, h.pl.stored i u⟩
theorem NxI.start (w : World) (r : RwData) (m c : Value) (x0 x1 x2 x3 z0 z1 : Value) :
    NxI w ((((w.alloc (.cells #[.int .i64 r.L, .int .i64 r.S, m, .string r.wd, c] 34)).alloc (.cells #[x0, x1, x2, x3] 42)).alloc (.cells #[.int .i64 0, .int .i64 0, .int .i64 0, .int .i64 0] 42)).alloc (.cells #[z0, z1] 55)) r m c [x0, x1, x2, x3] [.int .i64 0, .int .i64 0, .int .i64 0, .int .i64 0] [z0, z1] :=
  ⟨(((below_alloc _ _).alloc (by simp) _).alloc (by simp; omega) _).alloc (by simp; omega) _, (((Row.new w _ _).alloc _).alloc _).alloc _,
   by have := ((Row.new (w.alloc (.cells #[.int .i64 r.L, .int .i64 r.S, m, .string r.wd, c] 34)) [x0, x1, x2, x3] 42).alloc (.cells #[.int .i64 0, .int .i64 0, .int .i64 0, .int .i64 0] 42)).alloc (.cells #[z0, z1] 55); simpa using this,
   by have := (Row.new ((w.alloc (.cells #[.int .i64 r.L, .int .i64 r.S, m, .string r.wd, c] 34)).alloc (.cells #[x0, x1, x2, x3] 42)) [.int .i64 0, .int .i64 0, .int .i64 0, .int .i64 0] 42).alloc (.cells #[z0, z1] 55); simpa using this,
   by have := (Row.new (((w.alloc (.cells #[.int .i64 r.L, .int .i64 r.S, m, .string r.wd, c] 34)).alloc (.cells #[x0, x1, x2, x3] 42)).alloc (.cells #[.int .i64 0, .int .i64 0, .int .i64 0, .int .i64 0] 42)) [z0, z1] 55); simpa using this⟩

set_option maxRecDepth 100000 in
set_option maxHeartbeats 3200000 in
theorem next_any (v : Value) (r : RwData) (x : Tok) (w : World) (h : RdRw w v r) (ok : OkRow r) (hx : OkTk r x) (hv : x.v = 0) :
    Calls Try.prog 40 #[v, tokV x] w fun e w' => e = .returned (tokV (stepTk r x)) ∧ Below w.heap.size w w' := by
  obtain ⟨tk, q, a, vv⟩ := x
  simp only at hv
  subst hv
  have hq := hx.q
  have ha := hx.a
  have hkv := hx.v rfl
  have hpl := (places_le ok).1
  have hs6 := ok.s
  simp only at hq ha hkv
  have hmv := move_onR (t := r.t) (s := r.wd) ok.t ok.l (show q < r.t.mv.length from hq) ha
  have HCP := Lib.hid (fun W (hb : Below w.heap.size w W) => countPlaces_any v r W (keepsRw _ _ _ _ h hb) ok)
  obtain ⟨vm, vc, rfl, hm, hc⟩ := h
  have HDA := Lib.hid (fun W (hb : Below w.heap.size w W) => deedAt_any (.agg #[.int .i64 r.L, .int .i64 r.S, vm]) r.t r.wd q a W ⟨vm, rfl, keepsPP _ _ _ _ hm hb⟩ ok.t ok.l ok.s hq ha)
  have HI := Lib.hid (NxI.start w r vm vc (.int .i64 (tk : Int)) (.int .i64 (q : Int)) (.int .i64 (a : Int)) (.int .i64 0) (.int .i64 (q : Int)) (.int .i64 (a : Int)))
  have HMV := Lib.hid hmv
  have cc1 := taWalkYes
  have cc3 := taStopYes
  have cc4 := taStopNo
  clear hm hc hx ok hmv
  go_enter Try.func40, Try.ntmps40
  go_wp2_with fail
  refine (HDA.out _ HI.out.bel).mono ?_
  generalize (((w.alloc (.cells #[.int .i64 r.L, .int .i64 r.S, vm, .string r.wd, vc] 34)).alloc (.cells #[.int .i64 (tk : Int), .int .i64 (q : Int), .int .i64 (a : Int), .int .i64 0] 42)).alloc (.cells #[.int .i64 0, .int .i64 0, .int .i64 0, .int .i64 0] 42)).alloc (.cells #[.int .i64 (q : Int), .int .i64 (a : Int)] 55) = W0 at *
  rintro e w1 ⟨rfl, hb⟩
  have HI1 := Lib.hid (HI.out.below hb)
  clear hb
  have hmv := HMV.out
  have HE0 := Lib.hid (fun (z : Int × Int) (e : moveOn r.t r.wd q a = z) => e)
  generalize hM : moveOn r.t r.wd q a = M at *
  have HMO := Lib.hid hM
  clear hM HE0
  obtain ⟨mx, my⟩ := M
  simp only at hmv
  rcases hmv with ⟨hs, hz⟩ | ⟨m0, m1, m2, m3, m4, m5⟩
  · subst hz
    rcases hs with rfl | rfl
    · have HE := Lib.hid (show stepTk r ⟨tk, q, a, 0⟩ = ⟨tk, q, a, 1⟩ from stepTk_takes rfl (by show (moveOn r.t r.wd q a).1 = _; rw [HMO.out]))
      rw [show deedV (-1, 0) = .iface 100 (.agg #[.bool true]) from by simp [deedV, stopV]]
      have HV := Lib.hid (fun W => show Calls Try.prog 60 #[.agg #[.bool true]] W (fun e w' => e = .returned (.int .i64 1) ∧ Below W.heap.size W w') from stopVerdict_any true W)
      go_wp2_with fail
      refine (HV.out _).mono ?_
      rintro e w2 ⟨rfl, hb⟩
      have HI2 := Lib.hid ((HI1.out.below (below_alloc _ _)).below hb)
      clear hb
      obtain ⟨⟨b0, b1, b2, b3⟩, fb⟩ := HI2.out.tok.four
      obtain ⟨⟨e0, e1, e2, e3⟩, fe⟩ := HI2.out.res.four
      go_wp2
      have HF := ((((HI2.out.setTok 3 (.int .i64 1)).setRes 0 (.int .i64 (tk : Int))).setRes 1 (.int .i64 (q : Int))).setRes 2 (.int .i64 (a : Int))).setRes 3 (.int .i64 1)
      obtain ⟨⟨z0, z1, z2, z3⟩, -⟩ := (show Row _ (w.heap.size + 1 + 1) _ [.int .i64 (tk : Int), .int .i64 (q : Int), .int .i64 (a : Int), .int .i64 1] from HF.res).four
      exact bodyPost_ret (v := tokV ⟨tk, q, a, 1⟩) (by simp [results, Try.results40, go_sem, z0, z1, z2, z3]) rfl ⟨by rw [HE.out], HF.bel⟩
    · have HE := Lib.hid (show stepTk r ⟨tk, q, a, 0⟩ = ⟨tk, q, a, 2⟩ from stepTk_refuses rfl (by show (moveOn r.t r.wd q a).1 = _; rw [HMO.out]))
      rw [show deedV (-2, 0) = .iface 100 (.agg #[.bool false]) from by simp [deedV, stopV]]
      have HV := Lib.hid (fun W => show Calls Try.prog 60 #[.agg #[.bool false]] W (fun e w' => e = .returned (.int .i64 2) ∧ Below W.heap.size W w') from stopVerdict_any false W)
      go_wp2_with fail
      refine (HV.out _).mono ?_
      rintro e w2 ⟨rfl, hb⟩
      have HI2 := Lib.hid ((HI1.out.below (below_alloc _ _)).below hb)
      clear hb
      obtain ⟨⟨b0, b1, b2, b3⟩, fb⟩ := HI2.out.tok.four
      obtain ⟨⟨e0, e1, e2, e3⟩, fe⟩ := HI2.out.res.four
      go_wp2
      have HF := ((((HI2.out.setTok 3 (.int .i64 2)).setRes 0 (.int .i64 (tk : Int))).setRes 1 (.int .i64 (q : Int))).setRes 2 (.int .i64 (a : Int))).setRes 3 (.int .i64 2)
      obtain ⟨⟨z0, z1, z2, z3⟩, -⟩ := (show Row _ (w.heap.size + 1 + 1) _ [.int .i64 (tk : Int), .int .i64 (q : Int), .int .i64 (a : Int), .int .i64 2] from HF.res).four
      exact bodyPost_ret (v := tokV ⟨tk, q, a, 2⟩) (by simp [results, Try.results40, go_sem, z0, z1, z2, z3]) rfl ⟨by rw [HE.out], HF.bel⟩
  · rw [show deedV (mx, my) = .iface 91 (.agg #[.int .i64 mx, .int .i64 my]) from by simp only [deedV, walkV]; rw [if_neg (by omega), if_neg (by omega)]]
    have HE := Lib.hid (show stepTk r ⟨tk, q, a, 0⟩ = ⟨tk + 1, mx.toNat, ((a : Int) + my).toNat, if tk + 1 = placesR r then 3 else 0⟩ from by
      have := stepTk_on (r := r) (x := ⟨tk, q, a, 0⟩) rfl (by show 0 ≤ (moveOn r.t r.wd q a).1; rw [HMO.out]; exact m0)
      rw [this]; simp only [HMO.out])
    have HFR := Lib.hid (fun W => from_any mx my (q : Int) a W (by omega) m2 m3)
    have kI : (tk : Int) ≤ 743 := by omega
    obtain ⟨⟨p0, p1⟩, -⟩ := HI1.out.pl.two
    have ltp := HI1.out.pl.lt
    go_wp2_with fail
    refine (HFR.out _).mono ?_
    rintro e w2 ⟨rfl, hb⟩
    have HI2 := Lib.hid ((HI1.out.below (below_alloc _ _)).below hb)
    clear hb p0 p1 ltp
    obtain ⟨⟨p0, p1⟩, fp⟩ := HI2.out.pl.two
    obtain ⟨⟨b0, b1, b2, b3⟩, fb⟩ := HI2.out.tok.four
    go_wp2_with fail
    have HI3 := Lib.hid (((HI2.out.setPl 0 (.int .i64 mx)).setPl 1 (.int .i64 ((a : Int) + my))).setTok 0 (.int .i64 ((tk : Int) + 1)))
    clear b0 b1 b2 b3 fb p0 p1 fp
    generalize ((w2.setCell ⟨w.heap.size + 1 + 1 + 1, 0, none⟩ (.int .i64 mx)).setCell ⟨w.heap.size + 1 + 1 + 1, 1, none⟩ (.int .i64 ((a : Int) + my))).setCell ⟨w.heap.size + 1, 0, none⟩ (.int .i64 ((tk : Int) + 1)) = w3 at *
    obtain ⟨⟨p0, p1⟩, fp⟩ := (show Row w3 (w.heap.size + 1 + 1 + 1) 55 [.int .i64 mx, .int .i64 ((a : Int) + my)] from HI3.out.pl).two
    obtain ⟨⟨b0, b1, b2, b3⟩, fb⟩ := (show Row w3 (w.heap.size + 1) 42 [.int .i64 ((tk : Int) + 1), .int .i64 (q : Int), .int .i64 (a : Int), .int .i64 0] from HI3.out.tok).four
    go_region
    all_goals
      have HI4 := Lib.hid (((HI3.out.setTok 1 (.int .i64 mx)).setTok 2 (.int .i64 ((a : Int) + my))).below (below_drew _))
      clear b0 b1 b2 b3 fb p0 p1 fp
      generalize ((w3.setCell ⟨w.heap.size + 1, 1, none⟩ (.int .i64 mx)).setCell ⟨w.heap.size + 1, 2, none⟩ (.int .i64 ((a : Int) + my))).drew = w4 at *
      obtain ⟨⟨b0, b1, b2, b3⟩, fb⟩ := (show Row w4 (w.heap.size + 1) 42 [.int .i64 ((tk : Int) + 1), .int .i64 mx, .int .i64 ((a : Int) + my), .int .i64 0] from HI4.out.tok).four
      obtain ⟨⟨c0, c1, c2, c3, c4⟩, -⟩ := HI4.out.row.five
      go_wp2_with fail
      go_region_held3 (fun W => W.cell? ⟨w.heap.size + 1, 0, none⟩ = some (.int .i64 ((tk : Int) + 1)) ∧ W.cell? ⟨w.heap.size, 0, none⟩ = some (.int .i64 r.L) ∧ W.cell? ⟨w.heap.size, 1, none⟩ = some (.int .i64 r.S) ∧ W.cell? ⟨w.heap.size, 2, none⟩ = some vm ∧ W.cell? ⟨w.heap.size, 3, none⟩ = some (.string r.wd) ∧ W.cell? ⟨w.heap.size, 4, none⟩ = some vc)
        (first | go_keep | (go_split_ands; refine ⟨?_, ?_, ?_, ?_, ?_, ?_⟩ <;> exact below_keep hbk (by assumption)))
        (first
          | (go_at_call 61; (with_reducible refine (HCP.out _ (below_step HI4.out.bel (by first | exact Below.refl _ _ | exact below_drew _ | exact below_drewN' _ _))).mono ?_); rintro e wz ⟨rfl, hbk⟩; have HC1 := Lib.hid (show Below w4.heap.size w4 wz from below_step (by first | exact Below.refl _ _ | exact below_drew _ | exact below_drewN' _ _) hbk)))
      have HI5 := Lib.hid (HI4.out.below HC1.out)
      clear b0 b1 b2 b3 fb c0 c1 c2 c3 c4
      obtain ⟨⟨b0, b1, b2, b3⟩, fb⟩ := (show Row _ (w.heap.size + 1) 42 [.int .i64 ((tk : Int) + 1), .int .i64 mx, .int .i64 ((a : Int) + my), .int .i64 0] from HI5.out.tok).four
      obtain ⟨⟨e0, e1, e2, e3⟩, fe⟩ := HI5.out.res.four
      by_cases hl : tk + 1 = placesR r
      · have d : ((tk : Int) + 1 == ((placesR r : Nat) : Int)) = true := by simp; omega
        have HE2 := Lib.hid (show stepTk r ⟨tk, q, a, 0⟩ = ⟨tk + 1, mx.toNat, ((a : Int) + my).toNat, 3⟩ from by rw [HE.out, if_pos hl])
        clear hl
        go_wp2
        have HF := ((((HI5.out.setTok 3 (.int .i64 3)).setRes 0 (.int .i64 ((tk : Int) + 1))).setRes 1 (.int .i64 mx)).setRes 2 (.int .i64 ((a : Int) + my))).setRes 3 (.int .i64 3)
        obtain ⟨⟨z0, z1, z2, z3⟩, -⟩ := (show Row _ (w.heap.size + 1 + 1) _ [.int .i64 ((tk : Int) + 1), .int .i64 mx, .int .i64 ((a : Int) + my), .int .i64 3] from HF.res).four
        refine bodyPost_ret (v := .agg #[.int .i64 ((tk : Int) + 1), .int .i64 mx, .int .i64 ((a : Int) + my), .int .i64 3]) (by simp [results, Try.results40, go_sem, z0, z1, z2, z3]) rfl ⟨?_, HF.bel⟩
        rw [HE2.out]
        show Ending.returned _ = Ending.returned (tokV ⟨tk + 1, mx.toNat, ((a : Int) + my).toNat, 3⟩)
        simp only [tokV]
        rw [show ((mx.toNat : Nat) : Int) = mx by omega, show ((((a : Int) + my).toNat : Nat) : Int) = (a : Int) + my by omega, show (((tk + 1 : Nat)) : Int) = (tk : Int) + 1 by omega]
      · have d : ((tk : Int) + 1 == ((placesR r : Nat) : Int)) = false := by simp; omega
        have HE2 := Lib.hid (show stepTk r ⟨tk, q, a, 0⟩ = ⟨tk + 1, mx.toNat, ((a : Int) + my).toNat, 0⟩ from by rw [HE.out, if_neg hl])
        clear hl
        go_wp2
        have HF := (((HI5.out.setRes 0 (.int .i64 ((tk : Int) + 1))).setRes 1 (.int .i64 mx)).setRes 2 (.int .i64 ((a : Int) + my))).setRes 3 (.int .i64 0)
        obtain ⟨⟨z0, z1, z2, z3⟩, -⟩ := (show Row _ (w.heap.size + 1 + 1) _ [.int .i64 ((tk : Int) + 1), .int .i64 mx, .int .i64 ((a : Int) + my), .int .i64 0] from HF.res).four
        refine bodyPost_ret (v := .agg #[.int .i64 ((tk : Int) + 1), .int .i64 mx, .int .i64 ((a : Int) + my), .int .i64 0]) (by simp [results, Try.results40, go_sem, z0, z1, z2, z3]) rfl ⟨?_, HF.bel⟩
        rw [HE2.out]
        show Ending.returned _ = Ending.returned (tokV ⟨tk + 1, mx.toNat, ((a : Int) + my).toNat, 0⟩)
        simp only [tokV]
        rw [show ((mx.toNat : Nat) : Int) = mx by omega, show ((((a : Int) + my).toNat : Nat) : Int) = (a : Int) + my by omega, show (((tk + 1 : Nat)) : Int) = (tk : Int) + 1 by omega]
end Go.Proofs.Ytpkbpflnjbeedaa
