/-
  Tokens: the model's step.
-/
import Derived.Test.YtpkbpflnjbeedaaRw5
namespace Go.Proofs.Ytpkbpflnjbeedaa
open Go.RowKit

theorem l06VerdictR_any (z : Bool) (w : World) :
    Calls Try.prog 59 #[.int .i64 (if z then -1 else -2)] w fun e w' => e = .returned (.int .i64 (if z then 1 else 2)) ∧ w = w' := by
  cases z
  all_goals
    go_enter Try.func59, Try.ntmps59
    go_wp2
    go_ret
    exact ⟨rfl, rfl⟩

/-- The result's variable is written whole. -/
theorem tok_out {w W : World} (hb : Below w.heap.size w W) {e : TypeId} {y0 y1 y2 y3 : Value} (hr : Row W (w.heap.size + 1) e [y0, y1, y2, y3]) (k q a v : Value) :
    Below w.heap.size w ((((W.setCell ⟨w.heap.size + 1, 0, none⟩ k).setCell ⟨w.heap.size + 1, 1, none⟩ q).setCell ⟨w.heap.size + 1, 2, none⟩ a).setCell ⟨w.heap.size + 1, 3, none⟩ v) ∧
      Row ((((W.setCell ⟨w.heap.size + 1, 0, none⟩ k).setCell ⟨w.heap.size + 1, 1, none⟩ q).setCell ⟨w.heap.size + 1, 2, none⟩ a).setCell ⟨w.heap.size + 1, 3, none⟩ v) (w.heap.size + 1) e [k, q, a, v] :=
  ⟨(((hb.setCell (p := ⟨w.heap.size + 1, 0, none⟩) (by show w.heap.size ≤ w.heap.size + 1; omega) k).setCell (p := ⟨w.heap.size + 1, 1, none⟩) (by show w.heap.size ≤ w.heap.size + 1; omega) q).setCell (p := ⟨w.heap.size + 1, 2, none⟩) (by show w.heap.size ≤ w.heap.size + 1; omega) a).setCell (p := ⟨w.heap.size + 1, 3, none⟩) (by show w.heap.size ≤ w.heap.size + 1; omega) v,
   (((hr.stored 0 k).stored 1 q).stored 2 a).stored 3 v⟩

set_option maxRecDepth 100000 in
set_option maxHeartbeats 3200000 in
theorem l08Step_any (p : Nat) (r : RwData) (x : Tok) (w : World) (h : AtRw w p r) (ok : OkRow r) (hx : OkTk r x) :
    Calls Try.prog 37 #[.pointer (some ⟨p, 0, none⟩), tokV x] w fun e w' => e = .returned (tokV (stepTk r x)) ∧ Below w.heap.size w w' := by
  obtain ⟨tk, q, a, v⟩ := x
  have HB := Lib.hid (show Below w.heap.size w ((w.alloc (.cells #[.int .i64 (tk : Int), .int .i64 (q : Int), .int .i64 (a : Int), .int .i64 v] 42)).alloc (.cells #[.int .i64 0, .int .i64 0, .int .i64 0, .int .i64 0] 42)) from (below_alloc _ _).alloc (by simp) _)
  have hbx := (Row.new w [.int .i64 (tk : Int), .int .i64 (q : Int), .int .i64 (a : Int), .int .i64 v] 42).alloc (.cells #[.int .i64 0, .int .i64 0, .int .i64 0, .int .i64 0] 42)
  have hrx : Row ((w.alloc (.cells #[.int .i64 (tk : Int), .int .i64 (q : Int), .int .i64 (a : Int), .int .i64 v] 42)).alloc (.cells #[.int .i64 0, .int .i64 0, .int .i64 0, .int .i64 0] 42)) (w.heap.size + 1) 42 [.int .i64 0, .int .i64 0, .int .i64 0, .int .i64 0] := by simpa using Row.new (w.alloc (.cells #[.int .i64 (tk : Int), .int .i64 (q : Int), .int .i64 (a : Int), .int .i64 v] 42)) [.int .i64 0, .int .i64 0, .int .i64 0, .int .i64 0] 42
  have HBX := Lib.hid hbx
  have HRX := Lib.hid hrx
  clear hbx hrx
  by_cases hv : v = 0
  · subst hv
    have hq := hx.q
    have ha := hx.a
    have hkv := hx.v rfl
    have hpl := (places_le ok).1
    have hs6 := ok.s
    simp only at hq ha hkv
    have HU := Lib.hid (fun W => l04UnderR_any r.L r.wd a W ok.t.l1 ok.t.l2 ok.s ha ok.l)
    obtain ⟨k, hk, hk2⟩ := signN_ok ok.t.l1 ok.t.l2 ok.l ha
    obtain ⟨y, m, hy, hm, hat, -, hyl⟩ := ok.t.at (show q < r.t.mv.length from hq) hk2
    have HU2 := Lib.hid (fun W => (HU.out W).mono (fun e w' (hh : _ ∧ _) => (⟨by rw [hh.1]; exact ret_int hk, hh.2⟩ : e = .returned (.int .i64 (k : Int)) ∧ W = w')))
    have HMO := Lib.hid (show moveOn r.t r.wd q a = m from (moveOn_eq hk).trans hat)
    have HOK := Lib.hid ok
    have HX := Lib.hid hx
    obtain ⟨mx, my⟩ := m
    have hmv := move_onR (t := r.t) (s := r.wd) ok.t ok.l (show q < r.t.mv.length from hq) ha
    rw [HMO.out] at hmv
    obtain ⟨vm, vc, c0, c1, c2, c3, c4, hR, -⟩ := h
    obtain ⟨A, cap, rfl, a1, a2, a3⟩ := RdL.open hR
    obtain ⟨b, off, u, y', rfl, hy', hc, hP⟩ := a3 q hq
    obtain rfl := Option.some.inj (hy.symm.trans hy')
    obtain ⟨C, capx, rfl, x1, x2, x3⟩ := RdP.open hP
    obtain ⟨bx, offx, tx, ty, rfl, ht, hct, hdt⟩ := x3 k (by have : (y.length : Int) = r.L + 2 := hyl; have : (k : Int) < r.L + 2 := hk2; omega)
    obtain ⟨rfl, rfl⟩ := Prod.mk.inj (Option.some.inj (hm.symm.trans ht))
    unfold maxLen at a2 x2
    have k2 : (k : Int) < y.length := by have : (y.length : Int) = r.L + 2 := hyl; have : (k : Int) < r.L + 2 := hk2; omega
    have q1 : (0 : Int) ≤ q := by omega
    have q2 : (q : Int) < r.mv.length := by omega
    have k1 : (0 : Int) ≤ k := by omega
    have HMV := Lib.hid hmv
    clear hy hm hat hk hk2 hy' hR hP a3 x3 ht hyl hx ok HU hmv
    go_enter Try.func37, Try.ntmps37
    go_wp2_with fail
    generalize (w.alloc (.cells #[.int .i64 (tk : Int), .int .i64 (q : Int), .int .i64 (a : Int), .int .i64 0] 42)).alloc (.cells #[.int .i64 0, .int .i64 0, .int .i64 0, .int .i64 0] 42) = W0 at *
    have g0 := below_keep HB.out c0
    have g2 := below_keep HB.out c2
    have g3 := below_keep HB.out c3
    have gc := below_keep HB.out hc
    have gt := below_keep HB.out hct
    have gd := below_keep HB.out hdt
    obtain ⟨⟨b0, b1, b2, b3⟩, -⟩ := HBX.out.four
    have ltp : p < w.heap.size := World.block_lt_of_cell? _ _ c0
    have HCP := Lib.hid (show _ ∧ _ from ⟨c2, c3⟩)
    clear c0 c1 c2 c3 c4 hc hct hdt b0 b3
    have n0 := World.new_ne _ _ g0
    have nc := World.new_ne _ _ gc
    have nt := World.new_ne _ _ gt
    have nb := World.new_ne _ _ b1
    go_region_held3 (fun W => W.cell? ⟨p, 0, none⟩ = some (.int .i64 r.L) ∧ W.cell? ⟨p, 2, none⟩ = some (.slice (some ⟨b, off, none⟩) r.mv.length cap) ∧ W.cell? ⟨p, 3, none⟩ = some (.string r.wd) ∧ W.cell? ⟨w.heap.size, 1, none⟩ = some (.int .i64 (q : Int)) ∧ W.cell? ⟨w.heap.size, 2, none⟩ = some (.int .i64 (a : Int)) ∧ W.cell? ⟨b, off + q, none⟩ = some (.slice (some ⟨bx, offx, none⟩) y.length capx) ∧ W.cell? ⟨bx, offx + k * 2, none⟩ = some (.int .i64 mx) ∧ W.cell? ⟨bx, offx + k * 2 + 1, none⟩ = some (.int .i64 my))
      (go_keep)
      (first
        | (go_at_call 58; (with_reducible refine (HU2.out _).mono ?_); rintro e wy ⟨rfl, rfl⟩))
    all_goals
      have HW1 := Lib.hid (show Below W0.heap.size W0 (W0.alloc (.cells #[.int .i64 mx, .int .i64 my] 82)).drew from (below_alloc _ _).drew)
      have HB1 := Lib.hid (below_step HB.out HW1.out)
      have HBX1 := Lib.hid (HBX.out.below HW1.out HBX.out.lt)
      have HRX1 := Lib.hid (HRX.out.below HW1.out HRX.out.lt)
      have HM1 := Lib.hid (show Row (W0.alloc (.cells #[.int .i64 mx, .int .i64 my] 82)).drew W0.heap.size 82 [.int .i64 mx, .int .i64 my] from (Row.new W0 _ _).drew)
      have HN := Lib.hid (show w.heap.size + 1 < W0.heap.size from HRX.out.lt)
      have f2 := below_keep HW1.out g2
      have f3 := below_keep HW1.out g3
      have HP := Lib.hid ltp
      clear g0 g2 g3 gc gt gd b1 b2 n0 nc nt nb
      generalize (W0.alloc (.cells #[.int .i64 mx, .int .i64 my] 82)).drew = W1 at *
      have hmv := HMV.out
      obtain ⟨⟨b0, b1, b2, b3⟩, fb⟩ := HBX1.out.four
      obtain ⟨⟨e0, e1, e2, e3⟩, fe⟩ := HRX1.out.four
      obtain ⟨⟨y0, y1⟩, -⟩ := HM1.out.two
      have n1 : w.heap.size ≠ W0.heap.size := by have := HN.out; omega
      have n2 : w.heap.size + 1 ≠ W0.heap.size := by have := HN.out; omega
      have n3 : p ≠ w.heap.size := by have := HP.out; omega
      have n4 : w.heap.size + 1 ≠ p := by have := HP.out; omega
      rcases hmv with ⟨rfl | rfl, -⟩ | ⟨m0, m1, m2, m3, m4, m5⟩
      · have HE := Lib.hid (show stepTk r ⟨tk, q, a, 0⟩ = ⟨tk, q, a, 1⟩ from stepTk_takes rfl (by show (moveOn r.t r.wd q a).1 = _; rw [HMO.out]))
        go_wp2_with (go_at_call 59; refine (l06VerdictR_any true _).mono ?_; rintro e w' ⟨rfl, rfl⟩)
        have hb2 := HB1.out.setCell (p := ⟨w.heap.size, 3, none⟩) (Nat.le_refl _) (.int .i64 1)
        have hr2 := HRX1.out.other (a := ⟨w.heap.size, 3, none⟩) (by show w.heap.size ≠ w.heap.size + 1; omega) (.int .i64 1)
        obtain ⟨hbel, hrow⟩ := tok_out hb2 hr2 (.int .i64 (tk : Int)) (.int .i64 (q : Int)) (.int .i64 (a : Int)) (.int .i64 1)
        obtain ⟨⟨z0, z1, z2, z3⟩, -⟩ := hrow.four
        exact bodyPost_ret (v := tokV ⟨tk, q, a, 1⟩) (by simp [results, Try.results37, go_sem, z0, z1, z2, z3]) rfl ⟨by rw [HE.out], hbel⟩
      · have HE := Lib.hid (show stepTk r ⟨tk, q, a, 0⟩ = ⟨tk, q, a, 2⟩ from stepTk_refuses rfl (by show (moveOn r.t r.wd q a).1 = _; rw [HMO.out]))
        go_wp2_with (go_at_call 59; refine (l06VerdictR_any false _).mono ?_; rintro e w' ⟨rfl, rfl⟩)
        have hb2 := HB1.out.setCell (p := ⟨w.heap.size, 3, none⟩) (Nat.le_refl _) (.int .i64 2)
        have hr2 := HRX1.out.other (a := ⟨w.heap.size, 3, none⟩) (by show w.heap.size ≠ w.heap.size + 1; omega) (.int .i64 2)
        obtain ⟨hbel, hrow⟩ := tok_out hb2 hr2 (.int .i64 (tk : Int)) (.int .i64 (q : Int)) (.int .i64 (a : Int)) (.int .i64 2)
        obtain ⟨⟨z0, z1, z2, z3⟩, -⟩ := hrow.four
        exact bodyPost_ret (v := tokV ⟨tk, q, a, 2⟩) (by simp [results, Try.results37, go_sem, z0, z1, z2, z3]) rfl ⟨by rw [HE.out], hbel⟩
      · have HE := Lib.hid (show stepTk r ⟨tk, q, a, 0⟩ = ⟨tk + 1, mx.toNat, ((a : Int) + my).toNat, if tk + 1 = placesR r then 3 else 0⟩ from by
          have := stepTk_on (r := r) (x := ⟨tk, q, a, 0⟩) rfl (by show 0 ≤ (moveOn r.t r.wd q a).1; rw [HMO.out]; exact m0)
          rw [this]; simp only [HMO.out])
        have kI : (tk : Int) ≤ 743 := by omega
        have aI : (a : Int) ≤ 61 := by omega
        have d1 : ¬ mx < 0 := by omega
        have HPW := Lib.hid (show IntKind.i64.wrap ((r.mv.length : Int) * ((r.wd.size : Int) + 2)) = ((placesR r : Nat) : Int) from by
          have e : (r.mv.length : Int) * ((r.wd.size : Int) + 2) = ((placesR r : Nat) : Int) := by unfold placesR; push_cast; rfl
          rw [e]; exact IntWalk.i64_in _ (by omega))
        go_wp2_with fail
        have hb2 := ((HB1.out.setCell (p := ⟨w.heap.size, 0, none⟩) (Nat.le_refl _) (.int .i64 ((tk : Int) + 1))).setCell (p := ⟨w.heap.size, 1, none⟩) (Nat.le_refl _) (.int .i64 mx)).setCell (p := ⟨w.heap.size, 2, none⟩) (Nat.le_refl _) (.int .i64 ((a : Int) + my))
        have hx2 := ((HBX1.out.stored 0 (.int .i64 ((tk : Int) + 1))).stored 1 (.int .i64 mx)).stored 2 (.int .i64 ((a : Int) + my))
        have hr2 := ((HRX1.out.other (a := ⟨w.heap.size, 0, none⟩) (by show w.heap.size ≠ w.heap.size + 1; omega) (.int .i64 ((tk : Int) + 1))).other (a := ⟨w.heap.size, 1, none⟩) (by show w.heap.size ≠ w.heap.size + 1; omega) (.int .i64 mx)).other (a := ⟨w.heap.size, 2, none⟩) (by show w.heap.size ≠ w.heap.size + 1; omega) (.int .i64 ((a : Int) + my))
        have HB2 := Lib.hid hb2
        have HX2 := Lib.hid (show Row _ w.heap.size 42 [.int .i64 ((tk : Int) + 1), .int .i64 mx, .int .i64 ((a : Int) + my), .int .i64 0] from hx2)
        have HR2 := Lib.hid hr2
        clear hb2 hx2 hr2 f2 f3 b0 b1 b2 b3 fb e0 e1 e2 e3 fe y0 y1 n1 n2 n3 n4
        generalize (((W1.setCell ⟨w.heap.size, 0, none⟩ (.int .i64 ((tk : Int) + 1))).setCell ⟨w.heap.size, 1, none⟩ (.int .i64 mx)).setCell ⟨w.heap.size, 2, none⟩ (.int .i64 ((a : Int) + my))) = W2 at *
        have f2 := below_keep HB2.out HCP.out.1
        have f3 := below_keep HB2.out HCP.out.2
        obtain ⟨⟨b0, b1, b2, b3⟩, fb⟩ := HX2.out.four
        obtain ⟨⟨e0, e1, e2, e3⟩, fe⟩ := HR2.out.four
        have hw1 : IntKind.i64.wrap ((r.wd.size : Int) + 2) = (r.wd.size : Int) + 2 := IntWalk.i64_in _ (by omega)
        have hw2 := HPW.out
        by_cases hl : tk + 1 = placesR r
        · have d : decide (((placesR r : Nat) : Int) ≤ (tk : Int) + 1) = true := by simp; omega
          have HE2 := Lib.hid (show stepTk r ⟨tk, q, a, 0⟩ = ⟨tk + 1, mx.toNat, ((a : Int) + my).toNat, 3⟩ from by rw [HE.out, if_pos hl])
          clear hl
          go_quiet (fail)
          go_wp2
          have hb3 := (below_drewN HB2.out nq).setCell (p := ⟨w.heap.size, 3, none⟩) (Nat.le_refl _) (.int .i64 3)
          have hr3 := (HR2.out.below (below_drewN' W2 nq) HR2.out.lt).other (a := ⟨w.heap.size, 3, none⟩) (by show w.heap.size ≠ w.heap.size + 1; omega) (.int .i64 3)
          obtain ⟨hbel, hrow⟩ := tok_out hb3 hr3 (.int .i64 ((tk : Int) + 1)) (.int .i64 mx) (.int .i64 ((a : Int) + my)) (.int .i64 3)
          obtain ⟨⟨z0, z1, z2, z3⟩, -⟩ := hrow.four
          refine bodyPost_ret (v := .agg #[.int .i64 ((tk : Int) + 1), .int .i64 mx, .int .i64 ((a : Int) + my), .int .i64 3]) (by simp [results, Try.results37, go_sem, z0, z1, z2, z3]) rfl ⟨?_, hbel⟩
          rw [HE2.out]
          show Ending.returned _ = Ending.returned (tokV ⟨tk + 1, mx.toNat, ((a : Int) + my).toNat, 3⟩)
          simp only [tokV]
          rw [show ((mx.toNat : Nat) : Int) = mx by omega, show ((((a : Int) + my).toNat : Nat) : Int) = (a : Int) + my by omega, show (((tk + 1 : Nat)) : Int) = (tk : Int) + 1 by omega]
        · have d : decide (((placesR r : Nat) : Int) ≤ (tk : Int) + 1) = false := by simp; omega
          have HE2 := Lib.hid (show stepTk r ⟨tk, q, a, 0⟩ = ⟨tk + 1, mx.toNat, ((a : Int) + my).toNat, 0⟩ from by rw [HE.out, if_neg hl])
          clear hl
          go_quiet (fail)
          go_wp2
          obtain ⟨hbel, hrow⟩ := tok_out (below_drewN HB2.out nq) (HR2.out.below (below_drewN' W2 nq) HR2.out.lt) (.int .i64 ((tk : Int) + 1)) (.int .i64 mx) (.int .i64 ((a : Int) + my)) (.int .i64 0)
          obtain ⟨⟨z0, z1, z2, z3⟩, -⟩ := hrow.four
          refine bodyPost_ret (v := .agg #[.int .i64 ((tk : Int) + 1), .int .i64 mx, .int .i64 ((a : Int) + my), .int .i64 0]) (by simp [results, Try.results37, go_sem, z0, z1, z2, z3]) rfl ⟨?_, hbel⟩
          rw [HE2.out]
          show Ending.returned _ = Ending.returned (tokV ⟨tk + 1, mx.toNat, ((a : Int) + my).toNat, 0⟩)
          simp only [tokV]
          rw [show ((mx.toNat : Nat) : Int) = mx by omega, show ((((a : Int) + my).toNat : Nat) : Int) = (a : Int) + my by omega, show (((tk + 1 : Nat)) : Int) = (tk : Int) + 1 by omega]
  · have HE := Lib.hid (show stepTk r ⟨tk, q, a, v⟩ = ⟨tk, q, a, v⟩ from stepTk_done hv)
    have hv' : (v != 0) = true := by simpa using hv
    obtain ⟨⟨b0, b1, b2, b3⟩, -⟩ := HBX.out.four
    obtain ⟨⟨e0, e1, e2, e3⟩, fe⟩ := HRX.out.four
    clear hv h
    go_enter Try.func37, Try.ntmps37
    go_wp2
    exact bodyPost_ret (v := tokV ⟨tk, q, a, v⟩) (by simp [results, Try.results37, go_sem]) rfl ⟨by rw [HE.out], (below_alloc _ _).alloc (by simp) _⟩
end Go.Proofs.Ytpkbpflnjbeedaa
