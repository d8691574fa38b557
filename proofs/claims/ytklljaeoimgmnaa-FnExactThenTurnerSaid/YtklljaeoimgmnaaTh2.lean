/-
  One turner after another: the program's closure.
-/
import Derived.Test.YtklljaeoimgmnaaTh1
namespace Go.Proofs.Ytklljaeoimgmnaa
open Go.RowKit

abbrev onV (pt pb ph : Nat) : Value := .func (.func 30) #[] #[.pointer (some ⟨pt, 0, none⟩), .pointer (some ⟨pb, 0, none⟩), .pointer (some ⟨ph, 0, none⟩)]

/-- What the closure finds in its boxes. -/
structure ThEnv (ph pg pt pu pr pb : Nat) (t u : TData) (w : World) : Prop where
  ft : AtT w pt t
  fu : AtT w pu u
  home : w.cell? ⟨ph, 0, none⟩ = some (.int .i64 (thHome t u : Nat))
  begin : w.cell? ⟨pb, 0, none⟩ = some (deedV (thBegin t u))
  raised : w.cell? ⟨pr, 0, none⟩ = some (raisedV pt)
  on : w.cell? ⟨pg, 0, none⟩ = some (onV pt pb ph)
theorem ThEnv.below {ph pg pt pu pr pb : Nat} {t u : TData} {w w' : World} (h : ThEnv ph pg pt pu pr pb t u w) (hb : Below w.heap.size w w') : ThEnv ph pg pt pu pr pb t u w' :=
  ⟨h.ft.below hb, h.fu.below hb, below_keep hb h.home, below_keep hb h.begin, below_keep hb h.raised, below_keep hb h.on⟩

theorem deedV_stopT : deedV (-1, 0) = .iface 69 (.agg #[.bool true]) := by simp [deedV, stopV]
theorem deedV_stopF : deedV (-2, 0) = .iface 69 (.agg #[.bool false]) := by simp [deedV, stopV]
theorem deedV_goT (x y : Int) (h : 0 ≤ x) : deedV (x, y) = .iface 65 (.agg #[.int .i64 x, .int .i64 y]) := by
  simp only [deedV, walkV]; rw [if_neg (by omega), if_neg (by omega)]

set_option maxRecDepth 100000 in
set_option maxHeartbeats 3200000 in
theorem thenClosure_any (ph pg pt pu pr pb : Nat) (t u : TData) (q k : Nat) (w : World) (h : ThEnv ph pg pt pu pr pb t u w) (ok : OkT t) (oku : OkT u) (hL : t.L = u.L) (hn : thHome t u + 1 ≤ 12) (hq : q < thHome t u + 1) (hk : (k : Int) < t.L + 2) :
    Calls Try.prog 32 #[.int .i64 (q : Int), .int .i64 (k : Int), .pointer (some ⟨ph, 0, none⟩), .pointer (some ⟨pg, 0, none⟩), .pointer (some ⟨pt, 0, none⟩), .pointer (some ⟨pu, 0, none⟩), .pointer (some ⟨pr, 0, none⟩)] w fun e w' => e = .returned (deedV (thG t u q k)) ∧ Below w.heap.size w w' := by
  have c1 := concWalk
  have c2 := concStop
  have HE := Lib.hid h
  have HON := Lib.hid (fun W (hb : Below w.heap.size w W) => thenOn_any pt pb ph t u k W (h.ft.below hb) (below_keep hb h.begin) (below_keep hb h.home))
  have hh := h.home
  have hg := h.on
  have hr := h.raised
  unfold onV at hg
  unfold raisedV at hr
  obtain ⟨vm, d0, d1, d2, hR⟩ := h.ft
  have HST := Lib.hid (fun W (hb : Below w.heap.size w W) => states_any (.agg #[.int .i64 t.L, .int .i64 t.S, vm]) t W (keepsT _ _ _ _ ⟨vm, rfl, hR⟩ hb))
  have HD := Lib.hid (fun (hq : q < t.mv.length) W (hb : Below w.heap.size w W) => deed_any (.agg #[.int .i64 t.L, .int .i64 t.S, vm]) t q k W (keepsT _ _ _ _ ⟨vm, rfl, hR⟩ hb) ok hq hk)
  obtain ⟨A, ca, rfl⟩ := RdL.shape hR
  have HOK := Lib.hid (show _ ∧ _ from ⟨ok, oku⟩)
  have hk2 : (k : Int) < u.L + 2 := by omega
  clear h hR ok oku hL
  by_cases h1 : q = thHome t u
  · have hG : thG t u q k = thOn t u k := by unfold thG; rw [if_pos h1]
    rw [hG]
    subst h1
    clear hG hq
    go_enter Try.func32, Try.ntmps32
    go_wp2_with fail
    refine (HON.out _ (Below.refl _ _)).mono ?_
    rintro e w1 ⟨rfl, hb⟩
    have HB := Lib.hid hb
    clear hb
    go_wp2
    go_ret
    exact ⟨rfl, HB.out⟩
  · have e0 : ((q : Int) == (thHome t u : Nat)) = false := by simp; omega
    by_cases h2 : t.mv.length ≤ q
    · obtain ⟨x0, m, -, -, hat, hmv, -⟩ := HOK.out.2.at (q := q - t.mv.length) (k := k) (by unfold thHome at hq h1; omega) (by omega)
      have hin := okMove_out hmv
      have hG : thG t u q k = raiseM t.mv.length m := by unfold thG; rw [if_neg h1, if_pos h2, hat]
      rw [hG]
      obtain ⟨vu, f0, f1, f2, hRu⟩ := HE.out.fu
      have HDu := Lib.hid (fun W (hb : Below w.heap.size w W) => deed_any (.agg #[.int .i64 u.L, .int .i64 u.S, vu]) u (q - t.mv.length) k W (keepsT _ _ _ _ ⟨vu, rfl, hRu⟩ hb) HOK.out.2 (by unfold thHome at hq h1; omega) (by omega))
      rw [hat, show ((q - t.mv.length : Nat) : Int) = IntKind.i64.wrap ((q : Int) - t.mv.length) from by rw [IntWalk.i64_in _ (by unfold thHome at hn hq; omega)]; omega] at HDu
      have n12 : t.mv.length ≤ 12 := by unfold thHome at hn; omega
      have m12 : m.1 ≤ 12 := by unfold thHome at hn; omega
      have HAT := Lib.hid HE.out.ft
      obtain ⟨Au, cu, rfl⟩ := RdL.shape hRu
      have i1 : (t.mv.length : Int) ≤ q := by omega
      have i2 : (q : Int) ≤ 12 := by omega
      clear hRu hat hmv hG HON HD h1
      obtain ⟨mx, my⟩ := m
      rcases hin with ⟨h0 | h0, h9⟩ | ⟨_, h0, _⟩
      · simp only at h0 h9
        subst h0; subst h9
        rw [deedV_stopT] at HDu
        rw [show raiseM t.mv.length (-1, 0) = (-1, 0) from by simp [raiseM], deedV_stopT]
        have hm := methodStopRen
        go_enter Try.func32, Try.ntmps32
        go_wp2_with fail
        refine (HST.out _ (Below.refl _ _)).mono ?_
        rintro e w1 ⟨rfl, hb⟩
        have HB1 := Lib.hid hb
        have x0 := below_keep hb d0
        have x1 := below_keep hb d1
        have x2 := below_keep hb d2
        have y0 := below_keep hb f0
        have y1 := below_keep hb f1
        have y2 := below_keep hb f2
        have xr := below_keep hb hr
        clear hb d0 d1 d2 f0 f1 f2 hr hh hg
        go_wp2_with fail
        go_region_held3 (fun W => W.cell? ⟨pt, 0, none⟩ = some (.int .i64 t.L) ∧ W.cell? ⟨pt, 1, none⟩ = some (.int .i64 t.S) ∧ W.cell? ⟨pt, 2, none⟩ = some (.slice A t.mv.length ca) ∧ W.cell? ⟨pu, 0, none⟩ = some (.int .i64 u.L) ∧ W.cell? ⟨pu, 1, none⟩ = some (.int .i64 u.S) ∧ W.cell? ⟨pu, 2, none⟩ = some (.slice Au u.mv.length cu) ∧ W.cell? ⟨pr, 0, none⟩ = some (.func (.func 26) #[] #[.pointer (some ⟨pt, 0, none⟩)]))
          (first | (go_split_ands; refine ⟨?_, ?_, ?_, ?_, ?_, ?_, ?_⟩ <;> (first | assumption | exact below_keep hbk (by assumption))) | go_keep)
          (first
            | (go_at_call 27; (with_reducible refine (HST.out _ ?_).mono ?_); (first | exact HB1.out | exact HB1.out.drew); rintro e wa ⟨rfl, hbk⟩; have HCa := Lib.hid (show Below w.heap.size w wa from below_step (by first | exact HB1.out | exact HB1.out.drew) hbk))
            | (go_at_call 28; (with_reducible refine (HDu.out _ ?_).mono ?_); (first | exact HCa.out | exact HCa.out.drew); rintro e wb ⟨rfl, hbk⟩; have HCb := Lib.hid (show Below w.heap.size w wb from below_step (by first | exact HCa.out | exact HCa.out.drew) hbk))
            | (go_at_call 98; (with_reducible refine (stopRen_any true (raisedV pt) _).mono ?_); rintro e wc ⟨rfl, hbk⟩; have HCc := Lib.hid (show Below w.heap.size w wc from below_step (by first | exact HCb.out | exact HCb.out.drew) hbk)))
        all_goals
          go_wp2
          go_ret
          first | exact ⟨rfl, HCc.out⟩ | exact ⟨rfl, HCc.out.drew⟩
      · simp only at h0 h9
        subst h0; subst h9
        rw [deedV_stopF] at HDu
        rw [show raiseM t.mv.length (-2, 0) = (-2, 0) from by simp [raiseM], deedV_stopF]
        have hm := methodStopRen
        go_enter Try.func32, Try.ntmps32
        go_wp2_with fail
        refine (HST.out _ (Below.refl _ _)).mono ?_
        rintro e w1 ⟨rfl, hb⟩
        have HB1 := Lib.hid hb
        have x0 := below_keep hb d0
        have x1 := below_keep hb d1
        have x2 := below_keep hb d2
        have y0 := below_keep hb f0
        have y1 := below_keep hb f1
        have y2 := below_keep hb f2
        have xr := below_keep hb hr
        clear hb d0 d1 d2 f0 f1 f2 hr hh hg
        go_wp2_with fail
        go_region_held3 (fun W => W.cell? ⟨pt, 0, none⟩ = some (.int .i64 t.L) ∧ W.cell? ⟨pt, 1, none⟩ = some (.int .i64 t.S) ∧ W.cell? ⟨pt, 2, none⟩ = some (.slice A t.mv.length ca) ∧ W.cell? ⟨pu, 0, none⟩ = some (.int .i64 u.L) ∧ W.cell? ⟨pu, 1, none⟩ = some (.int .i64 u.S) ∧ W.cell? ⟨pu, 2, none⟩ = some (.slice Au u.mv.length cu) ∧ W.cell? ⟨pr, 0, none⟩ = some (.func (.func 26) #[] #[.pointer (some ⟨pt, 0, none⟩)]))
          (first | (go_split_ands; refine ⟨?_, ?_, ?_, ?_, ?_, ?_, ?_⟩ <;> (first | assumption | exact below_keep hbk (by assumption))) | go_keep)
          (first
            | (go_at_call 27; (with_reducible refine (HST.out _ ?_).mono ?_); (first | exact HB1.out | exact HB1.out.drew); rintro e wa ⟨rfl, hbk⟩; have HCa := Lib.hid (show Below w.heap.size w wa from below_step (by first | exact HB1.out | exact HB1.out.drew) hbk))
            | (go_at_call 28; (with_reducible refine (HDu.out _ ?_).mono ?_); (first | exact HCa.out | exact HCa.out.drew); rintro e wb ⟨rfl, hbk⟩; have HCb := Lib.hid (show Below w.heap.size w wb from below_step (by first | exact HCa.out | exact HCa.out.drew) hbk))
            | (go_at_call 98; (with_reducible refine (stopRen_any false (raisedV pt) _).mono ?_); rintro e wc ⟨rfl, hbk⟩; have HCc := Lib.hid (show Below w.heap.size w wc from below_step (by first | exact HCb.out | exact HCb.out.drew) hbk)))
        all_goals
          go_wp2
          go_ret
          first | exact ⟨rfl, HCc.out⟩ | exact ⟨rfl, HCc.out.drew⟩
      · simp only at h0 m12
        rw [deedV_goT _ _ h0] at HDu
        rw [show raiseM t.mv.length (mx, my) = (mx + t.mv.length, my) from by unfold raiseM; rw [if_pos h0], deedV_goT _ _ (by omega)]
        have hm := methodWalkRen
        go_enter Try.func32, Try.ntmps32
        go_wp2_with fail
        refine (HST.out _ (Below.refl _ _)).mono ?_
        rintro e w1 ⟨rfl, hb⟩
        have HB1 := Lib.hid hb
        have x0 := below_keep hb d0
        have x1 := below_keep hb d1
        have x2 := below_keep hb d2
        have y0 := below_keep hb f0
        have y1 := below_keep hb f1
        have y2 := below_keep hb f2
        have xr := below_keep hb hr
        clear hb d0 d1 d2 f0 f1 f2 hr hh hg
        go_wp2_with fail
        go_region_held3 (fun W => W.cell? ⟨pt, 0, none⟩ = some (.int .i64 t.L) ∧ W.cell? ⟨pt, 1, none⟩ = some (.int .i64 t.S) ∧ W.cell? ⟨pt, 2, none⟩ = some (.slice A t.mv.length ca) ∧ W.cell? ⟨pu, 0, none⟩ = some (.int .i64 u.L) ∧ W.cell? ⟨pu, 1, none⟩ = some (.int .i64 u.S) ∧ W.cell? ⟨pu, 2, none⟩ = some (.slice Au u.mv.length cu) ∧ W.cell? ⟨pr, 0, none⟩ = some (.func (.func 26) #[] #[.pointer (some ⟨pt, 0, none⟩)]))
          (first | (go_split_ands; refine ⟨?_, ?_, ?_, ?_, ?_, ?_, ?_⟩ <;> (first | assumption | exact below_keep hbk (by assumption))) | go_keep)
          (first
            | (go_at_call 27; (with_reducible refine (HST.out _ ?_).mono ?_); (first | exact HB1.out | exact HB1.out.drew); rintro e wa ⟨rfl, hbk⟩; have HCa := Lib.hid (show Below w.heap.size w wa from below_step (by first | exact HB1.out | exact HB1.out.drew) hbk))
            | (go_at_call 28; (with_reducible refine (HDu.out _ ?_).mono ?_); (first | exact HCa.out | exact HCa.out.drew); rintro e wb ⟨rfl, hbk⟩; have HCb := Lib.hid (show Below w.heap.size w wb from below_step (by first | exact HCa.out | exact HCa.out.drew) hbk))
            | (go_at_call 93; (with_reducible refine (walkRen_any pt t mx my _ (HAT.out.below (by first | exact HCb.out | exact HCb.out.drew)) n12 h0 m12).mono ?_); rintro e wc ⟨rfl, hbk⟩; have HCc := Lib.hid (show Below w.heap.size w wc from below_step (by first | exact HCb.out | exact HCb.out.drew) hbk)))
        all_goals
          go_wp2
          go_ret
          first | exact ⟨rfl, HCc.out⟩ | exact ⟨rfl, HCc.out.drew⟩
    · have h2' : q < t.mv.length := by omega
      have HDt := Lib.hid (HD.out h2')
      obtain ⟨x0, m, -, -, hat, hmv, -⟩ := HOK.out.1.at (q := q) (k := k) h2' hk
      have hin := okMove_out hmv
      have HG0 := Lib.hid (show thG t u q k = if m.1 = -1 then thOn t u k else m by unfold thG; rw [if_neg h1, if_neg h2, hat])
      rw [hat] at HDt
      have i1 : (q : Int) < t.mv.length := by omega
      clear hat hmv h1 h2 HD
      obtain ⟨mx, my⟩ := m
      rcases hin with ⟨h0 | h0, h9⟩ | ⟨_, h0, _⟩
      · simp only at h0 h9
        subst h0; subst h9
        rw [deedV_stopT] at HDt
        rw [HG0.out, if_pos rfl]
        have ta := fun W => taStopYesT W (.agg #[.bool true])
        go_enter Try.func32, Try.ntmps32
        go_wp2_with fail
        refine (HST.out _ (Below.refl _ _)).mono ?_
        rintro e w1 ⟨rfl, hb⟩
        have HB1 := Lib.hid hb
        have x0 := below_keep hb d0
        have x1 := below_keep hb d1
        have x2 := below_keep hb d2
        have xg := Lib.hid (below_keep hb hg)
        clear hb d0 d1 d2 hr hh hg
        go_wp2_with fail
        refine (HDt.out _ HB1.out).mono ?_
        rintro e w2 ⟨rfl, hb⟩
        have HB2 := Lib.hid (below_step HB1.out hb)
        have xg2 := Lib.hid (below_keep hb xg.out)
        clear hb x0 x1 x2 xg
        have HB3 := Lib.hid (below_step HB2.out (below_alloc w2 (.cells #[.bool true] 69)))
        have g2 := xg2.out
        have lg := World.block_lt_of_cell? _ _ g2
        go_wp2_with fail
        refine (HON.out _ HB3.out).mono ?_
        rintro e w3 ⟨rfl, hb⟩
        have HB4 := Lib.hid (below_step HB3.out hb)
        clear hb
        go_wp2
        go_ret
        exact ⟨rfl, HB4.out⟩
      · simp only at h0 h9
        subst h0; subst h9
        rw [deedV_stopF] at HDt
        rw [HG0.out, if_neg (by decide), deedV_stopF]
        have ta := fun W => taStopYesT W (.agg #[.bool false])
        go_enter Try.func32, Try.ntmps32
        go_wp2_with fail
        refine (HST.out _ (Below.refl _ _)).mono ?_
        rintro e w1 ⟨rfl, hb⟩
        have HB1 := Lib.hid hb
        have x0 := below_keep hb d0
        have x1 := below_keep hb d1
        have x2 := below_keep hb d2
        have xg := Lib.hid (below_keep hb hg)
        clear hb d0 d1 d2 hr hh hg
        go_wp2_with fail
        refine (HDt.out _ HB1.out).mono ?_
        rintro e w2 ⟨rfl, hb⟩
        have HB2 := Lib.hid (below_step HB1.out hb)
        have xg2 := Lib.hid (below_keep hb xg.out)
        clear hb x0 x1 x2 xg
        have HB3 := Lib.hid (below_step HB2.out (below_alloc w2 (.cells #[.bool false] 69)))
        have g2 := xg2.out
        have lg := World.block_lt_of_cell? _ _ g2
        go_wp2
        go_ret
        exact ⟨rfl, HB3.out⟩
      · simp only at h0
        rw [deedV_goT _ _ h0] at HDt
        rw [HG0.out, if_neg (by simp only; omega), deedV_goT _ _ h0]
        have ta := fun W => taStopNoT W (.agg #[.int .i64 mx, .int .i64 my])
        go_enter Try.func32, Try.ntmps32
        go_wp2_with fail
        refine (HST.out _ (Below.refl _ _)).mono ?_
        rintro e w1 ⟨rfl, hb⟩
        have HB1 := Lib.hid hb
        have x0 := below_keep hb d0
        have x1 := below_keep hb d1
        have x2 := below_keep hb d2
        have xg := Lib.hid (below_keep hb hg)
        clear hb d0 d1 d2 hr hh hg
        go_wp2_with fail
        refine (HDt.out _ HB1.out).mono ?_
        rintro e w2 ⟨rfl, hb⟩
        have HB2 := Lib.hid (below_step HB1.out hb)
        have xg2 := Lib.hid (below_keep hb xg.out)
        clear hb x0 x1 x2 xg
        go_wp2
        go_ret
        exact ⟨rfl, HB2.out⟩
end Go.Proofs.Ytklljaeoimgmnaa
