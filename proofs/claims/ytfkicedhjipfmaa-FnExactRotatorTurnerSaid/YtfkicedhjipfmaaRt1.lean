/-
  A rotator as a turner: what it does, and the program's closures.
-/
import Derived.Test.YtfkicedhjipfmaaTd1
import Derived.Test.YtfkicedhjipfmaaV5
import Derived.Test.YtfkicedhjipfmaaSt2
import Derived.Test.YtfkicedhjipfmaaNt1
import Derived.Test.YtfkicedhjipfmaaRo3
import Derived.Deep.RegionHeld3
namespace Go.Proofs.Ytfkicedhjipfmaa
open Go.RowKit

/-- What the turner does in the state q above the sign k. -/
def rtG (r : OData) (q k : Nat) : Int × Int :=
  if q < r.next.length then
    (if (k : Int) = r.L then ((q : Int), 1) else if (k : Int) = r.L + 1 then (if r.fin.getD q 0 < 0 then (r.fin.getD q 0, 0) else ((r.next.length : Int) + r.fin.getD q 0, -1)) else ((r.next.getD q []).getD k 0, 1))
  else if (k : Int) = r.L then ((q : Int) - r.next.length, 1) else if (k : Int) = r.L + 1 then (-2, 0) else ((q : Int), -1)
theorem rt_fin {r : OData} (h : okO r = true) {q : Nat} (hq : q < r.next.length) : ∃ z, r.fin[q]? = some z ∧ r.fin.getD q 0 = z ∧ -2 ≤ z ∧ z ≤ (r.next.length : Int) - 1 := by
  have hl := (okO_parts h).2.2.2.1
  have hx : r.fin[q]? = some r.fin[q] := List.getElem?_eq_getElem (by omega)
  exact ⟨_, hx, by simp [List.getD, hx], okO_fin h hx⟩
theorem rt_next {r : OData} (h : okO r = true) {q k : Nat} (hq : q < r.next.length) (hk : (k : Int) < r.L) : ∃ x z, r.next[q]? = some x ∧ x[k]? = some z ∧ (x.length : Int) = r.L ∧ (r.next.getD q []).getD k 0 = z ∧ 0 ≤ z ∧ z ≤ (r.next.length : Int) - 1 := by
  have hx : r.next[q]? = some r.next[q] := List.getElem?_eq_getElem hq
  obtain ⟨h1, h2⟩ := okO_at h hx
  have hz : r.next[q][k]? = some r.next[q][k] := List.getElem?_eq_getElem (by omega)
  exact ⟨_, _, hx, hz, h1, by simp [List.getD, hx, hz], h2 _ (List.mem_of_getElem? hz)⟩
theorem rtG_deeded {r : OData} (h : okO r = true) {q k : Nat} (hk : (k : Int) < r.L + 2) : Deeded (rtG r q k) := by
  unfold rtG Deeded
  by_cases hq : q < r.next.length
  · obtain ⟨z, -, hz, z1, z2⟩ := rt_fin h hq
    rw [if_pos hq, hz]
    by_cases h1 : (k : Int) = r.L
    · rw [if_pos h1]; simp only; omega
    · rw [if_neg h1]
      by_cases h2 : (k : Int) = r.L + 1
      · rw [if_pos h2]
        by_cases h3 : z < 0
        · rw [if_pos h3]; left; exact ⟨by show z = -1 ∨ z = -2; omega, rfl⟩
        · rw [if_neg h3]; simp only; omega
      · rw [if_neg h2]
        obtain ⟨x, t, -, -, -, ht, t1, t2⟩ := rt_next h hq (k := k) (by omega)
        rw [ht]; simp only; omega
  · rw [if_neg hq]
    by_cases h1 : (k : Int) = r.L
    · rw [if_pos h1]; simp only; omega
    · rw [if_neg h1]
      by_cases h2 : (k : Int) = r.L + 1
      · rw [if_pos h2]; simp
      · rw [if_neg h2]; simp only; omega

theorem rtMethodStop (n : Nat) (b : Bool) (w : World) : (method (n + 1) 77 (.agg #[.bool b]) "loop.example/g01134/impl.renumbered").run Try.prog w = .ok (130, .agg #[.bool b]) w := by kernel_rfl
theorem rtMethodWalk (n : Nat) (x y : Int) (w : World) : (method (n + 1) 75 (.agg #[.int .i64 x, .int .i64 y]) "loop.example/g01134/impl.renumbered").run Try.prog w = .ok (125, .agg #[.int .i64 x, .int .i64 y]) w := by kernel_rfl
abbrev secV (p : Nat) : Value := .func (.func 76) #[] #[.pointer (some ⟨p, 0, none⟩)]
abbrev rtOnV (pr ps : Nat) : Value := .func (.func 77) #[] #[.pointer (some ⟨pr, 0, none⟩), .pointer (some ⟨ps, 0, none⟩)]
abbrev rtBackV (pr ps : Nat) : Value := .func (.func 79) #[] #[.pointer (some ⟨pr, 0, none⟩), .pointer (some ⟨ps, 0, none⟩)]

theorem second_any (p n : Nat) (x : Int) (w : World) (h : w.cell? ⟨p, 0, none⟩ = some (.int .i64 (n : Int))) (hn : n ≤ 6) (h0 : 0 ≤ x) (h1 : x ≤ 12) :
    Calls Try.prog 76 #[.int .i64 x, .pointer (some ⟨p, 0, none⟩)] w fun e w' => e = .returned (.int .i64 ((n : Int) + x)) ∧ w = w' := by
  go_enter Try.func76, Try.ntmps76
  go_wp2
  go_ret
  exact ⟨rfl, rfl⟩
theorem rtStopRen_any (b : Bool) (fv : Value) (w : World) :
    Calls Try.prog 130 #[.agg #[.bool b], fv] w fun e w' => e = .returned (.iface 77 (.agg #[.bool b])) ∧ Below w.heap.size w w' := by
  have c1 := concStop
  go_enter Try.func130, Try.ntmps130
  go_wp2
  go_ret
  exact ⟨rfl, below_alloc _ _⟩

set_option maxRecDepth 100000 in
set_option maxHeartbeats 1600000 in
theorem rtWalkRen_any (p n : Nat) (x y : Int) (w : World) (h : w.cell? ⟨p, 0, none⟩ = some (.int .i64 (n : Int))) (hn : n ≤ 6) (h0 : 0 ≤ x) (h1 : x ≤ 12) :
    Calls Try.prog 125 #[.agg #[.int .i64 x, .int .i64 y], secV p] w fun e w' => e = .returned (.iface 75 (.agg #[.int .i64 ((n : Int) + x), .int .i64 y])) ∧ Below w.heap.size w w' := by
  have c1 := concWalk
  have HC := Lib.hid (fun W (hb : Below w.heap.size w W) => second_any p n x W (below_keep hb h) hn h0 h1)
  have HB := Lib.hid (below_alloc w (.cells #[.int .i64 x, .int .i64 y] 75))
  unfold secV
  clear h
  go_enter Try.func125, Try.ntmps125
  go_wp2_with fail
  go_region_held3 (fun W => W.cell? ⟨w.heap.size, 0, none⟩ = some (.int .i64 x) ∧ W.cell? ⟨w.heap.size, 1, none⟩ = some (.int .i64 y))
    (first | (go_split_ands; refine ⟨?_, ?_⟩ <;> (first | assumption | exact below_keep hbk (by assumption))) | go_keep)
    (first | (go_at_call 76; (with_reducible refine (HC.out _ ?_).mono ?_); (first | exact HB.out | exact HB.out.drew); rintro e wa ⟨rfl, rfl⟩; have HCa := Lib.hid HB.out))
  all_goals
    go_wp2
    go_ret
    first | exact ⟨rfl, HB.out⟩ | exact ⟨rfl, HB.out.drew⟩ | exact ⟨rfl, HB.out.drew.drew⟩

set_option maxRecDepth 100000 in
set_option maxHeartbeats 3200000 in
theorem rtBack_any (pr ps pn : Nat) (r : OData) (q k : Nat) (w : World) (h : w.cell? ⟨pr, 0, none⟩ = some (.int .i64 r.L)) (hs : w.cell? ⟨ps, 0, none⟩ = some (secV pn)) (hn : w.cell? ⟨pn, 0, none⟩ = some (.int .i64 (r.next.length : Int))) (hok : okO r = true) (hk : (k : Int) < r.L + 2) (hq : q < r.next.length) :
    Calls Try.prog 79 #[.int .i64 (q : Int), .int .i64 (k : Int), .pointer (some ⟨pr, 0, none⟩), .pointer (some ⟨ps, 0, none⟩)] w fun e w' => e = .returned (deedV (rtG r (r.next.length + q) k)) ∧ Below w.heap.size w w' := by
  obtain ⟨⟨l1, l2⟩, ⟨n1, n2⟩, -⟩ := okO_parts hok
  have c1 := concWalk
  have c2 := concStop
  have HR := Lib.hid (fun W => rightMark_any r.L W (by omega) (by omega))
  have HS := Lib.hid (fun W (hb : Below w.heap.size w W) => second_any pn r.next.length (q : Int) W (below_keep hb hn) (by omega) (by omega) (by omega))
  have hG : rtG r (r.next.length + q) k = if (k : Int) = r.L then ((q : Int), 1) else if (k : Int) = r.L + 1 then (-2, 0) else ((r.next.length : Int) + q, -1) := by
    unfold rtG
    rw [if_neg (by omega)]
    simp only [Int.natCast_add]
    rw [show (r.next.length : Int) + (q : Int) - r.next.length = q by omega]
  rw [hG]
  clear hG hok hn
  by_cases h1 : (k : Int) = r.L
  · rw [if_pos h1, deedV_goT _ _ (by omega)]
    have e1 : ((k : Int) == r.L) = true := by rw [beq_iff_eq]; exact h1
    clear h1
    go_enter Try.func79, Try.ntmps79
    go_wp2_with (go_at_call 46; refine (leftMark_any _ _).mono ?_; rintro e w' ⟨rfl, rfl⟩)
    go_ret
    exact ⟨rfl, Below.refl _ _⟩
  · rw [if_neg h1]
    have e1 : ((k : Int) == r.L) = false := by rw [beq_eq_false_iff_ne]; exact h1
    by_cases h2 : (k : Int) = r.L + 1
    · rw [if_pos h2, deedV_stopF]
      have e2 : ((k : Int) == r.L + 1) = true := by rw [beq_iff_eq]; exact h2
      clear h2
      go_enter Try.func79, Try.ntmps79
      go_wp2_with (first | (go_at_call 46; refine (leftMark_any _ _).mono ?_; rintro e w' ⟨rfl, rfl⟩) | (go_at_call 47; refine (HR.out _).mono ?_; rintro e w' ⟨rfl, rfl⟩))
      go_ret
      exact ⟨rfl, Below.refl _ _⟩
    · rw [if_neg h2, deedV_goT _ _ (by omega)]
      have e2 : ((k : Int) == r.L + 1) = false := by rw [beq_eq_false_iff_ne]; exact h2
      unfold secV at hs
      go_enter Try.func79, Try.ntmps79
      go_wp2_with (first | (go_at_call 46; refine (leftMark_any _ _).mono ?_; rintro e w' ⟨rfl, rfl⟩) | (go_at_call 47; refine (HR.out _).mono ?_; rintro e w' ⟨rfl, rfl⟩) | (go_at_call 76; refine (HS.out _ (Below.refl _ _)).mono ?_; rintro e w' ⟨rfl, rfl⟩))
      go_ret
      exact ⟨rfl, Below.refl _ _⟩

set_option maxRecDepth 100000 in
set_option maxHeartbeats 3200000 in
theorem rtOn_any (pr ps pn : Nat) (r : OData) (q k : Nat) (w : World) (h : AtO w pr r) (hs : w.cell? ⟨ps, 0, none⟩ = some (secV pn)) (hn : w.cell? ⟨pn, 0, none⟩ = some (.int .i64 (r.next.length : Int))) (hok : okO r = true) (hk : (k : Int) < r.L + 2) (hq : q < r.next.length) :
    Calls Try.prog 77 #[.int .i64 (q : Int), .int .i64 (k : Int), .pointer (some ⟨pr, 0, none⟩), .pointer (some ⟨ps, 0, none⟩)] w fun e w' => e = .returned (deedV (rtG r q k)) ∧ Below w.heap.size w w' := by
  obtain ⟨⟨l1, l2⟩, ⟨n1, n2⟩, -, m1, -⟩ := okO_parts hok
  have c1 := concWalk
  have c2 := concStop
  have HR := Lib.hid (fun W => rightMark_any r.L W (by omega) (by omega))
  obtain ⟨vn, vf, d0, d1, d2, d3, hN, hF⟩ := h
  obtain ⟨A, ca, rfl, a1, a2, a3⟩ := RdL.open hN
  obtain ⟨B, cb, rfl, b1, b2, b3⟩ := RdI.open hF
  unfold maxLen at a2 b2
  have hG : rtG r q k = if (k : Int) = r.L then ((q : Int), 1) else if (k : Int) = r.L + 1 then (if r.fin.getD q 0 < 0 then (r.fin.getD q 0, 0) else ((r.next.length : Int) + r.fin.getD q 0, -1)) else ((r.next.getD q []).getD k 0, 1) := by
    unfold rtG
    rw [if_pos hq]
  rw [hG]
  clear hG hN hF
  by_cases h1 : (k : Int) = r.L
  · rw [if_pos h1, deedV_goT _ _ (by omega)]
    have e1 : ((k : Int) == r.L) = true := by rw [beq_iff_eq]; exact h1
    clear h1 a3 b3
    go_enter Try.func77, Try.ntmps77
    go_wp2_with (go_at_call 46; refine (leftMark_any _ _).mono ?_; rintro e w' ⟨rfl, rfl⟩)
    go_ret
    exact ⟨rfl, Below.refl _ _⟩
  · rw [if_neg h1]
    have e1 : ((k : Int) == r.L) = false := by rw [beq_eq_false_iff_ne]; exact h1
    by_cases h2 : (k : Int) = r.L + 1
    · rw [if_pos h2]
      have e2 : ((k : Int) == r.L + 1) = true := by rw [beq_iff_eq]; exact h2
      obtain ⟨z, hz, hzd, z1, z2⟩ := rt_fin hok hq
      rw [hzd]
      obtain ⟨b, off, z', rfl, hz', hcz⟩ := b3 q (by omega)
      rw [hz] at hz'
      cases hz'
      have i1 : (q : Int) < r.fin.length := by omega
      have i0 : (0 : Int) ≤ q := by omega
      have HD := Lib.hid (fun W => deedOf_any z (-1) W)
      have HW := Lib.hid (fun (h0 : 0 ≤ z) W (hb : Below w.heap.size w W) => rtWalkRen_any pn r.next.length z (-1) W (below_keep hb hn) (by omega) h0 (by omega))
      have HB := Lib.hid (Below.refl w.heap.size w)
      unfold secV at hs HW
      clear h1 h2 a3 b3 hz hzd hok hn
      by_cases z3 : z < 0
      · rw [if_pos z3]
        rcases (show z = -1 ∨ z = -2 by omega) with rfl | rfl
        · rw [deedV_stopT]
          rw [show deedV (-1, -1) = .iface 77 (.agg #[.bool true]) by simp [deedV, stopV]] at HD
          have hm := rtMethodStop
          go_enter Try.func77, Try.ntmps77
          go_wp2_with (first | (go_at_call 46; refine (leftMark_any _ _).mono ?_; rintro e w' ⟨rfl, rfl⟩) | (go_at_call 47; refine (HR.out _).mono ?_; rintro e w' ⟨rfl, rfl⟩))
          go_region_held3 (fun W => W.cell? ⟨pr, 3, none⟩ = some (.slice (some ⟨b, off, none⟩) r.fin.length cb) ∧ W.cell? ⟨b, off + q, none⟩ = some (.int .i64 (-1)) ∧ W.cell? ⟨ps, 0, none⟩ = some (.func (.func 76) #[] #[.pointer (some ⟨pn, 0, none⟩)]))
            (first | (go_split_ands; refine ⟨?_, ?_, ?_⟩ <;> (first | with_reducible assumption | with_reducible exact below_keep hbk (by assumption) | assumption | exact below_keep hbk (by assumption))) | go_keep)
            (first
              | (go_at_call 78; (with_reducible refine (HD.out _).mono ?_); rintro e wb ⟨rfl, hbk⟩; have HCb := Lib.hid (show Below w.heap.size w wb from below_step (by first | exact HB.out | exact HB.out.drew) hbk))
              | (go_at_call 130; (with_reducible refine (rtStopRen_any true (secV pn) _).mono ?_); rintro e wc ⟨rfl, hbk⟩; have HCc := Lib.hid (show Below w.heap.size w wc from below_step (by first | exact HCb.out | exact HCb.out.drew) hbk)))
          all_goals
            go_wp2
            go_ret
            first | exact ⟨rfl, HCc.out⟩ | exact ⟨rfl, HCc.out.drew⟩
        · rw [deedV_stopF]
          rw [show deedV (-2, -1) = .iface 77 (.agg #[.bool false]) by simp [deedV, stopV]] at HD
          have hm := rtMethodStop
          go_enter Try.func77, Try.ntmps77
          go_wp2_with (first | (go_at_call 46; refine (leftMark_any _ _).mono ?_; rintro e w' ⟨rfl, rfl⟩) | (go_at_call 47; refine (HR.out _).mono ?_; rintro e w' ⟨rfl, rfl⟩))
          go_region_held3 (fun W => W.cell? ⟨pr, 3, none⟩ = some (.slice (some ⟨b, off, none⟩) r.fin.length cb) ∧ W.cell? ⟨b, off + q, none⟩ = some (.int .i64 (-2)) ∧ W.cell? ⟨ps, 0, none⟩ = some (.func (.func 76) #[] #[.pointer (some ⟨pn, 0, none⟩)]))
            (first | (go_split_ands; refine ⟨?_, ?_, ?_⟩ <;> (first | with_reducible assumption | with_reducible exact below_keep hbk (by assumption) | assumption | exact below_keep hbk (by assumption))) | go_keep)
            (first
              | (go_at_call 78; (with_reducible refine (HD.out _).mono ?_); rintro e wb ⟨rfl, hbk⟩; have HCb := Lib.hid (show Below w.heap.size w wb from below_step (by first | exact HB.out | exact HB.out.drew) hbk))
              | (go_at_call 130; (with_reducible refine (rtStopRen_any false (secV pn) _).mono ?_); rintro e wc ⟨rfl, hbk⟩; have HCc := Lib.hid (show Below w.heap.size w wc from below_step (by first | exact HCb.out | exact HCb.out.drew) hbk)))
          all_goals
            go_wp2
            go_ret
            first | exact ⟨rfl, HCc.out⟩ | exact ⟨rfl, HCc.out.drew⟩
      · rw [if_neg z3, deedV_goT _ _ (by omega)]
        have HW2 := Lib.hid (HW.out (by omega))
        clear HW
        rw [deedV_goT _ _ (by omega)] at HD
        skip
        have hm := rtMethodWalk
        go_enter Try.func77, Try.ntmps77
        go_wp2_with (first | (go_at_call 46; refine (leftMark_any _ _).mono ?_; rintro e w' ⟨rfl, rfl⟩) | (go_at_call 47; refine (HR.out _).mono ?_; rintro e w' ⟨rfl, rfl⟩))
        go_region_held3 (fun W => W.cell? ⟨pr, 3, none⟩ = some (.slice (some ⟨b, off, none⟩) r.fin.length cb) ∧ W.cell? ⟨b, off + q, none⟩ = some (.int .i64 z) ∧ W.cell? ⟨ps, 0, none⟩ = some (.func (.func 76) #[] #[.pointer (some ⟨pn, 0, none⟩)]))
          (first | (go_split_ands; refine ⟨?_, ?_, ?_⟩ <;> (first | with_reducible assumption | with_reducible exact below_keep hbk (by assumption) | assumption | exact below_keep hbk (by assumption))) | go_keep)
          (first
            | (go_at_call 78; (with_reducible refine (HD.out _).mono ?_); rintro e wb ⟨rfl, hbk⟩; have HCb := Lib.hid (show Below w.heap.size w wb from below_step (by first | exact HB.out | exact HB.out.drew) hbk))
            | (go_at_call 125; (with_reducible refine (HW2.out _ (by first | exact HCb.out | exact HCb.out.drew)).mono ?_); rintro e wc ⟨rfl, hbk⟩; have HCc := Lib.hid (show Below w.heap.size w wc from below_step (by first | exact HCb.out | exact HCb.out.drew) hbk)))
        all_goals
          go_wp2
          go_ret
          first | exact ⟨rfl, HCc.out⟩ | exact ⟨rfl, HCc.out.drew⟩
    · rw [if_neg h2]
      have e2 : ((k : Int) == r.L + 1) = false := by rw [beq_eq_false_iff_ne]; exact h2
      obtain ⟨x, z, hx, hz, hxl, hzd, z1, z2⟩ := rt_next hok hq (k := k) (by omega)
      rw [hzd, deedV_goT _ _ z1]
      obtain ⟨b, off, u, x', rfl, hx', hcx, hRx⟩ := a3 q hq
      rw [hx] at hx'
      cases hx'
      obtain ⟨C, cc, rfl, x1, x2, x3⟩ := RdI.open hRx
      unfold maxLen at x2
      obtain ⟨b2, off2, z', rfl, hz', hcz⟩ := x3 k (by omega)
      rw [hz] at hz'
      cases hz'
      have i0 : (0 : Int) ≤ q := by omega
      have i1 : (q : Int) < r.next.length := by omega
      have j0 : (0 : Int) ≤ k := by omega
      have j1 : (k : Int) < x.length := by omega
      clear a3 b3 x3 hx hz hzd hok hn hRx
      go_enter Try.func77, Try.ntmps77
      go_wp2_with (first | (go_at_call 46; refine (leftMark_any _ _).mono ?_; rintro e w' ⟨rfl, rfl⟩) | (go_at_call 47; refine (HR.out _).mono ?_; rintro e w' ⟨rfl, rfl⟩))
      go_ret
      exact ⟨rfl, Below.refl _ _⟩
end Go.Proofs.Ytfkicedhjipfmaa
