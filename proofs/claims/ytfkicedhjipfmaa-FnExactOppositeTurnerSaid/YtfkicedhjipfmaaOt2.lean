/-
  The opposite turner: the program's answer.
-/
import Derived.Test.YtfkicedhjipfmaaTdOppositeTurner
import Derived.Test.YtfkicedhjipfmaaSt2
namespace Go.Proofs.Ytfkicedhjipfmaa
open Go.RowKit

def oppM (m : Int × Int) : Int × Int := if m.1 < 0 then (-3 - m.1, m.2) else m
def oppMv (mv : List (List (Int × Int))) : List (List (Int × Int)) := mv.map (·.map oppM)
def oppTRes (t : TData) : TData × Int := if okT t then (⟨t.L, t.S, oppMv t.mv⟩, 0) else (⟨0, 0, []⟩, 1)

theorem oppM_deeded {n L k : Int} {m : Int × Int} (h : okMove n L k m = true) : Deeded (oppM m) := by
  have := okMove_out h
  unfold oppM Deeded
  by_cases h0 : m.1 < 0
  · rw [if_pos h0]; left; simp only; omega
  · rw [if_neg h0]; right; omega
theorem oppMv_table {t : TData} (ok : OkT t) {c : Nat} (hc : (c : Int) = t.L + 2) : tableOf (fun q k => oppM (moveAt t q k)) c t.mv.length = oppMv t.mv := by
  apply List.ext_getElem?
  intro q
  by_cases hq : q < t.mv.length
  · have hx : t.mv[q]? = some t.mv[q] := List.getElem?_eq_getElem hq
    have hl := ok.len q _ hx
    have e1 : (tableOf (fun q k => oppM (moveAt t q k)) c t.mv.length)[q]? = some (rowOf (fun q k => oppM (moveAt t q k)) c q) := by simp [tableOf, hq]
    have e2 : (oppMv t.mv)[q]? = some (t.mv[q].map oppM) := by simp [oppMv, hq]
    rw [e1, e2]
    congr 1
    apply List.ext_getElem?
    intro k
    by_cases hk : k < c
    · have hkl : k < t.mv[q].length := by omega
      have hm : t.mv[q][k]? = some t.mv[q][k] := List.getElem?_eq_getElem hkl
      rw [rowOf_get _ hk]
      simp [moveAt, List.getD, hx, hm]
    · rw [List.getElem?_eq_none (by rw [rowOf_len]; omega), List.getElem?_eq_none (by rw [List.length_map]; omega)]
  · rw [List.getElem?_eq_none (by rw [tableOf_len]; omega), List.getElem?_eq_none (by simp [oppMv]; omega)]

theorem methodStopOpp (n : Nat) (b : Bool) (w : World) : (method (n + 1) 77 (.agg #[.bool b]) "loop.example/g01134/impl.opposite").run Try.prog w = .ok (129, .agg #[.bool b]) w := by kernel_rfl
theorem methodWalkOpp (n : Nat) (x y : Int) (w : World) : (method (n + 1) 75 (.agg #[.int .i64 x, .int .i64 y]) "loop.example/g01134/impl.opposite").run Try.prog w = .ok (124, .agg #[.int .i64 x, .int .i64 y]) w := by kernel_rfl
theorem stopOpp_any (b : Bool) (w : World) :
    Calls Try.prog 129 #[.agg #[.bool b]] w fun e w' => e = .returned (.iface 77 (.agg #[.bool (!b)])) ∧ Below w.heap.size w w' := by
  have c1 := concStop
  go_enter Try.func129, Try.ntmps129
  go_wp2
  go_ret
  exact ⟨rfl, below_alloc _ _⟩
theorem walkOpp_any (x y : Int) (w : World) :
    Calls Try.prog 124 #[.agg #[.int .i64 x, .int .i64 y]] w fun e w' => e = .returned (.iface 75 (.agg #[.int .i64 x, .int .i64 y])) ∧ Below w.heap.size w w' := by
  have c1 := concWalk
  go_enter Try.func124, Try.ntmps124
  go_wp2
  go_ret
  exact ⟨rfl, below_alloc _ _⟩

theorem deedV_walkO (x y : Int) (h : 0 ≤ x) : deedV (x, y) = .iface 75 (.agg #[.int .i64 x, .int .i64 y]) := by
  simp only [deedV, walkV]; rw [if_neg (by omega), if_neg (by omega)]

set_option maxRecDepth 100000 in
set_option maxHeartbeats 1600000 in
theorem oppClosure_any (p : Nat) (t : TData) (q k : Nat) (w : World) (h : AtT w p t) (ok : OkT t) (hq : q < t.mv.length) (hk : (k : Int) < t.L + 2) :
    Calls Try.prog 61 #[.int .i64 (q : Int), .int .i64 (k : Int), .pointer (some ⟨p, 0, none⟩)] w fun e w' => e = .returned (deedV (oppM (moveAt t q k))) ∧ Below w.heap.size w w' := by
  obtain ⟨x, m, -, -, hat, hmv, -⟩ := ok.at hq hk
  have hin := okMove_out hmv
  obtain ⟨vm, c0, c1, c2, hR⟩ := h
  have HD := Lib.hid (deed_any (.agg #[.int .i64 t.L, .int .i64 t.S, vm]) t q k w ⟨vm, rfl, hR⟩ ok hq hk)
  rw [hat] at HD ⊢
  obtain ⟨mx, my⟩ := m
  obtain ⟨A, ca, rfl⟩ := RdL.shape hR
  have c3 := concStop
  have c4 := concWalk
  clear hat hmv hR ok
  rcases hin with ⟨h0 | h0, h9⟩ | ⟨_, h0, _⟩
  · simp only at h0 h9
    subst h0; subst h9
    rw [show deedV (-1, 0) = .iface 77 (.agg #[.bool true]) from by simp [deedV, stopV]] at HD
    rw [show deedV (oppM (-1, 0)) = .iface 77 (.agg #[.bool false]) from by simp [oppM, deedV, stopV]]
    have hm := methodStopOpp
    go_enter Try.func61, Try.ntmps61
    go_wp2_with fail
    refine HD.out.mono ?_
    rintro e w1 ⟨rfl, hb⟩
    have HB := Lib.hid hb
    clear hb
    go_wp2_with fail
    refine (stopOpp_any true _).mono ?_
    rintro e w2 ⟨rfl, hb⟩
    have HB2 := Lib.hid (below_step HB.out hb)
    clear hb
    go_wp2
    go_ret
    exact ⟨rfl, HB2.out⟩
  · simp only at h0 h9
    subst h0; subst h9
    rw [show deedV (-2, 0) = .iface 77 (.agg #[.bool false]) from by simp [deedV, stopV]] at HD
    rw [show deedV (oppM (-2, 0)) = .iface 77 (.agg #[.bool true]) from by simp [oppM, deedV, stopV]]
    have hm := methodStopOpp
    go_enter Try.func61, Try.ntmps61
    go_wp2_with fail
    refine HD.out.mono ?_
    rintro e w1 ⟨rfl, hb⟩
    have HB := Lib.hid hb
    clear hb
    go_wp2_with fail
    refine (stopOpp_any false _).mono ?_
    rintro e w2 ⟨rfl, hb⟩
    have HB2 := Lib.hid (below_step HB.out hb)
    clear hb
    go_wp2
    go_ret
    exact ⟨rfl, HB2.out⟩
  · simp only at h0
    rw [deedV_walkO mx my h0] at HD
    rw [show oppM (mx, my) = (mx, my) from by unfold oppM; rw [if_neg (by simp only; omega)], deedV_walkO mx my h0]
    have hm := methodWalkOpp
    clear h0
    go_enter Try.func61, Try.ntmps61
    go_wp2_with fail
    refine HD.out.mono ?_
    rintro e w1 ⟨rfl, hb⟩
    have HB := Lib.hid hb
    clear hb
    go_wp2_with fail
    refine (walkOpp_any mx my _).mono ?_
    rintro e w2 ⟨rfl, hb⟩
    have HB2 := Lib.hid (below_step HB.out hb)
    clear hb
    go_wp2
    go_ret
    exact ⟨rfl, HB2.out⟩
end Go.Proofs.Ytfkicedhjipfmaa
