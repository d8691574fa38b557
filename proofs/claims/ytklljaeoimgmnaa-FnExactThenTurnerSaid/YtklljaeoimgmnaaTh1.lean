/-
  One turner after another: what it does, and the program's closures.
-/
import Derived.Test.YtklljaeoimgmnaaTd1
import Derived.Test.YtklljaeoimgmnaaV5
import Derived.Test.YtklljaeoimgmnaaSt2
namespace Go.Proofs.Ytklljaeoimgmnaa
open Go.RowKit

def raiseM (n : Nat) (m : Int × Int) : Int × Int := if 0 ≤ m.1 then (m.1 + n, m.2) else m
def thHome (t u : TData) : Nat := t.mv.length + u.mv.length
def thBegin (t u : TData) : Int × Int := raiseM t.mv.length (moveAt u u.S.toNat u.L.toNat)
def thOn (t u : TData) (k : Nat) : Int × Int := if (k : Int) = t.L then thBegin t u else ((thHome t u : Nat), -1)
def thG (t u : TData) (q k : Nat) : Int × Int :=
  if q = thHome t u then thOn t u k else if t.mv.length ≤ q then raiseM t.mv.length (moveAt u (q - t.mv.length) k) else if (moveAt t q k).1 = -1 then thOn t u k else moveAt t q k
theorem raise_ok {n m : Nat} {L k : Int} {x : Int × Int} (h : okMove m L k x = true) : okMove ((n + m : Nat) + 1) L k (raiseM n x) = true := by
  have h := okMove_out h
  unfold okMove raiseM
  apply decide_eq_true
  by_cases h0 : 0 ≤ x.1
  · rw [if_pos h0]; simp only; omega
  · rw [if_neg h0]; omega
theorem thBegin_ok {t u : TData} (oku : OkT u) : okMove (thHome t u + 1) u.L u.L (thBegin t u) = true := by
  have s1 := oku.s1
  have s2 := oku.s2
  have l1 := oku.l1
  obtain ⟨x, m, -, -, hat, hmv, -⟩ := oku.at (q := u.S.toNat) (k := u.L.toNat) (by omega) (by omega)
  unfold thBegin thHome
  rw [hat]
  have := raise_ok (n := t.mv.length) hmv
  rwa [show ((u.L.toNat : Nat) : Int) = u.L by omega] at this
theorem thOn_ok {t u : TData} (oku : OkT u) (hL : t.L = u.L) {k : Nat} : okMove (thHome t u + 1) t.L k (thOn t u k) = true := by
  unfold thOn
  by_cases hk : (k : Int) = t.L
  · rw [if_pos hk, hk, hL]; exact thBegin_ok oku
  · rw [if_neg hk]
    unfold okMove
    apply decide_eq_true
    simp only
    omega
theorem thG_ok {t u : TData} (ok : OkT t) (oku : OkT u) (hL : t.L = u.L) {q k : Nat} (hq : q < thHome t u + 1) (hk : (k : Int) < t.L + 2) : okMove (thHome t u + 1) t.L k (thG t u q k) = true := by
  unfold thG
  by_cases h1 : q = thHome t u
  · rw [if_pos h1]; exact thOn_ok oku hL
  · rw [if_neg h1]
    by_cases h2 : t.mv.length ≤ q
    · rw [if_pos h2]
      obtain ⟨x, m, -, -, hat, hmv, -⟩ := oku.at (q := q - t.mv.length) (k := k) (by unfold thHome at hq h1; omega) (by omega)
      rw [hat]
      have := raise_ok (n := t.mv.length) hmv
      rw [hL]
      exact this
    · rw [if_neg h2]
      split
      · exact thOn_ok oku hL
      · obtain ⟨x, m, -, -, hat, hmv, -⟩ := ok.at (q := q) (k := k) (by omega) hk
        rw [hat]
        have hm := okMove_out hmv
        unfold okMove
        apply decide_eq_true
        unfold thHome
        omega
theorem ok_deeded {n L k : Int} {m : Int × Int} (h : okMove n L k m = true) : Deeded m := by
  have := okMove_out h
  unfold Deeded
  omega

theorem methodStopRen (n : Nat) (b : Bool) (w : World) : (method (n + 1) 69 (.agg #[.bool b]) "loop.example/g01134/impl.renumbered").run Try.prog w = .ok (98, .agg #[.bool b]) w := by kernel_rfl
theorem methodWalkRen (n : Nat) (x y : Int) (w : World) : (method (n + 1) 65 (.agg #[.int .i64 x, .int .i64 y]) "loop.example/g01134/impl.renumbered").run Try.prog w = .ok (93, .agg #[.int .i64 x, .int .i64 y]) w := by kernel_rfl
theorem taStopYesT (W : World) (v : Value) : (Instr.typeAssert (.iface 69 v) 61 69 true).run Try.prog W = .ok (.tuple #[v, .bool true]) W := by kernel_rfl
theorem taStopNoT (W : World) (v : Value) : (Instr.typeAssert (.iface 65 v) 61 69 true).run Try.prog W = .ok (.tuple #[.agg #[.bool false], .bool false]) W := by kernel_rfl

abbrev raisedV (p : Nat) : Value := .func (.func 26) #[] #[.pointer (some ⟨p, 0, none⟩)]

set_option maxRecDepth 100000 in
set_option maxHeartbeats 1600000 in
theorem thenRaised_any (p : Nat) (t : TData) (x : Int) (w : World) (h : AtT w p t) (hn : t.mv.length ≤ 12) (h0 : 0 ≤ x) (h1 : x ≤ 12) :
    Calls Try.prog 26 #[.int .i64 x, .pointer (some ⟨p, 0, none⟩)] w fun e w' => e = .returned (.int .i64 (x + t.mv.length)) ∧ Below w.heap.size w w' := by
  obtain ⟨vm, c0, c1, c2, hR⟩ := h
  have HS := Lib.hid (states_any (.agg #[.int .i64 t.L, .int .i64 t.S, vm]) t w ⟨vm, rfl, hR⟩)
  obtain ⟨A, ca, rfl⟩ := RdL.shape hR
  clear hR
  go_enter Try.func26, Try.ntmps26
  go_wp2_with fail
  refine HS.out.mono ?_
  rintro e w1 ⟨rfl, hb⟩
  have HB := Lib.hid hb
  clear hb
  go_wp2
  go_ret
  exact ⟨rfl, HB.out⟩

theorem stopRen_any (b : Bool) (fv : Value) (w : World) :
    Calls Try.prog 98 #[.agg #[.bool b], fv] w fun e w' => e = .returned (.iface 69 (.agg #[.bool b])) ∧ Below w.heap.size w w' := by
  have c1 := concStop
  go_enter Try.func98, Try.ntmps98
  go_wp2
  go_ret
  exact ⟨rfl, below_alloc _ _⟩

set_option maxRecDepth 100000 in
set_option maxHeartbeats 1600000 in
theorem walkRen_any (p : Nat) (t : TData) (x y : Int) (w : World) (h : AtT w p t) (hn : t.mv.length ≤ 12) (h0 : 0 ≤ x) (h1 : x ≤ 12) :
    Calls Try.prog 93 #[.agg #[.int .i64 x, .int .i64 y], raisedV p] w fun e w' => e = .returned (.iface 65 (.agg #[.int .i64 (x + t.mv.length), .int .i64 y])) ∧ Below w.heap.size w w' := by
  have c1 := concWalk
  have HC := Lib.hid (fun W (hb : Below w.heap.size w W) => thenRaised_any p t x W (h.below hb) hn h0 h1)
  have HB := Lib.hid (below_alloc w (.cells #[.int .i64 x, .int .i64 y] 65))
  unfold raisedV
  clear h
  go_enter Try.func93, Try.ntmps93
  go_wp2_with fail
  go_region_held3 (fun W => W.cell? ⟨w.heap.size, 0, none⟩ = some (.int .i64 x) ∧ W.cell? ⟨w.heap.size, 1, none⟩ = some (.int .i64 y))
    (first | (go_split_ands; refine ⟨?_, ?_⟩ <;> (first | assumption | exact below_keep hbk (by assumption))) | go_keep)
    (first | (go_at_call 26; (with_reducible refine (HC.out _ ?_).mono ?_); (first | exact HB.out | exact HB.out.drew); rintro e wa ⟨rfl, hbk⟩; have HCa := Lib.hid (show Below w.heap.size w wa from below_step (by first | exact HB.out | exact HB.out.drew) hbk)))
  all_goals
    go_wp2
    go_ret
    first | exact ⟨rfl, HCa.out⟩ | exact ⟨rfl, HCa.out.drew⟩

set_option maxRecDepth 100000 in
set_option maxHeartbeats 1600000 in
theorem thenOn_any (pt pb ph : Nat) (t u : TData) (k : Nat) (w : World) (h : AtT w pt t) (hB : w.cell? ⟨pb, 0, none⟩ = some (deedV (thBegin t u))) (hH : w.cell? ⟨ph, 0, none⟩ = some (.int .i64 (thHome t u : Nat))) :
    Calls Try.prog 30 #[.int .i64 (k : Int), .pointer (some ⟨pt, 0, none⟩), .pointer (some ⟨pb, 0, none⟩), .pointer (some ⟨ph, 0, none⟩)] w fun e w' => e = .returned (deedV (thOn t u k)) ∧ Below w.heap.size w w' := by
  have c1 := concWalk
  obtain ⟨vm, d0, d1, d2, hR⟩ := h
  by_cases hk : (k : Int) = t.L
  · have hG : thOn t u k = thBegin t u := by unfold thOn; rw [if_pos hk]
    rw [hG]
    obtain ⟨tt, av, hv⟩ : ∃ tt av, deedV (thBegin t u) = .iface tt av := by
      unfold deedV
      split
      · exact ⟨_, _, rfl⟩
      · split
        · exact ⟨_, _, rfl⟩
        · exact ⟨_, _, rfl⟩
    rw [hv] at hB ⊢
    have e0 : ((k : Int) == t.L) = true := by simpa using hk
    clear hG hv hR
    go_enter Try.func30, Try.ntmps30
    go_wp2_with (go_at_call 29; refine (leftMark_any _ _).mono ?_; rintro e w' ⟨rfl, rfl⟩)
    go_ret
    exact ⟨rfl, Below.refl _ _⟩
  · have hG : deedV (thOn t u k) = .iface 65 (.agg #[.int .i64 (thHome t u : Nat), .int .i64 (-1)]) := by
      unfold thOn; rw [if_neg hk]
      simp only [deedV, walkV]; rw [if_neg (by omega), if_neg (by omega)]
    rw [hG]
    generalize thHome t u = hm at *
    have e0 : ((k : Int) == t.L) = false := by simpa using hk
    clear hG hR hB
    go_enter Try.func30, Try.ntmps30
    go_wp2_with (go_at_call 29; refine (leftMark_any _ _).mono ?_; rintro e w' ⟨rfl, rfl⟩)
    go_ret
    exact ⟨rfl, Below.refl _ _⟩
end Go.Proofs.Ytklljaeoimgmnaa
