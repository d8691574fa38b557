/-
  The turner of a reader: the program's answer.
-/
import Derived.Test.YtfkicedhjipfmaaTdTurnerOf
import Derived.Test.YtfkicedhjipfmaaOpp3
namespace Go.Proofs.Ytfkicedhjipfmaa
open Go.RowKit

/-- What the turner of a reader does. -/
def tofG (r : RData) (q k : Nat) : Int × Int :=
  if (k : Int) = r.L then ((q : Int), 1) else if (k : Int) = r.L + 1 then (if r.acc.getD q false then -1 else -2, 0) else ((r.next.getD q []).getD k 0, 1)
def tofRes (r : RData) : TData × Int :=
  if okR r then (if r.acc.length ≤ 12 then (⟨r.L, r.S, tableOf (tofG r) (r.L + 2).toNat r.acc.length⟩, 0) else (⟨0, 0, []⟩, 3)) else (⟨0, 0, []⟩, 1)

theorem tofG_deeded {r : RData} (ok : OkR r) {q k : Nat} (hq : q < r.acc.length) (hk : (k : Int) < r.L + 2) : Deeded (tofG r q k) := by
  unfold tofG Deeded
  by_cases h1 : (k : Int) = r.L
  · rw [if_pos h1]; right; simp
  · by_cases h2 : (k : Int) = r.L + 1
    · rw [if_neg h1, if_pos h2]
      left
      cases r.acc.getD q false <;> simp
    · rw [if_neg h1, if_neg h2]
      right
      have hq2 : q < r.next.length := by have := ok.nl; omega
      have hx : r.next[q]? = some r.next[q] := List.getElem?_eq_getElem hq2
      have hl := ok.len q _ hx
      have hk2 : k < r.next[q].length := by omega
      have ht : r.next[q][k]? = some r.next[q][k] := List.getElem?_eq_getElem hk2
      have := (ok.dest q _ k _ hx ht).1
      simpa [List.getD, hx, ht] using this
theorem deedV_walk (x y : Int) (h : 0 ≤ x) : deedV (x, y) = .iface 75 (.agg #[.int .i64 x, .int .i64 y]) := by
  simp only [deedV, walkV]; rw [if_neg (by omega), if_neg (by omega)]
theorem deedV_stop (z : Bool) : deedV (if z then -1 else -2, 0) = .iface 77 (.agg #[.bool z]) := by cases z <;> simp [deedV, stopV]

set_option maxRecDepth 100000 in
set_option maxHeartbeats 1600000 in
theorem tofClosure_any (p : Nat) (r : RData) (q k : Nat) (w : World) (h : AtR w p r) (ok : OkR r) (hq : q < r.acc.length) (hk : (k : Int) < r.L + 2) :
    Calls Try.prog 45 #[.int .i64 (q : Int), .int .i64 (k : Int), .pointer (some ⟨p, 0, none⟩)] w fun e w' => e = .returned (deedV (tofG r q k)) ∧ Below w.heap.size w w' := by
  have c1 := concStop
  have c2 := concWalk
  obtain ⟨L, S, acc, next⟩ := r
  obtain ⟨l1, l2, n1, n2, s1, s2, nl, hlen, hdest⟩ := ok
  simp only at *
  obtain ⟨va, vn, q0, q1, q2, q3, ha, hn⟩ := h
  obtain ⟨A, ca, rfl, a1, a2, a3⟩ := ha.open
  obtain ⟨B, cb, rfl, b1, b2, b3⟩ := RdL.open hn
  unfold maxLen at a2 b2
  simp only at *
  have i1 : (0 : Int) ≤ q := by omega
  have i2 : (q : Int) < acc.length := by omega
  by_cases h1 : (k : Int) = L
  · have hG : tofG ⟨L, S, acc, next⟩ q k = ((q : Int), 1) := by simp [tofG, h1]
    have HG := Lib.hid hG
    have d1 : ((k : Int) == L) = true := by simpa using h1
    clear hG h1 ha hn a3 b3 hlen hdest nl
    go_enter Try.func45, Try.ntmps45
    go_wp2_with (first | (go_at_call 46; refine (leftMark_any _ _).mono ?_; rintro e w' ⟨rfl, rfl⟩) | (go_at_call 47; refine (rightMark_any _ _ (by omega) (by omega)).mono ?_; rintro e w' ⟨rfl, rfl⟩))
    go_ret
    refine ⟨?_, Below.refl _ _⟩
    rw [HG.out, deedV_walk _ _ i1]
    rfl
  · by_cases h2 : (k : Int) = L + 1
    · obtain ⟨b, off, z, rfl, hz, hcz⟩ := a3 q (by omega)
      have hG : tofG ⟨L, S, acc, next⟩ q k = (if z then -1 else -2, 0) := by unfold tofG; rw [if_neg h1, if_pos h2]; simp [List.getD, hz]
      have HG := Lib.hid hG
      have d1 : ((k : Int) == L) = false := by simpa using h1
      have d2 : ((k : Int) == L + 1) = true := by simpa using h2
      have H2 := Lib.hid h2
      clear hG h1 h2 ha hn a3 b3 hlen hdest nl hz
      go_enter Try.func45, Try.ntmps45
      go_wp2_with (first | (go_at_call 46; refine (leftMark_any _ _).mono ?_; rintro e w' ⟨rfl, rfl⟩) | (go_at_call 47; refine (rightMark_any _ _ (by omega) (by omega)).mono ?_; rintro e w' ⟨rfl, rfl⟩))
      go_ret
      refine ⟨?_, Below.refl _ _⟩
      rw [HG.out, deedV_stop]
      rfl
    · obtain ⟨b, off, u, x, rfl, hx, hc, hP⟩ := b3 q (by omega)
      obtain ⟨D, cd, rfl, e1, e2, e3⟩ := hP.open
      unfold maxLen at e2
      have hl := hlen q x hx
      obtain ⟨bx, offx, t, rfl, ht, hct⟩ := e3 k (by omega)
      have hd := (hdest q x k t hx ht).1
      have hG : tofG ⟨L, S, acc, next⟩ q k = (t, 1) := by simp [tofG, h1, h2, List.getD, hx, ht]
      have HG := Lib.hid hG
      have d1 : ((k : Int) == L) = false := by simpa using h1
      have d2 : ((k : Int) == L + 1) = false := by simpa using h2
      have i3 : (q : Int) < next.length := by omega
      have j1 : (0 : Int) ≤ k := by omega
      have j2 : (k : Int) < x.length := by omega
      clear hG h1 h2 ha hn a3 b3 hlen hdest nl hx hP e3 ht hl
      go_enter Try.func45, Try.ntmps45
      go_wp2_with (first | (go_at_call 46; refine (leftMark_any _ _).mono ?_; rintro e w' ⟨rfl, rfl⟩) | (go_at_call 47; refine (rightMark_any _ _ (by omega) (by omega)).mono ?_; rintro e w' ⟨rfl, rfl⟩))
      go_ret
      refine ⟨?_, Below.refl _ _⟩
      rw [HG.out, deedV_walk _ _ hd]
      rfl
end Go.Proofs.Ytfkicedhjipfmaa
