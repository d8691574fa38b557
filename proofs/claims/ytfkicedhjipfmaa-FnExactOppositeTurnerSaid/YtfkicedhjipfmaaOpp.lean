/-
  The opposite reader: the program's, and the model's.
-/
import Derived.Test.YtfkicedhjipfmaaZR
import Derived.Test.YtfkicedhjipfmaaT8
import Derived.Test.YtfkicedhjipfmaaCl
import Derived.Test.YtfkicedhjipfmaaBR
import Derived.Deep.CutRange
import Derived.Deep.DrawnRows
import Derived.Deep.RegionLaw
namespace Go.Proofs.Ytfkicedhjipfmaa
open Go.RowKit
attribute [local go_sem ↓] Go.wp_at_zero Go.wp_at_succ

structure OkR (r : RData) : Prop where
  l1 : 1 ≤ r.L
  l2 : r.L ≤ 3
  n1 : 1 ≤ (r.acc.length : Int)
  n2 : (r.acc.length : Int) ≤ 300
  s1 : 0 ≤ r.S
  s2 : r.S ≤ (r.acc.length : Int) - 1
  nl : r.next.length = r.acc.length
  len : ∀ (s : Nat) x, r.next[s]? = some x → (x.length : Int) = r.L
  dest : ∀ (s : Nat) x (k : Nat) t, r.next[s]? = some x → x[k]? = some t → 0 ≤ t ∧ t ≤ (r.acc.length : Int) - 1
theorem okR_out {r : RData} (h : okR r = true) : OkR r := by
  simp only [okR, Bool.and_eq_true, decide_eq_true_eq] at h
  obtain ⟨⟨a1, a2⟩, ⟨a3, a4⟩, ⟨a5, a6⟩, a7, a8⟩ := h
  have row : ∀ (s : Nat) x, r.next[s]? = some x → (x.length : Int) = r.L ∧ x.all (inB r.acc.length) = true := fun s x hx => by
    have := List.all_eq_true.1 a8 x (List.mem_of_getElem? hx)
    simpa only [okRow, Bool.and_eq_true, decide_eq_true_eq] using this
  exact ⟨a1, a2, a3, a4, a5, a6, by omega, fun s x hx => (row s x hx).1, fun s x k t hx ht => by
    have := List.all_eq_true.1 (row s x hx).2 t (List.mem_of_getElem? ht)
    exact of_decide_eq_true this⟩

def flip (l : List Bool) : List Bool := l.map (fun b => !b)
theorem flip_len (l : List Bool) : (flip l).length = l.length := by simp [flip]
def oppRes (r : RData) : RData × Int := if okR r then (⟨r.L, r.S, flip r.acc, r.next⟩, 0) else (⟨0, 0, [], []⟩, 1)
theorem opp_num (r : RData) (h : (cntR r : Int) ≤ 1048576) : (numR (oppRes r).1 : Int) ≤ 2305843009213693952 := by
  have := numR_le r
  unfold oppRes
  split
  · simp only [numR, cntR, flip_len] at *; omega
  · simp [numR, numL]

/-- What a call has made so far: its boxes, and a reader in one of them. -/
def MadeR (w : World) (po : Nat) (rb zb : List Value) (r : RData) (wr : World) : Prop :=
  Below w.heap.size w wr ∧ Row wr w.heap.size 32 rb ∧ Row wr (w.heap.size + 1) 32 zb ∧ w.heap.size + 2 ≤ po ∧ BoxR wr po po r
theorem MadeR.drew {w : World} {po : Nat} {rb zb : List Value} {r : RData} {wr : World} (h : MadeR w po rb zb r wr) : MadeR w po rb zb r wr.drew :=
  ⟨h.1.drew, h.2.1, h.2.2.1, h.2.2.2.1, h.2.2.2.2.drew⟩

end Go.Proofs.Ytfkicedhjipfmaa
