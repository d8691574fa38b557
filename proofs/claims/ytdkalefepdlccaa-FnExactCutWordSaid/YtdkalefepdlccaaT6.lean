/-
  The model's test of a reader: true just for what 'okR' says.
-/
import Derived.Test.YtdkalefepdlccaaKR
namespace Go.Proofs.Ytdkalefepdlccaa
open Go.RowKit

theorem l00In_any (n lo hi : Int) (w : World) :
    Calls Try.prog 118 #[.int .i64 n, .int .i64 lo, .int .i64 hi] w fun e w' => e = .returned (.bool (decide (lo ≤ n ∧ n ≤ hi))) ∧ w = w' := by
  by_cases h1 : lo ≤ n
  · by_cases h2 : n ≤ hi
    · go_enter Try.func118, Try.ntmps118
      go_wp2
      go_ret
      exact ⟨ret_bool (by simp [h1, h2]), rfl⟩
    · go_enter Try.func118, Try.ntmps118
      go_wp2
      go_ret
      exact ⟨ret_bool (by simp [h2]), rfl⟩
  · go_enter Try.func118, Try.ntmps118
    go_wp2
    go_ret
    exact ⟨ret_bool (by simp; omega), rfl⟩

/-- The same, in a word that the walk leaves alone. -/
def within (n lo hi : Int) : Bool := decide (lo ≤ n ∧ n ≤ hi)
theorem l00In_w (n lo hi : Int) (w : World) :
    Calls Try.prog 118 #[.int .i64 n, .int .i64 lo, .int .i64 hi] w fun e w' => e = .returned (.bool (within n lo hi)) ∧ w = w' := l00In_any n lo hi w

def inB (n t : Int) : Bool := decide (0 ≤ t ∧ t ≤ n - 1)
def okRow (L n : Int) (row : List Int) : Bool := decide ((row.length : Int) = L) && row.all (inB n)
def okR (r : RData) : Bool := decide (1 ≤ r.L ∧ r.L ≤ 3) && (decide (1 ≤ (r.acc.length : Int) ∧ (r.acc.length : Int) ≤ 300) && (decide (0 ≤ r.S ∧ r.S ≤ (r.acc.length : Int) - 1) && (decide ((r.next.length : Int) = r.acc.length) && r.next.all (okRow r.L r.acc.length))))

theorem okRow_not {L n t : Int} {x : List Int} {a : Nat} (h : x[a]? = some t) (d : decide (0 ≤ t ∧ t ≤ n - 1) = false) : okRow L n x = false := by
  have : x.all (inB n) = false := by
    rw [List.all_eq_false]
    exact ⟨t, List.mem_of_getElem? h, by simpa [inB] using d⟩
  simp [okRow, this]
theorem okR_row {r : RData} {s : Nat} {x : List Int} (h : r.next[s]? = some x) (d : okRow r.L r.acc.length x = false) : okR r = false := by
  have : r.next.all (okRow r.L r.acc.length) = false := by
    rw [List.all_eq_false]
    exact ⟨x, List.mem_of_getElem? h, by simp [d]⟩
  simp only [okR, this, Bool.and_false]
theorem okR_all {r : RData} (d1 : decide (1 ≤ r.L ∧ r.L ≤ 3) = true) (d2 : decide (1 ≤ (r.acc.length : Int) ∧ (r.acc.length : Int) ≤ 300) = true) (d3 : decide (0 ≤ r.S ∧ r.S ≤ (r.acc.length : Int) - 1) = true) (d4 : (r.next.length : Int) = r.acc.length)
    (d5 : r.next.all (okRow r.L r.acc.length) = true) : okR r = true := by
  simp only [okR, d1, d2, d3, d4, d5, decide_true, Bool.and_true]

/-- A reader behind a pointer. -/
def AtR (w : World) (p : Nat) (r : RData) : Prop :=
  ∃ a n, w.cell? ⟨p, 0, none⟩ = some (.int .i64 r.L) ∧ w.cell? ⟨p, 1, none⟩ = some (.int .i64 r.S) ∧ w.cell? ⟨p, 2, none⟩ = some a ∧ w.cell? ⟨p, 3, none⟩ = some n ∧ RdB w a r.acc ∧ RdII w n r.next

end Go.Proofs.Ytdkalefepdlccaa
