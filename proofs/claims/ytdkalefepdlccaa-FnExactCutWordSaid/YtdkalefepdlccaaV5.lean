/-
  What a valid turner is known for; what its moves become in the program.
-/
import Derived.Test.YtdkalefepdlccaaV3
import Derived.Test.YtdkalefepdlccaaV4
namespace Go.Proofs.Ytdkalefepdlccaa
open Go.RowKit

structure OkT (t : TData) : Prop where
  l1 : 1 ≤ t.L
  l2 : t.L ≤ 3
  n1 : 1 ≤ (t.mv.length : Int)
  n2 : (t.mv.length : Int) ≤ 12
  s1 : 0 ≤ t.S
  s2 : t.S ≤ (t.mv.length : Int) - 1
  len : ∀ (s : Nat) x, t.mv[s]? = some x → (x.length : Int) = t.L + 2
  move : ∀ (s : Nat) x (k : Nat) m, t.mv[s]? = some x → x[k]? = some m → okMove t.mv.length t.L k m = true

theorem okMsTo_at {n L : Int} {row : List (Int × Int)} {k : Nat} (h : okMsTo n L row k = true) {j : Nat} {m : Int × Int} (hj : j < k) (hm : row[j]? = some m) : okMove n L j m = true := by
  unfold okMsTo at h
  rw [List.all_eq_true] at h
  have := h j (by simpa using hj)
  simpa [List.getD, hm] using this
theorem okT_out {t : TData} (h : okT t = true) : OkT t := by
  simp only [okT, Bool.and_eq_true, decide_eq_true_eq] at h
  obtain ⟨⟨a1, a2⟩, ⟨a3, a4⟩, ⟨a5, a6⟩, a7⟩ := h
  have row : ∀ (s : Nat) x, t.mv[s]? = some x → (x.length : Int) = t.L + 2 ∧ okMsTo t.mv.length t.L x x.length = true := fun s x hx => by
    have := List.all_eq_true.1 a7 x (List.mem_of_getElem? hx)
    simpa [okMRow] using this
  exact ⟨a1, a2, a3, a4, a5, a6, fun s x hx => (row s x hx).1, fun s x k m hx hm => okMsTo_at (row s x hx).2 (List.getElem?_eq_some_iff.1 hm).1 hm⟩
theorem okMove_out {n L k : Int} {m : Int × Int} (h : okMove n L k m = true) :
    ((m.1 = -1 ∨ m.1 = -2) ∧ m.2 = 0) ∨ (¬ (m.1 = -1 ∨ m.1 = -2) ∧ 0 ≤ m.1 ∧ m.1 ≤ n - 1 ∧ -1 ≤ m.2 ∧ m.2 ≤ 1 ∧ ¬ (k = L ∧ m.2 = -1) ∧ ¬ (k = L + 1 ∧ m.2 = 1)) := by
  exact of_decide_eq_true h

theorem concStop : Try.prog.concrete 143 = true := by kernel_rfl
theorem concWalk : Try.prog.concrete 99 = true := by kernel_rfl

theorem taWalkYes (W : World) (v : Value) : (Instr.typeAssert (.iface 99 v) 102 99 true).run Try.prog W = .ok (.tuple #[v, .bool true]) W := by kernel_rfl
theorem taWalkNo (W : World) (v : Value) : (Instr.typeAssert (.iface 143 v) 102 99 true).run Try.prog W = .ok (.tuple #[.agg #[.int .i64 0, .int .i64 0], .bool false]) W := by kernel_rfl

/-- What a move becomes: a stop, or a walk. -/
def stopV (b : Bool) : Value := .iface 143 (.agg #[.bool b])
def walkV (x y : Int) : Value := .iface 99 (.agg #[.int .i64 x, .int .i64 y])
def deedV (m : Int × Int) : Value := if m.1 = -1 then stopV true else if m.1 = -2 then stopV false else walkV m.1 m.2

theorem deedOf_any (x y : Int) (w : World) :
    Calls Try.prog 123 #[.agg #[.int .i64 x, .int .i64 y]] w fun e w' => e = .returned (deedV (x, y)) ∧ Below w.heap.size w w' := by
  have c1 := concStop
  have c2 := concWalk
  by_cases h1 : x = -1
  · subst h1
    go_enter Try.func123, Try.ntmps123
    go_wp2
    go_ret
    exact ⟨by simp [deedV, stopV], below_alloc _ _⟩
  · by_cases h2 : x = -2
    · subst h2
      go_enter Try.func123, Try.ntmps123
      go_wp2
      go_ret
      exact ⟨by simp [deedV, stopV], below_alloc _ _⟩
    · have d1 : (x == -1) = false := by simpa using h1
      have d2 : (x == -2) = false := by simpa using h2
      have H1 := Lib.hid h1
      have H2 := Lib.hid h2
      clear h1 h2
      go_enter Try.func123, Try.ntmps123
      go_wp2
      go_ret
      exact ⟨by simp [deedV, walkV, H1.out, H2.out], below_alloc _ _⟩
end Go.Proofs.Ytdkalefepdlccaa
