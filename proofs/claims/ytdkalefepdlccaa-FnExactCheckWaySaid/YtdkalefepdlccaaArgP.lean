/-
  Lists of places as arguments of the laws.
-/
import Derived.Test.YtdkalefepdlccaaQPlace
import Derived.Test.YtdkalefepdlccaaNPlace
import Derived.Test.YtdkalefepdlccaaZ
import Derived.Test.YtdkalefepdlccaaOpen
namespace Go.Proofs.Ytdkalefepdlccaa
open Go.RowKit Go.ChangeShapes Go.WideShapes Go.Deep Go.Joins

def PSmall (xs : List (Int × Int)) : Prop := 16 * xs.length ≤ 281474976710656
theorem toPl_arg (v : Value) (xs : List (Int × Int)) (w : World) (h : RdP w v xs) (hs : PSmall xs) :
    Calls Try.prog 57 #[v] w fun e w' => ∃ u bs, e = .returned u ∧ OwP 70 w' w.heap.size u xs bs ∧ Below w.heap.size w w' := toPlaceS_own v xs w h hs
theorem eqPl_arg (v u : Value) (xs : List (Int × Int)) (w : World) (h : RdP w v xs) (k : RdP w u xs) :
    Calls Try.prog 19 #[v, u] w fun e w' => e = .returned (.bool true) ∧ Below w.heap.size w w' :=
  (eqPlaceS_any v u xs xs w h k).mono fun e w' ⟨he, hb⟩ => ⟨by simpa using he, hb⟩
theorem szPl_arg (v : Value) (xs : List (Int × Int)) (left : Int) (w : World) (h : RdP w v xs) (hs : PSmall xs) (h0 : 0 ≤ left) (hb : left ≤ 4611686018427387904) :
    Calls Try.prog 55 #[v, .int .i64 left] w fun e w' => (∃ n : Int, e = .returned (.int .i64 n) ∧ (n < 0 ∨ n + (xs.length : Int) ≤ left)) ∧ Below w.heap.size w w' := by
  obtain ⟨A, cap, rfl, h1, h2, h3⟩ := RdP.open h
  clear h3
  unfold maxLen at h2
  by_cases hl : left - (xs.length : Int) < 0
  · go_enter Try.func55, Try.ntmps55
    go_wp2
    go_ret
    exact ⟨⟨_, rfl, .inl (by decide)⟩, Below.refl _ _⟩
  · go_enter Try.func55, Try.ntmps55
    go_wp2
    go_ret
    exact ⟨⟨_, rfl, .inr (by omega)⟩, Below.refl _ _⟩
end Go.Proofs.Ytdkalefepdlccaa
