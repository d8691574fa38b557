/-
  Equality of readers: by the model and by the program.
-/
import Derived.Test.YtgeopkjohijegabS1
import Derived.Test.YtgeopkjohijegabT8
namespace Go.Proofs.Ytgeopkjohijegab
open Go.RowKit

def sameR (r s : RData) : Bool := decide (r.L = s.L) && (decide (r.S = s.S) && (decide (r.acc = s.acc) && decide (r.next = s.next)))

theorem sameRows_any (v u : Value) (xs ys : List (List Int)) (w : World) (h : RdII w v xs) (hu : RdII w u ys) :
    Calls Try.prog 87 #[v, u] w fun e w' => e = .returned (.bool (decide (xs = ys))) ∧ Qt w w' := by
  have H := Lib.hid (slEqualFunc_any v u xs ys w h hu)
  clear h hu
  go_enter Try.func87, Try.ntmps87
  go_wp2_with (go_at_call 104; refine H.out.mono ?_; rintro e w' ⟨rfl, m, rfl⟩)
  go_ret
  exact ⟨rfl, m, rfl⟩

end Go.Proofs.Ytgeopkjohijegab
