/-
  Slices as arguments of the laws: their copies, sizes and comparisons in one form for all kinds.
-/
import Derived.Test.YtahgekjpnmmooaaStr1
import Derived.Test.YtahgekjpnmmooaaStr2
import Derived.Test.YtahgekjpnmmooaaZ
import Derived.Test.YtahgekjpnmmooaaN1
import Derived.Test.YtahgekjpnmmooaaN2
namespace Go.Proofs.Ytahgekjpnmmooaa
open Go.RowKit Go.ChangeShapes Go.WideShapes Go.Deep Go.Joins

def ISmall (xs : List Int) : Prop := 8 * xs.length ≤ 281474976710656
def BSmall (xs : List Bool) : Prop := xs.length ≤ 281474976710656
def IISmall (xs : List (List Int)) : Prop := 24 * xs.length ≤ 281474976710656 ∧ ∀ x ∈ xs, 8 * x.length ≤ 281474976710656
def numII (xs : List (List Int)) : Nat := numL (fun x : List Int => x.length) xs

theorem RdI.shape {w : World} {v : Value} {xs : List Int} (h : RdI w v xs) : ∃ B c, v = .slice B xs.length c := rdI_shape h
theorem RdB.shape {w : World} {v : Value} {xs : List Bool} (h : RdB w v xs) : ∃ B c, v = .slice B xs.length c := rdB_shape h

theorem toS_arg (v : Value) (xs : List ByteArray) (w : World) (h : RdS w v xs) (hs : SSmall xs) :
    Calls Try.prog 20 #[v] w fun e w' => ∃ u bs, e = .returned u ∧ OwV strs 9 w' w.heap.size u xs bs ∧ Below w.heap.size w w' := toStringS_own v xs w h hs
theorem eqS_arg (v u : Value) (xs : List ByteArray) (w : World) (h : RdS w v xs) (k : RdS w u xs) :
    Calls Try.prog 22 #[v, u] w fun e w' => e = .returned (.bool true) ∧ Below w.heap.size w w' := eqStringS_same v u xs w h k
theorem szS_arg (v : Value) (xs : List ByteArray) (left : Int) (w : World) (h : RdS w v xs) (hs : SSmall xs) (h0 : 0 ≤ left) (hb : left ≤ 4611686018427387904) :
    Calls Try.prog 18 #[v, .int .i64 left] w fun e w' => (∃ n : Int, e = .returned (.int .i64 n) ∧ (n < 0 ∨ n + (xs.length : Int) ≤ left)) ∧ Below w.heap.size w w' := szStringS_any v xs left w h hs h0 hb
end Go.Proofs.Ytahgekjpnmmooaa
