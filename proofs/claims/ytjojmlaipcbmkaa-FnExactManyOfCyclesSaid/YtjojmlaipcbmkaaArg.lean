/-
  Slices as arguments of the laws: their copies, sizes and comparisons in one form for all kinds.
-/
import Derived.Test.YtjojmlaipcbmkaaStr1
import Derived.Test.YtjojmlaipcbmkaaStr2
import Derived.Test.YtjojmlaipcbmkaaZ
import Derived.Test.YtjojmlaipcbmkaaN1
import Derived.Test.YtjojmlaipcbmkaaN2
namespace Go.Proofs.Ytjojmlaipcbmkaa
open Go.RowKit Go.ChangeShapes Go.WideShapes Go.Deep Go.Joins

def ISmall (xs : List Int) : Prop := 8 * xs.length ≤ 281474976710656
def BSmall (xs : List Bool) : Prop := xs.length ≤ 281474976710656
def IISmall (xs : List (List Int)) : Prop := 24 * xs.length ≤ 281474976710656 ∧ ∀ x ∈ xs, 8 * x.length ≤ 281474976710656
def numII (xs : List (List Int)) : Nat := numL (fun x : List Int => x.length) xs

theorem RdI.shape {w : World} {v : Value} {xs : List Int} (h : RdI w v xs) : ∃ B c, v = .slice B xs.length c := rdI_shape h
theorem RdB.shape {w : World} {v : Value} {xs : List Bool} (h : RdB w v xs) : ∃ B c, v = .slice B xs.length c := rdB_shape h

theorem toI_arg (v : Value) (xs : List Int) (w : World) (h : RdI w v xs) (hs : ISmall xs) :
    Calls Try.prog 32 #[v] w fun e w' => ∃ u bs, e = .returned u ∧ OwV ints 2 w' w.heap.size u xs bs ∧ Below w.heap.size w w' := toInt64S_own v xs w h hs
theorem toB_arg (v : Value) (xs : List Bool) (w : World) (h : RdB w v xs) (hs : BSmall xs) :
    Calls Try.prog 36 #[v] w fun e w' => ∃ u bs, e = .returned u ∧ OwV bools 4 w' w.heap.size u xs bs ∧ Below w.heap.size w w' := toBoolS_own v xs w h (by unfold BSmall at hs; omega)
theorem toII_arg (v : Value) (xs : List (List Int)) (w : World) (h : RdII w v xs) (hs : IISmall xs) :
    Calls Try.prog 60 #[v] w fun e w' => ∃ u bs, e = .returned u ∧ OwL (OwV ints 2) 47 w' w.heap.size u xs bs ∧ Below w.heap.size w w' := toInt64SS_own v xs w h hs.1 hs.2
theorem toS_arg (v : Value) (xs : List ByteArray) (w : World) (h : RdS w v xs) (hs : SSmall xs) :
    Calls Try.prog 21 #[v] w fun e w' => ∃ u bs, e = .returned u ∧ OwV strs 9 w' w.heap.size u xs bs ∧ Below w.heap.size w w' := toStringS_own v xs w h hs
theorem eqI_arg (v u : Value) (xs : List Int) (w : World) (h : RdI w v xs) (k : RdI w u xs) :
    Calls Try.prog 34 #[v, u] w fun e w' => e = .returned (.bool true) ∧ Below w.heap.size w w' :=
  (eqInt64S_any v u xs xs w h k).mono fun e w' ⟨he, hq⟩ => ⟨by simpa using he, hq.below⟩
theorem eqB_arg (v u : Value) (xs : List Bool) (w : World) (h : RdB w v xs) (k : RdB w u xs) :
    Calls Try.prog 23 #[v, u] w fun e w' => e = .returned (.bool true) ∧ Below w.heap.size w w' :=
  (eqBoolS_any v u xs xs w h k).mono fun e w' ⟨he, hq⟩ => ⟨by simpa using he, hq.below⟩
theorem eqII_arg (v u : Value) (xs : List (List Int)) (w : World) (h : RdII w v xs) (k : RdII w u xs) :
    Calls Try.prog 64 #[v, u] w fun e w' => e = .returned (.bool true) ∧ Below w.heap.size w w' :=
  (eqInt64SS_any v u xs xs w h k).mono fun e w' ⟨he, hq⟩ => ⟨by simpa using he, hq.below⟩
theorem eqS_arg (v u : Value) (xs : List ByteArray) (w : World) (h : RdS w v xs) (k : RdS w u xs) :
    Calls Try.prog 24 #[v, u] w fun e w' => e = .returned (.bool true) ∧ Below w.heap.size w w' := eqStringS_same v u xs w h k
theorem szS_arg (v : Value) (xs : List ByteArray) (left : Int) (w : World) (h : RdS w v xs) (hs : SSmall xs) (h0 : 0 ≤ left) (hb : left ≤ 4611686018427387904) :
    Calls Try.prog 19 #[v, .int .i64 left] w fun e w' => (∃ n : Int, e = .returned (.int .i64 n) ∧ (n < 0 ∨ n + (xs.length : Int) ≤ left)) ∧ Below w.heap.size w w' := szStringS_any v xs left w h hs h0 hb
theorem szII_arg (v : Value) (xs : List (List Int)) (left : Int) (w : World) (h : RdII w v xs) (hs : IISmall xs) (h0 : 0 ≤ left) (hb : left ≤ 4611686018427387904) :
    Calls Try.prog 56 #[v, .int .i64 left] w fun e w' => (∃ n : Int, e = .returned (.int .i64 n) ∧ (n < 0 ∨ n + (numII xs : Int) ≤ left)) ∧ Below w.heap.size w w' :=
  (szInt64SS_tot v xs left w h h0 hb).mono fun e w' ⟨⟨n, he, hn⟩, hq⟩ => ⟨⟨n, he, by rcases hn with h | h; exact .inl h; right; unfold numII; omega⟩, by first | exact hq.below | (subst hq; exact Below.refl _ _)⟩
theorem markI_arg (v : Value) (xs : List Int) (bs : List Nat) (lo : Nat) (k : Int) (w : World) (h : OwV ints 2 w lo v xs bs) (hk0 : 0 ≤ k) (hk : k + (xs.length : Int) ≤ 4611686018427387904) :
    Calls Try.prog 90 #[v, .int .i64 k] w fun e w' => e = .returned (.int .i64 (k + (xs.length : Int))) ∧ Turned bs w w' :=
  (markInt64S_own v xs bs lo k w h hk0 hk).mono fun e w' ⟨he, _, ho⟩ => ⟨he, ho.turned⟩
theorem markB_arg (v : Value) (xs : List Bool) (bs : List Nat) (lo : Nat) (k : Int) (w : World) (h : OwV bools 4 w lo v xs bs) (hk0 : 0 ≤ k) (hk : k + (xs.length : Int) ≤ 4611686018427387904) :
    Calls Try.prog 27 #[v, .int .i64 k] w fun e w' => e = .returned (.int .i64 (k + (xs.length : Int))) ∧ Turned bs w w' :=
  (markBoolS_own v xs bs lo k w h hk0 hk).mono fun e w' ⟨he, _, ho⟩ => ⟨he, ho.turned⟩
end Go.Proofs.Ytjojmlaipcbmkaa
