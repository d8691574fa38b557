/-
  No cell of these rows narrows 'for every input' (looked for: loops, veiled, ifaces, maps, wideKeys, modest, calm, conditions, laid).
  DERIVED. THE GIVEN ROWS OF THIS SEAT. 9 by the template 'for every input the law returns true; each argument reads behind the call as it read before'; 0 by the template 'total and deterministic' (their statements: YtjojmlaipcbmkaaTotals.lean).
  GIVEN WITH THE SEED: the statements are not yours to turn. If you find one false, say at which input.
  Laid BY PROGRAM, IN A SANDBOX (cutbox-rows.mjs): the forced cells as the released guide's own fill.sh prints them over the translation 2d5fdaa5284bce92… (all of the seat's roots in one cut). By AI agents, Wed Nov 11 2026. No macro, syntax, notation, axiom, sorry.
-/
import Derived.Test.YtjojmlaipcbmkaaChecked
import GoSem.Claim
import GoSem.ClaimJoined
import GoSem.ClaimMapViews
import Derived.JoinedTies
import Derived.KernelRfl
namespace Go.Proofs.Ytjojmlaipcbmkaa
/- THE CELL 'sum', in the pinned program and in every row, IS THE sha256 OF THE DUMP (.gsa) THAT YtjojmlaipcbmkaaProg.lean LOADS. Nothing in Lean hashes anything: it is a label: what it is worth is what the hold of that sum in a sandbox is worth. -/
noncomputable def Try.pinned : Pinned := { name := "ytjojmlaipcbmkaa", sum := "2d5fdaa5284bce920661273ac460132a7f476d28bbe193926e9aaeeb198f8e27", checked := Try.checked }
namespace Rows
def none {H : Type} : Left H := { results := [], args := [] }

/-- 'laws.FnExactStateAfter': WHATEVER THE INPUT: true; the input reads as it did. -/
def fnExactStateAfterSpec : ChangeSpec := { name := "fnExactStateAfter", fn := fun _ => fun
  | [d1, d2] => { results := [.lit (.bool true)], args := [d1, d2] }
  | _ => none }
def fnExactStateAfterRow : OpenClaim := { program := "ytjojmlaipcbmkaa", sum := "2d5fdaa5284bce920661273ac460132a7f476d28bbe193926e9aaeeb198f8e27", func := "loop.example/g01134/laws.FnExactStateAfter", spec := "fnExactStateAfter", apart := false }
def FnExactStateAfterSaid : Prop := fnExactStateAfterRow.holds Try.pinned (OpenSpec.ofChange fnExactStateAfterSpec)

/-- ITS FALSE NEIGHBOUR: 'it returns false'. Refute it at one input. -/
def fnExactStateAfterWrong : ChangeSpec := { name := "fnExactStateAfter", fn := fun _ => fun
  | [d1, d2] => { results := [.lit (.bool false)], args := [d1, d2] }
  | _ => none }
def FnExactStateAfterWrongFalsely : Prop := fnExactStateAfterRow.holds Try.pinned (OpenSpec.ofChange fnExactStateAfterWrong)

/-- 'laws.FnExactTakes': WHATEVER THE INPUT: true; the input reads as it did. -/
def fnExactTakesSpec : ChangeSpec := { name := "fnExactTakes", fn := fun _ => fun
  | [d1, d2] => { results := [.lit (.bool true)], args := [d1, d2] }
  | _ => none }
def fnExactTakesRow : OpenClaim := { program := "ytjojmlaipcbmkaa", sum := "2d5fdaa5284bce920661273ac460132a7f476d28bbe193926e9aaeeb198f8e27", func := "loop.example/g01134/laws.FnExactTakes", spec := "fnExactTakes", apart := false }
def FnExactTakesSaid : Prop := fnExactTakesRow.holds Try.pinned (OpenSpec.ofChange fnExactTakesSpec)

/-- ITS FALSE NEIGHBOUR: 'it returns false'. Refute it at one input. -/
def fnExactTakesWrong : ChangeSpec := { name := "fnExactTakes", fn := fun _ => fun
  | [d1, d2] => { results := [.lit (.bool false)], args := [d1, d2] }
  | _ => none }
def FnExactTakesWrongFalsely : Prop := fnExactTakesRow.holds Try.pinned (OpenSpec.ofChange fnExactTakesWrong)

/-- 'laws.FnExactRowOf': WHATEVER THE INPUT: true; the input reads as it did. -/
def fnExactRowOfSpec : ChangeSpec := { name := "fnExactRowOf", fn := fun _ => fun
  | [d1, d2, d3] => { results := [.lit (.bool true)], args := [d1, d2, d3] }
  | _ => none }
def fnExactRowOfRow : OpenClaim := { program := "ytjojmlaipcbmkaa", sum := "2d5fdaa5284bce920661273ac460132a7f476d28bbe193926e9aaeeb198f8e27", func := "loop.example/g01134/laws.FnExactRowOf", spec := "fnExactRowOf", unfollowed := true, recurses := true, apart := false }
def FnExactRowOfSaid : Prop := fnExactRowOfRow.holds Try.pinned (OpenSpec.ofChange fnExactRowOfSpec)

/-- ITS FALSE NEIGHBOUR: 'it returns false'. Refute it at one input. -/
def fnExactRowOfWrong : ChangeSpec := { name := "fnExactRowOf", fn := fun _ => fun
  | [d1, d2, d3] => { results := [.lit (.bool false)], args := [d1, d2, d3] }
  | _ => none }
def FnExactRowOfWrongFalsely : Prop := fnExactRowOfRow.holds Try.pinned (OpenSpec.ofChange fnExactRowOfWrong)

/-- 'laws.FnExactFits': WHATEVER THE INPUT: true; the input reads as it did. -/
def fnExactFitsSpec : ChangeSpec := { name := "fnExactFits", fn := fun _ => fun
  | [d1, d2, d3] => { results := [.lit (.bool true)], args := [d1, d2, d3] }
  | _ => none }
def fnExactFitsRow : OpenClaim := { program := "ytjojmlaipcbmkaa", sum := "2d5fdaa5284bce920661273ac460132a7f476d28bbe193926e9aaeeb198f8e27", func := "loop.example/g01134/laws.FnExactFits", spec := "fnExactFits", unfollowed := true, recurses := true, apart := false }
def FnExactFitsSaid : Prop := fnExactFitsRow.holds Try.pinned (OpenSpec.ofChange fnExactFitsSpec)

/-- ITS FALSE NEIGHBOUR: 'it returns false'. Refute it at one input. -/
def fnExactFitsWrong : ChangeSpec := { name := "fnExactFits", fn := fun _ => fun
  | [d1, d2, d3] => { results := [.lit (.bool false)], args := [d1, d2, d3] }
  | _ => none }
def FnExactFitsWrongFalsely : Prop := fnExactFitsRow.holds Try.pinned (OpenSpec.ofChange fnExactFitsWrong)

/-- 'laws.FnExactCommonCycle': WHATEVER THE INPUT: true; the input reads as it did. -/
def fnExactCommonCycleSpec : ChangeSpec := { name := "fnExactCommonCycle", fn := fun _ => fun
  | [d] => { results := [.lit (.bool true)], args := [d] }
  | _ => none }
def fnExactCommonCycleRow : OpenClaim := { program := "ytjojmlaipcbmkaa", sum := "2d5fdaa5284bce920661273ac460132a7f476d28bbe193926e9aaeeb198f8e27", func := "loop.example/g01134/laws.FnExactCommonCycle", spec := "fnExactCommonCycle", unfollowed := true, recurses := true, apart := false }
def FnExactCommonCycleSaid : Prop := fnExactCommonCycleRow.holds Try.pinned (OpenSpec.ofChange fnExactCommonCycleSpec)

/-- ITS FALSE NEIGHBOUR: 'it returns false'. Refute it at one input. -/
def fnExactCommonCycleWrong : ChangeSpec := { name := "fnExactCommonCycle", fn := fun _ => fun
  | [d] => { results := [.lit (.bool false)], args := [d] }
  | _ => none }
def FnExactCommonCycleWrongFalsely : Prop := fnExactCommonCycleRow.holds Try.pinned (OpenSpec.ofChange fnExactCommonCycleWrong)

/-- 'laws.FnExactReaderOfShape': WHATEVER THE INPUT: true; the input reads as it did. -/
def fnExactReaderOfShapeSpec : ChangeSpec := { name := "fnExactReaderOfShape", fn := fun _ => fun
  | [d1, d2] => { results := [.lit (.bool true)], args := [d1, d2] }
  | _ => none }
def fnExactReaderOfShapeRow : OpenClaim := { program := "ytjojmlaipcbmkaa", sum := "2d5fdaa5284bce920661273ac460132a7f476d28bbe193926e9aaeeb198f8e27", func := "loop.example/g01134/laws.FnExactReaderOfShape", spec := "fnExactReaderOfShape", apart := false }
def FnExactReaderOfShapeSaid : Prop := fnExactReaderOfShapeRow.holds Try.pinned (OpenSpec.ofChange fnExactReaderOfShapeSpec)

/-- ITS FALSE NEIGHBOUR: 'it returns false'. Refute it at one input. -/
def fnExactReaderOfShapeWrong : ChangeSpec := { name := "fnExactReaderOfShape", fn := fun _ => fun
  | [d1, d2] => { results := [.lit (.bool false)], args := [d1, d2] }
  | _ => none }
def FnExactReaderOfShapeWrongFalsely : Prop := fnExactReaderOfShapeRow.holds Try.pinned (OpenSpec.ofChange fnExactReaderOfShapeWrong)

/-- 'laws.FnExactManyOfCycles': WHATEVER THE INPUT: true; the input reads as it did. -/
def fnExactManyOfCyclesSpec : ChangeSpec := { name := "fnExactManyOfCycles", fn := fun _ => fun
  | [d] => { results := [.lit (.bool true)], args := [d] }
  | _ => none }
def fnExactManyOfCyclesRow : OpenClaim := { program := "ytjojmlaipcbmkaa", sum := "2d5fdaa5284bce920661273ac460132a7f476d28bbe193926e9aaeeb198f8e27", func := "loop.example/g01134/laws.FnExactManyOfCycles", spec := "fnExactManyOfCycles", apart := false }
def FnExactManyOfCyclesSaid : Prop := fnExactManyOfCyclesRow.holds Try.pinned (OpenSpec.ofChange fnExactManyOfCyclesSpec)

/-- ITS FALSE NEIGHBOUR: 'it returns false'. Refute it at one input. -/
def fnExactManyOfCyclesWrong : ChangeSpec := { name := "fnExactManyOfCycles", fn := fun _ => fun
  | [d] => { results := [.lit (.bool false)], args := [d] }
  | _ => none }
def FnExactManyOfCyclesWrongFalsely : Prop := fnExactManyOfCyclesRow.holds Try.pinned (OpenSpec.ofChange fnExactManyOfCyclesWrong)

/-- 'laws.FnExactIsFooling': WHATEVER THE INPUT: true; the input reads as it did. -/
def fnExactIsFoolingSpec : ChangeSpec := { name := "fnExactIsFooling", fn := fun _ => fun
  | [d1, d2] => { results := [.lit (.bool true)], args := [d1, d2] }
  | _ => none }
def fnExactIsFoolingRow : OpenClaim := { program := "ytjojmlaipcbmkaa", sum := "2d5fdaa5284bce920661273ac460132a7f476d28bbe193926e9aaeeb198f8e27", func := "loop.example/g01134/laws.FnExactIsFooling", spec := "fnExactIsFooling", unfollowed := true, recurses := true, apart := false }
def FnExactIsFoolingSaid : Prop := fnExactIsFoolingRow.holds Try.pinned (OpenSpec.ofChange fnExactIsFoolingSpec)

/-- ITS FALSE NEIGHBOUR: 'it returns false'. Refute it at one input. -/
def fnExactIsFoolingWrong : ChangeSpec := { name := "fnExactIsFooling", fn := fun _ => fun
  | [d1, d2] => { results := [.lit (.bool false)], args := [d1, d2] }
  | _ => none }
def FnExactIsFoolingWrongFalsely : Prop := fnExactIsFoolingRow.holds Try.pinned (OpenSpec.ofChange fnExactIsFoolingWrong)

/-- 'laws.FnExactCountRows': WHATEVER THE INPUT: true; the input reads as it did. -/
def fnExactCountRowsSpec : ChangeSpec := { name := "fnExactCountRows", fn := fun _ => fun
  | [d1, d2, d3] => { results := [.lit (.bool true)], args := [d1, d2, d3] }
  | _ => none }
def fnExactCountRowsRow : OpenClaim := { program := "ytjojmlaipcbmkaa", sum := "2d5fdaa5284bce920661273ac460132a7f476d28bbe193926e9aaeeb198f8e27", func := "loop.example/g01134/laws.FnExactCountRows", spec := "fnExactCountRows", inPlace := ["internal/abi.NoEscape"], unfollowed := true, recurses := true, apart := false }
def FnExactCountRowsSaid : Prop := fnExactCountRowsRow.holds Try.pinned (OpenSpec.ofChange fnExactCountRowsSpec)

/-- ITS FALSE NEIGHBOUR: 'it returns false'. Refute it at one input. -/
def fnExactCountRowsWrong : ChangeSpec := { name := "fnExactCountRows", fn := fun _ => fun
  | [d1, d2, d3] => { results := [.lit (.bool false)], args := [d1, d2, d3] }
  | _ => none }
def FnExactCountRowsWrongFalsely : Prop := fnExactCountRowsRow.holds Try.pinned (OpenSpec.ofChange fnExactCountRowsWrong)

/- THE SECOND FORM. 'bulk': how many values and letters a reading holds, each counted each time it is reached (what is shared counts as often as it is met; a slice's spare places count too). A statement '..UptoSaid' is the law's where the arguments, and the package variables that the reading takes, are together of bulk at most 1048576: NARROWER than '..Said'. Prove '..Said' where nothing that the law and all that it calls make is longer than what came in: it says more and counts as full. Else prove '..UptoSaid'. A law counts once. -/
mutual
def uptoBulk {H : Type} : DataW H → Nat
  | .lit (.string bytes) => bytes.length + 1
  | .lit _ => 1
  | .nil => 1
  | .ptr d => uptoBulk d + 1
  | .slice elems spare => uptoBulkAll elems + uptoBulkAll spare + 1
  | .agg parts => uptoBulkAll parts + 1
  | .iface _ d => uptoBulk d + 1
  | .map entries => uptoBulkEntries entries + 1
  | .held _ => 1
def uptoBulkAll {H : Type} : List (DataW H) → Nat
  | [] => 0
  | d :: r => uptoBulk d + uptoBulkAll r
def uptoBulkEntries {H : Type} : List (Lit × DataW H) → Nat
  | [] => 0
  | x :: r => uptoBulkEntry x + uptoBulkEntries r
def uptoBulkEntry {H : Type} : Lit × DataW H → Nat
  | (.string bytes, d) => bytes.length + uptoBulk d + 1
  | (_, d) => uptoBulk d + 1
 end
def uptoSmall : (H : Type) → List (DataW H) → Bool := fun _ ds => decide (uptoBulkAll ds ≤ 1048576)
def OpenSpec.upto (s : _root_.Go.ChangeSpec) : _root_.Go.OpenSpec := { _root_.Go.OpenSpec.ofChange s with cond := some uptoSmall }

/-- 'laws.FnExactStateAfter', WHERE WHAT IT READS IS OF BULK AT MOST 1048576: true; the input reads as it did. -/
def fnExactStateAfterUptoRow : OpenClaim := { program := "ytjojmlaipcbmkaa", sum := "2d5fdaa5284bce920661273ac460132a7f476d28bbe193926e9aaeeb198f8e27", func := "loop.example/g01134/laws.FnExactStateAfter", spec := "fnExactStateAfter", apart := false, narrowed := true }
def FnExactStateAfterUptoSaid : Prop := fnExactStateAfterUptoRow.holds Try.pinned (OpenSpec.upto fnExactStateAfterSpec)

/-- 'laws.FnExactTakes', WHERE WHAT IT READS IS OF BULK AT MOST 1048576: true; the input reads as it did. -/
def fnExactTakesUptoRow : OpenClaim := { program := "ytjojmlaipcbmkaa", sum := "2d5fdaa5284bce920661273ac460132a7f476d28bbe193926e9aaeeb198f8e27", func := "loop.example/g01134/laws.FnExactTakes", spec := "fnExactTakes", apart := false, narrowed := true }
def FnExactTakesUptoSaid : Prop := fnExactTakesUptoRow.holds Try.pinned (OpenSpec.upto fnExactTakesSpec)

/-- 'laws.FnExactRowOf', WHERE WHAT IT READS IS OF BULK AT MOST 1048576: true; the input reads as it did. -/
def fnExactRowOfUptoRow : OpenClaim := { program := "ytjojmlaipcbmkaa", sum := "2d5fdaa5284bce920661273ac460132a7f476d28bbe193926e9aaeeb198f8e27", func := "loop.example/g01134/laws.FnExactRowOf", spec := "fnExactRowOf", unfollowed := true, recurses := true, apart := false, narrowed := true }
def FnExactRowOfUptoSaid : Prop := fnExactRowOfUptoRow.holds Try.pinned (OpenSpec.upto fnExactRowOfSpec)

/-- 'laws.FnExactFits', WHERE WHAT IT READS IS OF BULK AT MOST 1048576: true; the input reads as it did. -/
def fnExactFitsUptoRow : OpenClaim := { program := "ytjojmlaipcbmkaa", sum := "2d5fdaa5284bce920661273ac460132a7f476d28bbe193926e9aaeeb198f8e27", func := "loop.example/g01134/laws.FnExactFits", spec := "fnExactFits", unfollowed := true, recurses := true, apart := false, narrowed := true }
def FnExactFitsUptoSaid : Prop := fnExactFitsUptoRow.holds Try.pinned (OpenSpec.upto fnExactFitsSpec)

/-- 'laws.FnExactCommonCycle', WHERE WHAT IT READS IS OF BULK AT MOST 1048576: true; the input reads as it did. -/
def fnExactCommonCycleUptoRow : OpenClaim := { program := "ytjojmlaipcbmkaa", sum := "2d5fdaa5284bce920661273ac460132a7f476d28bbe193926e9aaeeb198f8e27", func := "loop.example/g01134/laws.FnExactCommonCycle", spec := "fnExactCommonCycle", unfollowed := true, recurses := true, apart := false, narrowed := true }
def FnExactCommonCycleUptoSaid : Prop := fnExactCommonCycleUptoRow.holds Try.pinned (OpenSpec.upto fnExactCommonCycleSpec)

/-- 'laws.FnExactReaderOfShape', WHERE WHAT IT READS IS OF BULK AT MOST 1048576: true; the input reads as it did. -/
def fnExactReaderOfShapeUptoRow : OpenClaim := { program := "ytjojmlaipcbmkaa", sum := "2d5fdaa5284bce920661273ac460132a7f476d28bbe193926e9aaeeb198f8e27", func := "loop.example/g01134/laws.FnExactReaderOfShape", spec := "fnExactReaderOfShape", apart := false, narrowed := true }
def FnExactReaderOfShapeUptoSaid : Prop := fnExactReaderOfShapeUptoRow.holds Try.pinned (OpenSpec.upto fnExactReaderOfShapeSpec)

/-- 'laws.FnExactManyOfCycles', WHERE WHAT IT READS IS OF BULK AT MOST 1048576: true; the input reads as it did. -/
def fnExactManyOfCyclesUptoRow : OpenClaim := { program := "ytjojmlaipcbmkaa", sum := "2d5fdaa5284bce920661273ac460132a7f476d28bbe193926e9aaeeb198f8e27", func := "loop.example/g01134/laws.FnExactManyOfCycles", spec := "fnExactManyOfCycles", apart := false, narrowed := true }
def FnExactManyOfCyclesUptoSaid : Prop := fnExactManyOfCyclesUptoRow.holds Try.pinned (OpenSpec.upto fnExactManyOfCyclesSpec)

/-- 'laws.FnExactIsFooling', WHERE WHAT IT READS IS OF BULK AT MOST 1048576: true; the input reads as it did. -/
def fnExactIsFoolingUptoRow : OpenClaim := { program := "ytjojmlaipcbmkaa", sum := "2d5fdaa5284bce920661273ac460132a7f476d28bbe193926e9aaeeb198f8e27", func := "loop.example/g01134/laws.FnExactIsFooling", spec := "fnExactIsFooling", unfollowed := true, recurses := true, apart := false, narrowed := true }
def FnExactIsFoolingUptoSaid : Prop := fnExactIsFoolingUptoRow.holds Try.pinned (OpenSpec.upto fnExactIsFoolingSpec)

/-- 'laws.FnExactCountRows', WHERE WHAT IT READS IS OF BULK AT MOST 1048576: true; the input reads as it did. -/
def fnExactCountRowsUptoRow : OpenClaim := { program := "ytjojmlaipcbmkaa", sum := "2d5fdaa5284bce920661273ac460132a7f476d28bbe193926e9aaeeb198f8e27", func := "loop.example/g01134/laws.FnExactCountRows", spec := "fnExactCountRows", inPlace := ["internal/abi.NoEscape"], unfollowed := true, recurses := true, apart := false, narrowed := true }
def FnExactCountRowsUptoSaid : Prop := fnExactCountRowsUptoRow.holds Try.pinned (OpenSpec.upto fnExactCountRowsSpec)

end Rows
end Go.Proofs.Ytjojmlaipcbmkaa
