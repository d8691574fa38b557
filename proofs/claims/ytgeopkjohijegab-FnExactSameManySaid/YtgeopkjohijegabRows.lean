/-
  No cell of these rows narrows 'for every input' (looked for: loops, veiled, ifaces, maps, wideKeys, modest, calm, conditions, laid).
  DERIVED. THE GIVEN ROWS OF THIS SEAT. 9 by the template 'for every input the law returns true; each argument reads behind the call as it read before'; 0 by the template 'total and deterministic' (their statements: YtgeopkjohijegabTotals.lean).
  GIVEN WITH THE SEED: the statements are not yours to turn. If you find one false, say at which input.
  Laid BY PROGRAM, IN A SANDBOX (cutbox-rows.mjs): the forced cells as the released guide's own fill.sh prints them over the translation 0011e6d1bb88865b… (all of the seat's roots in one cut). By AI agents, Wed Nov 11 2026. No macro, syntax, notation, axiom, sorry.
-/
import Derived.Test.YtgeopkjohijegabChecked
import GoSem.Claim
import GoSem.ClaimJoined
import GoSem.ClaimMapViews
import Derived.JoinedTies
import Derived.KernelRfl
namespace Go.Proofs.Ytgeopkjohijegab
/- THE CELL 'sum', in the pinned program and in every row, IS THE sha256 OF THE DUMP (.gsa) THAT YtgeopkjohijegabProg.lean LOADS. Nothing in Lean hashes anything: it is a label: what it is worth is what the hold of that sum in a sandbox is worth. -/
noncomputable def Try.pinned : Pinned := { name := "ytgeopkjohijegab", sum := "0011e6d1bb88865b55cb3c8c2434fbf6d070b5550df148628902d7b3faafbbd0", checked := Try.checked }
namespace Rows
def none {H : Type} : Left H := { results := [], args := [] }

/-- 'laws.FnExactTakes': WHATEVER THE INPUT: true; the input reads as it did. -/
def fnExactTakesSpec : ChangeSpec := { name := "fnExactTakes", fn := fun _ => fun
  | [d1, d2] => { results := [.lit (.bool true)], args := [d1, d2] }
  | _ => none }
def fnExactTakesRow : OpenClaim := { program := "ytgeopkjohijegab", sum := "0011e6d1bb88865b55cb3c8c2434fbf6d070b5550df148628902d7b3faafbbd0", func := "loop.example/g01134/laws.FnExactTakes", spec := "fnExactTakes", plainKeys := false, apart := false }
def FnExactTakesSaid : Prop := fnExactTakesRow.holds Try.pinned (OpenSpec.ofChange fnExactTakesSpec)

/-- ITS FALSE NEIGHBOUR: 'it returns false'. Refute it at one input. -/
def fnExactTakesWrong : ChangeSpec := { name := "fnExactTakes", fn := fun _ => fun
  | [d1, d2] => { results := [.lit (.bool false)], args := [d1, d2] }
  | _ => none }
def FnExactTakesWrongFalsely : Prop := fnExactTakesRow.holds Try.pinned (OpenSpec.ofChange fnExactTakesWrong)

/-- 'laws.FnExactOppositeReader': WHATEVER THE INPUT: true; the input reads as it did. -/
def fnExactOppositeReaderSpec : ChangeSpec := { name := "fnExactOppositeReader", fn := fun _ => fun
  | [d] => { results := [.lit (.bool true)], args := [d] }
  | _ => none }
def fnExactOppositeReaderRow : OpenClaim := { program := "ytgeopkjohijegab", sum := "0011e6d1bb88865b55cb3c8c2434fbf6d070b5550df148628902d7b3faafbbd0", func := "loop.example/g01134/laws.FnExactOppositeReader", spec := "fnExactOppositeReader", plainKeys := false, apart := false }
def FnExactOppositeReaderSaid : Prop := fnExactOppositeReaderRow.holds Try.pinned (OpenSpec.ofChange fnExactOppositeReaderSpec)

/-- ITS FALSE NEIGHBOUR: 'it returns false'. Refute it at one input. -/
def fnExactOppositeReaderWrong : ChangeSpec := { name := "fnExactOppositeReader", fn := fun _ => fun
  | [d] => { results := [.lit (.bool false)], args := [d] }
  | _ => none }
def FnExactOppositeReaderWrongFalsely : Prop := fnExactOppositeReaderRow.holds Try.pinned (OpenSpec.ofChange fnExactOppositeReaderWrong)

/-- 'laws.FnExactBothReaders': WHATEVER THE INPUT: true; the input reads as it did. -/
def fnExactBothReadersSpec : ChangeSpec := { name := "fnExactBothReaders", fn := fun _ => fun
  | [d1, d2] => { results := [.lit (.bool true)], args := [d1, d2] }
  | _ => none }
def fnExactBothReadersRow : OpenClaim := { program := "ytgeopkjohijegab", sum := "0011e6d1bb88865b55cb3c8c2434fbf6d070b5550df148628902d7b3faafbbd0", func := "loop.example/g01134/laws.FnExactBothReaders", spec := "fnExactBothReaders", unfollowed := true, recurses := true, plainKeys := false, apart := false }
def FnExactBothReadersSaid : Prop := fnExactBothReadersRow.holds Try.pinned (OpenSpec.ofChange fnExactBothReadersSpec)

/-- ITS FALSE NEIGHBOUR: 'it returns false'. Refute it at one input. -/
def fnExactBothReadersWrong : ChangeSpec := { name := "fnExactBothReaders", fn := fun _ => fun
  | [d1, d2] => { results := [.lit (.bool false)], args := [d1, d2] }
  | _ => none }
def FnExactBothReadersWrongFalsely : Prop := fnExactBothReadersRow.holds Try.pinned (OpenSpec.ofChange fnExactBothReadersWrong)

/-- 'laws.FnExactTidyReader': WHATEVER THE INPUT: true; the input reads as it did. -/
def fnExactTidyReaderSpec : ChangeSpec := { name := "fnExactTidyReader", fn := fun _ => fun
  | [d] => { results := [.lit (.bool true)], args := [d] }
  | _ => none }
def fnExactTidyReaderRow : OpenClaim := { program := "ytgeopkjohijegab", sum := "0011e6d1bb88865b55cb3c8c2434fbf6d070b5550df148628902d7b3faafbbd0", func := "loop.example/g01134/laws.FnExactTidyReader", spec := "fnExactTidyReader", unfollowed := true, recurses := true, plainKeys := false, apart := false }
def FnExactTidyReaderSaid : Prop := fnExactTidyReaderRow.holds Try.pinned (OpenSpec.ofChange fnExactTidyReaderSpec)

/-- ITS FALSE NEIGHBOUR: 'it returns false'. Refute it at one input. -/
def fnExactTidyReaderWrong : ChangeSpec := { name := "fnExactTidyReader", fn := fun _ => fun
  | [d] => { results := [.lit (.bool false)], args := [d] }
  | _ => none }
def FnExactTidyReaderWrongFalsely : Prop := fnExactTidyReaderRow.holds Try.pinned (OpenSpec.ofChange fnExactTidyReaderWrong)

/-- 'laws.FnExactFirstTaken': WHATEVER THE INPUT: true; the input reads as it did. -/
def fnExactFirstTakenSpec : ChangeSpec := { name := "fnExactFirstTaken", fn := fun _ => fun
  | [d] => { results := [.lit (.bool true)], args := [d] }
  | _ => none }
def fnExactFirstTakenRow : OpenClaim := { program := "ytgeopkjohijegab", sum := "0011e6d1bb88865b55cb3c8c2434fbf6d070b5550df148628902d7b3faafbbd0", func := "loop.example/g01134/laws.FnExactFirstTaken", spec := "fnExactFirstTaken", unfollowed := true, recurses := true, plainKeys := false, apart := false }
def FnExactFirstTakenSaid : Prop := fnExactFirstTakenRow.holds Try.pinned (OpenSpec.ofChange fnExactFirstTakenSpec)

/-- ITS FALSE NEIGHBOUR: 'it returns false'. Refute it at one input. -/
def fnExactFirstTakenWrong : ChangeSpec := { name := "fnExactFirstTaken", fn := fun _ => fun
  | [d] => { results := [.lit (.bool false)], args := [d] }
  | _ => none }
def FnExactFirstTakenWrongFalsely : Prop := fnExactFirstTakenRow.holds Try.pinned (OpenSpec.ofChange fnExactFirstTakenWrong)

/-- 'laws.FnExactFirstUnlike': WHATEVER THE INPUT: true; the input reads as it did. -/
def fnExactFirstUnlikeSpec : ChangeSpec := { name := "fnExactFirstUnlike", fn := fun _ => fun
  | [d1, d2] => { results := [.lit (.bool true)], args := [d1, d2] }
  | _ => none }
def fnExactFirstUnlikeRow : OpenClaim := { program := "ytgeopkjohijegab", sum := "0011e6d1bb88865b55cb3c8c2434fbf6d070b5550df148628902d7b3faafbbd0", func := "loop.example/g01134/laws.FnExactFirstUnlike", spec := "fnExactFirstUnlike", unfollowed := true, recurses := true, plainKeys := false, apart := false }
def FnExactFirstUnlikeSaid : Prop := fnExactFirstUnlikeRow.holds Try.pinned (OpenSpec.ofChange fnExactFirstUnlikeSpec)

/-- ITS FALSE NEIGHBOUR: 'it returns false'. Refute it at one input. -/
def fnExactFirstUnlikeWrong : ChangeSpec := { name := "fnExactFirstUnlike", fn := fun _ => fun
  | [d1, d2] => { results := [.lit (.bool false)], args := [d1, d2] }
  | _ => none }
def FnExactFirstUnlikeWrongFalsely : Prop := fnExactFirstUnlikeRow.holds Try.pinned (OpenSpec.ofChange fnExactFirstUnlikeWrong)

/-- 'laws.FnExactCountTaken': WHATEVER THE INPUT: true; the input reads as it did. -/
def fnExactCountTakenSpec : ChangeSpec := { name := "fnExactCountTaken", fn := fun _ => fun
  | [d1, d2] => { results := [.lit (.bool true)], args := [d1, d2] }
  | _ => none }
def fnExactCountTakenRow : OpenClaim := { program := "ytgeopkjohijegab", sum := "0011e6d1bb88865b55cb3c8c2434fbf6d070b5550df148628902d7b3faafbbd0", func := "loop.example/g01134/laws.FnExactCountTaken", spec := "fnExactCountTaken", plainKeys := false, apart := false }
def FnExactCountTakenSaid : Prop := fnExactCountTakenRow.holds Try.pinned (OpenSpec.ofChange fnExactCountTakenSpec)

/-- ITS FALSE NEIGHBOUR: 'it returns false'. Refute it at one input. -/
def fnExactCountTakenWrong : ChangeSpec := { name := "fnExactCountTaken", fn := fun _ => fun
  | [d1, d2] => { results := [.lit (.bool false)], args := [d1, d2] }
  | _ => none }
def FnExactCountTakenWrongFalsely : Prop := fnExactCountTakenRow.holds Try.pinned (OpenSpec.ofChange fnExactCountTakenWrong)

/-- 'laws.FnExactValidMany': WHATEVER THE INPUT: true; the input reads as it did. -/
def fnExactValidManySpec : ChangeSpec := { name := "fnExactValidMany", fn := fun _ => fun
  | [d] => { results := [.lit (.bool true)], args := [d] }
  | _ => none }
def fnExactValidManyRow : OpenClaim := { program := "ytgeopkjohijegab", sum := "0011e6d1bb88865b55cb3c8c2434fbf6d070b5550df148628902d7b3faafbbd0", func := "loop.example/g01134/laws.FnExactValidMany", spec := "fnExactValidMany", plainKeys := false, apart := false }
def FnExactValidManySaid : Prop := fnExactValidManyRow.holds Try.pinned (OpenSpec.ofChange fnExactValidManySpec)

/-- ITS FALSE NEIGHBOUR: 'it returns false'. Refute it at one input. -/
def fnExactValidManyWrong : ChangeSpec := { name := "fnExactValidMany", fn := fun _ => fun
  | [d] => { results := [.lit (.bool false)], args := [d] }
  | _ => none }
def FnExactValidManyWrongFalsely : Prop := fnExactValidManyRow.holds Try.pinned (OpenSpec.ofChange fnExactValidManyWrong)

/-- 'laws.FnExactSameMany': WHATEVER THE INPUT: true; the input reads as it did. -/
def fnExactSameManySpec : ChangeSpec := { name := "fnExactSameMany", fn := fun _ => fun
  | [d1, d2] => { results := [.lit (.bool true)], args := [d1, d2] }
  | _ => none }
def fnExactSameManyRow : OpenClaim := { program := "ytgeopkjohijegab", sum := "0011e6d1bb88865b55cb3c8c2434fbf6d070b5550df148628902d7b3faafbbd0", func := "loop.example/g01134/laws.FnExactSameMany", spec := "fnExactSameMany", unfollowed := true, recurses := true, plainKeys := false, apart := false }
def FnExactSameManySaid : Prop := fnExactSameManyRow.holds Try.pinned (OpenSpec.ofChange fnExactSameManySpec)

/-- ITS FALSE NEIGHBOUR: 'it returns false'. Refute it at one input. -/
def fnExactSameManyWrong : ChangeSpec := { name := "fnExactSameMany", fn := fun _ => fun
  | [d1, d2] => { results := [.lit (.bool false)], args := [d1, d2] }
  | _ => none }
def FnExactSameManyWrongFalsely : Prop := fnExactSameManyRow.holds Try.pinned (OpenSpec.ofChange fnExactSameManyWrong)

/- THE SECOND FORM. 'bulk': how many values and letters a reading holds, each counted each time it is reached (what is shared counts as often as it is met; a slice's spare places count too). A statement '..UptoSaid' is the law's where the arguments, and the package variables that the reading takes, are together of bulk at most 1048576: NARROWER than '..Said'. Prove '..Said' where nothing that the law and all that it calls make is longer than what came in: it says more and counts as full. Else prove '..UptoSaid'. A law counts once. -/
mutual
def uptoBulk {H : Type} : DataW H → Nat
  | .lit (.string bytes) => bytes.length + 1
  | .lit _ => 1
  | .nil => 1
  | .ptr d => uptoBulk d + 1
  | .slice elems spare => uptoBulkAll elems + uptoBulkAll spare + 1
  | .agg parts => uptoBulkAll parts + 1
  | .iface _ d => uptoBulk d + 1
  | .map entries => uptoBulkEntries entries + 1
  | .held _ => 1
def uptoBulkAll {H : Type} : List (DataW H) → Nat
  | [] => 0
  | d :: r => uptoBulk d + uptoBulkAll r
def uptoBulkEntries {H : Type} : List (Lit × DataW H) → Nat
  | [] => 0
  | x :: r => uptoBulkEntry x + uptoBulkEntries r
def uptoBulkEntry {H : Type} : Lit × DataW H → Nat
  | (.string bytes, d) => bytes.length + uptoBulk d + 1
  | (_, d) => uptoBulk d + 1
 end
def uptoSmall : (H : Type) → List (DataW H) → Bool := fun _ ds => decide (uptoBulkAll ds ≤ 1048576)
def OpenSpec.upto (s : _root_.Go.ChangeSpec) : _root_.Go.OpenSpec := { _root_.Go.OpenSpec.ofChange s with cond := some uptoSmall }

/-- 'laws.FnExactTakes', WHERE WHAT IT READS IS OF BULK AT MOST 1048576: true; the input reads as it did. -/
def fnExactTakesUptoRow : OpenClaim := { program := "ytgeopkjohijegab", sum := "0011e6d1bb88865b55cb3c8c2434fbf6d070b5550df148628902d7b3faafbbd0", func := "loop.example/g01134/laws.FnExactTakes", spec := "fnExactTakes", plainKeys := false, apart := false, narrowed := true }
def FnExactTakesUptoSaid : Prop := fnExactTakesUptoRow.holds Try.pinned (OpenSpec.upto fnExactTakesSpec)

/-- 'laws.FnExactOppositeReader', WHERE WHAT IT READS IS OF BULK AT MOST 1048576: true; the input reads as it did. -/
def fnExactOppositeReaderUptoRow : OpenClaim := { program := "ytgeopkjohijegab", sum := "0011e6d1bb88865b55cb3c8c2434fbf6d070b5550df148628902d7b3faafbbd0", func := "loop.example/g01134/laws.FnExactOppositeReader", spec := "fnExactOppositeReader", plainKeys := false, apart := false, narrowed := true }
def FnExactOppositeReaderUptoSaid : Prop := fnExactOppositeReaderUptoRow.holds Try.pinned (OpenSpec.upto fnExactOppositeReaderSpec)

/-- 'laws.FnExactBothReaders', WHERE WHAT IT READS IS OF BULK AT MOST 1048576: true; the input reads as it did. -/
def fnExactBothReadersUptoRow : OpenClaim := { program := "ytgeopkjohijegab", sum := "0011e6d1bb88865b55cb3c8c2434fbf6d070b5550df148628902d7b3faafbbd0", func := "loop.example/g01134/laws.FnExactBothReaders", spec := "fnExactBothReaders", unfollowed := true, recurses := true, plainKeys := false, apart := false, narrowed := true }
def FnExactBothReadersUptoSaid : Prop := fnExactBothReadersUptoRow.holds Try.pinned (OpenSpec.upto fnExactBothReadersSpec)

/-- 'laws.FnExactTidyReader', WHERE WHAT IT READS IS OF BULK AT MOST 1048576: true; the input reads as it did. -/
def fnExactTidyReaderUptoRow : OpenClaim := { program := "ytgeopkjohijegab", sum := "0011e6d1bb88865b55cb3c8c2434fbf6d070b5550df148628902d7b3faafbbd0", func := "loop.example/g01134/laws.FnExactTidyReader", spec := "fnExactTidyReader", unfollowed := true, recurses := true, plainKeys := false, apart := false, narrowed := true }
def FnExactTidyReaderUptoSaid : Prop := fnExactTidyReaderUptoRow.holds Try.pinned (OpenSpec.upto fnExactTidyReaderSpec)

/-- 'laws.FnExactFirstTaken', WHERE WHAT IT READS IS OF BULK AT MOST 1048576: true; the input reads as it did. -/
def fnExactFirstTakenUptoRow : OpenClaim := { program := "ytgeopkjohijegab", sum := "0011e6d1bb88865b55cb3c8c2434fbf6d070b5550df148628902d7b3faafbbd0", func := "loop.example/g01134/laws.FnExactFirstTaken", spec := "fnExactFirstTaken", unfollowed := true, recurses := true, plainKeys := false, apart := false, narrowed := true }
def FnExactFirstTakenUptoSaid : Prop := fnExactFirstTakenUptoRow.holds Try.pinned (OpenSpec.upto fnExactFirstTakenSpec)

/-- 'laws.FnExactFirstUnlike', WHERE WHAT IT READS IS OF BULK AT MOST 1048576: true; the input reads as it did. -/
def fnExactFirstUnlikeUptoRow : OpenClaim := { program := "ytgeopkjohijegab", sum := "0011e6d1bb88865b55cb3c8c2434fbf6d070b5550df148628902d7b3faafbbd0", func := "loop.example/g01134/laws.FnExactFirstUnlike", spec := "fnExactFirstUnlike", unfollowed := true, recurses := true, plainKeys := false, apart := false, narrowed := true }
def FnExactFirstUnlikeUptoSaid : Prop := fnExactFirstUnlikeUptoRow.holds Try.pinned (OpenSpec.upto fnExactFirstUnlikeSpec)

/-- 'laws.FnExactCountTaken', WHERE WHAT IT READS IS OF BULK AT MOST 1048576: true; the input reads as it did. -/
def fnExactCountTakenUptoRow : OpenClaim := { program := "ytgeopkjohijegab", sum := "0011e6d1bb88865b55cb3c8c2434fbf6d070b5550df148628902d7b3faafbbd0", func := "loop.example/g01134/laws.FnExactCountTaken", spec := "fnExactCountTaken", plainKeys := false, apart := false, narrowed := true }
def FnExactCountTakenUptoSaid : Prop := fnExactCountTakenUptoRow.holds Try.pinned (OpenSpec.upto fnExactCountTakenSpec)

/-- 'laws.FnExactValidMany', WHERE WHAT IT READS IS OF BULK AT MOST 1048576: true; the input reads as it did. -/
def fnExactValidManyUptoRow : OpenClaim := { program := "ytgeopkjohijegab", sum := "0011e6d1bb88865b55cb3c8c2434fbf6d070b5550df148628902d7b3faafbbd0", func := "loop.example/g01134/laws.FnExactValidMany", spec := "fnExactValidMany", plainKeys := false, apart := false, narrowed := true }
def FnExactValidManyUptoSaid : Prop := fnExactValidManyUptoRow.holds Try.pinned (OpenSpec.upto fnExactValidManySpec)

/-- 'laws.FnExactSameMany', WHERE WHAT IT READS IS OF BULK AT MOST 1048576: true; the input reads as it did. -/
def fnExactSameManyUptoRow : OpenClaim := { program := "ytgeopkjohijegab", sum := "0011e6d1bb88865b55cb3c8c2434fbf6d070b5550df148628902d7b3faafbbd0", func := "loop.example/g01134/laws.FnExactSameMany", spec := "fnExactSameMany", unfollowed := true, recurses := true, plainKeys := false, apart := false, narrowed := true }
def FnExactSameManyUptoSaid : Prop := fnExactSameManyUptoRow.holds Try.pinned (OpenSpec.upto fnExactSameManySpec)

end Rows
end Go.Proofs.Ytgeopkjohijegab
