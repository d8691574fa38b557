/-
  No cell of these rows narrows 'for every input' (looked for: loops, veiled, ifaces, maps, wideKeys, modest, calm, conditions, laid).
  DERIVED. THE GIVEN ROWS OF THIS SEAT. 12 by the template 'for every input the law returns true; each argument reads behind the call as it read before'; 0 by the template 'total and deterministic' (their statements: YtgcbnlhdfdomaaaTotals.lean).
  GIVEN WITH THE SEED: the statements are not yours to turn. If you find one false, say at which input.
  Laid BY PROGRAM, IN A SANDBOX (cutbox-rows.mjs): the forced cells as the released guide's own fill.sh prints them over the translation b06d1ec92c21f2b7… (all of the seat's roots in one cut). By AI agents, Wed Nov 11 2026. No macro, syntax, notation, axiom, sorry.
-/
import Derived.Test.YtgcbnlhdfdomaaaChecked
import GoSem.Claim
import GoSem.ClaimJoined
import GoSem.ClaimMapViews
import Derived.JoinedTies
import Derived.KernelRfl
namespace Go.Proofs.Ytgcbnlhdfdomaaa
/- THE CELL 'sum', in the pinned program and in every row, IS THE sha256 OF THE DUMP (.gsa) THAT YtgcbnlhdfdomaaaProg.lean LOADS. Nothing in Lean hashes anything: it is a label: what it is worth is what the hold of that sum in a sandbox is worth. -/
noncomputable def Try.pinned : Pinned := { name := "ytgcbnlhdfdomaaa", sum := "b06d1ec92c21f2b7680eeb15c02a03f0c981b11f75e4a960a39e5be57a31855a", checked := Try.checked }
namespace Rows
def none {H : Type} : Left H := { results := [], args := [] }

/-- 'laws.FnExactValidTurner': WHATEVER THE INPUT: true; the input reads as it did. -/
def fnExactValidTurnerSpec : ChangeSpec := { name := "fnExactValidTurner", fn := fun _ => fun
  | [d] => { results := [.lit (.bool true)], args := [d] }
  | _ => none }
def fnExactValidTurnerRow : OpenClaim := { program := "ytgcbnlhdfdomaaa", sum := "b06d1ec92c21f2b7680eeb15c02a03f0c981b11f75e4a960a39e5be57a31855a", func := "loop.example/g01134/laws.FnExactValidTurner", spec := "fnExactValidTurner", plainKeys := false, apart := false }
def FnExactValidTurnerSaid : Prop := fnExactValidTurnerRow.holds Try.pinned (OpenSpec.ofChange fnExactValidTurnerSpec)

/-- ITS FALSE NEIGHBOUR: 'it returns false'. Refute it at one input. -/
def fnExactValidTurnerWrong : ChangeSpec := { name := "fnExactValidTurner", fn := fun _ => fun
  | [d] => { results := [.lit (.bool false)], args := [d] }
  | _ => none }
def FnExactValidTurnerWrongFalsely : Prop := fnExactValidTurnerRow.holds Try.pinned (OpenSpec.ofChange fnExactValidTurnerWrong)

/-- 'laws.FnExactSameTurner': WHATEVER THE INPUT: true; the input reads as it did. -/
def fnExactSameTurnerSpec : ChangeSpec := { name := "fnExactSameTurner", fn := fun _ => fun
  | [d1, d2] => { results := [.lit (.bool true)], args := [d1, d2] }
  | _ => none }
def fnExactSameTurnerRow : OpenClaim := { program := "ytgcbnlhdfdomaaa", sum := "b06d1ec92c21f2b7680eeb15c02a03f0c981b11f75e4a960a39e5be57a31855a", func := "loop.example/g01134/laws.FnExactSameTurner", spec := "fnExactSameTurner", unfollowed := true, recurses := true, plainKeys := false, apart := false }
def FnExactSameTurnerSaid : Prop := fnExactSameTurnerRow.holds Try.pinned (OpenSpec.ofChange fnExactSameTurnerSpec)

/-- ITS FALSE NEIGHBOUR: 'it returns false'. Refute it at one input. -/
def fnExactSameTurnerWrong : ChangeSpec := { name := "fnExactSameTurner", fn := fun _ => fun
  | [d1, d2] => { results := [.lit (.bool false)], args := [d1, d2] }
  | _ => none }
def FnExactSameTurnerWrongFalsely : Prop := fnExactSameTurnerRow.holds Try.pinned (OpenSpec.ofChange fnExactSameTurnerWrong)

/-- 'laws.FnExactStepOf': WHATEVER THE INPUT: true; the input reads as it did. -/
def fnExactStepOfSpec : ChangeSpec := { name := "fnExactStepOf", fn := fun _ => fun
  | [d1, d2, d3] => { results := [.lit (.bool true)], args := [d1, d2, d3] }
  | _ => none }
def fnExactStepOfRow : OpenClaim := { program := "ytgcbnlhdfdomaaa", sum := "b06d1ec92c21f2b7680eeb15c02a03f0c981b11f75e4a960a39e5be57a31855a", func := "loop.example/g01134/laws.FnExactStepOf", spec := "fnExactStepOf", plainKeys := false, apart := false }
def FnExactStepOfSaid : Prop := fnExactStepOfRow.holds Try.pinned (OpenSpec.ofChange fnExactStepOfSpec)

/-- ITS FALSE NEIGHBOUR: 'it returns false'. Refute it at one input. -/
def fnExactStepOfWrong : ChangeSpec := { name := "fnExactStepOf", fn := fun _ => fun
  | [d1, d2, d3] => { results := [.lit (.bool false)], args := [d1, d2, d3] }
  | _ => none }
def FnExactStepOfWrongFalsely : Prop := fnExactStepOfRow.holds Try.pinned (OpenSpec.ofChange fnExactStepOfWrong)

/-- 'laws.FnExactIsOneWay': WHATEVER THE INPUT: true; the input reads as it did. -/
def fnExactIsOneWaySpec : ChangeSpec := { name := "fnExactIsOneWay", fn := fun _ => fun
  | [d] => { results := [.lit (.bool true)], args := [d] }
  | _ => none }
def fnExactIsOneWayRow : OpenClaim := { program := "ytgcbnlhdfdomaaa", sum := "b06d1ec92c21f2b7680eeb15c02a03f0c981b11f75e4a960a39e5be57a31855a", func := "loop.example/g01134/laws.FnExactIsOneWay", spec := "fnExactIsOneWay", plainKeys := false, apart := false }
def FnExactIsOneWaySaid : Prop := fnExactIsOneWayRow.holds Try.pinned (OpenSpec.ofChange fnExactIsOneWaySpec)

/-- ITS FALSE NEIGHBOUR: 'it returns false'. Refute it at one input. -/
def fnExactIsOneWayWrong : ChangeSpec := { name := "fnExactIsOneWay", fn := fun _ => fun
  | [d] => { results := [.lit (.bool false)], args := [d] }
  | _ => none }
def FnExactIsOneWayWrongFalsely : Prop := fnExactIsOneWayRow.holds Try.pinned (OpenSpec.ofChange fnExactIsOneWayWrong)

/-- 'laws.FnExactOppositeTurner': WHATEVER THE INPUT: true; the input reads as it did. -/
def fnExactOppositeTurnerSpec : ChangeSpec := { name := "fnExactOppositeTurner", fn := fun _ => fun
  | [d] => { results := [.lit (.bool true)], args := [d] }
  | _ => none }
def fnExactOppositeTurnerRow : OpenClaim := { program := "ytgcbnlhdfdomaaa", sum := "b06d1ec92c21f2b7680eeb15c02a03f0c981b11f75e4a960a39e5be57a31855a", func := "loop.example/g01134/laws.FnExactOppositeTurner", spec := "fnExactOppositeTurner", unfollowed := true, recurses := true, plainKeys := false, apart := false }
def FnExactOppositeTurnerSaid : Prop := fnExactOppositeTurnerRow.holds Try.pinned (OpenSpec.ofChange fnExactOppositeTurnerSpec)

/-- ITS FALSE NEIGHBOUR: 'it returns false'. Refute it at one input. -/
def fnExactOppositeTurnerWrong : ChangeSpec := { name := "fnExactOppositeTurner", fn := fun _ => fun
  | [d] => { results := [.lit (.bool false)], args := [d] }
  | _ => none }
def FnExactOppositeTurnerWrongFalsely : Prop := fnExactOppositeTurnerRow.holds Try.pinned (OpenSpec.ofChange fnExactOppositeTurnerWrong)

/-- 'laws.FnExactOppositeReader': WHATEVER THE INPUT: true; the input reads as it did. -/
def fnExactOppositeReaderSpec : ChangeSpec := { name := "fnExactOppositeReader", fn := fun _ => fun
  | [d] => { results := [.lit (.bool true)], args := [d] }
  | _ => none }
def fnExactOppositeReaderRow : OpenClaim := { program := "ytgcbnlhdfdomaaa", sum := "b06d1ec92c21f2b7680eeb15c02a03f0c981b11f75e4a960a39e5be57a31855a", func := "loop.example/g01134/laws.FnExactOppositeReader", spec := "fnExactOppositeReader", plainKeys := false, apart := false }
def FnExactOppositeReaderSaid : Prop := fnExactOppositeReaderRow.holds Try.pinned (OpenSpec.ofChange fnExactOppositeReaderSpec)

/-- ITS FALSE NEIGHBOUR: 'it returns false'. Refute it at one input. -/
def fnExactOppositeReaderWrong : ChangeSpec := { name := "fnExactOppositeReader", fn := fun _ => fun
  | [d] => { results := [.lit (.bool false)], args := [d] }
  | _ => none }
def FnExactOppositeReaderWrongFalsely : Prop := fnExactOppositeReaderRow.holds Try.pinned (OpenSpec.ofChange fnExactOppositeReaderWrong)

/-- 'laws.FnExactManyOf': WHATEVER THE INPUT: true; the input reads as it did. -/
def fnExactManyOfSpec : ChangeSpec := { name := "fnExactManyOf", fn := fun _ => fun
  | [d] => { results := [.lit (.bool true)], args := [d] }
  | _ => none }
def fnExactManyOfRow : OpenClaim := { program := "ytgcbnlhdfdomaaa", sum := "b06d1ec92c21f2b7680eeb15c02a03f0c981b11f75e4a960a39e5be57a31855a", func := "loop.example/g01134/laws.FnExactManyOf", spec := "fnExactManyOf", plainKeys := false, apart := false }
def FnExactManyOfSaid : Prop := fnExactManyOfRow.holds Try.pinned (OpenSpec.ofChange fnExactManyOfSpec)

/-- ITS FALSE NEIGHBOUR: 'it returns false'. Refute it at one input. -/
def fnExactManyOfWrong : ChangeSpec := { name := "fnExactManyOf", fn := fun _ => fun
  | [d] => { results := [.lit (.bool false)], args := [d] }
  | _ => none }
def FnExactManyOfWrongFalsely : Prop := fnExactManyOfRow.holds Try.pinned (OpenSpec.ofChange fnExactManyOfWrong)

/-- 'laws.FnExactBothReaders': WHATEVER THE INPUT: true; the input reads as it did. -/
def fnExactBothReadersSpec : ChangeSpec := { name := "fnExactBothReaders", fn := fun _ => fun
  | [d1, d2] => { results := [.lit (.bool true)], args := [d1, d2] }
  | _ => none }
def fnExactBothReadersRow : OpenClaim := { program := "ytgcbnlhdfdomaaa", sum := "b06d1ec92c21f2b7680eeb15c02a03f0c981b11f75e4a960a39e5be57a31855a", func := "loop.example/g01134/laws.FnExactBothReaders", spec := "fnExactBothReaders", unfollowed := true, recurses := true, plainKeys := false, apart := false }
def FnExactBothReadersSaid : Prop := fnExactBothReadersRow.holds Try.pinned (OpenSpec.ofChange fnExactBothReadersSpec)

/-- ITS FALSE NEIGHBOUR: 'it returns false'. Refute it at one input. -/
def fnExactBothReadersWrong : ChangeSpec := { name := "fnExactBothReaders", fn := fun _ => fun
  | [d1, d2] => { results := [.lit (.bool false)], args := [d1, d2] }
  | _ => none }
def FnExactBothReadersWrongFalsely : Prop := fnExactBothReadersRow.holds Try.pinned (OpenSpec.ofChange fnExactBothReadersWrong)

/-- 'laws.FnExactCountTaken': WHATEVER THE INPUT: true; the input reads as it did. -/
def fnExactCountTakenSpec : ChangeSpec := { name := "fnExactCountTaken", fn := fun _ => fun
  | [d1, d2] => { results := [.lit (.bool true)], args := [d1, d2] }
  | _ => none }
def fnExactCountTakenRow : OpenClaim := { program := "ytgcbnlhdfdomaaa", sum := "b06d1ec92c21f2b7680eeb15c02a03f0c981b11f75e4a960a39e5be57a31855a", func := "loop.example/g01134/laws.FnExactCountTaken", spec := "fnExactCountTaken", plainKeys := false, apart := false }
def FnExactCountTakenSaid : Prop := fnExactCountTakenRow.holds Try.pinned (OpenSpec.ofChange fnExactCountTakenSpec)

/-- ITS FALSE NEIGHBOUR: 'it returns false'. Refute it at one input. -/
def fnExactCountTakenWrong : ChangeSpec := { name := "fnExactCountTaken", fn := fun _ => fun
  | [d1, d2] => { results := [.lit (.bool false)], args := [d1, d2] }
  | _ => none }
def FnExactCountTakenWrongFalsely : Prop := fnExactCountTakenRow.holds Try.pinned (OpenSpec.ofChange fnExactCountTakenWrong)

/-- 'laws.FnExactVerdictOf': WHATEVER THE INPUT: true; the input reads as it did. -/
def fnExactVerdictOfSpec : ChangeSpec := { name := "fnExactVerdictOf", fn := fun _ => fun
  | [d1, d2] => { results := [.lit (.bool true)], args := [d1, d2] }
  | _ => none }
def fnExactVerdictOfRow : OpenClaim := { program := "ytgcbnlhdfdomaaa", sum := "b06d1ec92c21f2b7680eeb15c02a03f0c981b11f75e4a960a39e5be57a31855a", func := "loop.example/g01134/laws.FnExactVerdictOf", spec := "fnExactVerdictOf", unfollowed := true, recurses := true, plainKeys := false, apart := false }
def FnExactVerdictOfSaid : Prop := fnExactVerdictOfRow.holds Try.pinned (OpenSpec.ofChange fnExactVerdictOfSpec)

/-- ITS FALSE NEIGHBOUR: 'it returns false'. Refute it at one input. -/
def fnExactVerdictOfWrong : ChangeSpec := { name := "fnExactVerdictOf", fn := fun _ => fun
  | [d1, d2] => { results := [.lit (.bool false)], args := [d1, d2] }
  | _ => none }
def FnExactVerdictOfWrongFalsely : Prop := fnExactVerdictOfRow.holds Try.pinned (OpenSpec.ofChange fnExactVerdictOfWrong)

/-- 'laws.FnExactUsedStates': WHATEVER THE INPUT: true; the input reads as it did. -/
def fnExactUsedStatesSpec : ChangeSpec := { name := "fnExactUsedStates", fn := fun _ => fun
  | [d] => { results := [.lit (.bool true)], args := [d] }
  | _ => none }
def fnExactUsedStatesRow : OpenClaim := { program := "ytgcbnlhdfdomaaa", sum := "b06d1ec92c21f2b7680eeb15c02a03f0c981b11f75e4a960a39e5be57a31855a", func := "loop.example/g01134/laws.FnExactUsedStates", spec := "fnExactUsedStates", recurses := true, plainKeys := false, apart := false }
def FnExactUsedStatesSaid : Prop := fnExactUsedStatesRow.holds Try.pinned (OpenSpec.ofChange fnExactUsedStatesSpec)

/-- ITS FALSE NEIGHBOUR: 'it returns false'. Refute it at one input. -/
def fnExactUsedStatesWrong : ChangeSpec := { name := "fnExactUsedStates", fn := fun _ => fun
  | [d] => { results := [.lit (.bool false)], args := [d] }
  | _ => none }
def FnExactUsedStatesWrongFalsely : Prop := fnExactUsedStatesRow.holds Try.pinned (OpenSpec.ofChange fnExactUsedStatesWrong)

/-- 'laws.FnExactModTurner': WHATEVER THE INPUT: true; the input reads as it did. -/
def fnExactModTurnerSpec : ChangeSpec := { name := "fnExactModTurner", fn := fun _ => fun
  | [d1, d2] => { results := [.lit (.bool true)], args := [d1, d2] }
  | _ => none }
def fnExactModTurnerRow : OpenClaim := { program := "ytgcbnlhdfdomaaa", sum := "b06d1ec92c21f2b7680eeb15c02a03f0c981b11f75e4a960a39e5be57a31855a", func := "loop.example/g01134/laws.FnExactModTurner", spec := "fnExactModTurner", unfollowed := true, recurses := true, plainKeys := false, apart := false }
def FnExactModTurnerSaid : Prop := fnExactModTurnerRow.holds Try.pinned (OpenSpec.ofChange fnExactModTurnerSpec)

/-- ITS FALSE NEIGHBOUR: 'it returns false'. Refute it at one input. -/
def fnExactModTurnerWrong : ChangeSpec := { name := "fnExactModTurner", fn := fun _ => fun
  | [d1, d2] => { results := [.lit (.bool false)], args := [d1, d2] }
  | _ => none }
def FnExactModTurnerWrongFalsely : Prop := fnExactModTurnerRow.holds Try.pinned (OpenSpec.ofChange fnExactModTurnerWrong)

/- THE SECOND FORM. 'bulk': how many values and letters a reading holds, each counted each time it is reached (what is shared counts as often as it is met; a slice's spare places count too). A statement '..UptoSaid' is the law's where the arguments, and the package variables that the reading takes, are together of bulk at most 1048576: NARROWER than '..Said'. Prove '..Said' where nothing that the law and all that it calls make is longer than what came in: it says more and counts as full. Else prove '..UptoSaid'. A law counts once. -/
mutual
def uptoBulk {H : Type} : DataW H → Nat
  | .lit (.string bytes) => bytes.length + 1
  | .lit _ => 1
  | .nil => 1
  | .ptr d => uptoBulk d + 1
  | .slice elems spare => uptoBulkAll elems + uptoBulkAll spare + 1
  | .agg parts => uptoBulkAll parts + 1
  | .iface _ d => uptoBulk d + 1
  | .map entries => uptoBulkEntries entries + 1
  | .held _ => 1
def uptoBulkAll {H : Type} : List (DataW H) → Nat
  | [] => 0
  | d :: r => uptoBulk d + uptoBulkAll r
def uptoBulkEntries {H : Type} : List (Lit × DataW H) → Nat
  | [] => 0
  | x :: r => uptoBulkEntry x + uptoBulkEntries r
def uptoBulkEntry {H : Type} : Lit × DataW H → Nat
  | (.string bytes, d) => bytes.length + uptoBulk d + 1
  | (_, d) => uptoBulk d + 1
 end
def uptoSmall : (H : Type) → List (DataW H) → Bool := fun _ ds => decide (uptoBulkAll ds ≤ 1048576)
def OpenSpec.upto (s : _root_.Go.ChangeSpec) : _root_.Go.OpenSpec := { _root_.Go.OpenSpec.ofChange s with cond := some uptoSmall }

/-- 'laws.FnExactValidTurner', WHERE WHAT IT READS IS OF BULK AT MOST 1048576: true; the input reads as it did. -/
def fnExactValidTurnerUptoRow : OpenClaim := { program := "ytgcbnlhdfdomaaa", sum := "b06d1ec92c21f2b7680eeb15c02a03f0c981b11f75e4a960a39e5be57a31855a", func := "loop.example/g01134/laws.FnExactValidTurner", spec := "fnExactValidTurner", plainKeys := false, apart := false, narrowed := true }
def FnExactValidTurnerUptoSaid : Prop := fnExactValidTurnerUptoRow.holds Try.pinned (OpenSpec.upto fnExactValidTurnerSpec)

/-- 'laws.FnExactSameTurner', WHERE WHAT IT READS IS OF BULK AT MOST 1048576: true; the input reads as it did. -/
def fnExactSameTurnerUptoRow : OpenClaim := { program := "ytgcbnlhdfdomaaa", sum := "b06d1ec92c21f2b7680eeb15c02a03f0c981b11f75e4a960a39e5be57a31855a", func := "loop.example/g01134/laws.FnExactSameTurner", spec := "fnExactSameTurner", unfollowed := true, recurses := true, plainKeys := false, apart := false, narrowed := true }
def FnExactSameTurnerUptoSaid : Prop := fnExactSameTurnerUptoRow.holds Try.pinned (OpenSpec.upto fnExactSameTurnerSpec)

/-- 'laws.FnExactStepOf', WHERE WHAT IT READS IS OF BULK AT MOST 1048576: true; the input reads as it did. -/
def fnExactStepOfUptoRow : OpenClaim := { program := "ytgcbnlhdfdomaaa", sum := "b06d1ec92c21f2b7680eeb15c02a03f0c981b11f75e4a960a39e5be57a31855a", func := "loop.example/g01134/laws.FnExactStepOf", spec := "fnExactStepOf", plainKeys := false, apart := false, narrowed := true }
def FnExactStepOfUptoSaid : Prop := fnExactStepOfUptoRow.holds Try.pinned (OpenSpec.upto fnExactStepOfSpec)

/-- 'laws.FnExactIsOneWay', WHERE WHAT IT READS IS OF BULK AT MOST 1048576: true; the input reads as it did. -/
def fnExactIsOneWayUptoRow : OpenClaim := { program := "ytgcbnlhdfdomaaa", sum := "b06d1ec92c21f2b7680eeb15c02a03f0c981b11f75e4a960a39e5be57a31855a", func := "loop.example/g01134/laws.FnExactIsOneWay", spec := "fnExactIsOneWay", plainKeys := false, apart := false, narrowed := true }
def FnExactIsOneWayUptoSaid : Prop := fnExactIsOneWayUptoRow.holds Try.pinned (OpenSpec.upto fnExactIsOneWaySpec)

/-- 'laws.FnExactOppositeTurner', WHERE WHAT IT READS IS OF BULK AT MOST 1048576: true; the input reads as it did. -/
def fnExactOppositeTurnerUptoRow : OpenClaim := { program := "ytgcbnlhdfdomaaa", sum := "b06d1ec92c21f2b7680eeb15c02a03f0c981b11f75e4a960a39e5be57a31855a", func := "loop.example/g01134/laws.FnExactOppositeTurner", spec := "fnExactOppositeTurner", unfollowed := true, recurses := true, plainKeys := false, apart := false, narrowed := true }
def FnExactOppositeTurnerUptoSaid : Prop := fnExactOppositeTurnerUptoRow.holds Try.pinned (OpenSpec.upto fnExactOppositeTurnerSpec)

/-- 'laws.FnExactOppositeReader', WHERE WHAT IT READS IS OF BULK AT MOST 1048576: true; the input reads as it did. -/
def fnExactOppositeReaderUptoRow : OpenClaim := { program := "ytgcbnlhdfdomaaa", sum := "b06d1ec92c21f2b7680eeb15c02a03f0c981b11f75e4a960a39e5be57a31855a", func := "loop.example/g01134/laws.FnExactOppositeReader", spec := "fnExactOppositeReader", plainKeys := false, apart := false, narrowed := true }
def FnExactOppositeReaderUptoSaid : Prop := fnExactOppositeReaderUptoRow.holds Try.pinned (OpenSpec.upto fnExactOppositeReaderSpec)

/-- 'laws.FnExactManyOf', WHERE WHAT IT READS IS OF BULK AT MOST 1048576: true; the input reads as it did. -/
def fnExactManyOfUptoRow : OpenClaim := { program := "ytgcbnlhdfdomaaa", sum := "b06d1ec92c21f2b7680eeb15c02a03f0c981b11f75e4a960a39e5be57a31855a", func := "loop.example/g01134/laws.FnExactManyOf", spec := "fnExactManyOf", plainKeys := false, apart := false, narrowed := true }
def FnExactManyOfUptoSaid : Prop := fnExactManyOfUptoRow.holds Try.pinned (OpenSpec.upto fnExactManyOfSpec)

/-- 'laws.FnExactBothReaders', WHERE WHAT IT READS IS OF BULK AT MOST 1048576: true; the input reads as it did. -/
def fnExactBothReadersUptoRow : OpenClaim := { program := "ytgcbnlhdfdomaaa", sum := "b06d1ec92c21f2b7680eeb15c02a03f0c981b11f75e4a960a39e5be57a31855a", func := "loop.example/g01134/laws.FnExactBothReaders", spec := "fnExactBothReaders", unfollowed := true, recurses := true, plainKeys := false, apart := false, narrowed := true }
def FnExactBothReadersUptoSaid : Prop := fnExactBothReadersUptoRow.holds Try.pinned (OpenSpec.upto fnExactBothReadersSpec)

/-- 'laws.FnExactCountTaken', WHERE WHAT IT READS IS OF BULK AT MOST 1048576: true; the input reads as it did. -/
def fnExactCountTakenUptoRow : OpenClaim := { program := "ytgcbnlhdfdomaaa", sum := "b06d1ec92c21f2b7680eeb15c02a03f0c981b11f75e4a960a39e5be57a31855a", func := "loop.example/g01134/laws.FnExactCountTaken", spec := "fnExactCountTaken", plainKeys := false, apart := false, narrowed := true }
def FnExactCountTakenUptoSaid : Prop := fnExactCountTakenUptoRow.holds Try.pinned (OpenSpec.upto fnExactCountTakenSpec)

/-- 'laws.FnExactVerdictOf', WHERE WHAT IT READS IS OF BULK AT MOST 1048576: true; the input reads as it did. -/
def fnExactVerdictOfUptoRow : OpenClaim := { program := "ytgcbnlhdfdomaaa", sum := "b06d1ec92c21f2b7680eeb15c02a03f0c981b11f75e4a960a39e5be57a31855a", func := "loop.example/g01134/laws.FnExactVerdictOf", spec := "fnExactVerdictOf", unfollowed := true, recurses := true, plainKeys := false, apart := false, narrowed := true }
def FnExactVerdictOfUptoSaid : Prop := fnExactVerdictOfUptoRow.holds Try.pinned (OpenSpec.upto fnExactVerdictOfSpec)

/-- 'laws.FnExactUsedStates', WHERE WHAT IT READS IS OF BULK AT MOST 1048576: true; the input reads as it did. -/
def fnExactUsedStatesUptoRow : OpenClaim := { program := "ytgcbnlhdfdomaaa", sum := "b06d1ec92c21f2b7680eeb15c02a03f0c981b11f75e4a960a39e5be57a31855a", func := "loop.example/g01134/laws.FnExactUsedStates", spec := "fnExactUsedStates", recurses := true, plainKeys := false, apart := false, narrowed := true }
def FnExactUsedStatesUptoSaid : Prop := fnExactUsedStatesUptoRow.holds Try.pinned (OpenSpec.upto fnExactUsedStatesSpec)

/-- 'laws.FnExactModTurner', WHERE WHAT IT READS IS OF BULK AT MOST 1048576: true; the input reads as it did. -/
def fnExactModTurnerUptoRow : OpenClaim := { program := "ytgcbnlhdfdomaaa", sum := "b06d1ec92c21f2b7680eeb15c02a03f0c981b11f75e4a960a39e5be57a31855a", func := "loop.example/g01134/laws.FnExactModTurner", spec := "fnExactModTurner", unfollowed := true, recurses := true, plainKeys := false, apart := false, narrowed := true }
def FnExactModTurnerUptoSaid : Prop := fnExactModTurnerUptoRow.holds Try.pinned (OpenSpec.upto fnExactModTurnerSpec)

end Rows
end Go.Proofs.Ytgcbnlhdfdomaaa
