/-
  No cell of these rows narrows 'for every input' (looked for: loops, veiled, ifaces, maps, wideKeys, modest, calm, conditions, laid).
  DERIVED. THE GIVEN ROWS OF THIS SEAT. 12 by the template 'for every input the law returns true; each argument reads behind the call as it read before'; 0 by the template 'total and deterministic' (their statements: YtdkalefepdlccaaTotals.lean).
  GIVEN WITH THE SEED: the statements are not yours to turn. If you find one false, say at which input.
  Laid BY PROGRAM, IN A SANDBOX (cutbox-rows.mjs): the forced cells as the released guide's own fill.sh prints them over the translation ec0456ef61772a0c… (all of the seat's roots in one cut). By AI agents, Wed Nov 11 2026. No macro, syntax, notation, axiom, sorry.
-/
import Derived.Test.YtdkalefepdlccaaChecked
import GoSem.Claim
import GoSem.ClaimJoined
import GoSem.ClaimMapViews
import Derived.JoinedTies
import Derived.KernelRfl
namespace Go.Proofs.Ytdkalefepdlccaa
/- THE CELL 'sum', in the pinned program and in every row, IS THE sha256 OF THE DUMP (.gsa) THAT YtdkalefepdlccaaProg.lean LOADS. Nothing in Lean hashes anything: it is a label: what it is worth is what the hold of that sum in a sandbox is worth. -/
noncomputable def Try.pinned : Pinned := { name := "ytdkalefepdlccaa", sum := "ec0456ef61772a0c8360992564ef163656abfc3e142928f7c17bbbae683d8d0c", checked := Try.checked }
namespace Rows
def none {H : Type} : Left H := { results := [], args := [] }

/-- 'laws.FnExactRunTurner': WHATEVER THE INPUT: true; the input reads as it did. -/
def fnExactRunTurnerSpec : ChangeSpec := { name := "fnExactRunTurner", fn := fun _ => fun
  | [d1, d2] => { results := [.lit (.bool true)], args := [d1, d2] }
  | _ => none }
def fnExactRunTurnerRow : OpenClaim := { program := "ytdkalefepdlccaa", sum := "ec0456ef61772a0c8360992564ef163656abfc3e142928f7c17bbbae683d8d0c", func := "loop.example/g01134/laws.FnExactRunTurner", spec := "fnExactRunTurner", unfollowed := true, recurses := true, plainKeys := false, apart := false }
def FnExactRunTurnerSaid : Prop := fnExactRunTurnerRow.holds Try.pinned (OpenSpec.ofChange fnExactRunTurnerSpec)

/-- ITS FALSE NEIGHBOUR: 'it returns false'. Refute it at one input. -/
def fnExactRunTurnerWrong : ChangeSpec := { name := "fnExactRunTurner", fn := fun _ => fun
  | [d1, d2] => { results := [.lit (.bool false)], args := [d1, d2] }
  | _ => none }
def FnExactRunTurnerWrongFalsely : Prop := fnExactRunTurnerRow.holds Try.pinned (OpenSpec.ofChange fnExactRunTurnerWrong)

/-- 'laws.FnExactVerdictOf': WHATEVER THE INPUT: true; the input reads as it did. -/
def fnExactVerdictOfSpec : ChangeSpec := { name := "fnExactVerdictOf", fn := fun _ => fun
  | [d1, d2] => { results := [.lit (.bool true)], args := [d1, d2] }
  | _ => none }
def fnExactVerdictOfRow : OpenClaim := { program := "ytdkalefepdlccaa", sum := "ec0456ef61772a0c8360992564ef163656abfc3e142928f7c17bbbae683d8d0c", func := "loop.example/g01134/laws.FnExactVerdictOf", spec := "fnExactVerdictOf", unfollowed := true, recurses := true, plainKeys := false, apart := false }
def FnExactVerdictOfSaid : Prop := fnExactVerdictOfRow.holds Try.pinned (OpenSpec.ofChange fnExactVerdictOfSpec)

/-- ITS FALSE NEIGHBOUR: 'it returns false'. Refute it at one input. -/
def fnExactVerdictOfWrong : ChangeSpec := { name := "fnExactVerdictOf", fn := fun _ => fun
  | [d1, d2] => { results := [.lit (.bool false)], args := [d1, d2] }
  | _ => none }
def FnExactVerdictOfWrongFalsely : Prop := fnExactVerdictOfRow.holds Try.pinned (OpenSpec.ofChange fnExactVerdictOfWrong)

/-- 'laws.FnExactLoopOf': WHATEVER THE INPUT: true; the input reads as it did. -/
def fnExactLoopOfSpec : ChangeSpec := { name := "fnExactLoopOf", fn := fun _ => fun
  | [d1, d2] => { results := [.lit (.bool true)], args := [d1, d2] }
  | _ => none }
def fnExactLoopOfRow : OpenClaim := { program := "ytdkalefepdlccaa", sum := "ec0456ef61772a0c8360992564ef163656abfc3e142928f7c17bbbae683d8d0c", func := "loop.example/g01134/laws.FnExactLoopOf", spec := "fnExactLoopOf", unfollowed := true, recurses := true, plainKeys := false, apart := false }
def FnExactLoopOfSaid : Prop := fnExactLoopOfRow.holds Try.pinned (OpenSpec.ofChange fnExactLoopOfSpec)

/-- ITS FALSE NEIGHBOUR: 'it returns false'. Refute it at one input. -/
def fnExactLoopOfWrong : ChangeSpec := { name := "fnExactLoopOf", fn := fun _ => fun
  | [d1, d2] => { results := [.lit (.bool false)], args := [d1, d2] }
  | _ => none }
def FnExactLoopOfWrongFalsely : Prop := fnExactLoopOfRow.holds Try.pinned (OpenSpec.ofChange fnExactLoopOfWrong)

/-- 'laws.FnExactVisitsOf': WHATEVER THE INPUT: true; the input reads as it did. -/
def fnExactVisitsOfSpec : ChangeSpec := { name := "fnExactVisitsOf", fn := fun _ => fun
  | [d1, d2] => { results := [.lit (.bool true)], args := [d1, d2] }
  | _ => none }
def fnExactVisitsOfRow : OpenClaim := { program := "ytdkalefepdlccaa", sum := "ec0456ef61772a0c8360992564ef163656abfc3e142928f7c17bbbae683d8d0c", func := "loop.example/g01134/laws.FnExactVisitsOf", spec := "fnExactVisitsOf", unfollowed := true, recurses := true, plainKeys := false, apart := false }
def FnExactVisitsOfSaid : Prop := fnExactVisitsOfRow.holds Try.pinned (OpenSpec.ofChange fnExactVisitsOfSpec)

/-- ITS FALSE NEIGHBOUR: 'it returns false'. Refute it at one input. -/
def fnExactVisitsOfWrong : ChangeSpec := { name := "fnExactVisitsOf", fn := fun _ => fun
  | [d1, d2] => { results := [.lit (.bool false)], args := [d1, d2] }
  | _ => none }
def FnExactVisitsOfWrongFalsely : Prop := fnExactVisitsOfRow.holds Try.pinned (OpenSpec.ofChange fnExactVisitsOfWrong)

/-- 'laws.FnExactTurnsOf': WHATEVER THE INPUT: true; the input reads as it did. -/
def fnExactTurnsOfSpec : ChangeSpec := { name := "fnExactTurnsOf", fn := fun _ => fun
  | [d1, d2] => { results := [.lit (.bool true)], args := [d1, d2] }
  | _ => none }
def fnExactTurnsOfRow : OpenClaim := { program := "ytdkalefepdlccaa", sum := "ec0456ef61772a0c8360992564ef163656abfc3e142928f7c17bbbae683d8d0c", func := "loop.example/g01134/laws.FnExactTurnsOf", spec := "fnExactTurnsOf", unfollowed := true, recurses := true, plainKeys := false, apart := false }
def FnExactTurnsOfSaid : Prop := fnExactTurnsOfRow.holds Try.pinned (OpenSpec.ofChange fnExactTurnsOfSpec)

/-- ITS FALSE NEIGHBOUR: 'it returns false'. Refute it at one input. -/
def fnExactTurnsOfWrong : ChangeSpec := { name := "fnExactTurnsOf", fn := fun _ => fun
  | [d1, d2] => { results := [.lit (.bool false)], args := [d1, d2] }
  | _ => none }
def FnExactTurnsOfWrongFalsely : Prop := fnExactTurnsOfRow.holds Try.pinned (OpenSpec.ofChange fnExactTurnsOfWrong)

/-- 'laws.FnExactCrossingsOf': WHATEVER THE INPUT: true; the input reads as it did. -/
def fnExactCrossingsOfSpec : ChangeSpec := { name := "fnExactCrossingsOf", fn := fun _ => fun
  | [d1, d2] => { results := [.lit (.bool true)], args := [d1, d2] }
  | _ => none }
def fnExactCrossingsOfRow : OpenClaim := { program := "ytdkalefepdlccaa", sum := "ec0456ef61772a0c8360992564ef163656abfc3e142928f7c17bbbae683d8d0c", func := "loop.example/g01134/laws.FnExactCrossingsOf", spec := "fnExactCrossingsOf", unfollowed := true, recurses := true, plainKeys := false, apart := false }
def FnExactCrossingsOfSaid : Prop := fnExactCrossingsOfRow.holds Try.pinned (OpenSpec.ofChange fnExactCrossingsOfSpec)

/-- ITS FALSE NEIGHBOUR: 'it returns false'. Refute it at one input. -/
def fnExactCrossingsOfWrong : ChangeSpec := { name := "fnExactCrossingsOf", fn := fun _ => fun
  | [d1, d2] => { results := [.lit (.bool false)], args := [d1, d2] }
  | _ => none }
def FnExactCrossingsOfWrongFalsely : Prop := fnExactCrossingsOfRow.holds Try.pinned (OpenSpec.ofChange fnExactCrossingsOfWrong)

/-- 'laws.FnExactLongestCrossing': WHATEVER THE INPUT: true; the input reads as it did. -/
def fnExactLongestCrossingSpec : ChangeSpec := { name := "fnExactLongestCrossing", fn := fun _ => fun
  | [d1, d2] => { results := [.lit (.bool true)], args := [d1, d2] }
  | _ => none }
def fnExactLongestCrossingRow : OpenClaim := { program := "ytdkalefepdlccaa", sum := "ec0456ef61772a0c8360992564ef163656abfc3e142928f7c17bbbae683d8d0c", func := "loop.example/g01134/laws.FnExactLongestCrossing", spec := "fnExactLongestCrossing", unfollowed := true, recurses := true, plainKeys := false, apart := false }
def FnExactLongestCrossingSaid : Prop := fnExactLongestCrossingRow.holds Try.pinned (OpenSpec.ofChange fnExactLongestCrossingSpec)

/-- ITS FALSE NEIGHBOUR: 'it returns false'. Refute it at one input. -/
def fnExactLongestCrossingWrong : ChangeSpec := { name := "fnExactLongestCrossing", fn := fun _ => fun
  | [d1, d2] => { results := [.lit (.bool false)], args := [d1, d2] }
  | _ => none }
def FnExactLongestCrossingWrongFalsely : Prop := fnExactLongestCrossingRow.holds Try.pinned (OpenSpec.ofChange fnExactLongestCrossingWrong)

/-- 'laws.FnExactCutWord': WHATEVER THE INPUT: true; the input reads as it did. -/
def fnExactCutWordSpec : ChangeSpec := { name := "fnExactCutWord", fn := fun _ => fun
  | [d1, d2, d3, d4] => { results := [.lit (.bool true)], args := [d1, d2, d3, d4] }
  | _ => none }
def fnExactCutWordRow : OpenClaim := { program := "ytdkalefepdlccaa", sum := "ec0456ef61772a0c8360992564ef163656abfc3e142928f7c17bbbae683d8d0c", func := "loop.example/g01134/laws.FnExactCutWord", spec := "fnExactCutWord", inPlace := ["internal/abi.NoEscape", "internal/bytealg.MakeNoZero"], unfollowed := true, recurses := true, plainKeys := false, apart := false }
def FnExactCutWordSaid : Prop := fnExactCutWordRow.holds Try.pinned (OpenSpec.ofChange fnExactCutWordSpec)

/-- ITS FALSE NEIGHBOUR: 'it returns false'. Refute it at one input. -/
def fnExactCutWordWrong : ChangeSpec := { name := "fnExactCutWord", fn := fun _ => fun
  | [d1, d2, d3, d4] => { results := [.lit (.bool false)], args := [d1, d2, d3, d4] }
  | _ => none }
def FnExactCutWordWrongFalsely : Prop := fnExactCutWordRow.holds Try.pinned (OpenSpec.ofChange fnExactCutWordWrong)

/-- 'laws.FnExactPumpWord': WHATEVER THE INPUT: true; the input reads as it did. -/
def fnExactPumpWordSpec : ChangeSpec := { name := "fnExactPumpWord", fn := fun _ => fun
  | [d1, d2, d3, d4, d5] => { results := [.lit (.bool true)], args := [d1, d2, d3, d4, d5] }
  | _ => none }
def fnExactPumpWordRow : OpenClaim := { program := "ytdkalefepdlccaa", sum := "ec0456ef61772a0c8360992564ef163656abfc3e142928f7c17bbbae683d8d0c", func := "loop.example/g01134/laws.FnExactPumpWord", spec := "fnExactPumpWord", inPlace := ["internal/abi.NoEscape", "internal/bytealg.MakeNoZero"], unfollowed := true, recurses := true, plainKeys := false, apart := false }
def FnExactPumpWordSaid : Prop := fnExactPumpWordRow.holds Try.pinned (OpenSpec.ofChange fnExactPumpWordSpec)

/-- ITS FALSE NEIGHBOUR: 'it returns false'. Refute it at one input. -/
def fnExactPumpWordWrong : ChangeSpec := { name := "fnExactPumpWord", fn := fun _ => fun
  | [d1, d2, d3, d4, d5] => { results := [.lit (.bool false)], args := [d1, d2, d3, d4, d5] }
  | _ => none }
def FnExactPumpWordWrongFalsely : Prop := fnExactPumpWordRow.holds Try.pinned (OpenSpec.ofChange fnExactPumpWordWrong)

/-- 'laws.FnExactLeastCut': WHATEVER THE INPUT: true; the input reads as it did. -/
def fnExactLeastCutSpec : ChangeSpec := { name := "fnExactLeastCut", fn := fun _ => fun
  | [d1, d2] => { results := [.lit (.bool true)], args := [d1, d2] }
  | _ => none }
def fnExactLeastCutRow : OpenClaim := { program := "ytdkalefepdlccaa", sum := "ec0456ef61772a0c8360992564ef163656abfc3e142928f7c17bbbae683d8d0c", func := "loop.example/g01134/laws.FnExactLeastCut", spec := "fnExactLeastCut", unfollowed := true, recurses := true, plainKeys := false, apart := false }
def FnExactLeastCutSaid : Prop := fnExactLeastCutRow.holds Try.pinned (OpenSpec.ofChange fnExactLeastCutSpec)

/-- ITS FALSE NEIGHBOUR: 'it returns false'. Refute it at one input. -/
def fnExactLeastCutWrong : ChangeSpec := { name := "fnExactLeastCut", fn := fun _ => fun
  | [d1, d2] => { results := [.lit (.bool false)], args := [d1, d2] }
  | _ => none }
def FnExactLeastCutWrongFalsely : Prop := fnExactLeastCutRow.holds Try.pinned (OpenSpec.ofChange fnExactLeastCutWrong)

/-- 'laws.FnExactNextPlaces': WHATEVER THE INPUT: true; the input reads as it did. -/
def fnExactNextPlacesSpec : ChangeSpec := { name := "fnExactNextPlaces", fn := fun _ => fun
  | [d1, d2, d3] => { results := [.lit (.bool true)], args := [d1, d2, d3] }
  | _ => none }
def fnExactNextPlacesRow : OpenClaim := { program := "ytdkalefepdlccaa", sum := "ec0456ef61772a0c8360992564ef163656abfc3e142928f7c17bbbae683d8d0c", func := "loop.example/g01134/laws.FnExactNextPlaces", spec := "fnExactNextPlaces", plainKeys := false, apart := false }
def FnExactNextPlacesSaid : Prop := fnExactNextPlacesRow.holds Try.pinned (OpenSpec.ofChange fnExactNextPlacesSpec)

/-- ITS FALSE NEIGHBOUR: 'it returns false'. Refute it at one input. -/
def fnExactNextPlacesWrong : ChangeSpec := { name := "fnExactNextPlaces", fn := fun _ => fun
  | [d1, d2, d3] => { results := [.lit (.bool false)], args := [d1, d2, d3] }
  | _ => none }
def FnExactNextPlacesWrongFalsely : Prop := fnExactNextPlacesRow.holds Try.pinned (OpenSpec.ofChange fnExactNextPlacesWrong)

/-- 'laws.FnExactCheckWay': WHATEVER THE INPUT: true; the input reads as it did. -/
def fnExactCheckWaySpec : ChangeSpec := { name := "fnExactCheckWay", fn := fun _ => fun
  | [d1, d2, d3] => { results := [.lit (.bool true)], args := [d1, d2, d3] }
  | _ => none }
def fnExactCheckWayRow : OpenClaim := { program := "ytdkalefepdlccaa", sum := "ec0456ef61772a0c8360992564ef163656abfc3e142928f7c17bbbae683d8d0c", func := "loop.example/g01134/laws.FnExactCheckWay", spec := "fnExactCheckWay", plainKeys := false, apart := false }
def FnExactCheckWaySaid : Prop := fnExactCheckWayRow.holds Try.pinned (OpenSpec.ofChange fnExactCheckWaySpec)

/-- ITS FALSE NEIGHBOUR: 'it returns false'. Refute it at one input. -/
def fnExactCheckWayWrong : ChangeSpec := { name := "fnExactCheckWay", fn := fun _ => fun
  | [d1, d2, d3] => { results := [.lit (.bool false)], args := [d1, d2, d3] }
  | _ => none }
def FnExactCheckWayWrongFalsely : Prop := fnExactCheckWayRow.holds Try.pinned (OpenSpec.ofChange fnExactCheckWayWrong)

/- THE SECOND FORM. 'bulk': how many values and letters a reading holds, each counted each time it is reached (what is shared counts as often as it is met; a slice's spare places count too). A statement '..UptoSaid' is the law's where the arguments, and the package variables that the reading takes, are together of bulk at most 1048576: NARROWER than '..Said'. Prove '..Said' where nothing that the law and all that it calls make is longer than what came in: it says more and counts as full. Else prove '..UptoSaid'. A law counts once. -/
mutual
def uptoBulk {H : Type} : DataW H → Nat
  | .lit (.string bytes) => bytes.length + 1
  | .lit _ => 1
  | .nil => 1
  | .ptr d => uptoBulk d + 1
  | .slice elems spare => uptoBulkAll elems + uptoBulkAll spare + 1
  | .agg parts => uptoBulkAll parts + 1
  | .iface _ d => uptoBulk d + 1
  | .map entries => uptoBulkEntries entries + 1
  | .held _ => 1
def uptoBulkAll {H : Type} : List (DataW H) → Nat
  | [] => 0
  | d :: r => uptoBulk d + uptoBulkAll r
def uptoBulkEntries {H : Type} : List (Lit × DataW H) → Nat
  | [] => 0
  | x :: r => uptoBulkEntry x + uptoBulkEntries r
def uptoBulkEntry {H : Type} : Lit × DataW H → Nat
  | (.string bytes, d) => bytes.length + uptoBulk d + 1
  | (_, d) => uptoBulk d + 1
 end
def uptoSmall : (H : Type) → List (DataW H) → Bool := fun _ ds => decide (uptoBulkAll ds ≤ 1048576)
def OpenSpec.upto (s : _root_.Go.ChangeSpec) : _root_.Go.OpenSpec := { _root_.Go.OpenSpec.ofChange s with cond := some uptoSmall }

/-- 'laws.FnExactRunTurner', WHERE WHAT IT READS IS OF BULK AT MOST 1048576: true; the input reads as it did. -/
def fnExactRunTurnerUptoRow : OpenClaim := { program := "ytdkalefepdlccaa", sum := "ec0456ef61772a0c8360992564ef163656abfc3e142928f7c17bbbae683d8d0c", func := "loop.example/g01134/laws.FnExactRunTurner", spec := "fnExactRunTurner", unfollowed := true, recurses := true, plainKeys := false, apart := false, narrowed := true }
def FnExactRunTurnerUptoSaid : Prop := fnExactRunTurnerUptoRow.holds Try.pinned (OpenSpec.upto fnExactRunTurnerSpec)

/-- 'laws.FnExactVerdictOf', WHERE WHAT IT READS IS OF BULK AT MOST 1048576: true; the input reads as it did. -/
def fnExactVerdictOfUptoRow : OpenClaim := { program := "ytdkalefepdlccaa", sum := "ec0456ef61772a0c8360992564ef163656abfc3e142928f7c17bbbae683d8d0c", func := "loop.example/g01134/laws.FnExactVerdictOf", spec := "fnExactVerdictOf", unfollowed := true, recurses := true, plainKeys := false, apart := false, narrowed := true }
def FnExactVerdictOfUptoSaid : Prop := fnExactVerdictOfUptoRow.holds Try.pinned (OpenSpec.upto fnExactVerdictOfSpec)

/-- 'laws.FnExactLoopOf', WHERE WHAT IT READS IS OF BULK AT MOST 1048576: true; the input reads as it did. -/
def fnExactLoopOfUptoRow : OpenClaim := { program := "ytdkalefepdlccaa", sum := "ec0456ef61772a0c8360992564ef163656abfc3e142928f7c17bbbae683d8d0c", func := "loop.example/g01134/laws.FnExactLoopOf", spec := "fnExactLoopOf", unfollowed := true, recurses := true, plainKeys := false, apart := false, narrowed := true }
def FnExactLoopOfUptoSaid : Prop := fnExactLoopOfUptoRow.holds Try.pinned (OpenSpec.upto fnExactLoopOfSpec)

/-- 'laws.FnExactVisitsOf', WHERE WHAT IT READS IS OF BULK AT MOST 1048576: true; the input reads as it did. -/
def fnExactVisitsOfUptoRow : OpenClaim := { program := "ytdkalefepdlccaa", sum := "ec0456ef61772a0c8360992564ef163656abfc3e142928f7c17bbbae683d8d0c", func := "loop.example/g01134/laws.FnExactVisitsOf", spec := "fnExactVisitsOf", unfollowed := true, recurses := true, plainKeys := false, apart := false, narrowed := true }
def FnExactVisitsOfUptoSaid : Prop := fnExactVisitsOfUptoRow.holds Try.pinned (OpenSpec.upto fnExactVisitsOfSpec)

/-- 'laws.FnExactTurnsOf', WHERE WHAT IT READS IS OF BULK AT MOST 1048576: true; the input reads as it did. -/
def fnExactTurnsOfUptoRow : OpenClaim := { program := "ytdkalefepdlccaa", sum := "ec0456ef61772a0c8360992564ef163656abfc3e142928f7c17bbbae683d8d0c", func := "loop.example/g01134/laws.FnExactTurnsOf", spec := "fnExactTurnsOf", unfollowed := true, recurses := true, plainKeys := false, apart := false, narrowed := true }
def FnExactTurnsOfUptoSaid : Prop := fnExactTurnsOfUptoRow.holds Try.pinned (OpenSpec.upto fnExactTurnsOfSpec)

/-- 'laws.FnExactCrossingsOf', WHERE WHAT IT READS IS OF BULK AT MOST 1048576: true; the input reads as it did. -/
def fnExactCrossingsOfUptoRow : OpenClaim := { program := "ytdkalefepdlccaa", sum := "ec0456ef61772a0c8360992564ef163656abfc3e142928f7c17bbbae683d8d0c", func := "loop.example/g01134/laws.FnExactCrossingsOf", spec := "fnExactCrossingsOf", unfollowed := true, recurses := true, plainKeys := false, apart := false, narrowed := true }
def FnExactCrossingsOfUptoSaid : Prop := fnExactCrossingsOfUptoRow.holds Try.pinned (OpenSpec.upto fnExactCrossingsOfSpec)

/-- 'laws.FnExactLongestCrossing', WHERE WHAT IT READS IS OF BULK AT MOST 1048576: true; the input reads as it did. -/
def fnExactLongestCrossingUptoRow : OpenClaim := { program := "ytdkalefepdlccaa", sum := "ec0456ef61772a0c8360992564ef163656abfc3e142928f7c17bbbae683d8d0c", func := "loop.example/g01134/laws.FnExactLongestCrossing", spec := "fnExactLongestCrossing", unfollowed := true, recurses := true, plainKeys := false, apart := false, narrowed := true }
def FnExactLongestCrossingUptoSaid : Prop := fnExactLongestCrossingUptoRow.holds Try.pinned (OpenSpec.upto fnExactLongestCrossingSpec)

/-- 'laws.FnExactCutWord', WHERE WHAT IT READS IS OF BULK AT MOST 1048576: true; the input reads as it did. -/
def fnExactCutWordUptoRow : OpenClaim := { program := "ytdkalefepdlccaa", sum := "ec0456ef61772a0c8360992564ef163656abfc3e142928f7c17bbbae683d8d0c", func := "loop.example/g01134/laws.FnExactCutWord", spec := "fnExactCutWord", inPlace := ["internal/abi.NoEscape", "internal/bytealg.MakeNoZero"], unfollowed := true, recurses := true, plainKeys := false, apart := false, narrowed := true }
def FnExactCutWordUptoSaid : Prop := fnExactCutWordUptoRow.holds Try.pinned (OpenSpec.upto fnExactCutWordSpec)

/-- 'laws.FnExactPumpWord', WHERE WHAT IT READS IS OF BULK AT MOST 1048576: true; the input reads as it did. -/
def fnExactPumpWordUptoRow : OpenClaim := { program := "ytdkalefepdlccaa", sum := "ec0456ef61772a0c8360992564ef163656abfc3e142928f7c17bbbae683d8d0c", func := "loop.example/g01134/laws.FnExactPumpWord", spec := "fnExactPumpWord", inPlace := ["internal/abi.NoEscape", "internal/bytealg.MakeNoZero"], unfollowed := true, recurses := true, plainKeys := false, apart := false, narrowed := true }
def FnExactPumpWordUptoSaid : Prop := fnExactPumpWordUptoRow.holds Try.pinned (OpenSpec.upto fnExactPumpWordSpec)

/-- 'laws.FnExactLeastCut', WHERE WHAT IT READS IS OF BULK AT MOST 1048576: true; the input reads as it did. -/
def fnExactLeastCutUptoRow : OpenClaim := { program := "ytdkalefepdlccaa", sum := "ec0456ef61772a0c8360992564ef163656abfc3e142928f7c17bbbae683d8d0c", func := "loop.example/g01134/laws.FnExactLeastCut", spec := "fnExactLeastCut", unfollowed := true, recurses := true, plainKeys := false, apart := false, narrowed := true }
def FnExactLeastCutUptoSaid : Prop := fnExactLeastCutUptoRow.holds Try.pinned (OpenSpec.upto fnExactLeastCutSpec)

/-- 'laws.FnExactNextPlaces', WHERE WHAT IT READS IS OF BULK AT MOST 1048576: true; the input reads as it did. -/
def fnExactNextPlacesUptoRow : OpenClaim := { program := "ytdkalefepdlccaa", sum := "ec0456ef61772a0c8360992564ef163656abfc3e142928f7c17bbbae683d8d0c", func := "loop.example/g01134/laws.FnExactNextPlaces", spec := "fnExactNextPlaces", plainKeys := false, apart := false, narrowed := true }
def FnExactNextPlacesUptoSaid : Prop := fnExactNextPlacesUptoRow.holds Try.pinned (OpenSpec.upto fnExactNextPlacesSpec)

/-- 'laws.FnExactCheckWay', WHERE WHAT IT READS IS OF BULK AT MOST 1048576: true; the input reads as it did. -/
def fnExactCheckWayUptoRow : OpenClaim := { program := "ytdkalefepdlccaa", sum := "ec0456ef61772a0c8360992564ef163656abfc3e142928f7c17bbbae683d8d0c", func := "loop.example/g01134/laws.FnExactCheckWay", spec := "fnExactCheckWay", plainKeys := false, apart := false, narrowed := true }
def FnExactCheckWayUptoSaid : Prop := fnExactCheckWayUptoRow.holds Try.pinned (OpenSpec.upto fnExactCheckWaySpec)

end Rows
end Go.Proofs.Ytdkalefepdlccaa
