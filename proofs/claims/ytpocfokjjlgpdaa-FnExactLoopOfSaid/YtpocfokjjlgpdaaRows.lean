/-
  No cell of these rows narrows 'for every input' (looked for: loops, veiled, ifaces, maps, wideKeys, modest, calm, conditions, laid).
  DERIVED. THE GIVEN ROWS OF THIS SEAT. 6 by the template 'for every input the law returns true; each argument reads behind the call as it read before'; 0 by the template 'total and deterministic' (their statements: YtpocfokjjlgpdaaTotals.lean).
  GIVEN WITH THE SEED: the statements are not yours to turn. If you find one false, say at which input.
  Laid BY PROGRAM, IN A SANDBOX (cutbox-rows.mjs): the forced cells as the released guide's own fill.sh prints them over the translation 329f31a6fd16cfca… (all of the seat's roots in one cut). By AI agents, Wed Nov 11 2026. No macro, syntax, notation, axiom, sorry.
-/
import Derived.Test.YtpocfokjjlgpdaaChecked
import GoSem.Claim
import GoSem.ClaimJoined
import GoSem.ClaimMapViews
import Derived.JoinedTies
import Derived.KernelRfl
namespace Go.Proofs.Ytpocfokjjlgpdaa
/- THE CELL 'sum', in the pinned program and in every row, IS THE sha256 OF THE DUMP (.gsa) THAT YtpocfokjjlgpdaaProg.lean LOADS. Nothing in Lean hashes anything: it is a label: what it is worth is what the hold of that sum in a sandbox is worth. -/
noncomputable def Try.pinned : Pinned := { name := "ytpocfokjjlgpdaa", sum := "329f31a6fd16cfca2179e9446b9c1faf142e013f37f63faf22f0ddc284150c03", checked := Try.checked }
namespace Rows
def none {H : Type} : Left H := { results := [], args := [] }

/-- 'laws.FnExactRunTurner': WHATEVER THE INPUT: true; the input reads as it did. -/
def fnExactRunTurnerSpec : ChangeSpec := { name := "fnExactRunTurner", fn := fun _ => fun
  | [d1, d2] => { results := [.lit (.bool true)], args := [d1, d2] }
  | _ => none }
def fnExactRunTurnerRow : OpenClaim := { program := "ytpocfokjjlgpdaa", sum := "329f31a6fd16cfca2179e9446b9c1faf142e013f37f63faf22f0ddc284150c03", func := "loop.example/g01134/laws.FnExactRunTurner", spec := "fnExactRunTurner", unfollowed := true, recurses := true, plainKeys := false, apart := false }
def FnExactRunTurnerSaid : Prop := fnExactRunTurnerRow.holds Try.pinned (OpenSpec.ofChange fnExactRunTurnerSpec)

/-- ITS FALSE NEIGHBOUR: 'it returns false'. Refute it at one input. -/
def fnExactRunTurnerWrong : ChangeSpec := { name := "fnExactRunTurner", fn := fun _ => fun
  | [d1, d2] => { results := [.lit (.bool false)], args := [d1, d2] }
  | _ => none }
def FnExactRunTurnerWrongFalsely : Prop := fnExactRunTurnerRow.holds Try.pinned (OpenSpec.ofChange fnExactRunTurnerWrong)

/-- 'laws.FnExactVerdictOf': WHATEVER THE INPUT: true; the input reads as it did. -/
def fnExactVerdictOfSpec : ChangeSpec := { name := "fnExactVerdictOf", fn := fun _ => fun
  | [d1, d2] => { results := [.lit (.bool true)], args := [d1, d2] }
  | _ => none }
def fnExactVerdictOfRow : OpenClaim := { program := "ytpocfokjjlgpdaa", sum := "329f31a6fd16cfca2179e9446b9c1faf142e013f37f63faf22f0ddc284150c03", func := "loop.example/g01134/laws.FnExactVerdictOf", spec := "fnExactVerdictOf", unfollowed := true, recurses := true, plainKeys := false, apart := false }
def FnExactVerdictOfSaid : Prop := fnExactVerdictOfRow.holds Try.pinned (OpenSpec.ofChange fnExactVerdictOfSpec)

/-- ITS FALSE NEIGHBOUR: 'it returns false'. Refute it at one input. -/
def fnExactVerdictOfWrong : ChangeSpec := { name := "fnExactVerdictOf", fn := fun _ => fun
  | [d1, d2] => { results := [.lit (.bool false)], args := [d1, d2] }
  | _ => none }
def FnExactVerdictOfWrongFalsely : Prop := fnExactVerdictOfRow.holds Try.pinned (OpenSpec.ofChange fnExactVerdictOfWrong)

/-- 'laws.FnExactLoopOf': WHATEVER THE INPUT: true; the input reads as it did. -/
def fnExactLoopOfSpec : ChangeSpec := { name := "fnExactLoopOf", fn := fun _ => fun
  | [d1, d2] => { results := [.lit (.bool true)], args := [d1, d2] }
  | _ => none }
def fnExactLoopOfRow : OpenClaim := { program := "ytpocfokjjlgpdaa", sum := "329f31a6fd16cfca2179e9446b9c1faf142e013f37f63faf22f0ddc284150c03", func := "loop.example/g01134/laws.FnExactLoopOf", spec := "fnExactLoopOf", unfollowed := true, recurses := true, plainKeys := false, apart := false }
def FnExactLoopOfSaid : Prop := fnExactLoopOfRow.holds Try.pinned (OpenSpec.ofChange fnExactLoopOfSpec)

/-- ITS FALSE NEIGHBOUR: 'it returns false'. Refute it at one input. -/
def fnExactLoopOfWrong : ChangeSpec := { name := "fnExactLoopOf", fn := fun _ => fun
  | [d1, d2] => { results := [.lit (.bool false)], args := [d1, d2] }
  | _ => none }
def FnExactLoopOfWrongFalsely : Prop := fnExactLoopOfRow.holds Try.pinned (OpenSpec.ofChange fnExactLoopOfWrong)

/-- 'laws.FnExactVisitsOf': WHATEVER THE INPUT: true; the input reads as it did. -/
def fnExactVisitsOfSpec : ChangeSpec := { name := "fnExactVisitsOf", fn := fun _ => fun
  | [d1, d2] => { results := [.lit (.bool true)], args := [d1, d2] }
  | _ => none }
def fnExactVisitsOfRow : OpenClaim := { program := "ytpocfokjjlgpdaa", sum := "329f31a6fd16cfca2179e9446b9c1faf142e013f37f63faf22f0ddc284150c03", func := "loop.example/g01134/laws.FnExactVisitsOf", spec := "fnExactVisitsOf", unfollowed := true, recurses := true, plainKeys := false, apart := false }
def FnExactVisitsOfSaid : Prop := fnExactVisitsOfRow.holds Try.pinned (OpenSpec.ofChange fnExactVisitsOfSpec)

/-- ITS FALSE NEIGHBOUR: 'it returns false'. Refute it at one input. -/
def fnExactVisitsOfWrong : ChangeSpec := { name := "fnExactVisitsOf", fn := fun _ => fun
  | [d1, d2] => { results := [.lit (.bool false)], args := [d1, d2] }
  | _ => none }
def FnExactVisitsOfWrongFalsely : Prop := fnExactVisitsOfRow.holds Try.pinned (OpenSpec.ofChange fnExactVisitsOfWrong)

/-- 'laws.FnExactTurnsOf': WHATEVER THE INPUT: true; the input reads as it did. -/
def fnExactTurnsOfSpec : ChangeSpec := { name := "fnExactTurnsOf", fn := fun _ => fun
  | [d1, d2] => { results := [.lit (.bool true)], args := [d1, d2] }
  | _ => none }
def fnExactTurnsOfRow : OpenClaim := { program := "ytpocfokjjlgpdaa", sum := "329f31a6fd16cfca2179e9446b9c1faf142e013f37f63faf22f0ddc284150c03", func := "loop.example/g01134/laws.FnExactTurnsOf", spec := "fnExactTurnsOf", unfollowed := true, recurses := true, plainKeys := false, apart := false }
def FnExactTurnsOfSaid : Prop := fnExactTurnsOfRow.holds Try.pinned (OpenSpec.ofChange fnExactTurnsOfSpec)

/-- ITS FALSE NEIGHBOUR: 'it returns false'. Refute it at one input. -/
def fnExactTurnsOfWrong : ChangeSpec := { name := "fnExactTurnsOf", fn := fun _ => fun
  | [d1, d2] => { results := [.lit (.bool false)], args := [d1, d2] }
  | _ => none }
def FnExactTurnsOfWrongFalsely : Prop := fnExactTurnsOfRow.holds Try.pinned (OpenSpec.ofChange fnExactTurnsOfWrong)

/-- 'laws.FnExactUsedStates': WHATEVER THE INPUT: true; the input reads as it did. -/
def fnExactUsedStatesSpec : ChangeSpec := { name := "fnExactUsedStates", fn := fun _ => fun
  | [d] => { results := [.lit (.bool true)], args := [d] }
  | _ => none }
def fnExactUsedStatesRow : OpenClaim := { program := "ytpocfokjjlgpdaa", sum := "329f31a6fd16cfca2179e9446b9c1faf142e013f37f63faf22f0ddc284150c03", func := "loop.example/g01134/laws.FnExactUsedStates", spec := "fnExactUsedStates", recurses := true, plainKeys := false, apart := false }
def FnExactUsedStatesSaid : Prop := fnExactUsedStatesRow.holds Try.pinned (OpenSpec.ofChange fnExactUsedStatesSpec)

/-- ITS FALSE NEIGHBOUR: 'it returns false'. Refute it at one input. -/
def fnExactUsedStatesWrong : ChangeSpec := { name := "fnExactUsedStates", fn := fun _ => fun
  | [d] => { results := [.lit (.bool false)], args := [d] }
  | _ => none }
def FnExactUsedStatesWrongFalsely : Prop := fnExactUsedStatesRow.holds Try.pinned (OpenSpec.ofChange fnExactUsedStatesWrong)

/- THE SECOND FORM. 'bulk': how many values and letters a reading holds, each counted each time it is reached (what is shared counts as often as it is met; a slice's spare places count too). A statement '..UptoSaid' is the law's where the arguments, and the package variables that the reading takes, are together of bulk at most 1048576: NARROWER than '..Said'. Prove '..Said' where nothing that the law and all that it calls make is longer than what came in: it says more and counts as full. Else prove '..UptoSaid'. A law counts once. -/
mutual
def uptoBulk {H : Type} : DataW H → Nat
  | .lit (.string bytes) => bytes.length + 1
  | .lit _ => 1
  | .nil => 1
  | .ptr d => uptoBulk d + 1
  | .slice elems spare => uptoBulkAll elems + uptoBulkAll spare + 1
  | .agg parts => uptoBulkAll parts + 1
  | .iface _ d => uptoBulk d + 1
  | .map entries => uptoBulkEntries entries + 1
  | .held _ => 1
def uptoBulkAll {H : Type} : List (DataW H) → Nat
  | [] => 0
  | d :: r => uptoBulk d + uptoBulkAll r
def uptoBulkEntries {H : Type} : List (Lit × DataW H) → Nat
  | [] => 0
  | x :: r => uptoBulkEntry x + uptoBulkEntries r
def uptoBulkEntry {H : Type} : Lit × DataW H → Nat
  | (.string bytes, d) => bytes.length + uptoBulk d + 1
  | (_, d) => uptoBulk d + 1
 end
def uptoSmall : (H : Type) → List (DataW H) → Bool := fun _ ds => decide (uptoBulkAll ds ≤ 1048576)
def OpenSpec.upto (s : _root_.Go.ChangeSpec) : _root_.Go.OpenSpec := { _root_.Go.OpenSpec.ofChange s with cond := some uptoSmall }

/-- 'laws.FnExactRunTurner', WHERE WHAT IT READS IS OF BULK AT MOST 1048576: true; the input reads as it did. -/
def fnExactRunTurnerUptoRow : OpenClaim := { program := "ytpocfokjjlgpdaa", sum := "329f31a6fd16cfca2179e9446b9c1faf142e013f37f63faf22f0ddc284150c03", func := "loop.example/g01134/laws.FnExactRunTurner", spec := "fnExactRunTurner", unfollowed := true, recurses := true, plainKeys := false, apart := false, narrowed := true }
def FnExactRunTurnerUptoSaid : Prop := fnExactRunTurnerUptoRow.holds Try.pinned (OpenSpec.upto fnExactRunTurnerSpec)

/-- 'laws.FnExactVerdictOf', WHERE WHAT IT READS IS OF BULK AT MOST 1048576: true; the input reads as it did. -/
def fnExactVerdictOfUptoRow : OpenClaim := { program := "ytpocfokjjlgpdaa", sum := "329f31a6fd16cfca2179e9446b9c1faf142e013f37f63faf22f0ddc284150c03", func := "loop.example/g01134/laws.FnExactVerdictOf", spec := "fnExactVerdictOf", unfollowed := true, recurses := true, plainKeys := false, apart := false, narrowed := true }
def FnExactVerdictOfUptoSaid : Prop := fnExactVerdictOfUptoRow.holds Try.pinned (OpenSpec.upto fnExactVerdictOfSpec)

/-- 'laws.FnExactLoopOf', WHERE WHAT IT READS IS OF BULK AT MOST 1048576: true; the input reads as it did. -/
def fnExactLoopOfUptoRow : OpenClaim := { program := "ytpocfokjjlgpdaa", sum := "329f31a6fd16cfca2179e9446b9c1faf142e013f37f63faf22f0ddc284150c03", func := "loop.example/g01134/laws.FnExactLoopOf", spec := "fnExactLoopOf", unfollowed := true, recurses := true, plainKeys := false, apart := false, narrowed := true }
def FnExactLoopOfUptoSaid : Prop := fnExactLoopOfUptoRow.holds Try.pinned (OpenSpec.upto fnExactLoopOfSpec)

/-- 'laws.FnExactVisitsOf', WHERE WHAT IT READS IS OF BULK AT MOST 1048576: true; the input reads as it did. -/
def fnExactVisitsOfUptoRow : OpenClaim := { program := "ytpocfokjjlgpdaa", sum := "329f31a6fd16cfca2179e9446b9c1faf142e013f37f63faf22f0ddc284150c03", func := "loop.example/g01134/laws.FnExactVisitsOf", spec := "fnExactVisitsOf", unfollowed := true, recurses := true, plainKeys := false, apart := false, narrowed := true }
def FnExactVisitsOfUptoSaid : Prop := fnExactVisitsOfUptoRow.holds Try.pinned (OpenSpec.upto fnExactVisitsOfSpec)

/-- 'laws.FnExactTurnsOf', WHERE WHAT IT READS IS OF BULK AT MOST 1048576: true; the input reads as it did. -/
def fnExactTurnsOfUptoRow : OpenClaim := { program := "ytpocfokjjlgpdaa", sum := "329f31a6fd16cfca2179e9446b9c1faf142e013f37f63faf22f0ddc284150c03", func := "loop.example/g01134/laws.FnExactTurnsOf", spec := "fnExactTurnsOf", unfollowed := true, recurses := true, plainKeys := false, apart := false, narrowed := true }
def FnExactTurnsOfUptoSaid : Prop := fnExactTurnsOfUptoRow.holds Try.pinned (OpenSpec.upto fnExactTurnsOfSpec)

/-- 'laws.FnExactUsedStates', WHERE WHAT IT READS IS OF BULK AT MOST 1048576: true; the input reads as it did. -/
def fnExactUsedStatesUptoRow : OpenClaim := { program := "ytpocfokjjlgpdaa", sum := "329f31a6fd16cfca2179e9446b9c1faf142e013f37f63faf22f0ddc284150c03", func := "loop.example/g01134/laws.FnExactUsedStates", spec := "fnExactUsedStates", recurses := true, plainKeys := false, apart := false, narrowed := true }
def FnExactUsedStatesUptoSaid : Prop := fnExactUsedStatesUptoRow.holds Try.pinned (OpenSpec.upto fnExactUsedStatesSpec)

end Rows
end Go.Proofs.Ytpocfokjjlgpdaa
