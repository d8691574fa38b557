/-
  No cell of these rows narrows 'for every input' (looked for: loops, veiled, ifaces, maps, wideKeys, modest, calm, conditions, laid).
  DERIVED. THE GIVEN ROWS OF THIS SEAT. 6 by the template 'for every input the law returns true; each argument reads behind the call as it read before'; 0 by the template 'total and deterministic' (their statements: YthfaafhgeihhkaaTotals.lean).
  GIVEN WITH THE SEED: the statements are not yours to turn. If you find one false, say at which input.
  Laid BY PROGRAM, IN A SANDBOX (cutbox-rows.mjs): the forced cells as the released guide's own fill.sh prints them over the translation cf7b7ac9d9b6e7c8… (all of the seat's roots in one cut). By AI agents, Wed Nov 11 2026. No macro, syntax, notation, axiom, sorry.
-/
import Derived.Test.YthfaafhgeihhkaaChecked
import GoSem.Claim
import GoSem.ClaimJoined
import GoSem.ClaimMapViews
import Derived.JoinedTies
import Derived.KernelRfl
namespace Go.Proofs.Ythfaafhgeihhkaa
/- THE CELL 'sum', in the pinned program and in every row, IS THE sha256 OF THE DUMP (.gsa) THAT YthfaafhgeihhkaaProg.lean LOADS. Nothing in Lean hashes anything: it is a label: what it is worth is what the hold of that sum in a sandbox is worth. -/
noncomputable def Try.pinned : Pinned := { name := "ythfaafhgeihhkaa", sum := "cf7b7ac9d9b6e7c812c48928a559e37680e85ec6404d18ef44c1604bfa9c167b", checked := Try.checked }
namespace Rows
def none {H : Type} : Left H := { results := [], args := [] }

/-- 'laws.FnExactCheckWay': WHATEVER THE INPUT: true; the input reads as it did. -/
def fnExactCheckWaySpec : ChangeSpec := { name := "fnExactCheckWay", fn := fun _ => fun
  | [d1, d2, d3] => { results := [.lit (.bool true)], args := [d1, d2, d3] }
  | _ => none }
def fnExactCheckWayRow : OpenClaim := { program := "ythfaafhgeihhkaa", sum := "cf7b7ac9d9b6e7c812c48928a559e37680e85ec6404d18ef44c1604bfa9c167b", func := "loop.example/g01134/laws.FnExactCheckWay", spec := "fnExactCheckWay", plainKeys := false, apart := false }
def FnExactCheckWaySaid : Prop := fnExactCheckWayRow.holds Try.pinned (OpenSpec.ofChange fnExactCheckWaySpec)

/-- ITS FALSE NEIGHBOUR: 'it returns false'. Refute it at one input. -/
def fnExactCheckWayWrong : ChangeSpec := { name := "fnExactCheckWay", fn := fun _ => fun
  | [d1, d2, d3] => { results := [.lit (.bool false)], args := [d1, d2, d3] }
  | _ => none }
def FnExactCheckWayWrongFalsely : Prop := fnExactCheckWayRow.holds Try.pinned (OpenSpec.ofChange fnExactCheckWayWrong)

/-- 'laws.FnExactCellFits': WHATEVER THE INPUT: true; the input reads as it did. -/
def fnExactCellFitsSpec : ChangeSpec := { name := "fnExactCellFits", fn := fun _ => fun
  | [d1, d2, d3, d4] => { results := [.lit (.bool true)], args := [d1, d2, d3, d4] }
  | _ => none }
def fnExactCellFitsRow : OpenClaim := { program := "ythfaafhgeihhkaa", sum := "cf7b7ac9d9b6e7c812c48928a559e37680e85ec6404d18ef44c1604bfa9c167b", func := "loop.example/g01134/laws.FnExactCellFits", spec := "fnExactCellFits", unfollowed := true, recurses := true, plainKeys := false, apart := false }
def FnExactCellFitsSaid : Prop := fnExactCellFitsRow.holds Try.pinned (OpenSpec.ofChange fnExactCellFitsSpec)

/-- ITS FALSE NEIGHBOUR: 'it returns false'. Refute it at one input. -/
def fnExactCellFitsWrong : ChangeSpec := { name := "fnExactCellFits", fn := fun _ => fun
  | [d1, d2, d3, d4] => { results := [.lit (.bool false)], args := [d1, d2, d3, d4] }
  | _ => none }
def FnExactCellFitsWrongFalsely : Prop := fnExactCellFitsRow.holds Try.pinned (OpenSpec.ofChange fnExactCellFitsWrong)

/-- 'laws.FnExactCheckCrossings': WHATEVER THE INPUT: true; the input reads as it did. -/
def fnExactCheckCrossingsSpec : ChangeSpec := { name := "fnExactCheckCrossings", fn := fun _ => fun
  | [d1, d2, d3] => { results := [.lit (.bool true)], args := [d1, d2, d3] }
  | _ => none }
def fnExactCheckCrossingsRow : OpenClaim := { program := "ythfaafhgeihhkaa", sum := "cf7b7ac9d9b6e7c812c48928a559e37680e85ec6404d18ef44c1604bfa9c167b", func := "loop.example/g01134/laws.FnExactCheckCrossings", spec := "fnExactCheckCrossings", unfollowed := true, recurses := true, plainKeys := false, apart := false }
def FnExactCheckCrossingsSaid : Prop := fnExactCheckCrossingsRow.holds Try.pinned (OpenSpec.ofChange fnExactCheckCrossingsSpec)

/-- ITS FALSE NEIGHBOUR: 'it returns false'. Refute it at one input. -/
def fnExactCheckCrossingsWrong : ChangeSpec := { name := "fnExactCheckCrossings", fn := fun _ => fun
  | [d1, d2, d3] => { results := [.lit (.bool false)], args := [d1, d2, d3] }
  | _ => none }
def FnExactCheckCrossingsWrongFalsely : Prop := fnExactCheckCrossingsRow.holds Try.pinned (OpenSpec.ofChange fnExactCheckCrossingsWrong)

/-- 'laws.FnExactEitherWanderer': WHATEVER THE INPUT: true; the input reads as it did. -/
def fnExactEitherWandererSpec : ChangeSpec := { name := "fnExactEitherWanderer", fn := fun _ => fun
  | [d1, d2] => { results := [.lit (.bool true)], args := [d1, d2] }
  | _ => none }
def fnExactEitherWandererRow : OpenClaim := { program := "ythfaafhgeihhkaa", sum := "cf7b7ac9d9b6e7c812c48928a559e37680e85ec6404d18ef44c1604bfa9c167b", func := "loop.example/g01134/laws.FnExactEitherWanderer", spec := "fnExactEitherWanderer", unfollowed := true, recurses := true, plainKeys := false, apart := false }
def FnExactEitherWandererSaid : Prop := fnExactEitherWandererRow.holds Try.pinned (OpenSpec.ofChange fnExactEitherWandererSpec)

/-- ITS FALSE NEIGHBOUR: 'it returns false'. Refute it at one input. -/
def fnExactEitherWandererWrong : ChangeSpec := { name := "fnExactEitherWanderer", fn := fun _ => fun
  | [d1, d2] => { results := [.lit (.bool false)], args := [d1, d2] }
  | _ => none }
def FnExactEitherWandererWrongFalsely : Prop := fnExactEitherWandererRow.holds Try.pinned (OpenSpec.ofChange fnExactEitherWandererWrong)

/-- 'laws.FnExactThenTurner': WHATEVER THE INPUT: true; the input reads as it did. -/
def fnExactThenTurnerSpec : ChangeSpec := { name := "fnExactThenTurner", fn := fun _ => fun
  | [d1, d2] => { results := [.lit (.bool true)], args := [d1, d2] }
  | _ => none }
def fnExactThenTurnerRow : OpenClaim := { program := "ythfaafhgeihhkaa", sum := "cf7b7ac9d9b6e7c812c48928a559e37680e85ec6404d18ef44c1604bfa9c167b", func := "loop.example/g01134/laws.FnExactThenTurner", spec := "fnExactThenTurner", unfollowed := true, recurses := true, plainKeys := false, apart := false }
def FnExactThenTurnerSaid : Prop := fnExactThenTurnerRow.holds Try.pinned (OpenSpec.ofChange fnExactThenTurnerSpec)

/-- ITS FALSE NEIGHBOUR: 'it returns false'. Refute it at one input. -/
def fnExactThenTurnerWrong : ChangeSpec := { name := "fnExactThenTurner", fn := fun _ => fun
  | [d1, d2] => { results := [.lit (.bool false)], args := [d1, d2] }
  | _ => none }
def FnExactThenTurnerWrongFalsely : Prop := fnExactThenTurnerRow.holds Try.pinned (OpenSpec.ofChange fnExactThenTurnerWrong)

/-- 'laws.FnExactReachedPlaces': WHATEVER THE INPUT: true; the input reads as it did. -/
def fnExactReachedPlacesSpec : ChangeSpec := { name := "fnExactReachedPlaces", fn := fun _ => fun
  | [d1, d2] => { results := [.lit (.bool true)], args := [d1, d2] }
  | _ => none }
def fnExactReachedPlacesRow : OpenClaim := { program := "ythfaafhgeihhkaa", sum := "cf7b7ac9d9b6e7c812c48928a559e37680e85ec6404d18ef44c1604bfa9c167b", func := "loop.example/g01134/laws.FnExactReachedPlaces", spec := "fnExactReachedPlaces", unfollowed := true, recurses := true, plainKeys := false, apart := false }
def FnExactReachedPlacesSaid : Prop := fnExactReachedPlacesRow.holds Try.pinned (OpenSpec.ofChange fnExactReachedPlacesSpec)

/-- ITS FALSE NEIGHBOUR: 'it returns false'. Refute it at one input. -/
def fnExactReachedPlacesWrong : ChangeSpec := { name := "fnExactReachedPlaces", fn := fun _ => fun
  | [d1, d2] => { results := [.lit (.bool false)], args := [d1, d2] }
  | _ => none }
def FnExactReachedPlacesWrongFalsely : Prop := fnExactReachedPlacesRow.holds Try.pinned (OpenSpec.ofChange fnExactReachedPlacesWrong)

/- THE SECOND FORM. 'bulk': how many values and letters a reading holds, each counted each time it is reached (what is shared counts as often as it is met; a slice's spare places count too). A statement '..UptoSaid' is the law's where the arguments, and the package variables that the reading takes, are together of bulk at most 1048576: NARROWER than '..Said'. Prove '..Said' where nothing that the law and all that it calls make is longer than what came in: it says more and counts as full. Else prove '..UptoSaid'. A law counts once. -/
mutual
def uptoBulk {H : Type} : DataW H → Nat
  | .lit (.string bytes) => bytes.length + 1
  | .lit _ => 1
  | .nil => 1
  | .ptr d => uptoBulk d + 1
  | .slice elems spare => uptoBulkAll elems + uptoBulkAll spare + 1
  | .agg parts => uptoBulkAll parts + 1
  | .iface _ d => uptoBulk d + 1
  | .map entries => uptoBulkEntries entries + 1
  | .held _ => 1
def uptoBulkAll {H : Type} : List (DataW H) → Nat
  | [] => 0
  | d :: r => uptoBulk d + uptoBulkAll r
def uptoBulkEntries {H : Type} : List (Lit × DataW H) → Nat
  | [] => 0
  | x :: r => uptoBulkEntry x + uptoBulkEntries r
def uptoBulkEntry {H : Type} : Lit × DataW H → Nat
  | (.string bytes, d) => bytes.length + uptoBulk d + 1
  | (_, d) => uptoBulk d + 1
 end
def uptoSmall : (H : Type) → List (DataW H) → Bool := fun _ ds => decide (uptoBulkAll ds ≤ 1048576)
def OpenSpec.upto (s : _root_.Go.ChangeSpec) : _root_.Go.OpenSpec := { _root_.Go.OpenSpec.ofChange s with cond := some uptoSmall }

/-- 'laws.FnExactCheckWay', WHERE WHAT IT READS IS OF BULK AT MOST 1048576: true; the input reads as it did. -/
def fnExactCheckWayUptoRow : OpenClaim := { program := "ythfaafhgeihhkaa", sum := "cf7b7ac9d9b6e7c812c48928a559e37680e85ec6404d18ef44c1604bfa9c167b", func := "loop.example/g01134/laws.FnExactCheckWay", spec := "fnExactCheckWay", plainKeys := false, apart := false, narrowed := true }
def FnExactCheckWayUptoSaid : Prop := fnExactCheckWayUptoRow.holds Try.pinned (OpenSpec.upto fnExactCheckWaySpec)

/-- 'laws.FnExactCellFits', WHERE WHAT IT READS IS OF BULK AT MOST 1048576: true; the input reads as it did. -/
def fnExactCellFitsUptoRow : OpenClaim := { program := "ythfaafhgeihhkaa", sum := "cf7b7ac9d9b6e7c812c48928a559e37680e85ec6404d18ef44c1604bfa9c167b", func := "loop.example/g01134/laws.FnExactCellFits", spec := "fnExactCellFits", unfollowed := true, recurses := true, plainKeys := false, apart := false, narrowed := true }
def FnExactCellFitsUptoSaid : Prop := fnExactCellFitsUptoRow.holds Try.pinned (OpenSpec.upto fnExactCellFitsSpec)

/-- 'laws.FnExactCheckCrossings', WHERE WHAT IT READS IS OF BULK AT MOST 1048576: true; the input reads as it did. -/
def fnExactCheckCrossingsUptoRow : OpenClaim := { program := "ythfaafhgeihhkaa", sum := "cf7b7ac9d9b6e7c812c48928a559e37680e85ec6404d18ef44c1604bfa9c167b", func := "loop.example/g01134/laws.FnExactCheckCrossings", spec := "fnExactCheckCrossings", unfollowed := true, recurses := true, plainKeys := false, apart := false, narrowed := true }
def FnExactCheckCrossingsUptoSaid : Prop := fnExactCheckCrossingsUptoRow.holds Try.pinned (OpenSpec.upto fnExactCheckCrossingsSpec)

/-- 'laws.FnExactEitherWanderer', WHERE WHAT IT READS IS OF BULK AT MOST 1048576: true; the input reads as it did. -/
def fnExactEitherWandererUptoRow : OpenClaim := { program := "ythfaafhgeihhkaa", sum := "cf7b7ac9d9b6e7c812c48928a559e37680e85ec6404d18ef44c1604bfa9c167b", func := "loop.example/g01134/laws.FnExactEitherWanderer", spec := "fnExactEitherWanderer", unfollowed := true, recurses := true, plainKeys := false, apart := false, narrowed := true }
def FnExactEitherWandererUptoSaid : Prop := fnExactEitherWandererUptoRow.holds Try.pinned (OpenSpec.upto fnExactEitherWandererSpec)

/-- 'laws.FnExactThenTurner', WHERE WHAT IT READS IS OF BULK AT MOST 1048576: true; the input reads as it did. -/
def fnExactThenTurnerUptoRow : OpenClaim := { program := "ythfaafhgeihhkaa", sum := "cf7b7ac9d9b6e7c812c48928a559e37680e85ec6404d18ef44c1604bfa9c167b", func := "loop.example/g01134/laws.FnExactThenTurner", spec := "fnExactThenTurner", unfollowed := true, recurses := true, plainKeys := false, apart := false, narrowed := true }
def FnExactThenTurnerUptoSaid : Prop := fnExactThenTurnerUptoRow.holds Try.pinned (OpenSpec.upto fnExactThenTurnerSpec)

/-- 'laws.FnExactReachedPlaces', WHERE WHAT IT READS IS OF BULK AT MOST 1048576: true; the input reads as it did. -/
def fnExactReachedPlacesUptoRow : OpenClaim := { program := "ythfaafhgeihhkaa", sum := "cf7b7ac9d9b6e7c812c48928a559e37680e85ec6404d18ef44c1604bfa9c167b", func := "loop.example/g01134/laws.FnExactReachedPlaces", spec := "fnExactReachedPlaces", unfollowed := true, recurses := true, plainKeys := false, apart := false, narrowed := true }
def FnExactReachedPlacesUptoSaid : Prop := fnExactReachedPlacesUptoRow.holds Try.pinned (OpenSpec.upto fnExactReachedPlacesSpec)

end Rows
end Go.Proofs.Ythfaafhgeihhkaa
