/-
  No cell of these rows narrows 'for every input' (looked for: loops, veiled, ifaces, maps, wideKeys, modest, calm, conditions, laid).
  DERIVED. THE GIVEN ROWS OF THIS SEAT. 6 by the template 'for every input the law returns true; each argument reads behind the call as it read before'; 0 by the template 'total and deterministic' (their statements: YtncabipncekifaaTotals.lean).
  GIVEN WITH THE SEED: the statements are not yours to turn. If you find one false, say at which input.
  Laid BY PROGRAM, IN A SANDBOX (cutbox-rows.mjs): the forced cells as the released guide's own fill.sh prints them over the translation 4de4b7a5aa35fa41… (all of the seat's roots in one cut). By AI agents, Wed Nov 11 2026. No macro, syntax, notation, axiom, sorry.
-/
import Derived.Test.YtncabipncekifaaChecked
import GoSem.Claim
import GoSem.ClaimJoined
import GoSem.ClaimMapViews
import Derived.JoinedTies
import Derived.KernelRfl
namespace Go.Proofs.Ytncabipncekifaa
/- THE CELL 'sum', in the pinned program and in every row, IS THE sha256 OF THE DUMP (.gsa) THAT YtncabipncekifaaProg.lean LOADS. Nothing in Lean hashes anything: it is a label: what it is worth is what the hold of that sum in a sandbox is worth. -/
noncomputable def Try.pinned : Pinned := { name := "ytncabipncekifaa", sum := "4de4b7a5aa35fa412a3ff3afd869b0d5f044860c3d4fc7e42018db9865eb6962", checked := Try.checked }
namespace Rows
def none {H : Type} : Left H := { results := [], args := [] }

/-- 'laws.FnExactValidWanderer': WHATEVER THE INPUT: true; the input reads as it did. -/
def fnExactValidWandererSpec : ChangeSpec := { name := "fnExactValidWanderer", fn := fun _ => fun
  | [d] => { results := [.lit (.bool true)], args := [d] }
  | _ => none }
def fnExactValidWandererRow : OpenClaim := { program := "ytncabipncekifaa", sum := "4de4b7a5aa35fa412a3ff3afd869b0d5f044860c3d4fc7e42018db9865eb6962", func := "loop.example/g01134/laws.FnExactValidWanderer", spec := "fnExactValidWanderer", apart := false }
def FnExactValidWandererSaid : Prop := fnExactValidWandererRow.holds Try.pinned (OpenSpec.ofChange fnExactValidWandererSpec)

/-- ITS FALSE NEIGHBOUR: 'it returns false'. Refute it at one input. -/
def fnExactValidWandererWrong : ChangeSpec := { name := "fnExactValidWanderer", fn := fun _ => fun
  | [d] => { results := [.lit (.bool false)], args := [d] }
  | _ => none }
def FnExactValidWandererWrongFalsely : Prop := fnExactValidWandererRow.holds Try.pinned (OpenSpec.ofChange fnExactValidWandererWrong)

/-- 'laws.FnExactSameWanderer': WHATEVER THE INPUT: true; the input reads as it did. -/
def fnExactSameWandererSpec : ChangeSpec := { name := "fnExactSameWanderer", fn := fun _ => fun
  | [d1, d2] => { results := [.lit (.bool true)], args := [d1, d2] }
  | _ => none }
def fnExactSameWandererRow : OpenClaim := { program := "ytncabipncekifaa", sum := "4de4b7a5aa35fa412a3ff3afd869b0d5f044860c3d4fc7e42018db9865eb6962", func := "loop.example/g01134/laws.FnExactSameWanderer", spec := "fnExactSameWanderer", unfollowed := true, recurses := true, apart := false }
def FnExactSameWandererSaid : Prop := fnExactSameWandererRow.holds Try.pinned (OpenSpec.ofChange fnExactSameWandererSpec)

/-- ITS FALSE NEIGHBOUR: 'it returns false'. Refute it at one input. -/
def fnExactSameWandererWrong : ChangeSpec := { name := "fnExactSameWanderer", fn := fun _ => fun
  | [d1, d2] => { results := [.lit (.bool false)], args := [d1, d2] }
  | _ => none }
def FnExactSameWandererWrongFalsely : Prop := fnExactSameWandererRow.holds Try.pinned (OpenSpec.ofChange fnExactSameWandererWrong)

/-- 'laws.FnExactWandererOf': WHATEVER THE INPUT: true; the input reads as it did. -/
def fnExactWandererOfSpec : ChangeSpec := { name := "fnExactWandererOf", fn := fun _ => fun
  | [d] => { results := [.lit (.bool true)], args := [d] }
  | _ => none }
def fnExactWandererOfRow : OpenClaim := { program := "ytncabipncekifaa", sum := "4de4b7a5aa35fa412a3ff3afd869b0d5f044860c3d4fc7e42018db9865eb6962", func := "loop.example/g01134/laws.FnExactWandererOf", spec := "fnExactWandererOf", apart := false }
def FnExactWandererOfSaid : Prop := fnExactWandererOfRow.holds Try.pinned (OpenSpec.ofChange fnExactWandererOfSpec)

/-- ITS FALSE NEIGHBOUR: 'it returns false'. Refute it at one input. -/
def fnExactWandererOfWrong : ChangeSpec := { name := "fnExactWandererOf", fn := fun _ => fun
  | [d] => { results := [.lit (.bool false)], args := [d] }
  | _ => none }
def FnExactWandererOfWrongFalsely : Prop := fnExactWandererOfRow.holds Try.pinned (OpenSpec.ofChange fnExactWandererOfWrong)

/-- 'laws.FnExactEitherWanderer': WHATEVER THE INPUT: true; the input reads as it did. -/
def fnExactEitherWandererSpec : ChangeSpec := { name := "fnExactEitherWanderer", fn := fun _ => fun
  | [d1, d2] => { results := [.lit (.bool true)], args := [d1, d2] }
  | _ => none }
def fnExactEitherWandererRow : OpenClaim := { program := "ytncabipncekifaa", sum := "4de4b7a5aa35fa412a3ff3afd869b0d5f044860c3d4fc7e42018db9865eb6962", func := "loop.example/g01134/laws.FnExactEitherWanderer", spec := "fnExactEitherWanderer", unfollowed := true, recurses := true, apart := false }
def FnExactEitherWandererSaid : Prop := fnExactEitherWandererRow.holds Try.pinned (OpenSpec.ofChange fnExactEitherWandererSpec)

/-- ITS FALSE NEIGHBOUR: 'it returns false'. Refute it at one input. -/
def fnExactEitherWandererWrong : ChangeSpec := { name := "fnExactEitherWanderer", fn := fun _ => fun
  | [d1, d2] => { results := [.lit (.bool false)], args := [d1, d2] }
  | _ => none }
def FnExactEitherWandererWrongFalsely : Prop := fnExactEitherWandererRow.holds Try.pinned (OpenSpec.ofChange fnExactEitherWandererWrong)

/-- 'laws.FnExactNextPlaces': WHATEVER THE INPUT: true; the input reads as it did. -/
def fnExactNextPlacesSpec : ChangeSpec := { name := "fnExactNextPlaces", fn := fun _ => fun
  | [d1, d2, d3] => { results := [.lit (.bool true)], args := [d1, d2, d3] }
  | _ => none }
def fnExactNextPlacesRow : OpenClaim := { program := "ytncabipncekifaa", sum := "4de4b7a5aa35fa412a3ff3afd869b0d5f044860c3d4fc7e42018db9865eb6962", func := "loop.example/g01134/laws.FnExactNextPlaces", spec := "fnExactNextPlaces", apart := false }
def FnExactNextPlacesSaid : Prop := fnExactNextPlacesRow.holds Try.pinned (OpenSpec.ofChange fnExactNextPlacesSpec)

/-- ITS FALSE NEIGHBOUR: 'it returns false'. Refute it at one input. -/
def fnExactNextPlacesWrong : ChangeSpec := { name := "fnExactNextPlaces", fn := fun _ => fun
  | [d1, d2, d3] => { results := [.lit (.bool false)], args := [d1, d2, d3] }
  | _ => none }
def FnExactNextPlacesWrongFalsely : Prop := fnExactNextPlacesRow.holds Try.pinned (OpenSpec.ofChange fnExactNextPlacesWrong)

/-- 'laws.FnExactCheckWay': WHATEVER THE INPUT: true; the input reads as it did. -/
def fnExactCheckWaySpec : ChangeSpec := { name := "fnExactCheckWay", fn := fun _ => fun
  | [d1, d2, d3] => { results := [.lit (.bool true)], args := [d1, d2, d3] }
  | _ => none }
def fnExactCheckWayRow : OpenClaim := { program := "ytncabipncekifaa", sum := "4de4b7a5aa35fa412a3ff3afd869b0d5f044860c3d4fc7e42018db9865eb6962", func := "loop.example/g01134/laws.FnExactCheckWay", spec := "fnExactCheckWay", apart := false }
def FnExactCheckWaySaid : Prop := fnExactCheckWayRow.holds Try.pinned (OpenSpec.ofChange fnExactCheckWaySpec)

/-- ITS FALSE NEIGHBOUR: 'it returns false'. Refute it at one input. -/
def fnExactCheckWayWrong : ChangeSpec := { name := "fnExactCheckWay", fn := fun _ => fun
  | [d1, d2, d3] => { results := [.lit (.bool false)], args := [d1, d2, d3] }
  | _ => none }
def FnExactCheckWayWrongFalsely : Prop := fnExactCheckWayRow.holds Try.pinned (OpenSpec.ofChange fnExactCheckWayWrong)

/- THE SECOND FORM. 'bulk': how many values and letters a reading holds, each counted each time it is reached (what is shared counts as often as it is met; a slice's spare places count too). A statement '..UptoSaid' is the law's where the arguments, and the package variables that the reading takes, are together of bulk at most 1048576: NARROWER than '..Said'. Prove '..Said' where nothing that the law and all that it calls make is longer than what came in: it says more and counts as full. Else prove '..UptoSaid'. A law counts once. -/
mutual
def uptoBulk {H : Type} : DataW H → Nat
  | .lit (.string bytes) => bytes.length + 1
  | .lit _ => 1
  | .nil => 1
  | .ptr d => uptoBulk d + 1
  | .slice elems spare => uptoBulkAll elems + uptoBulkAll spare + 1
  | .agg parts => uptoBulkAll parts + 1
  | .iface _ d => uptoBulk d + 1
  | .map entries => uptoBulkEntries entries + 1
  | .held _ => 1
def uptoBulkAll {H : Type} : List (DataW H) → Nat
  | [] => 0
  | d :: r => uptoBulk d + uptoBulkAll r
def uptoBulkEntries {H : Type} : List (Lit × DataW H) → Nat
  | [] => 0
  | x :: r => uptoBulkEntry x + uptoBulkEntries r
def uptoBulkEntry {H : Type} : Lit × DataW H → Nat
  | (.string bytes, d) => bytes.length + uptoBulk d + 1
  | (_, d) => uptoBulk d + 1
 end
def uptoSmall : (H : Type) → List (DataW H) → Bool := fun _ ds => decide (uptoBulkAll ds ≤ 1048576)
def OpenSpec.upto (s : _root_.Go.ChangeSpec) : _root_.Go.OpenSpec := { _root_.Go.OpenSpec.ofChange s with cond := some uptoSmall }

/-- 'laws.FnExactValidWanderer', WHERE WHAT IT READS IS OF BULK AT MOST 1048576: true; the input reads as it did. -/
def fnExactValidWandererUptoRow : OpenClaim := { program := "ytncabipncekifaa", sum := "4de4b7a5aa35fa412a3ff3afd869b0d5f044860c3d4fc7e42018db9865eb6962", func := "loop.example/g01134/laws.FnExactValidWanderer", spec := "fnExactValidWanderer", apart := false, narrowed := true }
def FnExactValidWandererUptoSaid : Prop := fnExactValidWandererUptoRow.holds Try.pinned (OpenSpec.upto fnExactValidWandererSpec)

/-- 'laws.FnExactSameWanderer', WHERE WHAT IT READS IS OF BULK AT MOST 1048576: true; the input reads as it did. -/
def fnExactSameWandererUptoRow : OpenClaim := { program := "ytncabipncekifaa", sum := "4de4b7a5aa35fa412a3ff3afd869b0d5f044860c3d4fc7e42018db9865eb6962", func := "loop.example/g01134/laws.FnExactSameWanderer", spec := "fnExactSameWanderer", unfollowed := true, recurses := true, apart := false, narrowed := true }
def FnExactSameWandererUptoSaid : Prop := fnExactSameWandererUptoRow.holds Try.pinned (OpenSpec.upto fnExactSameWandererSpec)

/-- 'laws.FnExactWandererOf', WHERE WHAT IT READS IS OF BULK AT MOST 1048576: true; the input reads as it did. -/
def fnExactWandererOfUptoRow : OpenClaim := { program := "ytncabipncekifaa", sum := "4de4b7a5aa35fa412a3ff3afd869b0d5f044860c3d4fc7e42018db9865eb6962", func := "loop.example/g01134/laws.FnExactWandererOf", spec := "fnExactWandererOf", apart := false, narrowed := true }
def FnExactWandererOfUptoSaid : Prop := fnExactWandererOfUptoRow.holds Try.pinned (OpenSpec.upto fnExactWandererOfSpec)

/-- 'laws.FnExactEitherWanderer', WHERE WHAT IT READS IS OF BULK AT MOST 1048576: true; the input reads as it did. -/
def fnExactEitherWandererUptoRow : OpenClaim := { program := "ytncabipncekifaa", sum := "4de4b7a5aa35fa412a3ff3afd869b0d5f044860c3d4fc7e42018db9865eb6962", func := "loop.example/g01134/laws.FnExactEitherWanderer", spec := "fnExactEitherWanderer", unfollowed := true, recurses := true, apart := false, narrowed := true }
def FnExactEitherWandererUptoSaid : Prop := fnExactEitherWandererUptoRow.holds Try.pinned (OpenSpec.upto fnExactEitherWandererSpec)

/-- 'laws.FnExactNextPlaces', WHERE WHAT IT READS IS OF BULK AT MOST 1048576: true; the input reads as it did. -/
def fnExactNextPlacesUptoRow : OpenClaim := { program := "ytncabipncekifaa", sum := "4de4b7a5aa35fa412a3ff3afd869b0d5f044860c3d4fc7e42018db9865eb6962", func := "loop.example/g01134/laws.FnExactNextPlaces", spec := "fnExactNextPlaces", apart := false, narrowed := true }
def FnExactNextPlacesUptoSaid : Prop := fnExactNextPlacesUptoRow.holds Try.pinned (OpenSpec.upto fnExactNextPlacesSpec)

/-- 'laws.FnExactCheckWay', WHERE WHAT IT READS IS OF BULK AT MOST 1048576: true; the input reads as it did. -/
def fnExactCheckWayUptoRow : OpenClaim := { program := "ytncabipncekifaa", sum := "4de4b7a5aa35fa412a3ff3afd869b0d5f044860c3d4fc7e42018db9865eb6962", func := "loop.example/g01134/laws.FnExactCheckWay", spec := "fnExactCheckWay", apart := false, narrowed := true }
def FnExactCheckWayUptoSaid : Prop := fnExactCheckWayUptoRow.holds Try.pinned (OpenSpec.upto fnExactCheckWaySpec)

end Rows
end Go.Proofs.Ytncabipncekifaa
