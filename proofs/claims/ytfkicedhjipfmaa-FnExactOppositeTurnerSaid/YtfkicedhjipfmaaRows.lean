/-
  No cell of these rows narrows 'for every input' (looked for: loops, veiled, ifaces, maps, wideKeys, modest, calm, conditions, laid).
  DERIVED. THE GIVEN ROWS OF THIS SEAT. 7 by the template 'for every input the law returns true; each argument reads behind the call as it read before'; 0 by the template 'total and deterministic' (their statements: YtfkicedhjipfmaaTotals.lean).
  GIVEN WITH THE SEED: the statements are not yours to turn. If you find one false, say at which input.
  Laid BY PROGRAM, IN A SANDBOX (cutbox-rows.mjs): the forced cells as the released guide's own fill.sh prints them over the translation c96eb607165d427a… (all of the seat's roots in one cut). By AI agents, Wed Nov 11 2026. No macro, syntax, notation, axiom, sorry.
-/
import Derived.Test.YtfkicedhjipfmaaChecked
import GoSem.Claim
import GoSem.ClaimJoined
import GoSem.ClaimMapViews
import Derived.JoinedTies
import Derived.KernelRfl
namespace Go.Proofs.Ytfkicedhjipfmaa
/- THE CELL 'sum', in the pinned program and in every row, IS THE sha256 OF THE DUMP (.gsa) THAT YtfkicedhjipfmaaProg.lean LOADS. Nothing in Lean hashes anything: it is a label: what it is worth is what the hold of that sum in a sandbox is worth. -/
noncomputable def Try.pinned : Pinned := { name := "ytfkicedhjipfmaa", sum := "c96eb607165d427aafb3fd6c7ce20bace6f3a619b4fedd63b430897c5e94a436", checked := Try.checked }
namespace Rows
def none {H : Type} : Left H := { results := [], args := [] }

/-- 'laws.FnExactTurnerOf': WHATEVER THE INPUT: true; the input reads as it did. -/
def fnExactTurnerOfSpec : ChangeSpec := { name := "fnExactTurnerOf", fn := fun _ => fun
  | [d] => { results := [.lit (.bool true)], args := [d] }
  | _ => none }
def fnExactTurnerOfRow : OpenClaim := { program := "ytfkicedhjipfmaa", sum := "c96eb607165d427aafb3fd6c7ce20bace6f3a619b4fedd63b430897c5e94a436", func := "loop.example/g01134/laws.FnExactTurnerOf", spec := "fnExactTurnerOf", unfollowed := true, recurses := true, apart := false }
def FnExactTurnerOfSaid : Prop := fnExactTurnerOfRow.holds Try.pinned (OpenSpec.ofChange fnExactTurnerOfSpec)

/-- ITS FALSE NEIGHBOUR: 'it returns false'. Refute it at one input. -/
def fnExactTurnerOfWrong : ChangeSpec := { name := "fnExactTurnerOf", fn := fun _ => fun
  | [d] => { results := [.lit (.bool false)], args := [d] }
  | _ => none }
def FnExactTurnerOfWrongFalsely : Prop := fnExactTurnerOfRow.holds Try.pinned (OpenSpec.ofChange fnExactTurnerOfWrong)

/-- 'laws.FnExactOppositeTurner': WHATEVER THE INPUT: true; the input reads as it did. -/
def fnExactOppositeTurnerSpec : ChangeSpec := { name := "fnExactOppositeTurner", fn := fun _ => fun
  | [d] => { results := [.lit (.bool true)], args := [d] }
  | _ => none }
def fnExactOppositeTurnerRow : OpenClaim := { program := "ytfkicedhjipfmaa", sum := "c96eb607165d427aafb3fd6c7ce20bace6f3a619b4fedd63b430897c5e94a436", func := "loop.example/g01134/laws.FnExactOppositeTurner", spec := "fnExactOppositeTurner", unfollowed := true, recurses := true, apart := false }
def FnExactOppositeTurnerSaid : Prop := fnExactOppositeTurnerRow.holds Try.pinned (OpenSpec.ofChange fnExactOppositeTurnerSpec)

/-- ITS FALSE NEIGHBOUR: 'it returns false'. Refute it at one input. -/
def fnExactOppositeTurnerWrong : ChangeSpec := { name := "fnExactOppositeTurner", fn := fun _ => fun
  | [d] => { results := [.lit (.bool false)], args := [d] }
  | _ => none }
def FnExactOppositeTurnerWrongFalsely : Prop := fnExactOppositeTurnerRow.holds Try.pinned (OpenSpec.ofChange fnExactOppositeTurnerWrong)

/-- 'laws.FnExactMirrorTurner': WHATEVER THE INPUT: true; the input reads as it did. -/
def fnExactMirrorTurnerSpec : ChangeSpec := { name := "fnExactMirrorTurner", fn := fun _ => fun
  | [d] => { results := [.lit (.bool true)], args := [d] }
  | _ => none }
def fnExactMirrorTurnerRow : OpenClaim := { program := "ytfkicedhjipfmaa", sum := "c96eb607165d427aafb3fd6c7ce20bace6f3a619b4fedd63b430897c5e94a436", func := "loop.example/g01134/laws.FnExactMirrorTurner", spec := "fnExactMirrorTurner", unfollowed := true, recurses := true, apart := false }
def FnExactMirrorTurnerSaid : Prop := fnExactMirrorTurnerRow.holds Try.pinned (OpenSpec.ofChange fnExactMirrorTurnerSpec)

/-- ITS FALSE NEIGHBOUR: 'it returns false'. Refute it at one input. -/
def fnExactMirrorTurnerWrong : ChangeSpec := { name := "fnExactMirrorTurner", fn := fun _ => fun
  | [d] => { results := [.lit (.bool false)], args := [d] }
  | _ => none }
def FnExactMirrorTurnerWrongFalsely : Prop := fnExactMirrorTurnerRow.holds Try.pinned (OpenSpec.ofChange fnExactMirrorTurnerWrong)

/-- 'laws.FnExactWithoutStays': WHATEVER THE INPUT: true; the input reads as it did. -/
def fnExactWithoutStaysSpec : ChangeSpec := { name := "fnExactWithoutStays", fn := fun _ => fun
  | [d] => { results := [.lit (.bool true)], args := [d] }
  | _ => none }
def fnExactWithoutStaysRow : OpenClaim := { program := "ytfkicedhjipfmaa", sum := "c96eb607165d427aafb3fd6c7ce20bace6f3a619b4fedd63b430897c5e94a436", func := "loop.example/g01134/laws.FnExactWithoutStays", spec := "fnExactWithoutStays", unfollowed := true, recurses := true, apart := false }
def FnExactWithoutStaysSaid : Prop := fnExactWithoutStaysRow.holds Try.pinned (OpenSpec.ofChange fnExactWithoutStaysSpec)

/-- ITS FALSE NEIGHBOUR: 'it returns false'. Refute it at one input. -/
def fnExactWithoutStaysWrong : ChangeSpec := { name := "fnExactWithoutStays", fn := fun _ => fun
  | [d] => { results := [.lit (.bool false)], args := [d] }
  | _ => none }
def FnExactWithoutStaysWrongFalsely : Prop := fnExactWithoutStaysRow.holds Try.pinned (OpenSpec.ofChange fnExactWithoutStaysWrong)

/-- 'laws.FnExactNthLastTurner': WHATEVER THE INPUT: true; the input reads as it did. -/
def fnExactNthLastTurnerSpec : ChangeSpec := { name := "fnExactNthLastTurner", fn := fun _ => fun
  | [d1, d2] => { results := [.lit (.bool true)], args := [d1, d2] }
  | _ => none }
def fnExactNthLastTurnerRow : OpenClaim := { program := "ytfkicedhjipfmaa", sum := "c96eb607165d427aafb3fd6c7ce20bace6f3a619b4fedd63b430897c5e94a436", func := "loop.example/g01134/laws.FnExactNthLastTurner", spec := "fnExactNthLastTurner", unfollowed := true, recurses := true, apart := false }
def FnExactNthLastTurnerSaid : Prop := fnExactNthLastTurnerRow.holds Try.pinned (OpenSpec.ofChange fnExactNthLastTurnerSpec)

/-- ITS FALSE NEIGHBOUR: 'it returns false'. Refute it at one input. -/
def fnExactNthLastTurnerWrong : ChangeSpec := { name := "fnExactNthLastTurner", fn := fun _ => fun
  | [d1, d2] => { results := [.lit (.bool false)], args := [d1, d2] }
  | _ => none }
def FnExactNthLastTurnerWrongFalsely : Prop := fnExactNthLastTurnerRow.holds Try.pinned (OpenSpec.ofChange fnExactNthLastTurnerWrong)

/-- 'laws.FnExactRotatorTurner': WHATEVER THE INPUT: true; the input reads as it did. -/
def fnExactRotatorTurnerSpec : ChangeSpec := { name := "fnExactRotatorTurner", fn := fun _ => fun
  | [d] => { results := [.lit (.bool true)], args := [d] }
  | _ => none }
def fnExactRotatorTurnerRow : OpenClaim := { program := "ytfkicedhjipfmaa", sum := "c96eb607165d427aafb3fd6c7ce20bace6f3a619b4fedd63b430897c5e94a436", func := "loop.example/g01134/laws.FnExactRotatorTurner", spec := "fnExactRotatorTurner", unfollowed := true, recurses := true, apart := false }
def FnExactRotatorTurnerSaid : Prop := fnExactRotatorTurnerRow.holds Try.pinned (OpenSpec.ofChange fnExactRotatorTurnerSpec)

/-- ITS FALSE NEIGHBOUR: 'it returns false'. Refute it at one input. -/
def fnExactRotatorTurnerWrong : ChangeSpec := { name := "fnExactRotatorTurner", fn := fun _ => fun
  | [d] => { results := [.lit (.bool false)], args := [d] }
  | _ => none }
def FnExactRotatorTurnerWrongFalsely : Prop := fnExactRotatorTurnerRow.holds Try.pinned (OpenSpec.ofChange fnExactRotatorTurnerWrong)

/-- 'laws.FnExactIsOneWay': WHATEVER THE INPUT: true; the input reads as it did. -/
def fnExactIsOneWaySpec : ChangeSpec := { name := "fnExactIsOneWay", fn := fun _ => fun
  | [d] => { results := [.lit (.bool true)], args := [d] }
  | _ => none }
def fnExactIsOneWayRow : OpenClaim := { program := "ytfkicedhjipfmaa", sum := "c96eb607165d427aafb3fd6c7ce20bace6f3a619b4fedd63b430897c5e94a436", func := "loop.example/g01134/laws.FnExactIsOneWay", spec := "fnExactIsOneWay", apart := false }
def FnExactIsOneWaySaid : Prop := fnExactIsOneWayRow.holds Try.pinned (OpenSpec.ofChange fnExactIsOneWaySpec)

/-- ITS FALSE NEIGHBOUR: 'it returns false'. Refute it at one input. -/
def fnExactIsOneWayWrong : ChangeSpec := { name := "fnExactIsOneWay", fn := fun _ => fun
  | [d] => { results := [.lit (.bool false)], args := [d] }
  | _ => none }
def FnExactIsOneWayWrongFalsely : Prop := fnExactIsOneWayRow.holds Try.pinned (OpenSpec.ofChange fnExactIsOneWayWrong)

/- THE SECOND FORM. 'bulk': how many values and letters a reading holds, each counted each time it is reached (what is shared counts as often as it is met; a slice's spare places count too). A statement '..UptoSaid' is the law's where the arguments, and the package variables that the reading takes, are together of bulk at most 1048576: NARROWER than '..Said'. Prove '..Said' where nothing that the law and all that it calls make is longer than what came in: it says more and counts as full. Else prove '..UptoSaid'. A law counts once. -/
mutual
def uptoBulk {H : Type} : DataW H → Nat
  | .lit (.string bytes) => bytes.length + 1
  | .lit _ => 1
  | .nil => 1
  | .ptr d => uptoBulk d + 1
  | .slice elems spare => uptoBulkAll elems + uptoBulkAll spare + 1
  | .agg parts => uptoBulkAll parts + 1
  | .iface _ d => uptoBulk d + 1
  | .map entries => uptoBulkEntries entries + 1
  | .held _ => 1
def uptoBulkAll {H : Type} : List (DataW H) → Nat
  | [] => 0
  | d :: r => uptoBulk d + uptoBulkAll r
def uptoBulkEntries {H : Type} : List (Lit × DataW H) → Nat
  | [] => 0
  | x :: r => uptoBulkEntry x + uptoBulkEntries r
def uptoBulkEntry {H : Type} : Lit × DataW H → Nat
  | (.string bytes, d) => bytes.length + uptoBulk d + 1
  | (_, d) => uptoBulk d + 1
 end
def uptoSmall : (H : Type) → List (DataW H) → Bool := fun _ ds => decide (uptoBulkAll ds ≤ 1048576)
def OpenSpec.upto (s : _root_.Go.ChangeSpec) : _root_.Go.OpenSpec := { _root_.Go.OpenSpec.ofChange s with cond := some uptoSmall }

/-- 'laws.FnExactTurnerOf', WHERE WHAT IT READS IS OF BULK AT MOST 1048576: true; the input reads as it did. -/
def fnExactTurnerOfUptoRow : OpenClaim := { program := "ytfkicedhjipfmaa", sum := "c96eb607165d427aafb3fd6c7ce20bace6f3a619b4fedd63b430897c5e94a436", func := "loop.example/g01134/laws.FnExactTurnerOf", spec := "fnExactTurnerOf", unfollowed := true, recurses := true, apart := false, narrowed := true }
def FnExactTurnerOfUptoSaid : Prop := fnExactTurnerOfUptoRow.holds Try.pinned (OpenSpec.upto fnExactTurnerOfSpec)

/-- 'laws.FnExactOppositeTurner', WHERE WHAT IT READS IS OF BULK AT MOST 1048576: true; the input reads as it did. -/
def fnExactOppositeTurnerUptoRow : OpenClaim := { program := "ytfkicedhjipfmaa", sum := "c96eb607165d427aafb3fd6c7ce20bace6f3a619b4fedd63b430897c5e94a436", func := "loop.example/g01134/laws.FnExactOppositeTurner", spec := "fnExactOppositeTurner", unfollowed := true, recurses := true, apart := false, narrowed := true }
def FnExactOppositeTurnerUptoSaid : Prop := fnExactOppositeTurnerUptoRow.holds Try.pinned (OpenSpec.upto fnExactOppositeTurnerSpec)

/-- 'laws.FnExactMirrorTurner', WHERE WHAT IT READS IS OF BULK AT MOST 1048576: true; the input reads as it did. -/
def fnExactMirrorTurnerUptoRow : OpenClaim := { program := "ytfkicedhjipfmaa", sum := "c96eb607165d427aafb3fd6c7ce20bace6f3a619b4fedd63b430897c5e94a436", func := "loop.example/g01134/laws.FnExactMirrorTurner", spec := "fnExactMirrorTurner", unfollowed := true, recurses := true, apart := false, narrowed := true }
def FnExactMirrorTurnerUptoSaid : Prop := fnExactMirrorTurnerUptoRow.holds Try.pinned (OpenSpec.upto fnExactMirrorTurnerSpec)

/-- 'laws.FnExactWithoutStays', WHERE WHAT IT READS IS OF BULK AT MOST 1048576: true; the input reads as it did. -/
def fnExactWithoutStaysUptoRow : OpenClaim := { program := "ytfkicedhjipfmaa", sum := "c96eb607165d427aafb3fd6c7ce20bace6f3a619b4fedd63b430897c5e94a436", func := "loop.example/g01134/laws.FnExactWithoutStays", spec := "fnExactWithoutStays", unfollowed := true, recurses := true, apart := false, narrowed := true }
def FnExactWithoutStaysUptoSaid : Prop := fnExactWithoutStaysUptoRow.holds Try.pinned (OpenSpec.upto fnExactWithoutStaysSpec)

/-- 'laws.FnExactNthLastTurner', WHERE WHAT IT READS IS OF BULK AT MOST 1048576: true; the input reads as it did. -/
def fnExactNthLastTurnerUptoRow : OpenClaim := { program := "ytfkicedhjipfmaa", sum := "c96eb607165d427aafb3fd6c7ce20bace6f3a619b4fedd63b430897c5e94a436", func := "loop.example/g01134/laws.FnExactNthLastTurner", spec := "fnExactNthLastTurner", unfollowed := true, recurses := true, apart := false, narrowed := true }
def FnExactNthLastTurnerUptoSaid : Prop := fnExactNthLastTurnerUptoRow.holds Try.pinned (OpenSpec.upto fnExactNthLastTurnerSpec)

/-- 'laws.FnExactRotatorTurner', WHERE WHAT IT READS IS OF BULK AT MOST 1048576: true; the input reads as it did. -/
def fnExactRotatorTurnerUptoRow : OpenClaim := { program := "ytfkicedhjipfmaa", sum := "c96eb607165d427aafb3fd6c7ce20bace6f3a619b4fedd63b430897c5e94a436", func := "loop.example/g01134/laws.FnExactRotatorTurner", spec := "fnExactRotatorTurner", unfollowed := true, recurses := true, apart := false, narrowed := true }
def FnExactRotatorTurnerUptoSaid : Prop := fnExactRotatorTurnerUptoRow.holds Try.pinned (OpenSpec.upto fnExactRotatorTurnerSpec)

/-- 'laws.FnExactIsOneWay', WHERE WHAT IT READS IS OF BULK AT MOST 1048576: true; the input reads as it did. -/
def fnExactIsOneWayUptoRow : OpenClaim := { program := "ytfkicedhjipfmaa", sum := "c96eb607165d427aafb3fd6c7ce20bace6f3a619b4fedd63b430897c5e94a436", func := "loop.example/g01134/laws.FnExactIsOneWay", spec := "fnExactIsOneWay", apart := false, narrowed := true }
def FnExactIsOneWayUptoSaid : Prop := fnExactIsOneWayUptoRow.holds Try.pinned (OpenSpec.upto fnExactIsOneWaySpec)

end Rows
end Go.Proofs.Ytfkicedhjipfmaa
