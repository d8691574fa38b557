/-
  No cell of these rows narrows 'for every input' (looked for: loops, veiled, ifaces, maps, wideKeys, modest, calm, conditions, laid).
  DERIVED. THE GIVEN ROWS OF THIS SEAT. 6 by the template 'for every input the law returns true; each argument reads behind the call as it read before'; 0 by the template 'total and deterministic' (their statements: YtdnobbagcnbjiaaTotals.lean).
  GIVEN WITH THE SEED: the statements are not yours to turn. If you find one false, say at which input.
  Laid BY PROGRAM, IN A SANDBOX (cutbox-rows.mjs): the forced cells as the released guide's own fill.sh prints them over the translation bfb3bd0edb1075c2… (all of the seat's roots in one cut). By AI agents, Wed Nov 11 2026. No macro, syntax, notation, axiom, sorry.
-/
import Derived.Test.YtdnobbagcnbjiaaChecked
import GoSem.Claim
import GoSem.ClaimJoined
import GoSem.ClaimMapViews
import Derived.JoinedTies
import Derived.KernelRfl
namespace Go.Proofs.Ytdnobbagcnbjiaa
/- THE CELL 'sum', in the pinned program and in every row, IS THE sha256 OF THE DUMP (.gsa) THAT YtdnobbagcnbjiaaProg.lean LOADS. Nothing in Lean hashes anything: it is a label: what it is worth is what the hold of that sum in a sandbox is worth. -/
noncomputable def Try.pinned : Pinned := { name := "ytdnobbagcnbjiaa", sum := "bfb3bd0edb1075c26a9ca4a04246e64deee3f19d80b5504ac3912912be36ef2d", checked := Try.checked }
namespace Rows
def none {H : Type} : Left H := { results := [], args := [] }

/-- 'laws.FnExactOppositeReader': WHATEVER THE INPUT: true; the input reads as it did. -/
def fnExactOppositeReaderSpec : ChangeSpec := { name := "fnExactOppositeReader", fn := fun _ => fun
  | [d] => { results := [.lit (.bool true)], args := [d] }
  | _ => none }
def fnExactOppositeReaderRow : OpenClaim := { program := "ytdnobbagcnbjiaa", sum := "bfb3bd0edb1075c26a9ca4a04246e64deee3f19d80b5504ac3912912be36ef2d", func := "loop.example/g01134/laws.FnExactOppositeReader", spec := "fnExactOppositeReader", apart := false }
def FnExactOppositeReaderSaid : Prop := fnExactOppositeReaderRow.holds Try.pinned (OpenSpec.ofChange fnExactOppositeReaderSpec)

/-- ITS FALSE NEIGHBOUR: 'it returns false'. Refute it at one input. -/
def fnExactOppositeReaderWrong : ChangeSpec := { name := "fnExactOppositeReader", fn := fun _ => fun
  | [d] => { results := [.lit (.bool false)], args := [d] }
  | _ => none }
def FnExactOppositeReaderWrongFalsely : Prop := fnExactOppositeReaderRow.holds Try.pinned (OpenSpec.ofChange fnExactOppositeReaderWrong)

/-- 'laws.FnExactManyOf': WHATEVER THE INPUT: true; the input reads as it did. -/
def fnExactManyOfSpec : ChangeSpec := { name := "fnExactManyOf", fn := fun _ => fun
  | [d] => { results := [.lit (.bool true)], args := [d] }
  | _ => none }
def fnExactManyOfRow : OpenClaim := { program := "ytdnobbagcnbjiaa", sum := "bfb3bd0edb1075c26a9ca4a04246e64deee3f19d80b5504ac3912912be36ef2d", func := "loop.example/g01134/laws.FnExactManyOf", spec := "fnExactManyOf", apart := false }
def FnExactManyOfSaid : Prop := fnExactManyOfRow.holds Try.pinned (OpenSpec.ofChange fnExactManyOfSpec)

/-- ITS FALSE NEIGHBOUR: 'it returns false'. Refute it at one input. -/
def fnExactManyOfWrong : ChangeSpec := { name := "fnExactManyOf", fn := fun _ => fun
  | [d] => { results := [.lit (.bool false)], args := [d] }
  | _ => none }
def FnExactManyOfWrongFalsely : Prop := fnExactManyOfRow.holds Try.pinned (OpenSpec.ofChange fnExactManyOfWrong)

/-- 'laws.FnExactCountTaken': WHATEVER THE INPUT: true; the input reads as it did. -/
def fnExactCountTakenSpec : ChangeSpec := { name := "fnExactCountTaken", fn := fun _ => fun
  | [d1, d2] => { results := [.lit (.bool true)], args := [d1, d2] }
  | _ => none }
def fnExactCountTakenRow : OpenClaim := { program := "ytdnobbagcnbjiaa", sum := "bfb3bd0edb1075c26a9ca4a04246e64deee3f19d80b5504ac3912912be36ef2d", func := "loop.example/g01134/laws.FnExactCountTaken", spec := "fnExactCountTaken", apart := false }
def FnExactCountTakenSaid : Prop := fnExactCountTakenRow.holds Try.pinned (OpenSpec.ofChange fnExactCountTakenSpec)

/-- ITS FALSE NEIGHBOUR: 'it returns false'. Refute it at one input. -/
def fnExactCountTakenWrong : ChangeSpec := { name := "fnExactCountTaken", fn := fun _ => fun
  | [d1, d2] => { results := [.lit (.bool false)], args := [d1, d2] }
  | _ => none }
def FnExactCountTakenWrongFalsely : Prop := fnExactCountTakenRow.holds Try.pinned (OpenSpec.ofChange fnExactCountTakenWrong)

/-- 'laws.FnExactStepOf': WHATEVER THE INPUT: true; the input reads as it did. -/
def fnExactStepOfSpec : ChangeSpec := { name := "fnExactStepOf", fn := fun _ => fun
  | [d1, d2, d3] => { results := [.lit (.bool true)], args := [d1, d2, d3] }
  | _ => none }
def fnExactStepOfRow : OpenClaim := { program := "ytdnobbagcnbjiaa", sum := "bfb3bd0edb1075c26a9ca4a04246e64deee3f19d80b5504ac3912912be36ef2d", func := "loop.example/g01134/laws.FnExactStepOf", spec := "fnExactStepOf", apart := false }
def FnExactStepOfSaid : Prop := fnExactStepOfRow.holds Try.pinned (OpenSpec.ofChange fnExactStepOfSpec)

/-- ITS FALSE NEIGHBOUR: 'it returns false'. Refute it at one input. -/
def fnExactStepOfWrong : ChangeSpec := { name := "fnExactStepOf", fn := fun _ => fun
  | [d1, d2, d3] => { results := [.lit (.bool false)], args := [d1, d2, d3] }
  | _ => none }
def FnExactStepOfWrongFalsely : Prop := fnExactStepOfRow.holds Try.pinned (OpenSpec.ofChange fnExactStepOfWrong)

/-- 'laws.FnExactTurnerOf': WHATEVER THE INPUT: true; the input reads as it did. -/
def fnExactTurnerOfSpec : ChangeSpec := { name := "fnExactTurnerOf", fn := fun _ => fun
  | [d] => { results := [.lit (.bool true)], args := [d] }
  | _ => none }
def fnExactTurnerOfRow : OpenClaim := { program := "ytdnobbagcnbjiaa", sum := "bfb3bd0edb1075c26a9ca4a04246e64deee3f19d80b5504ac3912912be36ef2d", func := "loop.example/g01134/laws.FnExactTurnerOf", spec := "fnExactTurnerOf", unfollowed := true, recurses := true, apart := false }
def FnExactTurnerOfSaid : Prop := fnExactTurnerOfRow.holds Try.pinned (OpenSpec.ofChange fnExactTurnerOfSpec)

/-- ITS FALSE NEIGHBOUR: 'it returns false'. Refute it at one input. -/
def fnExactTurnerOfWrong : ChangeSpec := { name := "fnExactTurnerOf", fn := fun _ => fun
  | [d] => { results := [.lit (.bool false)], args := [d] }
  | _ => none }
def FnExactTurnerOfWrongFalsely : Prop := fnExactTurnerOfRow.holds Try.pinned (OpenSpec.ofChange fnExactTurnerOfWrong)

/-- 'laws.FnExactOppositeTurner': WHATEVER THE INPUT: true; the input reads as it did. -/
def fnExactOppositeTurnerSpec : ChangeSpec := { name := "fnExactOppositeTurner", fn := fun _ => fun
  | [d] => { results := [.lit (.bool true)], args := [d] }
  | _ => none }
def fnExactOppositeTurnerRow : OpenClaim := { program := "ytdnobbagcnbjiaa", sum := "bfb3bd0edb1075c26a9ca4a04246e64deee3f19d80b5504ac3912912be36ef2d", func := "loop.example/g01134/laws.FnExactOppositeTurner", spec := "fnExactOppositeTurner", unfollowed := true, recurses := true, apart := false }
def FnExactOppositeTurnerSaid : Prop := fnExactOppositeTurnerRow.holds Try.pinned (OpenSpec.ofChange fnExactOppositeTurnerSpec)

/-- ITS FALSE NEIGHBOUR: 'it returns false'. Refute it at one input. -/
def fnExactOppositeTurnerWrong : ChangeSpec := { name := "fnExactOppositeTurner", fn := fun _ => fun
  | [d] => { results := [.lit (.bool false)], args := [d] }
  | _ => none }
def FnExactOppositeTurnerWrongFalsely : Prop := fnExactOppositeTurnerRow.holds Try.pinned (OpenSpec.ofChange fnExactOppositeTurnerWrong)

/- THE SECOND FORM. 'bulk': how many values and letters a reading holds, each counted each time it is reached (what is shared counts as often as it is met; a slice's spare places count too). A statement '..UptoSaid' is the law's where the arguments, and the package variables that the reading takes, are together of bulk at most 1048576: NARROWER than '..Said'. Prove '..Said' where nothing that the law and all that it calls make is longer than what came in: it says more and counts as full. Else prove '..UptoSaid'. A law counts once. -/
mutual
def uptoBulk {H : Type} : DataW H → Nat
  | .lit (.string bytes) => bytes.length + 1
  | .lit _ => 1
  | .nil => 1
  | .ptr d => uptoBulk d + 1
  | .slice elems spare => uptoBulkAll elems + uptoBulkAll spare + 1
  | .agg parts => uptoBulkAll parts + 1
  | .iface _ d => uptoBulk d + 1
  | .map entries => uptoBulkEntries entries + 1
  | .held _ => 1
def uptoBulkAll {H : Type} : List (DataW H) → Nat
  | [] => 0
  | d :: r => uptoBulk d + uptoBulkAll r
def uptoBulkEntries {H : Type} : List (Lit × DataW H) → Nat
  | [] => 0
  | x :: r => uptoBulkEntry x + uptoBulkEntries r
def uptoBulkEntry {H : Type} : Lit × DataW H → Nat
  | (.string bytes, d) => bytes.length + uptoBulk d + 1
  | (_, d) => uptoBulk d + 1
 end
def uptoSmall : (H : Type) → List (DataW H) → Bool := fun _ ds => decide (uptoBulkAll ds ≤ 1048576)
def OpenSpec.upto (s : _root_.Go.ChangeSpec) : _root_.Go.OpenSpec := { _root_.Go.OpenSpec.ofChange s with cond := some uptoSmall }

/-- 'laws.FnExactOppositeReader', WHERE WHAT IT READS IS OF BULK AT MOST 1048576: true; the input reads as it did. -/
def fnExactOppositeReaderUptoRow : OpenClaim := { program := "ytdnobbagcnbjiaa", sum := "bfb3bd0edb1075c26a9ca4a04246e64deee3f19d80b5504ac3912912be36ef2d", func := "loop.example/g01134/laws.FnExactOppositeReader", spec := "fnExactOppositeReader", apart := false, narrowed := true }
def FnExactOppositeReaderUptoSaid : Prop := fnExactOppositeReaderUptoRow.holds Try.pinned (OpenSpec.upto fnExactOppositeReaderSpec)

/-- 'laws.FnExactManyOf', WHERE WHAT IT READS IS OF BULK AT MOST 1048576: true; the input reads as it did. -/
def fnExactManyOfUptoRow : OpenClaim := { program := "ytdnobbagcnbjiaa", sum := "bfb3bd0edb1075c26a9ca4a04246e64deee3f19d80b5504ac3912912be36ef2d", func := "loop.example/g01134/laws.FnExactManyOf", spec := "fnExactManyOf", apart := false, narrowed := true }
def FnExactManyOfUptoSaid : Prop := fnExactManyOfUptoRow.holds Try.pinned (OpenSpec.upto fnExactManyOfSpec)

/-- 'laws.FnExactCountTaken', WHERE WHAT IT READS IS OF BULK AT MOST 1048576: true; the input reads as it did. -/
def fnExactCountTakenUptoRow : OpenClaim := { program := "ytdnobbagcnbjiaa", sum := "bfb3bd0edb1075c26a9ca4a04246e64deee3f19d80b5504ac3912912be36ef2d", func := "loop.example/g01134/laws.FnExactCountTaken", spec := "fnExactCountTaken", apart := false, narrowed := true }
def FnExactCountTakenUptoSaid : Prop := fnExactCountTakenUptoRow.holds Try.pinned (OpenSpec.upto fnExactCountTakenSpec)

/-- 'laws.FnExactStepOf', WHERE WHAT IT READS IS OF BULK AT MOST 1048576: true; the input reads as it did. -/
def fnExactStepOfUptoRow : OpenClaim := { program := "ytdnobbagcnbjiaa", sum := "bfb3bd0edb1075c26a9ca4a04246e64deee3f19d80b5504ac3912912be36ef2d", func := "loop.example/g01134/laws.FnExactStepOf", spec := "fnExactStepOf", apart := false, narrowed := true }
def FnExactStepOfUptoSaid : Prop := fnExactStepOfUptoRow.holds Try.pinned (OpenSpec.upto fnExactStepOfSpec)

/-- 'laws.FnExactTurnerOf', WHERE WHAT IT READS IS OF BULK AT MOST 1048576: true; the input reads as it did. -/
def fnExactTurnerOfUptoRow : OpenClaim := { program := "ytdnobbagcnbjiaa", sum := "bfb3bd0edb1075c26a9ca4a04246e64deee3f19d80b5504ac3912912be36ef2d", func := "loop.example/g01134/laws.FnExactTurnerOf", spec := "fnExactTurnerOf", unfollowed := true, recurses := true, apart := false, narrowed := true }
def FnExactTurnerOfUptoSaid : Prop := fnExactTurnerOfUptoRow.holds Try.pinned (OpenSpec.upto fnExactTurnerOfSpec)

/-- 'laws.FnExactOppositeTurner', WHERE WHAT IT READS IS OF BULK AT MOST 1048576: true; the input reads as it did. -/
def fnExactOppositeTurnerUptoRow : OpenClaim := { program := "ytdnobbagcnbjiaa", sum := "bfb3bd0edb1075c26a9ca4a04246e64deee3f19d80b5504ac3912912be36ef2d", func := "loop.example/g01134/laws.FnExactOppositeTurner", spec := "fnExactOppositeTurner", unfollowed := true, recurses := true, apart := false, narrowed := true }
def FnExactOppositeTurnerUptoSaid : Prop := fnExactOppositeTurnerUptoRow.holds Try.pinned (OpenSpec.upto fnExactOppositeTurnerSpec)

end Rows
end Go.Proofs.Ytdnobbagcnbjiaa
