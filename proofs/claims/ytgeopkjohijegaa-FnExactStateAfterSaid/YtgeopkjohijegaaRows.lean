/-
  No cell of these rows narrows 'for every input' (looked for: loops, veiled, ifaces, maps, wideKeys, modest, calm, conditions, laid).
  DERIVED. THE GIVEN ROWS OF THIS SEAT. 8 by the template 'for every input the law returns true; each argument reads behind the call as it read before'; 0 by the template 'total and deterministic' (their statements: YtgeopkjohijegaaTotals.lean).
  GIVEN WITH THE SEED: the statements are not yours to turn. If you find one false, say at which input.
  Laid BY PROGRAM, IN A SANDBOX (cutbox-rows.mjs): the forced cells as the released guide's own fill.sh prints them over the translation 06357214eb86962b… (all of the seat's roots in one cut). By AI agents, Wed Nov 11 2026. No macro, syntax, notation, axiom, sorry.
-/
import Derived.Test.YtgeopkjohijegaaChecked
import GoSem.Claim
import GoSem.ClaimJoined
import GoSem.ClaimMapViews
import Derived.JoinedTies
import Derived.KernelRfl
namespace Go.Proofs.Ytgeopkjohijegaa
/- THE CELL 'sum', in the pinned program and in every row, IS THE sha256 OF THE DUMP (.gsa) THAT YtgeopkjohijegaaProg.lean LOADS. Nothing in Lean hashes anything: it is a label: what it is worth is what the hold of that sum in a sandbox is worth. -/
noncomputable def Try.pinned : Pinned := { name := "ytgeopkjohijegaa", sum := "06357214eb86962b42f7baa127567cc320b6908cefa3e94a2f343081f2151fb7", checked := Try.checked }
namespace Rows
def none {H : Type} : Left H := { results := [], args := [] }

/-- 'laws.FnReaderLogic': WHATEVER THE INPUT: true; the input reads as it did. -/
def fnReaderLogicSpec : ChangeSpec := { name := "fnReaderLogic", fn := fun _ => fun
  | [d1, d2] => { results := [.lit (.bool true)], args := [d1, d2] }
  | _ => none }
def fnReaderLogicRow : OpenClaim := { program := "ytgeopkjohijegaa", sum := "06357214eb86962b42f7baa127567cc320b6908cefa3e94a2f343081f2151fb7", func := "loop.example/g01134/laws.FnReaderLogic", spec := "fnReaderLogic", unfollowed := true, recurses := true, plainKeys := false, apart := false }
def FnReaderLogicSaid : Prop := fnReaderLogicRow.holds Try.pinned (OpenSpec.ofChange fnReaderLogicSpec)

/-- ITS FALSE NEIGHBOUR: 'it returns false'. Refute it at one input. -/
def fnReaderLogicWrong : ChangeSpec := { name := "fnReaderLogic", fn := fun _ => fun
  | [d1, d2] => { results := [.lit (.bool false)], args := [d1, d2] }
  | _ => none }
def FnReaderLogicWrongFalsely : Prop := fnReaderLogicRow.holds Try.pinned (OpenSpec.ofChange fnReaderLogicWrong)

/-- 'laws.FnTidyReader': WHATEVER THE INPUT: true; the input reads as it did. -/
def fnTidyReaderSpec : ChangeSpec := { name := "fnTidyReader", fn := fun _ => fun
  | [d1, d2] => { results := [.lit (.bool true)], args := [d1, d2] }
  | _ => none }
def fnTidyReaderRow : OpenClaim := { program := "ytgeopkjohijegaa", sum := "06357214eb86962b42f7baa127567cc320b6908cefa3e94a2f343081f2151fb7", func := "loop.example/g01134/laws.FnTidyReader", spec := "fnTidyReader", unfollowed := true, recurses := true, plainKeys := false, apart := false }
def FnTidyReaderSaid : Prop := fnTidyReaderRow.holds Try.pinned (OpenSpec.ofChange fnTidyReaderSpec)

/-- ITS FALSE NEIGHBOUR: 'it returns false'. Refute it at one input. -/
def fnTidyReaderWrong : ChangeSpec := { name := "fnTidyReader", fn := fun _ => fun
  | [d1, d2] => { results := [.lit (.bool false)], args := [d1, d2] }
  | _ => none }
def FnTidyReaderWrongFalsely : Prop := fnTidyReaderRow.holds Try.pinned (OpenSpec.ofChange fnTidyReaderWrong)

/-- 'laws.FnUnlikeReaders': WHATEVER THE INPUT: true; the input reads as it did. -/
def fnUnlikeReadersSpec : ChangeSpec := { name := "fnUnlikeReaders", fn := fun _ => fun
  | [d1, d2] => { results := [.lit (.bool true)], args := [d1, d2] }
  | _ => none }
def fnUnlikeReadersRow : OpenClaim := { program := "ytgeopkjohijegaa", sum := "06357214eb86962b42f7baa127567cc320b6908cefa3e94a2f343081f2151fb7", func := "loop.example/g01134/laws.FnUnlikeReaders", spec := "fnUnlikeReaders", unfollowed := true, recurses := true, plainKeys := false, apart := false }
def FnUnlikeReadersSaid : Prop := fnUnlikeReadersRow.holds Try.pinned (OpenSpec.ofChange fnUnlikeReadersSpec)

/-- ITS FALSE NEIGHBOUR: 'it returns false'. Refute it at one input. -/
def fnUnlikeReadersWrong : ChangeSpec := { name := "fnUnlikeReaders", fn := fun _ => fun
  | [d1, d2] => { results := [.lit (.bool false)], args := [d1, d2] }
  | _ => none }
def FnUnlikeReadersWrongFalsely : Prop := fnUnlikeReadersRow.holds Try.pinned (OpenSpec.ofChange fnUnlikeReadersWrong)

/-- 'laws.FnExactCodeName': WHATEVER THE INPUT: true; the input reads as it did. -/
def fnExactCodeNameSpec : ChangeSpec := { name := "fnExactCodeName", fn := fun _ => fun
  | [d] => { results := [.lit (.bool true)], args := [d] }
  | _ => none }
def fnExactCodeNameRow : OpenClaim := { program := "ytgeopkjohijegaa", sum := "06357214eb86962b42f7baa127567cc320b6908cefa3e94a2f343081f2151fb7", func := "loop.example/g01134/laws.FnExactCodeName", spec := "fnExactCodeName", plainKeys := false, apart := false }
def FnExactCodeNameSaid : Prop := fnExactCodeNameRow.holds Try.pinned (OpenSpec.ofChange fnExactCodeNameSpec)

/-- ITS FALSE NEIGHBOUR: 'it returns false'. Refute it at one input. -/
def fnExactCodeNameWrong : ChangeSpec := { name := "fnExactCodeName", fn := fun _ => fun
  | [d] => { results := [.lit (.bool false)], args := [d] }
  | _ => none }
def FnExactCodeNameWrongFalsely : Prop := fnExactCodeNameRow.holds Try.pinned (OpenSpec.ofChange fnExactCodeNameWrong)

/-- 'laws.FnExactValidWord': WHATEVER THE INPUT: true; the input reads as it did. -/
def fnExactValidWordSpec : ChangeSpec := { name := "fnExactValidWord", fn := fun _ => fun
  | [d1, d2] => { results := [.lit (.bool true)], args := [d1, d2] }
  | _ => none }
def fnExactValidWordRow : OpenClaim := { program := "ytgeopkjohijegaa", sum := "06357214eb86962b42f7baa127567cc320b6908cefa3e94a2f343081f2151fb7", func := "loop.example/g01134/laws.FnExactValidWord", spec := "fnExactValidWord", plainKeys := false, apart := false }
def FnExactValidWordSaid : Prop := fnExactValidWordRow.holds Try.pinned (OpenSpec.ofChange fnExactValidWordSpec)

/-- ITS FALSE NEIGHBOUR: 'it returns false'. Refute it at one input. -/
def fnExactValidWordWrong : ChangeSpec := { name := "fnExactValidWord", fn := fun _ => fun
  | [d1, d2] => { results := [.lit (.bool false)], args := [d1, d2] }
  | _ => none }
def FnExactValidWordWrongFalsely : Prop := fnExactValidWordRow.holds Try.pinned (OpenSpec.ofChange fnExactValidWordWrong)

/-- 'laws.FnExactValidReader': WHATEVER THE INPUT: true; the input reads as it did. -/
def fnExactValidReaderSpec : ChangeSpec := { name := "fnExactValidReader", fn := fun _ => fun
  | [d] => { results := [.lit (.bool true)], args := [d] }
  | _ => none }
def fnExactValidReaderRow : OpenClaim := { program := "ytgeopkjohijegaa", sum := "06357214eb86962b42f7baa127567cc320b6908cefa3e94a2f343081f2151fb7", func := "loop.example/g01134/laws.FnExactValidReader", spec := "fnExactValidReader", plainKeys := false, apart := false }
def FnExactValidReaderSaid : Prop := fnExactValidReaderRow.holds Try.pinned (OpenSpec.ofChange fnExactValidReaderSpec)

/-- ITS FALSE NEIGHBOUR: 'it returns false'. Refute it at one input. -/
def fnExactValidReaderWrong : ChangeSpec := { name := "fnExactValidReader", fn := fun _ => fun
  | [d] => { results := [.lit (.bool false)], args := [d] }
  | _ => none }
def FnExactValidReaderWrongFalsely : Prop := fnExactValidReaderRow.holds Try.pinned (OpenSpec.ofChange fnExactValidReaderWrong)

/-- 'laws.FnExactSameReader': WHATEVER THE INPUT: true; the input reads as it did. -/
def fnExactSameReaderSpec : ChangeSpec := { name := "fnExactSameReader", fn := fun _ => fun
  | [d1, d2] => { results := [.lit (.bool true)], args := [d1, d2] }
  | _ => none }
def fnExactSameReaderRow : OpenClaim := { program := "ytgeopkjohijegaa", sum := "06357214eb86962b42f7baa127567cc320b6908cefa3e94a2f343081f2151fb7", func := "loop.example/g01134/laws.FnExactSameReader", spec := "fnExactSameReader", unfollowed := true, recurses := true, plainKeys := false, apart := false }
def FnExactSameReaderSaid : Prop := fnExactSameReaderRow.holds Try.pinned (OpenSpec.ofChange fnExactSameReaderSpec)

/-- ITS FALSE NEIGHBOUR: 'it returns false'. Refute it at one input. -/
def fnExactSameReaderWrong : ChangeSpec := { name := "fnExactSameReader", fn := fun _ => fun
  | [d1, d2] => { results := [.lit (.bool false)], args := [d1, d2] }
  | _ => none }
def FnExactSameReaderWrongFalsely : Prop := fnExactSameReaderRow.holds Try.pinned (OpenSpec.ofChange fnExactSameReaderWrong)

/-- 'laws.FnExactStateAfter': WHATEVER THE INPUT: true; the input reads as it did. -/
def fnExactStateAfterSpec : ChangeSpec := { name := "fnExactStateAfter", fn := fun _ => fun
  | [d1, d2] => { results := [.lit (.bool true)], args := [d1, d2] }
  | _ => none }
def fnExactStateAfterRow : OpenClaim := { program := "ytgeopkjohijegaa", sum := "06357214eb86962b42f7baa127567cc320b6908cefa3e94a2f343081f2151fb7", func := "loop.example/g01134/laws.FnExactStateAfter", spec := "fnExactStateAfter", plainKeys := false, apart := false }
def FnExactStateAfterSaid : Prop := fnExactStateAfterRow.holds Try.pinned (OpenSpec.ofChange fnExactStateAfterSpec)

/-- ITS FALSE NEIGHBOUR: 'it returns false'. Refute it at one input. -/
def fnExactStateAfterWrong : ChangeSpec := { name := "fnExactStateAfter", fn := fun _ => fun
  | [d1, d2] => { results := [.lit (.bool false)], args := [d1, d2] }
  | _ => none }
def FnExactStateAfterWrongFalsely : Prop := fnExactStateAfterRow.holds Try.pinned (OpenSpec.ofChange fnExactStateAfterWrong)

/- THE SECOND FORM. 'bulk': how many values and letters a reading holds, each counted each time it is reached (what is shared counts as often as it is met; a slice's spare places count too). A statement '..UptoSaid' is the law's where the arguments, and the package variables that the reading takes, are together of bulk at most 1048576: NARROWER than '..Said'. Prove '..Said' where nothing that the law and all that it calls make is longer than what came in: it says more and counts as full. Else prove '..UptoSaid'. A law counts once. -/
mutual
def uptoBulk {H : Type} : DataW H → Nat
  | .lit (.string bytes) => bytes.length + 1
  | .lit _ => 1
  | .nil => 1
  | .ptr d => uptoBulk d + 1
  | .slice elems spare => uptoBulkAll elems + uptoBulkAll spare + 1
  | .agg parts => uptoBulkAll parts + 1
  | .iface _ d => uptoBulk d + 1
  | .map entries => uptoBulkEntries entries + 1
  | .held _ => 1
def uptoBulkAll {H : Type} : List (DataW H) → Nat
  | [] => 0
  | d :: r => uptoBulk d + uptoBulkAll r
def uptoBulkEntries {H : Type} : List (Lit × DataW H) → Nat
  | [] => 0
  | x :: r => uptoBulkEntry x + uptoBulkEntries r
def uptoBulkEntry {H : Type} : Lit × DataW H → Nat
  | (.string bytes, d) => bytes.length + uptoBulk d + 1
  | (_, d) => uptoBulk d + 1
 end
def uptoSmall : (H : Type) → List (DataW H) → Bool := fun _ ds => decide (uptoBulkAll ds ≤ 1048576)
def OpenSpec.upto (s : _root_.Go.ChangeSpec) : _root_.Go.OpenSpec := { _root_.Go.OpenSpec.ofChange s with cond := some uptoSmall }

/-- 'laws.FnReaderLogic', WHERE WHAT IT READS IS OF BULK AT MOST 1048576: true; the input reads as it did. -/
def fnReaderLogicUptoRow : OpenClaim := { program := "ytgeopkjohijegaa", sum := "06357214eb86962b42f7baa127567cc320b6908cefa3e94a2f343081f2151fb7", func := "loop.example/g01134/laws.FnReaderLogic", spec := "fnReaderLogic", unfollowed := true, recurses := true, plainKeys := false, apart := false, narrowed := true }
def FnReaderLogicUptoSaid : Prop := fnReaderLogicUptoRow.holds Try.pinned (OpenSpec.upto fnReaderLogicSpec)

/-- 'laws.FnTidyReader', WHERE WHAT IT READS IS OF BULK AT MOST 1048576: true; the input reads as it did. -/
def fnTidyReaderUptoRow : OpenClaim := { program := "ytgeopkjohijegaa", sum := "06357214eb86962b42f7baa127567cc320b6908cefa3e94a2f343081f2151fb7", func := "loop.example/g01134/laws.FnTidyReader", spec := "fnTidyReader", unfollowed := true, recurses := true, plainKeys := false, apart := false, narrowed := true }
def FnTidyReaderUptoSaid : Prop := fnTidyReaderUptoRow.holds Try.pinned (OpenSpec.upto fnTidyReaderSpec)

/-- 'laws.FnUnlikeReaders', WHERE WHAT IT READS IS OF BULK AT MOST 1048576: true; the input reads as it did. -/
def fnUnlikeReadersUptoRow : OpenClaim := { program := "ytgeopkjohijegaa", sum := "06357214eb86962b42f7baa127567cc320b6908cefa3e94a2f343081f2151fb7", func := "loop.example/g01134/laws.FnUnlikeReaders", spec := "fnUnlikeReaders", unfollowed := true, recurses := true, plainKeys := false, apart := false, narrowed := true }
def FnUnlikeReadersUptoSaid : Prop := fnUnlikeReadersUptoRow.holds Try.pinned (OpenSpec.upto fnUnlikeReadersSpec)

/-- 'laws.FnExactCodeName', WHERE WHAT IT READS IS OF BULK AT MOST 1048576: true; the input reads as it did. -/
def fnExactCodeNameUptoRow : OpenClaim := { program := "ytgeopkjohijegaa", sum := "06357214eb86962b42f7baa127567cc320b6908cefa3e94a2f343081f2151fb7", func := "loop.example/g01134/laws.FnExactCodeName", spec := "fnExactCodeName", plainKeys := false, apart := false, narrowed := true }
def FnExactCodeNameUptoSaid : Prop := fnExactCodeNameUptoRow.holds Try.pinned (OpenSpec.upto fnExactCodeNameSpec)

/-- 'laws.FnExactValidWord', WHERE WHAT IT READS IS OF BULK AT MOST 1048576: true; the input reads as it did. -/
def fnExactValidWordUptoRow : OpenClaim := { program := "ytgeopkjohijegaa", sum := "06357214eb86962b42f7baa127567cc320b6908cefa3e94a2f343081f2151fb7", func := "loop.example/g01134/laws.FnExactValidWord", spec := "fnExactValidWord", plainKeys := false, apart := false, narrowed := true }
def FnExactValidWordUptoSaid : Prop := fnExactValidWordUptoRow.holds Try.pinned (OpenSpec.upto fnExactValidWordSpec)

/-- 'laws.FnExactValidReader', WHERE WHAT IT READS IS OF BULK AT MOST 1048576: true; the input reads as it did. -/
def fnExactValidReaderUptoRow : OpenClaim := { program := "ytgeopkjohijegaa", sum := "06357214eb86962b42f7baa127567cc320b6908cefa3e94a2f343081f2151fb7", func := "loop.example/g01134/laws.FnExactValidReader", spec := "fnExactValidReader", plainKeys := false, apart := false, narrowed := true }
def FnExactValidReaderUptoSaid : Prop := fnExactValidReaderUptoRow.holds Try.pinned (OpenSpec.upto fnExactValidReaderSpec)

/-- 'laws.FnExactSameReader', WHERE WHAT IT READS IS OF BULK AT MOST 1048576: true; the input reads as it did. -/
def fnExactSameReaderUptoRow : OpenClaim := { program := "ytgeopkjohijegaa", sum := "06357214eb86962b42f7baa127567cc320b6908cefa3e94a2f343081f2151fb7", func := "loop.example/g01134/laws.FnExactSameReader", spec := "fnExactSameReader", unfollowed := true, recurses := true, plainKeys := false, apart := false, narrowed := true }
def FnExactSameReaderUptoSaid : Prop := fnExactSameReaderUptoRow.holds Try.pinned (OpenSpec.upto fnExactSameReaderSpec)

/-- 'laws.FnExactStateAfter', WHERE WHAT IT READS IS OF BULK AT MOST 1048576: true; the input reads as it did. -/
def fnExactStateAfterUptoRow : OpenClaim := { program := "ytgeopkjohijegaa", sum := "06357214eb86962b42f7baa127567cc320b6908cefa3e94a2f343081f2151fb7", func := "loop.example/g01134/laws.FnExactStateAfter", spec := "fnExactStateAfter", plainKeys := false, apart := false, narrowed := true }
def FnExactStateAfterUptoSaid : Prop := fnExactStateAfterUptoRow.holds Try.pinned (OpenSpec.upto fnExactStateAfterSpec)

end Rows
end Go.Proofs.Ytgeopkjohijegaa
