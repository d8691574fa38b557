/-
  No cell of these rows narrows 'for every input' (looked for: loops, veiled, ifaces, maps, wideKeys, modest, calm, conditions, laid).
  DERIVED. THE GIVEN ROWS OF THIS SEAT. 6 by the template 'for every input the law returns true; each argument reads behind the call as it read before'; 0 by the template 'total and deterministic' (their statements: YteeckhhingmgfaaTotals.lean).
  GIVEN WITH THE SEED: the statements are not yours to turn. If you find one false, say at which input.
  Laid BY PROGRAM, IN A SANDBOX (cutbox-rows.mjs): the forced cells as the released guide's own fill.sh prints them over the translation df0372821e994d19… (all of the seat's roots in one cut). By AI agents, Wed Nov 11 2026. No macro, syntax, notation, axiom, sorry.
-/
import Derived.Test.YteeckhhingmgfaaChecked
import GoSem.Claim
import GoSem.ClaimJoined
import GoSem.ClaimMapViews
import Derived.JoinedTies
import Derived.KernelRfl
namespace Go.Proofs.Yteeckhhingmgfaa
/- THE CELL 'sum', in the pinned program and in every row, IS THE sha256 OF THE DUMP (.gsa) THAT YteeckhhingmgfaaProg.lean LOADS. Nothing in Lean hashes anything: it is a label: what it is worth is what the hold of that sum in a sandbox is worth. -/
noncomputable def Try.pinned : Pinned := { name := "yteeckhhingmgfaa", sum := "df0372821e994d1939500462d14c7f078956394aec61f7469dde2aa72fa940ba", checked := Try.checked }
namespace Rows
def none {H : Type} : Left H := { results := [], args := [] }

/-- 'laws.FnExactValidRotator': WHATEVER THE INPUT: true; the input reads as it did. -/
def fnExactValidRotatorSpec : ChangeSpec := { name := "fnExactValidRotator", fn := fun _ => fun
  | [d] => { results := [.lit (.bool true)], args := [d] }
  | _ => none }
def fnExactValidRotatorRow : OpenClaim := { program := "yteeckhhingmgfaa", sum := "df0372821e994d1939500462d14c7f078956394aec61f7469dde2aa72fa940ba", func := "loop.example/g01134/laws.FnExactValidRotator", spec := "fnExactValidRotator", unfollowed := true, recurses := true, apart := false }
def FnExactValidRotatorSaid : Prop := fnExactValidRotatorRow.holds Try.pinned (OpenSpec.ofChange fnExactValidRotatorSpec)

/-- ITS FALSE NEIGHBOUR: 'it returns false'. Refute it at one input. -/
def fnExactValidRotatorWrong : ChangeSpec := { name := "fnExactValidRotator", fn := fun _ => fun
  | [d] => { results := [.lit (.bool false)], args := [d] }
  | _ => none }
def FnExactValidRotatorWrongFalsely : Prop := fnExactValidRotatorRow.holds Try.pinned (OpenSpec.ofChange fnExactValidRotatorWrong)

/-- 'laws.FnExactSameRotator': WHATEVER THE INPUT: true; the input reads as it did. -/
def fnExactSameRotatorSpec : ChangeSpec := { name := "fnExactSameRotator", fn := fun _ => fun
  | [d1, d2] => { results := [.lit (.bool true)], args := [d1, d2] }
  | _ => none }
def fnExactSameRotatorRow : OpenClaim := { program := "yteeckhhingmgfaa", sum := "df0372821e994d1939500462d14c7f078956394aec61f7469dde2aa72fa940ba", func := "loop.example/g01134/laws.FnExactSameRotator", spec := "fnExactSameRotator", unfollowed := true, recurses := true, apart := false }
def FnExactSameRotatorSaid : Prop := fnExactSameRotatorRow.holds Try.pinned (OpenSpec.ofChange fnExactSameRotatorSpec)

/-- ITS FALSE NEIGHBOUR: 'it returns false'. Refute it at one input. -/
def fnExactSameRotatorWrong : ChangeSpec := { name := "fnExactSameRotator", fn := fun _ => fun
  | [d1, d2] => { results := [.lit (.bool false)], args := [d1, d2] }
  | _ => none }
def FnExactSameRotatorWrongFalsely : Prop := fnExactSameRotatorRow.holds Try.pinned (OpenSpec.ofChange fnExactSameRotatorWrong)

/-- 'laws.FnExactRunRotator': WHATEVER THE INPUT: true; the input reads as it did. -/
def fnExactRunRotatorSpec : ChangeSpec := { name := "fnExactRunRotator", fn := fun _ => fun
  | [d1, d2] => { results := [.lit (.bool true)], args := [d1, d2] }
  | _ => none }
def fnExactRunRotatorRow : OpenClaim := { program := "yteeckhhingmgfaa", sum := "df0372821e994d1939500462d14c7f078956394aec61f7469dde2aa72fa940ba", func := "loop.example/g01134/laws.FnExactRunRotator", spec := "fnExactRunRotator", unfollowed := true, recurses := true, apart := false }
def FnExactRunRotatorSaid : Prop := fnExactRunRotatorRow.holds Try.pinned (OpenSpec.ofChange fnExactRunRotatorSpec)

/-- ITS FALSE NEIGHBOUR: 'it returns false'. Refute it at one input. -/
def fnExactRunRotatorWrong : ChangeSpec := { name := "fnExactRunRotator", fn := fun _ => fun
  | [d1, d2] => { results := [.lit (.bool false)], args := [d1, d2] }
  | _ => none }
def FnExactRunRotatorWrongFalsely : Prop := fnExactRunRotatorRow.holds Try.pinned (OpenSpec.ofChange fnExactRunRotatorWrong)

/-- 'laws.FnExactNotRotator': WHATEVER THE INPUT: true; the input reads as it did. -/
def fnExactNotRotatorSpec : ChangeSpec := { name := "fnExactNotRotator", fn := fun _ => fun
  | [d] => { results := [.lit (.bool true)], args := [d] }
  | _ => none }
def fnExactNotRotatorRow : OpenClaim := { program := "yteeckhhingmgfaa", sum := "df0372821e994d1939500462d14c7f078956394aec61f7469dde2aa72fa940ba", func := "loop.example/g01134/laws.FnExactNotRotator", spec := "fnExactNotRotator", unfollowed := true, recurses := true, apart := false }
def FnExactNotRotatorSaid : Prop := fnExactNotRotatorRow.holds Try.pinned (OpenSpec.ofChange fnExactNotRotatorSpec)

/-- ITS FALSE NEIGHBOUR: 'it returns false'. Refute it at one input. -/
def fnExactNotRotatorWrong : ChangeSpec := { name := "fnExactNotRotator", fn := fun _ => fun
  | [d] => { results := [.lit (.bool false)], args := [d] }
  | _ => none }
def FnExactNotRotatorWrongFalsely : Prop := fnExactNotRotatorRow.holds Try.pinned (OpenSpec.ofChange fnExactNotRotatorWrong)

/-- 'laws.FnExactThenRotator': WHATEVER THE INPUT: true; the input reads as it did. -/
def fnExactThenRotatorSpec : ChangeSpec := { name := "fnExactThenRotator", fn := fun _ => fun
  | [d1, d2] => { results := [.lit (.bool true)], args := [d1, d2] }
  | _ => none }
def fnExactThenRotatorRow : OpenClaim := { program := "yteeckhhingmgfaa", sum := "df0372821e994d1939500462d14c7f078956394aec61f7469dde2aa72fa940ba", func := "loop.example/g01134/laws.FnExactThenRotator", spec := "fnExactThenRotator", unfollowed := true, recurses := true, apart := false }
def FnExactThenRotatorSaid : Prop := fnExactThenRotatorRow.holds Try.pinned (OpenSpec.ofChange fnExactThenRotatorSpec)

/-- ITS FALSE NEIGHBOUR: 'it returns false'. Refute it at one input. -/
def fnExactThenRotatorWrong : ChangeSpec := { name := "fnExactThenRotator", fn := fun _ => fun
  | [d1, d2] => { results := [.lit (.bool false)], args := [d1, d2] }
  | _ => none }
def FnExactThenRotatorWrongFalsely : Prop := fnExactThenRotatorRow.holds Try.pinned (OpenSpec.ofChange fnExactThenRotatorWrong)

/-- 'laws.FnExactNthLastMany': WHATEVER THE INPUT: true; the input reads as it did. -/
def fnExactNthLastManySpec : ChangeSpec := { name := "fnExactNthLastMany", fn := fun _ => fun
  | [d1, d2] => { results := [.lit (.bool true)], args := [d1, d2] }
  | _ => none }
def fnExactNthLastManyRow : OpenClaim := { program := "yteeckhhingmgfaa", sum := "df0372821e994d1939500462d14c7f078956394aec61f7469dde2aa72fa940ba", func := "loop.example/g01134/laws.FnExactNthLastMany", spec := "fnExactNthLastMany", apart := false }
def FnExactNthLastManySaid : Prop := fnExactNthLastManyRow.holds Try.pinned (OpenSpec.ofChange fnExactNthLastManySpec)

/-- ITS FALSE NEIGHBOUR: 'it returns false'. Refute it at one input. -/
def fnExactNthLastManyWrong : ChangeSpec := { name := "fnExactNthLastMany", fn := fun _ => fun
  | [d1, d2] => { results := [.lit (.bool false)], args := [d1, d2] }
  | _ => none }
def FnExactNthLastManyWrongFalsely : Prop := fnExactNthLastManyRow.holds Try.pinned (OpenSpec.ofChange fnExactNthLastManyWrong)

/- THE SECOND FORM. 'bulk': how many values and letters a reading holds, each counted each time it is reached (what is shared counts as often as it is met; a slice's spare places count too). A statement '..UptoSaid' is the law's where the arguments, and the package variables that the reading takes, are together of bulk at most 1048576: NARROWER than '..Said'. Prove '..Said' where nothing that the law and all that it calls make is longer than what came in: it says more and counts as full. Else prove '..UptoSaid'. A law counts once. -/
mutual
def uptoBulk {H : Type} : DataW H → Nat
  | .lit (.string bytes) => bytes.length + 1
  | .lit _ => 1
  | .nil => 1
  | .ptr d => uptoBulk d + 1
  | .slice elems spare => uptoBulkAll elems + uptoBulkAll spare + 1
  | .agg parts => uptoBulkAll parts + 1
  | .iface _ d => uptoBulk d + 1
  | .map entries => uptoBulkEntries entries + 1
  | .held _ => 1
def uptoBulkAll {H : Type} : List (DataW H) → Nat
  | [] => 0
  | d :: r => uptoBulk d + uptoBulkAll r
def uptoBulkEntries {H : Type} : List (Lit × DataW H) → Nat
  | [] => 0
  | x :: r => uptoBulkEntry x + uptoBulkEntries r
def uptoBulkEntry {H : Type} : Lit × DataW H → Nat
  | (.string bytes, d) => bytes.length + uptoBulk d + 1
  | (_, d) => uptoBulk d + 1
 end
def uptoSmall : (H : Type) → List (DataW H) → Bool := fun _ ds => decide (uptoBulkAll ds ≤ 1048576)
def OpenSpec.upto (s : _root_.Go.ChangeSpec) : _root_.Go.OpenSpec := { _root_.Go.OpenSpec.ofChange s with cond := some uptoSmall }

/-- 'laws.FnExactValidRotator', WHERE WHAT IT READS IS OF BULK AT MOST 1048576: true; the input reads as it did. -/
def fnExactValidRotatorUptoRow : OpenClaim := { program := "yteeckhhingmgfaa", sum := "df0372821e994d1939500462d14c7f078956394aec61f7469dde2aa72fa940ba", func := "loop.example/g01134/laws.FnExactValidRotator", spec := "fnExactValidRotator", unfollowed := true, recurses := true, apart := false, narrowed := true }
def FnExactValidRotatorUptoSaid : Prop := fnExactValidRotatorUptoRow.holds Try.pinned (OpenSpec.upto fnExactValidRotatorSpec)

/-- 'laws.FnExactSameRotator', WHERE WHAT IT READS IS OF BULK AT MOST 1048576: true; the input reads as it did. -/
def fnExactSameRotatorUptoRow : OpenClaim := { program := "yteeckhhingmgfaa", sum := "df0372821e994d1939500462d14c7f078956394aec61f7469dde2aa72fa940ba", func := "loop.example/g01134/laws.FnExactSameRotator", spec := "fnExactSameRotator", unfollowed := true, recurses := true, apart := false, narrowed := true }
def FnExactSameRotatorUptoSaid : Prop := fnExactSameRotatorUptoRow.holds Try.pinned (OpenSpec.upto fnExactSameRotatorSpec)

/-- 'laws.FnExactRunRotator', WHERE WHAT IT READS IS OF BULK AT MOST 1048576: true; the input reads as it did. -/
def fnExactRunRotatorUptoRow : OpenClaim := { program := "yteeckhhingmgfaa", sum := "df0372821e994d1939500462d14c7f078956394aec61f7469dde2aa72fa940ba", func := "loop.example/g01134/laws.FnExactRunRotator", spec := "fnExactRunRotator", unfollowed := true, recurses := true, apart := false, narrowed := true }
def FnExactRunRotatorUptoSaid : Prop := fnExactRunRotatorUptoRow.holds Try.pinned (OpenSpec.upto fnExactRunRotatorSpec)

/-- 'laws.FnExactNotRotator', WHERE WHAT IT READS IS OF BULK AT MOST 1048576: true; the input reads as it did. -/
def fnExactNotRotatorUptoRow : OpenClaim := { program := "yteeckhhingmgfaa", sum := "df0372821e994d1939500462d14c7f078956394aec61f7469dde2aa72fa940ba", func := "loop.example/g01134/laws.FnExactNotRotator", spec := "fnExactNotRotator", unfollowed := true, recurses := true, apart := false, narrowed := true }
def FnExactNotRotatorUptoSaid : Prop := fnExactNotRotatorUptoRow.holds Try.pinned (OpenSpec.upto fnExactNotRotatorSpec)

/-- 'laws.FnExactThenRotator', WHERE WHAT IT READS IS OF BULK AT MOST 1048576: true; the input reads as it did. -/
def fnExactThenRotatorUptoRow : OpenClaim := { program := "yteeckhhingmgfaa", sum := "df0372821e994d1939500462d14c7f078956394aec61f7469dde2aa72fa940ba", func := "loop.example/g01134/laws.FnExactThenRotator", spec := "fnExactThenRotator", unfollowed := true, recurses := true, apart := false, narrowed := true }
def FnExactThenRotatorUptoSaid : Prop := fnExactThenRotatorUptoRow.holds Try.pinned (OpenSpec.upto fnExactThenRotatorSpec)

/-- 'laws.FnExactNthLastMany', WHERE WHAT IT READS IS OF BULK AT MOST 1048576: true; the input reads as it did. -/
def fnExactNthLastManyUptoRow : OpenClaim := { program := "yteeckhhingmgfaa", sum := "df0372821e994d1939500462d14c7f078956394aec61f7469dde2aa72fa940ba", func := "loop.example/g01134/laws.FnExactNthLastMany", spec := "fnExactNthLastMany", apart := false, narrowed := true }
def FnExactNthLastManyUptoSaid : Prop := fnExactNthLastManyUptoRow.holds Try.pinned (OpenSpec.upto fnExactNthLastManySpec)

end Rows
end Go.Proofs.Yteeckhhingmgfaa
