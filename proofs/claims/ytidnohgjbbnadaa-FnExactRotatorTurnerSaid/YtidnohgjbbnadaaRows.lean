/-
  No cell of these rows narrows 'for every input' (looked for: loops, veiled, ifaces, maps, wideKeys, modest, calm, conditions, laid).
  DERIVED. THE GIVEN ROWS OF THIS SEAT. 6 by the template 'for every input the law returns true; each argument reads behind the call as it read before'; 0 by the template 'total and deterministic' (their statements: YtidnohgjbbnadaaTotals.lean).
  GIVEN WITH THE SEED: the statements are not yours to turn. If you find one false, say at which input.
  Laid BY PROGRAM, IN A SANDBOX (cutbox-rows.mjs): the forced cells as the released guide's own fill.sh prints them over the translation 1bff2ee3f78e4130… (all of the seat's roots in one cut). By AI agents, Wed Nov 11 2026. No macro, syntax, notation, axiom, sorry.
-/
import Derived.Test.YtidnohgjbbnadaaChecked
import GoSem.Claim
import GoSem.ClaimJoined
import GoSem.ClaimMapViews
import Derived.JoinedTies
import Derived.KernelRfl
namespace Go.Proofs.Ytidnohgjbbnadaa
/- THE CELL 'sum', in the pinned program and in every row, IS THE sha256 OF THE DUMP (.gsa) THAT YtidnohgjbbnadaaProg.lean LOADS. Nothing in Lean hashes anything: it is a label: what it is worth is what the hold of that sum in a sandbox is worth. -/
noncomputable def Try.pinned : Pinned := { name := "ytidnohgjbbnadaa", sum := "1bff2ee3f78e4130a0612517f058d8d0590a5061d1152711100663ac4061546a", checked := Try.checked }
namespace Rows
def none {H : Type} : Left H := { results := [], args := [] }

/-- 'laws.FnExactRotatorTurner': WHATEVER THE INPUT: true; the input reads as it did. -/
def fnExactRotatorTurnerSpec : ChangeSpec := { name := "fnExactRotatorTurner", fn := fun _ => fun
  | [d] => { results := [.lit (.bool true)], args := [d] }
  | _ => none }
def fnExactRotatorTurnerRow : OpenClaim := { program := "ytidnohgjbbnadaa", sum := "1bff2ee3f78e4130a0612517f058d8d0590a5061d1152711100663ac4061546a", func := "loop.example/g01134/laws.FnExactRotatorTurner", spec := "fnExactRotatorTurner", unfollowed := true, recurses := true, plainKeys := false, apart := false }
def FnExactRotatorTurnerSaid : Prop := fnExactRotatorTurnerRow.holds Try.pinned (OpenSpec.ofChange fnExactRotatorTurnerSpec)

/-- ITS FALSE NEIGHBOUR: 'it returns false'. Refute it at one input. -/
def fnExactRotatorTurnerWrong : ChangeSpec := { name := "fnExactRotatorTurner", fn := fun _ => fun
  | [d] => { results := [.lit (.bool false)], args := [d] }
  | _ => none }
def FnExactRotatorTurnerWrongFalsely : Prop := fnExactRotatorTurnerRow.holds Try.pinned (OpenSpec.ofChange fnExactRotatorTurnerWrong)

/-- 'laws.FnExactNthLastTurner': WHATEVER THE INPUT: true; the input reads as it did. -/
def fnExactNthLastTurnerSpec : ChangeSpec := { name := "fnExactNthLastTurner", fn := fun _ => fun
  | [d1, d2] => { results := [.lit (.bool true)], args := [d1, d2] }
  | _ => none }
def fnExactNthLastTurnerRow : OpenClaim := { program := "ytidnohgjbbnadaa", sum := "1bff2ee3f78e4130a0612517f058d8d0590a5061d1152711100663ac4061546a", func := "loop.example/g01134/laws.FnExactNthLastTurner", spec := "fnExactNthLastTurner", unfollowed := true, recurses := true, plainKeys := false, apart := false }
def FnExactNthLastTurnerSaid : Prop := fnExactNthLastTurnerRow.holds Try.pinned (OpenSpec.ofChange fnExactNthLastTurnerSpec)

/-- ITS FALSE NEIGHBOUR: 'it returns false'. Refute it at one input. -/
def fnExactNthLastTurnerWrong : ChangeSpec := { name := "fnExactNthLastTurner", fn := fun _ => fun
  | [d1, d2] => { results := [.lit (.bool false)], args := [d1, d2] }
  | _ => none }
def FnExactNthLastTurnerWrongFalsely : Prop := fnExactNthLastTurnerRow.holds Try.pinned (OpenSpec.ofChange fnExactNthLastTurnerWrong)

/-- 'laws.FnExactValidPebbler': WHATEVER THE INPUT: true; the input reads as it did. -/
def fnExactValidPebblerSpec : ChangeSpec := { name := "fnExactValidPebbler", fn := fun _ => fun
  | [d] => { results := [.lit (.bool true)], args := [d] }
  | _ => none }
def fnExactValidPebblerRow : OpenClaim := { program := "ytidnohgjbbnadaa", sum := "1bff2ee3f78e4130a0612517f058d8d0590a5061d1152711100663ac4061546a", func := "loop.example/g01134/laws.FnExactValidPebbler", spec := "fnExactValidPebbler", plainKeys := false, apart := false }
def FnExactValidPebblerSaid : Prop := fnExactValidPebblerRow.holds Try.pinned (OpenSpec.ofChange fnExactValidPebblerSpec)

/-- ITS FALSE NEIGHBOUR: 'it returns false'. Refute it at one input. -/
def fnExactValidPebblerWrong : ChangeSpec := { name := "fnExactValidPebbler", fn := fun _ => fun
  | [d] => { results := [.lit (.bool false)], args := [d] }
  | _ => none }
def FnExactValidPebblerWrongFalsely : Prop := fnExactValidPebblerRow.holds Try.pinned (OpenSpec.ofChange fnExactValidPebblerWrong)

/-- 'laws.FnExactSamePebbler': WHATEVER THE INPUT: true; the input reads as it did. -/
def fnExactSamePebblerSpec : ChangeSpec := { name := "fnExactSamePebbler", fn := fun _ => fun
  | [d1, d2] => { results := [.lit (.bool true)], args := [d1, d2] }
  | _ => none }
def fnExactSamePebblerRow : OpenClaim := { program := "ytidnohgjbbnadaa", sum := "1bff2ee3f78e4130a0612517f058d8d0590a5061d1152711100663ac4061546a", func := "loop.example/g01134/laws.FnExactSamePebbler", spec := "fnExactSamePebbler", unfollowed := true, recurses := true, plainKeys := false, apart := false }
def FnExactSamePebblerSaid : Prop := fnExactSamePebblerRow.holds Try.pinned (OpenSpec.ofChange fnExactSamePebblerSpec)

/-- ITS FALSE NEIGHBOUR: 'it returns false'. Refute it at one input. -/
def fnExactSamePebblerWrong : ChangeSpec := { name := "fnExactSamePebbler", fn := fun _ => fun
  | [d1, d2] => { results := [.lit (.bool false)], args := [d1, d2] }
  | _ => none }
def FnExactSamePebblerWrongFalsely : Prop := fnExactSamePebblerRow.holds Try.pinned (OpenSpec.ofChange fnExactSamePebblerWrong)

/-- 'laws.FnExactRunPebbler': WHATEVER THE INPUT: true; the input reads as it did. -/
def fnExactRunPebblerSpec : ChangeSpec := { name := "fnExactRunPebbler", fn := fun _ => fun
  | [d1, d2] => { results := [.lit (.bool true)], args := [d1, d2] }
  | _ => none }
def fnExactRunPebblerRow : OpenClaim := { program := "ytidnohgjbbnadaa", sum := "1bff2ee3f78e4130a0612517f058d8d0590a5061d1152711100663ac4061546a", func := "loop.example/g01134/laws.FnExactRunPebbler", spec := "fnExactRunPebbler", plainKeys := false, apart := false }
def FnExactRunPebblerSaid : Prop := fnExactRunPebblerRow.holds Try.pinned (OpenSpec.ofChange fnExactRunPebblerSpec)

/-- ITS FALSE NEIGHBOUR: 'it returns false'. Refute it at one input. -/
def fnExactRunPebblerWrong : ChangeSpec := { name := "fnExactRunPebbler", fn := fun _ => fun
  | [d1, d2] => { results := [.lit (.bool false)], args := [d1, d2] }
  | _ => none }
def FnExactRunPebblerWrongFalsely : Prop := fnExactRunPebblerRow.holds Try.pinned (OpenSpec.ofChange fnExactRunPebblerWrong)

/-- 'laws.FnExactPebblerOf': WHATEVER THE INPUT: true; the input reads as it did. -/
def fnExactPebblerOfSpec : ChangeSpec := { name := "fnExactPebblerOf", fn := fun _ => fun
  | [d] => { results := [.lit (.bool true)], args := [d] }
  | _ => none }
def fnExactPebblerOfRow : OpenClaim := { program := "ytidnohgjbbnadaa", sum := "1bff2ee3f78e4130a0612517f058d8d0590a5061d1152711100663ac4061546a", func := "loop.example/g01134/laws.FnExactPebblerOf", spec := "fnExactPebblerOf", plainKeys := false, apart := false }
def FnExactPebblerOfSaid : Prop := fnExactPebblerOfRow.holds Try.pinned (OpenSpec.ofChange fnExactPebblerOfSpec)

/-- ITS FALSE NEIGHBOUR: 'it returns false'. Refute it at one input. -/
def fnExactPebblerOfWrong : ChangeSpec := { name := "fnExactPebblerOf", fn := fun _ => fun
  | [d] => { results := [.lit (.bool false)], args := [d] }
  | _ => none }
def FnExactPebblerOfWrongFalsely : Prop := fnExactPebblerOfRow.holds Try.pinned (OpenSpec.ofChange fnExactPebblerOfWrong)

/- THE SECOND FORM. 'bulk': how many values and letters a reading holds, each counted each time it is reached (what is shared counts as often as it is met; a slice's spare places count too). A statement '..UptoSaid' is the law's where the arguments, and the package variables that the reading takes, are together of bulk at most 1048576: NARROWER than '..Said'. Prove '..Said' where nothing that the law and all that it calls make is longer than what came in: it says more and counts as full. Else prove '..UptoSaid'. A law counts once. -/
mutual
def uptoBulk {H : Type} : DataW H → Nat
  | .lit (.string bytes) => bytes.length + 1
  | .lit _ => 1
  | .nil => 1
  | .ptr d => uptoBulk d + 1
  | .slice elems spare => uptoBulkAll elems + uptoBulkAll spare + 1
  | .agg parts => uptoBulkAll parts + 1
  | .iface _ d => uptoBulk d + 1
  | .map entries => uptoBulkEntries entries + 1
  | .held _ => 1
def uptoBulkAll {H : Type} : List (DataW H) → Nat
  | [] => 0
  | d :: r => uptoBulk d + uptoBulkAll r
def uptoBulkEntries {H : Type} : List (Lit × DataW H) → Nat
  | [] => 0
  | x :: r => uptoBulkEntry x + uptoBulkEntries r
def uptoBulkEntry {H : Type} : Lit × DataW H → Nat
  | (.string bytes, d) => bytes.length + uptoBulk d + 1
  | (_, d) => uptoBulk d + 1
 end
def uptoSmall : (H : Type) → List (DataW H) → Bool := fun _ ds => decide (uptoBulkAll ds ≤ 1048576)
def OpenSpec.upto (s : _root_.Go.ChangeSpec) : _root_.Go.OpenSpec := { _root_.Go.OpenSpec.ofChange s with cond := some uptoSmall }

/-- 'laws.FnExactRotatorTurner', WHERE WHAT IT READS IS OF BULK AT MOST 1048576: true; the input reads as it did. -/
def fnExactRotatorTurnerUptoRow : OpenClaim := { program := "ytidnohgjbbnadaa", sum := "1bff2ee3f78e4130a0612517f058d8d0590a5061d1152711100663ac4061546a", func := "loop.example/g01134/laws.FnExactRotatorTurner", spec := "fnExactRotatorTurner", unfollowed := true, recurses := true, plainKeys := false, apart := false, narrowed := true }
def FnExactRotatorTurnerUptoSaid : Prop := fnExactRotatorTurnerUptoRow.holds Try.pinned (OpenSpec.upto fnExactRotatorTurnerSpec)

/-- 'laws.FnExactNthLastTurner', WHERE WHAT IT READS IS OF BULK AT MOST 1048576: true; the input reads as it did. -/
def fnExactNthLastTurnerUptoRow : OpenClaim := { program := "ytidnohgjbbnadaa", sum := "1bff2ee3f78e4130a0612517f058d8d0590a5061d1152711100663ac4061546a", func := "loop.example/g01134/laws.FnExactNthLastTurner", spec := "fnExactNthLastTurner", unfollowed := true, recurses := true, plainKeys := false, apart := false, narrowed := true }
def FnExactNthLastTurnerUptoSaid : Prop := fnExactNthLastTurnerUptoRow.holds Try.pinned (OpenSpec.upto fnExactNthLastTurnerSpec)

/-- 'laws.FnExactValidPebbler', WHERE WHAT IT READS IS OF BULK AT MOST 1048576: true; the input reads as it did. -/
def fnExactValidPebblerUptoRow : OpenClaim := { program := "ytidnohgjbbnadaa", sum := "1bff2ee3f78e4130a0612517f058d8d0590a5061d1152711100663ac4061546a", func := "loop.example/g01134/laws.FnExactValidPebbler", spec := "fnExactValidPebbler", plainKeys := false, apart := false, narrowed := true }
def FnExactValidPebblerUptoSaid : Prop := fnExactValidPebblerUptoRow.holds Try.pinned (OpenSpec.upto fnExactValidPebblerSpec)

/-- 'laws.FnExactSamePebbler', WHERE WHAT IT READS IS OF BULK AT MOST 1048576: true; the input reads as it did. -/
def fnExactSamePebblerUptoRow : OpenClaim := { program := "ytidnohgjbbnadaa", sum := "1bff2ee3f78e4130a0612517f058d8d0590a5061d1152711100663ac4061546a", func := "loop.example/g01134/laws.FnExactSamePebbler", spec := "fnExactSamePebbler", unfollowed := true, recurses := true, plainKeys := false, apart := false, narrowed := true }
def FnExactSamePebblerUptoSaid : Prop := fnExactSamePebblerUptoRow.holds Try.pinned (OpenSpec.upto fnExactSamePebblerSpec)

/-- 'laws.FnExactRunPebbler', WHERE WHAT IT READS IS OF BULK AT MOST 1048576: true; the input reads as it did. -/
def fnExactRunPebblerUptoRow : OpenClaim := { program := "ytidnohgjbbnadaa", sum := "1bff2ee3f78e4130a0612517f058d8d0590a5061d1152711100663ac4061546a", func := "loop.example/g01134/laws.FnExactRunPebbler", spec := "fnExactRunPebbler", plainKeys := false, apart := false, narrowed := true }
def FnExactRunPebblerUptoSaid : Prop := fnExactRunPebblerUptoRow.holds Try.pinned (OpenSpec.upto fnExactRunPebblerSpec)

/-- 'laws.FnExactPebblerOf', WHERE WHAT IT READS IS OF BULK AT MOST 1048576: true; the input reads as it did. -/
def fnExactPebblerOfUptoRow : OpenClaim := { program := "ytidnohgjbbnadaa", sum := "1bff2ee3f78e4130a0612517f058d8d0590a5061d1152711100663ac4061546a", func := "loop.example/g01134/laws.FnExactPebblerOf", spec := "fnExactPebblerOf", plainKeys := false, apart := false, narrowed := true }
def FnExactPebblerOfUptoSaid : Prop := fnExactPebblerOfUptoRow.holds Try.pinned (OpenSpec.upto fnExactPebblerOfSpec)

end Rows
end Go.Proofs.Ytidnohgjbbnadaa
