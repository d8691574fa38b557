/-
  No cell of these rows narrows 'for every input' (looked for: loops, veiled, ifaces, maps, wideKeys, modest, calm, conditions, laid).
  DERIVED. THE GIVEN ROWS OF THIS SEAT. 4 by the template 'for every input the law returns true; each argument reads behind the call as it read before'; 0 by the template 'total and deterministic' (their statements: YtahgekjpnmmooaaTotals.lean).
  GIVEN WITH THE SEED: the statements are not yours to turn. If you find one false, say at which input.
  Laid BY PROGRAM, IN A SANDBOX (cutbox-rows.mjs): the forced cells as the released guide's own fill.sh prints them over the translation 65ae246d788b05d2… (all of the seat's roots in one cut). By AI agents, Wed Nov 11 2026. No macro, syntax, notation, axiom, sorry.
-/
import Derived.Test.YtahgekjpnmmooaaChecked
import GoSem.Claim
import GoSem.ClaimJoined
import GoSem.ClaimMapViews
import Derived.JoinedTies
import Derived.KernelRfl
namespace Go.Proofs.Ytahgekjpnmmooaa
/- THE CELL 'sum', in the pinned program and in every row, IS THE sha256 OF THE DUMP (.gsa) THAT YtahgekjpnmmooaaProg.lean LOADS. Nothing in Lean hashes anything: it is a label: what it is worth is what the hold of that sum in a sandbox is worth. -/
noncomputable def Try.pinned : Pinned := { name := "ytahgekjpnmmooaa", sum := "65ae246d788b05d2c5900e1f960ad3cfe2018895120c7a2f591d131e46394b1a", checked := Try.checked }
namespace Rows
def none {H : Type} : Left H := { results := [], args := [] }

/-- 'laws.FnExactBackWriter': WHATEVER THE INPUT: true; the input reads as it did. -/
def fnExactBackWriterSpec : ChangeSpec := { name := "fnExactBackWriter", fn := fun _ => fun
  | [d] => { results := [.lit (.bool true)], args := [d] }
  | _ => none }
def fnExactBackWriterRow : OpenClaim := { program := "ytahgekjpnmmooaa", sum := "65ae246d788b05d2c5900e1f960ad3cfe2018895120c7a2f591d131e46394b1a", func := "loop.example/g01134/laws.FnExactBackWriter", spec := "fnExactBackWriter", unfollowed := true, recurses := true, apart := false }
def FnExactBackWriterSaid : Prop := fnExactBackWriterRow.holds Try.pinned (OpenSpec.ofChange fnExactBackWriterSpec)

/-- ITS FALSE NEIGHBOUR: 'it returns false'. Refute it at one input. -/
def fnExactBackWriterWrong : ChangeSpec := { name := "fnExactBackWriter", fn := fun _ => fun
  | [d] => { results := [.lit (.bool false)], args := [d] }
  | _ => none }
def FnExactBackWriterWrongFalsely : Prop := fnExactBackWriterRow.holds Try.pinned (OpenSpec.ofChange fnExactBackWriterWrong)

/-- 'laws.FnExactCopyWriter': WHATEVER THE INPUT: true; the input reads as it did. -/
def fnExactCopyWriterSpec : ChangeSpec := { name := "fnExactCopyWriter", fn := fun _ => fun
  | [d1, d2] => { results := [.lit (.bool true)], args := [d1, d2] }
  | _ => none }
def fnExactCopyWriterRow : OpenClaim := { program := "ytahgekjpnmmooaa", sum := "65ae246d788b05d2c5900e1f960ad3cfe2018895120c7a2f591d131e46394b1a", func := "loop.example/g01134/laws.FnExactCopyWriter", spec := "fnExactCopyWriter", unfollowed := true, recurses := true, apart := false }
def FnExactCopyWriterSaid : Prop := fnExactCopyWriterRow.holds Try.pinned (OpenSpec.ofChange fnExactCopyWriterSpec)

/-- ITS FALSE NEIGHBOUR: 'it returns false'. Refute it at one input. -/
def fnExactCopyWriterWrong : ChangeSpec := { name := "fnExactCopyWriter", fn := fun _ => fun
  | [d1, d2] => { results := [.lit (.bool false)], args := [d1, d2] }
  | _ => none }
def FnExactCopyWriterWrongFalsely : Prop := fnExactCopyWriterRow.holds Try.pinned (OpenSpec.ofChange fnExactCopyWriterWrong)

/-- 'laws.FnExactMirrorWriter': WHATEVER THE INPUT: true; the input reads as it did. -/
def fnExactMirrorWriterSpec : ChangeSpec := { name := "fnExactMirrorWriter", fn := fun _ => fun
  | [d] => { results := [.lit (.bool true)], args := [d] }
  | _ => none }
def fnExactMirrorWriterRow : OpenClaim := { program := "ytahgekjpnmmooaa", sum := "65ae246d788b05d2c5900e1f960ad3cfe2018895120c7a2f591d131e46394b1a", func := "loop.example/g01134/laws.FnExactMirrorWriter", spec := "fnExactMirrorWriter", unfollowed := true, recurses := true, apart := false }
def FnExactMirrorWriterSaid : Prop := fnExactMirrorWriterRow.holds Try.pinned (OpenSpec.ofChange fnExactMirrorWriterSpec)

/-- ITS FALSE NEIGHBOUR: 'it returns false'. Refute it at one input. -/
def fnExactMirrorWriterWrong : ChangeSpec := { name := "fnExactMirrorWriter", fn := fun _ => fun
  | [d] => { results := [.lit (.bool false)], args := [d] }
  | _ => none }
def FnExactMirrorWriterWrongFalsely : Prop := fnExactMirrorWriterRow.holds Try.pinned (OpenSpec.ofChange fnExactMirrorWriterWrong)

/-- 'laws.FnExactMapWriter': WHATEVER THE INPUT: true; the input reads as it did. -/
def fnExactMapWriterSpec : ChangeSpec := { name := "fnExactMapWriter", fn := fun _ => fun
  | [d1, d2] => { results := [.lit (.bool true)], args := [d1, d2] }
  | _ => none }
def fnExactMapWriterRow : OpenClaim := { program := "ytahgekjpnmmooaa", sum := "65ae246d788b05d2c5900e1f960ad3cfe2018895120c7a2f591d131e46394b1a", func := "loop.example/g01134/laws.FnExactMapWriter", spec := "fnExactMapWriter", inPlace := ["internal/abi.NoEscape"], unfollowed := true, recurses := true, apart := false }
def FnExactMapWriterSaid : Prop := fnExactMapWriterRow.holds Try.pinned (OpenSpec.ofChange fnExactMapWriterSpec)

/-- ITS FALSE NEIGHBOUR: 'it returns false'. Refute it at one input. -/
def fnExactMapWriterWrong : ChangeSpec := { name := "fnExactMapWriter", fn := fun _ => fun
  | [d1, d2] => { results := [.lit (.bool false)], args := [d1, d2] }
  | _ => none }
def FnExactMapWriterWrongFalsely : Prop := fnExactMapWriterRow.holds Try.pinned (OpenSpec.ofChange fnExactMapWriterWrong)

/- THE SECOND FORM. 'bulk': how many values and letters a reading holds, each counted each time it is reached (what is shared counts as often as it is met; a slice's spare places count too). A statement '..UptoSaid' is the law's where the arguments, and the package variables that the reading takes, are together of bulk at most 1048576: NARROWER than '..Said'. Prove '..Said' where nothing that the law and all that it calls make is longer than what came in: it says more and counts as full. Else prove '..UptoSaid'. A law counts once. -/
mutual
def uptoBulk {H : Type} : DataW H → Nat
  | .lit (.string bytes) => bytes.length + 1
  | .lit _ => 1
  | .nil => 1
  | .ptr d => uptoBulk d + 1
  | .slice elems spare => uptoBulkAll elems + uptoBulkAll spare + 1
  | .agg parts => uptoBulkAll parts + 1
  | .iface _ d => uptoBulk d + 1
  | .map entries => uptoBulkEntries entries + 1
  | .held _ => 1
def uptoBulkAll {H : Type} : List (DataW H) → Nat
  | [] => 0
  | d :: r => uptoBulk d + uptoBulkAll r
def uptoBulkEntries {H : Type} : List (Lit × DataW H) → Nat
  | [] => 0
  | x :: r => uptoBulkEntry x + uptoBulkEntries r
def uptoBulkEntry {H : Type} : Lit × DataW H → Nat
  | (.string bytes, d) => bytes.length + uptoBulk d + 1
  | (_, d) => uptoBulk d + 1
 end
def uptoSmall : (H : Type) → List (DataW H) → Bool := fun _ ds => decide (uptoBulkAll ds ≤ 1048576)
def OpenSpec.upto (s : _root_.Go.ChangeSpec) : _root_.Go.OpenSpec := { _root_.Go.OpenSpec.ofChange s with cond := some uptoSmall }

/-- 'laws.FnExactBackWriter', WHERE WHAT IT READS IS OF BULK AT MOST 1048576: true; the input reads as it did. -/
def fnExactBackWriterUptoRow : OpenClaim := { program := "ytahgekjpnmmooaa", sum := "65ae246d788b05d2c5900e1f960ad3cfe2018895120c7a2f591d131e46394b1a", func := "loop.example/g01134/laws.FnExactBackWriter", spec := "fnExactBackWriter", unfollowed := true, recurses := true, apart := false, narrowed := true }
def FnExactBackWriterUptoSaid : Prop := fnExactBackWriterUptoRow.holds Try.pinned (OpenSpec.upto fnExactBackWriterSpec)

/-- 'laws.FnExactCopyWriter', WHERE WHAT IT READS IS OF BULK AT MOST 1048576: true; the input reads as it did. -/
def fnExactCopyWriterUptoRow : OpenClaim := { program := "ytahgekjpnmmooaa", sum := "65ae246d788b05d2c5900e1f960ad3cfe2018895120c7a2f591d131e46394b1a", func := "loop.example/g01134/laws.FnExactCopyWriter", spec := "fnExactCopyWriter", unfollowed := true, recurses := true, apart := false, narrowed := true }
def FnExactCopyWriterUptoSaid : Prop := fnExactCopyWriterUptoRow.holds Try.pinned (OpenSpec.upto fnExactCopyWriterSpec)

/-- 'laws.FnExactMirrorWriter', WHERE WHAT IT READS IS OF BULK AT MOST 1048576: true; the input reads as it did. -/
def fnExactMirrorWriterUptoRow : OpenClaim := { program := "ytahgekjpnmmooaa", sum := "65ae246d788b05d2c5900e1f960ad3cfe2018895120c7a2f591d131e46394b1a", func := "loop.example/g01134/laws.FnExactMirrorWriter", spec := "fnExactMirrorWriter", unfollowed := true, recurses := true, apart := false, narrowed := true }
def FnExactMirrorWriterUptoSaid : Prop := fnExactMirrorWriterUptoRow.holds Try.pinned (OpenSpec.upto fnExactMirrorWriterSpec)

/-- 'laws.FnExactMapWriter', WHERE WHAT IT READS IS OF BULK AT MOST 1048576: true; the input reads as it did. -/
def fnExactMapWriterUptoRow : OpenClaim := { program := "ytahgekjpnmmooaa", sum := "65ae246d788b05d2c5900e1f960ad3cfe2018895120c7a2f591d131e46394b1a", func := "loop.example/g01134/laws.FnExactMapWriter", spec := "fnExactMapWriter", inPlace := ["internal/abi.NoEscape"], unfollowed := true, recurses := true, apart := false, narrowed := true }
def FnExactMapWriterUptoSaid : Prop := fnExactMapWriterUptoRow.holds Try.pinned (OpenSpec.upto fnExactMapWriterSpec)

end Rows
end Go.Proofs.Ytahgekjpnmmooaa
