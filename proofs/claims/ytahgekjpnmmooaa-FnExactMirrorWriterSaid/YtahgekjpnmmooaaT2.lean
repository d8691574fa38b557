/-
  The laws' own helpers for readers: sizes (any number), copies (they read as what is copied), and comparisons of lists (true just if they are equal).
-/
import Derived.Test.YtahgekjpnmmooaaT1
namespace Go.Proofs.Ytahgekjpnmmooaa
open Go.RowKit

theorem infoI64 : (Try.prog.info? 2).map (fun i => (i.zero, i.size, i.bytes)) = some (some (.int .i64 0), 1, 8) := by kernel_rfl
theorem infoBool : (Try.prog.info? 4).map (fun i => (i.zero, i.size, i.bytes)) = some (some (.bool false), 1, 1) := by kernel_rfl
end Go.Proofs.Ytahgekjpnmmooaa
