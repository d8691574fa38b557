/-
  Lists of lists of lists of integers.
-/
import Derived.Test.YtdkalefepdlccaaO1
namespace Go.Proofs.Ytdkalefepdlccaa
open Go.RowKit
theorem infoIIs : (Try.prog.info? 47).map (fun i => (i.zero, i.size, i.bytes)) = some (some (.slice none 0 0), 1, 24) := by kernel_rfl

end Go.Proofs.Ytdkalefepdlccaa
