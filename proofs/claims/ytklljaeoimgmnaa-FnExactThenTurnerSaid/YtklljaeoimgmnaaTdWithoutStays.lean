/-
  What 'wideTurner' and 'turnerDoing' make of the closure of WithoutStays.
-/
import Derived.Test.YtklljaeoimgmnaaTd1
import Derived.Test.YtklljaeoimgmnaaV5
namespace Go.Proofs.Ytklljaeoimgmnaa
open Go.RowKit

theorem infoWithoutStaysMs : (Try.prog.info? 53).map (fun i => (i.zero, i.size, i.bytes)) = some (some (.slice none 0 0), 1, 24) := by kernel_rfl

end Go.Proofs.Ytklljaeoimgmnaa
