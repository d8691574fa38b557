/-
  Marks of lists of integers and bools.
-/
import Derived.Test.YtlbmbgnkinfibaaMk
import Derived.Test.YtlbmbgnkinfibaaO1
namespace Go.Proofs.Ytlbmbgnkinfibaa
open Go.RowKit

end Go.Proofs.Ytlbmbgnkinfibaa
