/-
  Marks of lists of integers and bools.
-/
import Derived.Test.YtahgekjpnmmooaaMk
import Derived.Test.YtahgekjpnmmooaaO1
namespace Go.Proofs.Ytahgekjpnmmooaa
open Go.RowKit

end Go.Proofs.Ytahgekjpnmmooaa
