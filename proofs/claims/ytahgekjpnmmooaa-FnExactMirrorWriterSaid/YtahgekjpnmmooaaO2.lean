/-
  Lists of lists of lists of integers.
-/
import Derived.Test.YtahgekjpnmmooaaO1
namespace Go.Proofs.Ytahgekjpnmmooaa
open Go.RowKit
end Go.Proofs.Ytahgekjpnmmooaa
