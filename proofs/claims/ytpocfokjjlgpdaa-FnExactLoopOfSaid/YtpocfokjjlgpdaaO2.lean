/-
  Lists of lists of lists of integers.
-/
import Derived.Test.YtpocfokjjlgpdaaO1
namespace Go.Proofs.Ytpocfokjjlgpdaa
open Go.RowKit
end Go.Proofs.Ytpocfokjjlgpdaa
