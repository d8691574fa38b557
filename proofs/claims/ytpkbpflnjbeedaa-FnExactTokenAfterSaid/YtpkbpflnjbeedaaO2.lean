/-
  Lists of lists of lists of integers.
-/
import Derived.Test.YtpkbpflnjbeedaaO1
namespace Go.Proofs.Ytpkbpflnjbeedaa
open Go.RowKit
end Go.Proofs.Ytpkbpflnjbeedaa
