/-
  Marks of lists of integers and bools.
-/
import Derived.Test.YtpkbpflnjbeedaaMk
import Derived.Test.YtpkbpflnjbeedaaO1
namespace Go.Proofs.Ytpkbpflnjbeedaa
open Go.RowKit

end Go.Proofs.Ytpkbpflnjbeedaa
