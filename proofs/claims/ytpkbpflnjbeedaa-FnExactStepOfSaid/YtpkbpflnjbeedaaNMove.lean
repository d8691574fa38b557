/-
  Marks of slices of structs of two integers.
-/
import Derived.Test.YtpkbpflnjbeedaaQMove
namespace Go.Proofs.Ytpkbpflnjbeedaa
open Go.RowKit

end Go.Proofs.Ytpkbpflnjbeedaa
