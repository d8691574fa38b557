/-
  Marks of slices of slices of structs of two integers.
-/
import Derived.Test.YtpkbpflnjbeedaaQQMove
namespace Go.Proofs.Ytpkbpflnjbeedaa
open Go.RowKit

end Go.Proofs.Ytpkbpflnjbeedaa
