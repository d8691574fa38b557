/-
  Lists of lists of lists of integers.
-/
import Derived.Test.YtncaghiepchngaaO1
namespace Go.Proofs.Ytncaghiepchngaa
open Go.RowKit
end Go.Proofs.Ytncaghiepchngaa
