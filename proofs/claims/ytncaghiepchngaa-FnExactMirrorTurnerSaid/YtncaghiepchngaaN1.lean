/-
  Marks of lists of integers and bools.
-/
import Derived.Test.YtncaghiepchngaaMk
import Derived.Test.YtncaghiepchngaaO1
namespace Go.Proofs.Ytncaghiepchngaa
open Go.RowKit

end Go.Proofs.Ytncaghiepchngaa
