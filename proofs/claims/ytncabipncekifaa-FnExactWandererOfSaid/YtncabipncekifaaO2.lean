/-
  Lists of lists of lists of integers.
-/
import Derived.Test.YtncabipncekifaaO1
namespace Go.Proofs.Ytncabipncekifaa
open Go.RowKit
end Go.Proofs.Ytncabipncekifaa
