/-
  Lists of lists of lists of integers.
-/
import Derived.Test.YtnpbfafcfghmcaaO1
namespace Go.Proofs.Ytnpbfafcfghmcaa
open Go.RowKit
end Go.Proofs.Ytnpbfafcfghmcaa
