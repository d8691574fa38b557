/-
  Lists of lists of lists of integers.
-/
import Derived.Test.YtnpbfafcfghmcabO1
namespace Go.Proofs.Ytnpbfafcfghmcab
open Go.RowKit
end Go.Proofs.Ytnpbfafcfghmcab
