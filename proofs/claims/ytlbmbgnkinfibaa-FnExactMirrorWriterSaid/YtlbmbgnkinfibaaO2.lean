/-
  Lists of lists of lists of integers.
-/
import Derived.Test.YtlbmbgnkinfibaaO1
namespace Go.Proofs.Ytlbmbgnkinfibaa
open Go.RowKit
end Go.Proofs.Ytlbmbgnkinfibaa
