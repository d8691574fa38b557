/-
  The laws' own helpers for readers: sizes (any number), copies (they read as what is copied), and comparisons of lists (true just if they are equal).
-/
import Derived.Test.YtnpbfafcfghmcabProg
import Derived.Test.YtnpbfafcfghmcabKit
namespace Go.Proofs.Ytnpbfafcfghmcab
open Go.RowKit

end Go.Proofs.Ytnpbfafcfghmcab
