/-
  The laws' own helpers for readers: sizes (any number), copies (they read as what is copied), and comparisons of lists (true just if they are equal).
-/
import Derived.Test.YtahgekjpnmmooaaProg
import Derived.Test.YtahgekjpnmmooaaKit
namespace Go.Proofs.Ytahgekjpnmmooaa
open Go.RowKit

end Go.Proofs.Ytahgekjpnmmooaa
