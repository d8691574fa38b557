/-
  Moves that stay: what the program says of them.
-/
import Derived.Test.YtklljaeoimgmnaaWs1
import Derived.Test.YtklljaeoimgmnaaTd1
namespace Go.Proofs.Ytklljaeoimgmnaa
open Go.RowKit

def leaveV (o : Option (Int × Int)) : Value := match o with
  | some m => .tuple #[deedV m, .bool true]
  | none => .tuple #[Value.nilIface, .bool false]
theorem deedV_goW (x y : Int) (h : 0 ≤ x) : deedV (x, y) = .iface 65 (.agg #[.int .i64 x, .int .i64 y]) := by
  simp only [deedV, walkV]; rw [if_neg (by omega), if_neg (by omega)]

end Go.Proofs.Ytklljaeoimgmnaa
