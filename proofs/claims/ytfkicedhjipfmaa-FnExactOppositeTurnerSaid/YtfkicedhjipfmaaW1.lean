/-
  Words: the model's and the program's test of a word say the same ('okWord').
-/
import Derived.Test.YtfkicedhjipfmaaT6
import Derived.Test.YtfkicedhjipfmaaT7
namespace Go.Proofs.Ytfkicedhjipfmaa
open Go.RowKit

def okLetter (L : Int) (c : UInt8) : Bool := decide (0 ≤ (c.toNat : Int) - 97 ∧ (c.toNat : Int) - 97 ≤ L - 1)
def lettersOk (L : Int) (s : ByteArray) : Bool := s.data.toList.all (okLetter L)
def okWord (L : Int) (s : ByteArray) : Bool := decide (1 ≤ L ∧ L ≤ 3) && (decide ((s.size : Int) ≤ 60) && lettersOk L s)

theorem bytes_at (s : ByteArray) (k : Nat) (h : k < s.size) : s.data.toList[k]? = some s[k] := by
  have h' : k < s.data.toList.length := by simpa using h
  rw [List.getElem?_eq_getElem h']; rfl

theorem all_take_succ {p : UInt8 → Bool} {l : List UInt8} {k : Nat} {c : UInt8} (h : (l.take k).all p = true) (hc : l[k]? = some c) (hp : p c = true) : (l.take (k + 1)).all p = true := by
  rw [take_succ_of hc, List.all_append, h]; simp [hp]
theorem all_not {p : UInt8 → Bool} {l : List UInt8} {k : Nat} {c : UInt8} (hc : l[k]? = some c) (hp : p c = false) : l.all p = false := by
  rw [List.all_eq_false]; exact ⟨c, List.mem_of_getElem? hc, by simp [hp]⟩

end Go.Proofs.Ytfkicedhjipfmaa
