/-
  The opposite reader, by the model.
-/
import Derived.Test.YtfkicedhjipfmaaOpp2
namespace Go.Proofs.Ytfkicedhjipfmaa
open Go.RowKit

theorem AtR.below {w w' : World} {p : Nat} {r : RData} (h : AtR w p r) (hb : Below w.heap.size w w') : AtR w' p r := by
  obtain ⟨a, n, c0, c1, c2, c3, ha, hn⟩ := h
  exact ⟨a, n, below_keep hb c0, below_keep hb c1, below_keep hb c2, below_keep hb c3, keepsB _ _ _ _ ha hb, keepsII _ _ _ _ hn hb⟩

/-- One element of a list of bools of the call's own is stored. -/
theorem OwV.storeB {e : TypeId} {w : World} {lo g cap : Nat} {xs : List Bool} {bs : List Nat} (h : OwV bools e w lo (.slice (some ⟨g, 0, none⟩) xs.length cap) xs bs) {i : Nat} (z : Bool) :
    OwV bools e (w.setCell ⟨g, i, none⟩ (.bool z)) lo (.slice (some ⟨g, 0, none⟩) (xs.set i z).length cap) (xs.set i z) bs := by
  obtain ⟨h1, rfl⟩ := h
  unfold Own at h1
  rw [bools_len] at h1
  have h2 := (h1.stored i (.bool z)).1
  refine ⟨?_, rfl⟩
  unfold Own
  rw [bools_len, List.length_set, show bools (xs.set i z) = (bools xs).set i (.bool z) by simp [bools, List.map_set]]
  exact h2

/-- What has been turned so far. -/
def FlipI (w : World) (lo po : Nat) (sA sN : Value) (ba bn : List Nat) (L S : Int) (acc : List Bool) (next : List (List Int)) (s : Nat) (wr : World) : Prop :=
  Below w.heap.size w wr ∧ Row wr (w.heap.size + 1) 32 [.int .i64 0, .int .i64 0, .slice none 0 0, .slice none 0 0] ∧ Row wr po 32 [.int .i64 L, .int .i64 S, sA, sN] ∧
    OwV bools 4 wr lo sA ((flip acc).take s ++ acc.drop s) ba ∧ OwL (OwV ints 2) 48 wr lo sN next bn
theorem FlipI.drew {w : World} {lo po : Nat} {sA sN : Value} {ba bn : List Nat} {L S : Int} {acc : List Bool} {next : List (List Int)} {s : Nat} {wr : World} (h : FlipI w lo po sA sN ba bn L S acc next s wr) : FlipI w lo po sA sN ba bn L S acc next s wr.drew :=
  ⟨h.1.drew, h.2.1, h.2.2.1, (goodV bools _).below h.2.2.2.1 (below_drew _), (goodL (goodV ints _) _).below h.2.2.2.2 (below_drew _)⟩

end Go.Proofs.Ytfkicedhjipfmaa
