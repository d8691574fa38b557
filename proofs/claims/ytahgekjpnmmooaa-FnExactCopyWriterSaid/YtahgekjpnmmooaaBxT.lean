/-
  A turner in a box: one row more, whatever owns it; its values stored into a result; moves appended to a list that a call owns.
-/
import Derived.Test.YtahgekjpnmmooaaTd1
import Derived.Test.YtahgekjpnmmooaaBox2
namespace Go.Proofs.Ytahgekjpnmmooaa
open Go.RowKit

def OwPP : World → Nat → Value → List (List (Int × Int)) → List Nat → Prop := OwL (OwP 55) 51
theorem goodPP : Good OwPP := goodL (goodP _) _

theorem BoxT.open {w : World} {lo po : Nat} {L S : Int} {mv : List (List (Int × Int))} (h : BoxT w lo po ⟨L, S, mv⟩) :
    ∃ Bm km vs, Row w po 24 [.int .i64 L, .int .i64 S, .slice Bm mv.length km] ∧ w.ownsRow lo 51 1 (.slice Bm mv.length km) mv.length vs ∧ po ∉ blks (.slice Bm mv.length km) ∧ (∀ b ∈ blks (.slice Bm mv.length km), lo ≤ b) ∧
      (∀ (w1 : World) (u0 : Value) (x0 : List (Int × Int)) (b0 : List Nat), Below w.heap.size w w1 → OwP 55 w1 lo u0 x0 b0 → (∀ c ∈ b0, w.heap.size ≤ c) → ∀ (o : Obj) (w2 : World) (g cap : Nat), (w1.alloc o).grownBy w2 (Value.slice Bm mv.length km).ownBlock →
        w2.ownsRow lo 51 1 (.slice (some ⟨g, 0, none⟩) (mv.length + 1) cap) (mv.length + 1) (vs ++ [u0]) → ((Value.slice Bm mv.length km).ownBlock = some g ∨ g = w1.heap.size + 1) → BoxT (w2.setCell ⟨po, 2, none⟩ (.slice (some ⟨g, 0, none⟩) (mv.length + 1) cap)) lo po ⟨L, S, mv ++ [x0]⟩) := by
  obtain ⟨vm, bm, ho, hm, hp⟩ := h
  simp only at ho hm
  obtain ⟨Bm, km, rfl⟩ := OwL.shape hm
  obtain ⟨vs, how, hbv, hnext⟩ := OwL.growS (goodP 55) hm
  have lpo := ho.lt
  refine ⟨Bm, km, vs, ho, how, fun h => hp (hbv _ h).1, fun b hb => (hbv b hb).2.1, ?_⟩
  intro w1 u0 x0 b0 hb hu hd0 o w2 g cap hg hown hat
  obtain ⟨bs', hO', hs⟩ := hnext w1 u0 x0 b0 hb hu hd0 o w2 g _ cap hg hown hat
  have hpn : po ∉ bs' := fun h => by
    rcases hs po h with h | h
    · exact hp h
    · omega
  exact ⟨_, bs', (grown_row hg ((ho.below hb lpo).alloc o) (fun h => hp (hbv _ h).1)).stored 2 _, goodPP.other (a := ⟨po, 2, none⟩) _ hO' hpn, hpn⟩
theorem BoxT.own {w : World} {lo po : Nat} {t : TData} (h : BoxT w lo po t) : ∃ Bm km bs, Row w po 24 [.int .i64 t.L, .int .i64 t.S, .slice Bm t.mv.length km] ∧ OwT w lo (.agg #[.int .i64 t.L, .int .i64 t.S, .slice Bm t.mv.length km]) t bs := by
  obtain ⟨vm, bm, ho, hm, hp⟩ := h
  obtain ⟨Bm, km, rfl⟩ := OwL.shape hm
  exact ⟨Bm, km, bm, ho, _, bm, rfl, hm, rfl, goodPP.nodup hm⟩
theorem stored3T {w wr : World} {z lo : Nat} {L S : Int} {A0 : Option Addr} {n0 k0 : Nat} {t : TData} {bs : List Nat} {z0 z1 z2 : Value}
    (hz : Row wr z 24 [z0, z1, z2]) (hO : OwT wr lo (.agg #[.int .i64 L, .int .i64 S, .slice A0 n0 k0]) t bs) (hlo : z < lo) (hw : w.heap.size ≤ z) (hb : Below w.heap.size w wr) :
    ∃ W2, W2 = (((wr.setCell ⟨z, 0, none⟩ (.int .i64 L)).setCell ⟨z, 1, none⟩ (.int .i64 S)).setCell ⟨z, 2, none⟩ (.slice A0 n0 k0)) ∧
      (W2.cell? ⟨z, 0, none⟩ = some (.int .i64 L) ∧ W2.cell? ⟨z, 1, none⟩ = some (.int .i64 S) ∧ W2.cell? ⟨z, 2, none⟩ = some (.slice A0 n0 k0)) ∧ OwT W2 w.heap.size (.agg #[.int .i64 L, .int .i64 S, .slice A0 n0 k0]) t bs ∧ Below w.heap.size w W2 := by
  have rF := (((hz.stored 0 (.int .i64 L)).stored 1 (.int .i64 S)).stored 2 (.slice A0 n0 k0))
  have eO := (goodT.under (a := ⟨z, 2, none⟩) (goodT.under (a := ⟨z, 1, none⟩) (goodT.under (a := ⟨z, 0, none⟩) hO hlo (.int .i64 L)) hlo (.int .i64 S)) hlo (.slice A0 n0 k0))
  have eB := (((hb.setCell (p := ⟨z, 0, none⟩) hw (.int .i64 L)).setCell (p := ⟨z, 1, none⟩) hw (.int .i64 S)).setCell (p := ⟨z, 2, none⟩) hw (.slice A0 n0 k0))
  obtain ⟨⟨y0, y1, y2⟩, -⟩ := Row.three (a := .int .i64 L) (b := .int .i64 S) (c := .slice A0 n0 k0) rF
  exact ⟨_, rfl, ⟨y0, y1, y2⟩, goodT.mono eO (by omega), eB⟩
theorem owT_zero (w : World) (lo : Nat) : OwT w lo (.agg #[.int .i64 0, .int .i64 0, .slice none 0 0]) ⟨0, 0, []⟩ [] := ⟨_, [], rfl, owL_nil _ _ _ _, rfl, by simp⟩

/-- Moves more in a list that a call owns. -/
theorem addMoves {wo wr W : World} {Bl : Option Addr} {c cl : Nat} {xs : List (Int × Int)} {bs : List Nat} (hb : Below wo.heap.size wo wr) (hO : OwP 55 wr wo.heap.size (.slice Bl c cl) xs bs) (hlen : xs.length = c) (hW : Below wr.heap.size wr W) :
    W.ownsRow wo.heap.size 55 2 (.slice Bl c cl) c (pcells xs) ∧ ∀ (w5 : World) (g cap n : Nat) (ms : List (Int × Int)), n = c + ms.length → W.grownBy w5 (Value.slice Bl c cl).ownBlock → w5.ownsRow wo.heap.size 55 2 (.slice (some ⟨g, 0, none⟩) n cap) n (pcells xs ++ pcells ms) →
      Below wo.heap.size wo w5 ∧ ∃ bs', OwP 55 w5 wo.heap.size (.slice (some ⟨g, 0, none⟩) n cap) (xs ++ ms) bs' := by
  have hlt := fun b hb => ((goodP 55).lt hO (b := b) hb).1
  obtain ⟨how, rfl⟩ := hO
  rw [hlen] at how
  refine ⟨rows_below how hW, fun w5 g cap n ms hn hg hown => ⟨?_, _, OwP.snoc hown (show pcells xs ++ pcells ms = pcells (xs ++ ms) by simp [pcells]) (by simp [hlen, hn]) rfl⟩⟩
  have h1 := below_step hb hW
  exact h1.trans (grown_below hg h1.size hlt)
theorem movesI0 (w : World) : OwP 55 (w.alloc (.cells #[] 55)) w.heap.size (.slice (some ⟨w.heap.size, 0, none⟩) 0 0) [] [w.heap.size] :=
  ⟨World.ownsRow_lit (base := w.heap.size) (e := 55) (size := 2) w #[] 0 (Nat.le_refl _) (by unfold maxLen; omega) rfl, rfl⟩
theorem infoMsT : (Try.prog.info? 51).map (fun i => (i.zero, i.size, i.bytes)) = some (some (.slice none 0 0), 1, 24) := by kernel_rfl
end Go.Proofs.Ytahgekjpnmmooaa
