/-
  A rotator that is being made in a box: one row more, one ending more; its values stored into a result.
-/
import Derived.Test.YtklljaeoimgmnaaRo6
namespace Go.Proofs.Ytklljaeoimgmnaa
open Go.RowKit

def OwII : World → Nat → Value → List (List Int) → List Nat → Prop := OwL (OwV ints 2) 36
theorem goodII : Good OwII := goodL (goodV ints _) _
def OwI : World → Nat → Value → List Int → List Nat → Prop := OwV ints 2
theorem goodI : Good OwI := goodV ints _

/-- A rotator in the box po, what it leads to from block lo on. -/
def BoxO (w : World) (lo po : Nat) (r : OData) : Prop :=
  ∃ vn vf bn bf, Row w po 40 [.int .i64 r.L, .int .i64 r.S, vn, vf] ∧ OwII w lo vn r.next bn ∧ OwI w lo vf r.fin bf ∧ (bn ++ bf).Nodup ∧ po ∉ bn ++ bf
theorem BoxO.start (w : World) (L S : Int) : BoxO (w.alloc (.cells #[.int .i64 L, .int .i64 S, .slice none 0 0, .slice none 0 0] 40)) w.heap.size w.heap.size ⟨L, S, [], []⟩ :=
  ⟨_, _, [], [], Row.new _ _ _, owL_nil _ _ _ _, owV_nil ints [] rfl _ _ _, by simp, by simp⟩
theorem BoxO.below {w w' : World} {lo po : Nat} {r : OData} (h : BoxO w lo po r) (hb : Below w.heap.size w w') : BoxO w' lo po r := by
  obtain ⟨vn, vf, bn, bf, ho, hn, hf, hd, hp⟩ := h
  exact ⟨vn, vf, bn, bf, ho.below hb ho.lt, goodII.below hn hb, goodI.below hf hb, hd, hp⟩
theorem BoxO.lt {w : World} {lo po : Nat} {r : OData} (h : BoxO w lo po r) : po < w.heap.size := by
  obtain ⟨vn, vf, bn, bf, ho, _⟩ := h
  exact ho.lt

/-- What a walk is told of the box, and what an append and a store make of it. -/
theorem BoxO.open {w : World} {lo po : Nat} {L S : Int} {next : List (List Int)} {fin : List Int} (h : BoxO w lo po ⟨L, S, next, fin⟩) :
    ∃ Bn kn Bf kf vs, Row w po 40 [.int .i64 L, .int .i64 S, .slice Bn next.length kn, .slice Bf fin.length kf] ∧
      w.ownsRow lo 36 1 (.slice Bn next.length kn) next.length vs ∧ w.ownsRow lo 2 1 (.slice Bf fin.length kf) fin.length (ints fin) ∧ po ∉ blks (.slice Bn next.length kn) ∧ po ∉ blks (.slice Bf fin.length kf) ∧ (∀ b ∈ blks (.slice Bn next.length kn), lo ≤ b) ∧ (∀ b ∈ blks (.slice Bf fin.length kf), lo ≤ b) ∧
      (∀ (w1 : World) (u0 : Value) (x0 : List Int) (b0 : List Nat), Below w.heap.size w w1 → OwI w1 lo u0 x0 b0 → (∀ c ∈ b0, w.heap.size ≤ c) → ∀ (o : Obj) (w2 : World) (g cap : Nat), (w1.alloc o).grownBy w2 (Value.slice Bn next.length kn).ownBlock →
        w2.ownsRow lo 36 1 (.slice (some ⟨g, 0, none⟩) (next.length + 1) cap) (next.length + 1) (vs ++ [u0]) → ((Value.slice Bn next.length kn).ownBlock = some g ∨ g = w1.heap.size + 1) → BoxO (w2.setCell ⟨po, 2, none⟩ (.slice (some ⟨g, 0, none⟩) (next.length + 1) cap)) lo po ⟨L, S, next ++ [x0], fin⟩) ∧
      (∀ (w1 : World) (t : Int), Below w.heap.size w w1 → ∀ (o : Obj) (w2 : World) (g cap : Nat), (w1.alloc o).grownBy w2 (Value.slice Bf fin.length kf).ownBlock →
        w2.ownsRow lo 2 1 (.slice (some ⟨g, 0, none⟩) (fin.length + 1) cap) (fin.length + 1) (ints fin ++ [.int .i64 t]) → ((Value.slice Bf fin.length kf).ownBlock = some g ∨ g = w1.heap.size + 1) → BoxO (w2.setCell ⟨po, 3, none⟩ (.slice (some ⟨g, 0, none⟩) (fin.length + 1) cap)) lo po ⟨L, S, next, fin ++ [t]⟩) := by
  obtain ⟨vn, vf, bn, bf, ho, hn, hf, hd, hp⟩ := h
  simp only at ho hn hf
  obtain ⟨Bn, kn, rfl⟩ := OwL.shape hn
  obtain ⟨Bf, kf, rfl⟩ := owI_shape hf
  obtain ⟨vs, how, hbv, hnext⟩ := OwL.growS (goodV ints 2) hn
  have hff : w.ownsRow lo 2 1 (.slice Bf fin.length kf) fin.length (ints fin) := by have := hf.1; unfold Own at this; rwa [ints_len] at this
  have hfb : bf = blks (.slice Bf fin.length kf) := hf.2
  have hp' := hp
  rw [List.mem_append, not_or] at hp'
  refine ⟨Bn, kn, Bf, kf, vs, ho, how, hff, fun hm => hp'.1 (hbv _ hm).1, fun hm => hp'.2 (hfb ▸ hm), fun b hb => (hbv b hb).2.1, fun b hb => (goodI.lt hf (hfb ▸ hb)).1, ?_, ?_⟩
  · intro w1 u0 x0 b0 hb hu hd0 o w2 g cap hg hown hat
    obtain ⟨bs', hO', hs⟩ := hnext w1 u0 x0 b0 hb hu hd0 o w2 g _ cap hg hown hat
    obtain ⟨k1, k2, k3, k4, k5⟩ := box2_left goodII goodI (i := 2) ho hf hd hp (below_step hb (below_alloc w1 o)) hg (fun b hb => (hbv b hb).1) hO' hs
    exact ⟨_, _, bs', bf, k1, k2, k3, k4, k5⟩
  · intro w1 t hb o w2 g cap hg hown hat
    have hO' : OwI w2 lo (.slice (some ⟨g, 0, none⟩) (fin.length + 1) cap) (fin ++ [t]) [g] := OwV.snoc hown (ints_snoc fin t).symm (by simp [ints]) rfl
    have hs1 := hb.size
    obtain ⟨k1, k2, k3, k4, k5⟩ := box2_right goodII goodI (i := 3) ho hn hd hp (below_step hb (below_alloc w1 o)) hg (fun b hb => hfb ▸ hb) hO' (fun c hc => by
      simp only [List.mem_singleton] at hc
      subst hc
      rcases hat with h | h
      · exact .inl (hfb ▸ mem_blks.2 h)
      · right; omega)
    exact ⟨_, _, bn, [g], k1, k2, k3, k4, k5⟩
/-- The box's values, all that they lead to being owned. -/
theorem BoxO.own {w : World} {lo po : Nat} {r : OData} (h : BoxO w lo po r) : ∃ Bn kn Bf kf bs, Row w po 40 [.int .i64 r.L, .int .i64 r.S, .slice Bn r.next.length kn, .slice Bf r.fin.length kf] ∧ OwO w lo (.agg #[.int .i64 r.L, .int .i64 r.S, .slice Bn r.next.length kn, .slice Bf r.fin.length kf]) r bs ∧ po ∉ bs := by
  obtain ⟨vn, vf, bn, bf, ho, hn, hf, hd, hp⟩ := h
  obtain ⟨Bn, kn, rfl⟩ := OwL.shape hn
  obtain ⟨Bf, kf, rfl⟩ := owI_shape hf
  exact ⟨Bn, kn, Bf, kf, bn ++ bf, ho, ⟨_, _, bn, bf, rfl, hn, hf, rfl, hd⟩, hp⟩

/-- A rotator's four values stored into a box below all that it leads to. -/
theorem stored4O {w wr : World} {z lo : Nat} {L S : Int} {A0 A1 : Option Addr} {n0 n1 k0 k1 : Nat} {r : OData} {bs : List Nat} {z0 z1 z2 z3 : Value}
    (hz : Row wr z 40 [z0, z1, z2, z3]) (hO : OwO wr lo (.agg #[.int .i64 L, .int .i64 S, .slice A0 n0 k0, .slice A1 n1 k1]) r bs) (hlo : z < lo) (hw : w.heap.size ≤ z) (hb : Below w.heap.size w wr) :
    ∃ W2, W2 = ((((wr.setCell ⟨z, 0, none⟩ (.int .i64 L)).setCell ⟨z, 1, none⟩ (.int .i64 S)).setCell ⟨z, 2, none⟩ (.slice A0 n0 k0)).setCell ⟨z, 3, none⟩ (.slice A1 n1 k1)) ∧
      (W2.cell? ⟨z, 0, none⟩ = some (.int .i64 L) ∧ W2.cell? ⟨z, 1, none⟩ = some (.int .i64 S) ∧ W2.cell? ⟨z, 2, none⟩ = some (.slice A0 n0 k0) ∧ W2.cell? ⟨z, 3, none⟩ = some (.slice A1 n1 k1)) ∧
      OwO W2 w.heap.size (.agg #[.int .i64 L, .int .i64 S, .slice A0 n0 k0, .slice A1 n1 k1]) r bs ∧ Below w.heap.size w W2 := by
  have rF := ((((hz.stored 0 (.int .i64 L)).stored 1 (.int .i64 S)).stored 2 (.slice A0 n0 k0)).stored 3 (.slice A1 n1 k1))
  have eO := (goodO.under (a := ⟨z, 3, none⟩) (goodO.under (a := ⟨z, 2, none⟩) (goodO.under (a := ⟨z, 1, none⟩) (goodO.under (a := ⟨z, 0, none⟩) hO hlo (.int .i64 L)) hlo (.int .i64 S)) hlo (.slice A0 n0 k0)) hlo (.slice A1 n1 k1))
  have eB := ((((hb.setCell (p := ⟨z, 0, none⟩) hw (.int .i64 L)).setCell (p := ⟨z, 1, none⟩) hw (.int .i64 S)).setCell (p := ⟨z, 2, none⟩) hw (.slice A0 n0 k0)).setCell (p := ⟨z, 3, none⟩) hw (.slice A1 n1 k1))
  obtain ⟨⟨y0, y1, y2, y3⟩, -⟩ := Row.four (a := .int .i64 L) (b := .int .i64 S) (c := .slice A0 n0 k0) (d := .slice A1 n1 k1) rF
  exact ⟨_, rfl, ⟨y0, y1, y2, y3⟩, goodO.mono eO (by omega), eB⟩
theorem owO_zero (w : World) (lo : Nat) : OwO w lo (.agg #[.int .i64 0, .int .i64 0, .slice none 0 0, .slice none 0 0]) ⟨0, 0, [], []⟩ [] :=
  ⟨_, _, [], [], rfl, owL_nil _ _ _ _, owV_nil ints [] rfl _ _ _, rfl, by simp⟩
end Go.Proofs.Ytklljaeoimgmnaa
