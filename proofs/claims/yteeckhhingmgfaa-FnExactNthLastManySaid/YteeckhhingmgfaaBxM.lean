/-
  An automaton with many ways in a box: one state more in Next, or in Accept, whatever owns it.
-/
import Derived.Test.YteeckhhingmgfaaBM
import Derived.Test.YteeckhhingmgfaaBox2
namespace Go.Proofs.Yteeckhhingmgfaa
open Go.RowKit

/-- Two things, each owned, none of whose blocks is the other's. -/
def OwAnd {α β : Type} (R1 : World → Nat → Value → α → List Nat → Prop) (R2 : World → Nat → Value → β → List Nat → Prop) (w : World) (lo : Nat) (v : Value) (x : α × β) (bs : List Nat) : Prop :=
  ∃ va vb b1 b2, v = .tuple #[va, vb] ∧ R1 w lo va x.1 b1 ∧ R2 w lo vb x.2 b2 ∧ bs = b1 ++ b2 ∧ bs.Nodup
theorem goodAnd {α β : Type} {R1 : World → Nat → Value → α → List Nat → Prop} {R2 : World → Nat → Value → β → List Nat → Prop} (g1 : Good R1) (g2 : Good R2) : Good (OwAnd R1 R2) where
  same := fun ⟨va, vb, b1, b2, hv, h1, h2, hbs, hnd⟩ hs => by
    subst hbs
    exact ⟨va, vb, b1, b2, hv, g1.same h1 (fun b hm => hs b (by simp [hm])), g2.same h2 (fun b hm => hs b (by simp [hm])), rfl, hnd⟩
  other := fun u ⟨va, vb, b1, b2, hv, h1, h2, hbs, hnd⟩ ha => by
    subst hbs
    exact ⟨va, vb, b1, b2, hv, g1.other u h1 (fun hm => ha (by simp [hm])), g2.other u h2 (fun hm => ha (by simp [hm])), rfl, hnd⟩
  below := fun ⟨va, vb, b1, b2, hv, h1, h2, hbs, hnd⟩ k => ⟨va, vb, b1, b2, hv, g1.below h1 k, g2.below h2 k, hbs, hnd⟩
  mono := fun ⟨va, vb, b1, b2, hv, h1, h2, hbs, hnd⟩ k => ⟨va, vb, b1, b2, hv, g1.mono h1 k, g2.mono h2 k, hbs, hnd⟩
  lt := fun ⟨va, vb, b1, b2, hv, h1, h2, hbs, hnd⟩ hm => by
    subst hbs
    rcases List.mem_append.1 hm with hm | hm
    · exact g1.lt h1 hm
    · exact g2.lt h2 hm
  nodup := fun ⟨_, _, _, _, _, _, _, _, hnd⟩ => hnd

def OwIIm : World → Nat → Value → List (List Int) → List Nat → Prop := OwL (OwV ints 2) 23
theorem goodIIm : Good OwIIm := goodL (goodV ints _) _

theorem BoxM.openN {w : World} {lo po : Nat} {L : Int} {st : List Int} {acc : List Bool} {next : List (List (List Int))} (h : BoxM w lo po ⟨L, st, acc, next⟩) :
    ∃ Bs ks Ba ka Bn kn vs, Row w po 43 [.int .i64 L, .slice Bs st.length ks, .slice Ba acc.length ka, .slice Bn next.length kn] ∧
      w.ownsRow lo 4 1 (.slice Ba acc.length ka) acc.length (bools acc) ∧ w.ownsRow lo 22 1 (.slice Bn next.length kn) next.length vs ∧ po ∉ blks (.slice Ba acc.length ka) ∧ po ∉ blks (.slice Bn next.length kn) ∧ (∀ b ∈ blks (.slice Ba acc.length ka), lo ≤ b) ∧ (∀ b ∈ blks (.slice Bn next.length kn), lo ≤ b) ∧
      (∀ (w1 : World) (z : Bool), Below w.heap.size w w1 → ∀ (o : Obj) (w2 : World) (g cap : Nat), (w1.alloc o).grownBy w2 (Value.slice Ba acc.length ka).ownBlock →
        w2.ownsRow lo 4 1 (.slice (some ⟨g, 0, none⟩) (acc.length + 1) cap) (acc.length + 1) (bools acc ++ [.bool z]) → ((Value.slice Ba acc.length ka).ownBlock = some g ∨ g = w1.heap.size + 1) → BoxM (w2.setCell ⟨po, 2, none⟩ (.slice (some ⟨g, 0, none⟩) (acc.length + 1) cap)) lo po ⟨L, st, acc ++ [z], next⟩) ∧
      (∀ (w1 : World) (u0 : Value) (x0 : List (List Int)) (b0 : List Nat), Below w.heap.size w w1 → OwIIm w1 lo u0 x0 b0 → (∀ c ∈ b0, w.heap.size ≤ c) → ∀ (o : Obj) (w2 : World) (g cap : Nat), (w1.alloc o).grownBy w2 (Value.slice Bn next.length kn).ownBlock →
        w2.ownsRow lo 22 1 (.slice (some ⟨g, 0, none⟩) (next.length + 1) cap) (next.length + 1) (vs ++ [u0]) → ((Value.slice Bn next.length kn).ownBlock = some g ∨ g = w1.heap.size + 1) → BoxM (w2.setCell ⟨po, 3, none⟩ (.slice (some ⟨g, 0, none⟩) (next.length + 1) cap)) lo po ⟨L, st, acc, next ++ [x0]⟩) := by
  obtain ⟨Bs, ks, Ba, ka, Bn, kn, bs, ba, bn, ho, h1, h2, h3, hd, hp⟩ := h
  simp only at ho h1 h2 h3
  obtain ⟨vs, how, hbv, hnext⟩ := OwL.growS goodIIm h3
  have hff : w.ownsRow lo 4 1 (.slice Ba acc.length ka) acc.length (bools acc) := by have := h2.1; unfold Own at this; rwa [bools_len] at this
  have hba : ba = blks (.slice Ba acc.length ka) := h2.2
  have hp' := hp
  simp only [List.mem_append, not_or] at hp'
  have hdA : (ba ++ (bs ++ bn)).Nodup := (List.perm_append_comm_assoc bs ba bn).nodup_iff.1 hd
  have hdN : (bn ++ (bs ++ ba)).Nodup := nodup_swap (by rw [List.append_assoc]; exact hd)
  refine ⟨Bs, ks, Ba, ka, Bn, kn, vs, ho, hff, how, fun hm => hp'.2.1 (hba ▸ hm), fun hm => hp'.2.2 (hbv _ hm).1, fun b hb => ((goodV bools _).lt h2 (hba ▸ hb)).1, fun b hb => (hbv b hb).2.1, ?_, ?_⟩
  · intro w1 z hb o w2 g cap hg hown hat
    have hs1 := hb.size
    have hO' : OwV bools 4 w2 lo (.slice (some ⟨g, 0, none⟩) (acc.length + 1) cap) (acc ++ [z]) [g] := OwV.snoc hown (bools_snoc acc z).symm (by simp [bools]) rfl
    have hpair : OwAnd (OwV ints 2) OwLL w lo (.tuple #[.slice Bs st.length ks, .slice Bn next.length kn]) (st, next) (bs ++ bn) := ⟨_, _, bs, bn, rfl, h1, h3, rfl, (List.nodup_append.1 hdA).2.1⟩
    obtain ⟨k1, k2, k3, k4, k5⟩ := box2_left (goodV bools 4) (goodAnd (goodV ints 2) goodLL) (i := 2) (b1 := ba) ho hpair hdA (by simp only [List.mem_append, not_or]; exact ⟨hp'.2.1, hp'.1, hp'.2.2⟩) (below_step hb (below_alloc w1 o)) hg (fun b hb => hba ▸ hb) hO' (fun c hc => by
      simp only [List.mem_singleton] at hc
      subst hc
      rcases hat with h | h
      · exact .inl (hba ▸ mem_blks.2 h)
      · right; omega)
    obtain ⟨va, vb, c1, c2, hv, q1, q2, hc, -⟩ := k3
    simp only [Value.tuple.injEq, Array.mk.injEq, List.cons.injEq, and_true] at hv
    obtain ⟨rfl, rfl⟩ := hv
    rw [hc] at k4 k5
    have hlen : (acc ++ [z]).length = acc.length + 1 := by simp
    refine ⟨Bs, ks, some ⟨g, 0, none⟩, cap, Bn, kn, c1, [g], c2, by rw [hlen]; exact k1, q1, by rw [hlen]; exact k2, q2, (List.perm_append_comm_assoc c1 [g] c2).nodup_iff.2 k4, ?_⟩
    simp only [List.mem_append, not_or] at k5 ⊢
    exact ⟨k5.2.1, k5.1, k5.2.2⟩
  · intro w1 u0 x0 b0 hb hu hd0 o w2 g cap hg hown hat
    obtain ⟨bs', hO', hs⟩ := hnext w1 u0 x0 b0 hb hu hd0 o w2 g _ cap hg hown hat
    have hpair : OwAnd (OwV ints 2) (OwV bools 4) w lo (.tuple #[.slice Bs st.length ks, .slice Ba acc.length ka]) (st, acc) (bs ++ ba) := ⟨_, _, bs, ba, rfl, h1, h2, rfl, (List.nodup_append.1 hdN).2.1⟩
    obtain ⟨k1, k2, k3, k4, k5⟩ := box2_left goodLL (goodAnd (goodV ints 2) (goodV bools 4)) (i := 3) (b1 := bn) ho hpair hdN (by simp only [List.mem_append, not_or]; exact ⟨hp'.2.2, hp'.1, hp'.2.1⟩) (below_step hb (below_alloc w1 o)) hg (fun b hb => (hbv b hb).1) hO' hs
    obtain ⟨va, vb, c1, c2, hv, q1, q2, hc, -⟩ := k3
    simp only [Value.tuple.injEq, Array.mk.injEq, List.cons.injEq, and_true] at hv
    obtain ⟨rfl, rfl⟩ := hv
    rw [hc] at k4 k5
    have hlen : (next ++ [x0]).length = next.length + 1 := by simp
    refine ⟨Bs, ks, Ba, ka, some ⟨g, 0, none⟩, cap, c1, c2, bs', by rw [hlen]; exact k1, q1, q2, by rw [hlen]; exact k2, by rw [← List.append_assoc]; exact nodup_swap k4, ?_⟩
    simp only [List.mem_append, not_or] at k5 ⊢
    exact ⟨k5.2.1, k5.2.2, k5.1⟩
end Go.Proofs.Yteeckhhingmgfaa
