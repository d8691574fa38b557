/-
  An automaton with many ways in its box: one state more, whose lists were made before.
-/
import Derived.Test.YteeckhhingmgfaaNm1
namespace Go.Proofs.Yteeckhhingmgfaa
open Go.RowKit

theorem box2_gen {α β : Type} {R1 : World → Nat → Value → α → List Nat → Prop} {R2 : World → Nat → Value → β → List Nat → Prop} (g1 : Good R1) (g2 : Good R2) {w w1 w2 : World} {lo po i : Nat} {e : TypeId} {cells : List Value} {v1 v1' v2 : Value} {x1' : α} {x2 : β} {b1 b1' b2 : List Nat}
    (ho : Row w po e cells) (h2 : R2 w lo v2 x2 b2) (hd : (b1 ++ b2).Nodup) (hp : po ∉ b1 ++ b2) (hb : Below w.heap.size w w1) (hg : w1.grownBy w2 v1.ownBlock) (hv : ∀ b ∈ blks v1, b ∈ b1) (hn : R1 w2 lo v1' x1' b1') (hs : ∀ c ∈ b1', c ∉ b2 ∧ c ≠ po) :
    Row (w2.setCell ⟨po, i, none⟩ v1') po e (cells.set i v1') ∧ R1 (w2.setCell ⟨po, i, none⟩ v1') lo v1' x1' b1' ∧ R2 (w2.setCell ⟨po, i, none⟩ v1') lo v2 x2 b2 ∧ (b1' ++ b2).Nodup ∧ po ∉ b1' ++ b2 := by
  have hN := List.nodup_append.1 hd
  have lpo := ho.lt
  rw [List.mem_append, not_or] at hp
  have hpn : po ∉ b1' := fun hm => (hs po hm).2 rfl
  refine ⟨(grown_row hg (ho.below hb lpo) (fun hm => hp.1 (hv _ hm))).stored i v1', g1.other (a := ⟨po, i, none⟩) _ hn hpn, g2.other (a := ⟨po, i, none⟩) _ (grown_keep g2 hg (g2.below h2 hb) (fun c hc hm => hN.2.2 c (hv c hm) c hc rfl)) hp.2, ?_, ?_⟩
  · rw [List.nodup_append]
    refine ⟨g1.nodup hn, hN.2.1, fun x hx y hy e => ?_⟩
    subst e
    exact (hs x hx).1 hy
  · rw [List.mem_append, not_or]; exact ⟨hpn, hp.2⟩

theorem NmI.both {w : World} {lo po : Nat} {L : Int} {st : List Int} {acc : List Bool} {next : List (List (List Int))} {wo wi : World} (h : NmI w lo po ⟨L, st, acc, next⟩ wo) (hlo : w.heap.size < lo) (hlp : lo ≤ po) (hbi : Below wo.heap.size wo wi) {u0 : Value} {x0 : List (List Int)} {b0 : List Nat} (hu : OwIIm wi wo.heap.size u0 x0 b0) :
    ∃ Bs ks Ba ka Bn kn, Row wi po 43 [.int .i64 L, .slice Bs st.length ks, .slice Ba acc.length ka, .slice Bn next.length kn] ∧
      po ∉ blks (.slice Ba acc.length ka) ∧ ∀ z : Bool, (wi.alloc (.cells #[.bool z] 4)).ownsRow lo 4 1 (.slice Ba acc.length ka) acc.length (bools acc) ∧
      ∀ (w2 : World) (g cap : Nat), (wi.alloc (.cells #[.bool z] 4)).grownBy w2 (Value.slice Ba acc.length ka).ownBlock → w2.ownsRow lo 4 1 (.slice (some ⟨g, 0, none⟩) (acc.length + 1) cap) (acc.length + 1) (bools acc ++ [.bool z]) → ((Value.slice Ba acc.length ka).ownBlock = some g ∨ g = wi.heap.size + 1) →
        ∃ W3, W3 = w2.setCell ⟨po, 2, none⟩ (.slice (some ⟨g, 0, none⟩) (acc.length + 1) cap) ∧ wo.heap.size ≤ W3.heap.size ∧ Row W3 po 43 [.int .i64 L, .slice Bs st.length ks, .slice (some ⟨g, 0, none⟩) (acc.length + 1) cap, .slice Bn next.length kn] ∧ po ∉ blks (.slice Bn next.length kn) ∧
          ∃ vs, (W3.alloc (.cells #[u0] 22)).ownsRow lo 22 1 (.slice Bn next.length kn) next.length vs ∧
            ∀ (w5 : World) (g5 cap5 : Nat), (W3.alloc (.cells #[u0] 22)).grownBy w5 (Value.slice Bn next.length kn).ownBlock → w5.ownsRow lo 22 1 (.slice (some ⟨g5, 0, none⟩) (next.length + 1) cap5) (next.length + 1) (vs ++ [u0]) → ((Value.slice Bn next.length kn).ownBlock = some g5 ∨ g5 = W3.heap.size + 1) →
              NmI w lo po ⟨L, st, acc ++ [z], next ++ [x0]⟩ (w5.setCell ⟨po, 3, none⟩ (.slice (some ⟨g5, 0, none⟩) (next.length + 1) cap5)) := by
  obtain ⟨hb, hz, Bs, ks, Ba, ka, Bn, kn, bs, ba, bn, ho, h1, h2, h3, hd, hp⟩ := h
  simp only at ho h1 h2 h3
  have lpo := ho.lt
  have hba : ba = blks (.slice Ba acc.length ka) := h2.2
  have l1 : ∀ c ∈ bs, c < wo.heap.size := fun c hc => ((goodV ints 2).lt h1 hc).2
  have l2 : ∀ c ∈ ba, lo ≤ c ∧ c < wo.heap.size := fun c hc => (goodV bools 4).lt h2 hc
  have l3 : ∀ c ∈ bn, c < wo.heap.size := fun c hc => (goodLL.lt h3 hc).2
  have l0 : ∀ c ∈ b0, wo.heap.size ≤ c ∧ c < wi.heap.size := fun c hc => goodIIm.lt hu hc
  have hsz := hbi.size
  have hp' := hp
  simp only [List.mem_append, not_or] at hp'
  have hdA : (ba ++ (bs ++ bn)).Nodup := (List.perm_append_comm_assoc bs ba bn).nodup_iff.1 hd
  have hdA2 := List.nodup_append.1 hdA
  have hff : wi.ownsRow lo 4 1 (.slice Ba acc.length ka) acc.length (bools acc) := by
    have := ((goodV bools 4).below h2 hbi).1
    unfold Own at this; rwa [bools_len] at this
  refine ⟨Bs, ks, Ba, ka, Bn, kn, ho.below hbi lpo, fun hm => hp'.2.1 (hba ▸ hm), fun z => ⟨rows_below hff (below_alloc _ _), fun w2 g cap hg hown hat => ⟨_, rfl, ?_⟩⟩⟩
  have hO' : OwV bools 4 w2 lo (.slice (some ⟨g, 0, none⟩) (acc.length + 1) cap) (acc ++ [z]) [g] := OwV.snoc hown (bools_snoc acc z).symm (by simp [bools]) rfl
  have hgo : g ∈ ba ∨ g = wi.heap.size + 1 := hat.imp (fun h => hba ▸ mem_blks.2 h) id
  have hpair : OwAnd (OwV ints 2) OwLL wi lo (.tuple #[.slice Bs st.length ks, .slice Bn next.length kn]) (st, next) (bs ++ bn) := ⟨_, _, bs, bn, rfl, (goodV ints _).below h1 hbi, goodLL.below h3 hbi, rfl, hdA2.2.1⟩
  obtain ⟨k1, k2, k3, k4, k5⟩ := box2_gen (goodV bools 4) (goodAnd (goodV ints 2) goodLL) (i := 2) (b1 := ba) (ho.below hbi lpo) hpair hdA (by simp only [List.mem_append, not_or]; exact ⟨hp'.2.1, hp'.1, hp'.2.2⟩) (below_alloc wi _) hg (fun b hb => hba ▸ hb) hO' (fun c hc => by
    simp only [List.mem_singleton] at hc
    subst hc
    rcases hgo with h | h
    · exact ⟨fun hm => hdA2.2.2 c h c hm rfl, fun e => hp'.2.1 (e ▸ h)⟩
    · refine ⟨fun hm => ?_, by omega⟩
      rcases List.mem_append.1 hm with k | k
      · have := l1 c k; omega
      · have := l3 c k; omega)
  have hu3 : OwIIm (w2.setCell ⟨po, 2, none⟩ (.slice (some ⟨g, 0, none⟩) (acc.length + 1) cap)) wo.heap.size u0 x0 b0 :=
    goodIIm.other (a := ⟨po, 2, none⟩) _ (grown_keep goodIIm hg (goodIIm.below hu (below_alloc wi _)) (fun c hc hm => by have := l0 c hc; have := l2 c (hba ▸ hm); omega)) (fun hm => by have := l0 _ hm; simp at this; omega)
  have hbz := below_step (below_step hb hbi) (below_alloc wi (.cells #[.bool z] 4))
  have hB3 : Below w.heap.size w (w2.setCell ⟨po, 2, none⟩ (.slice (some ⟨g, 0, none⟩) (acc.length + 1) cap)) := (hbz.trans (grown_below hg hbz.size (fun b hm => by have := l2 b (hba ▸ hm); omega))).setCell (p := ⟨po, 2, none⟩) (by show w.heap.size ≤ po; omega) _
  have hz3 : Row (w2.setCell ⟨po, 2, none⟩ (.slice (some ⟨g, 0, none⟩) (acc.length + 1) cap)) w.heap.size 43 [.int .i64 0, .slice none 0 0, .slice none 0 0, .slice none 0 0] := (grown_row hg ((hz.below hbi hz.lt).below (below_alloc _ _) (hz.below hbi hz.lt).lt) (fun hm => by have := l2 _ (hba ▸ hm); omega)).other (by show po ≠ w.heap.size; omega) _
  have hs3 : wi.heap.size + 1 ≤ (w2.setCell ⟨po, 2, none⟩ (.slice (some ⟨g, 0, none⟩) (acc.length + 1) cap)).heap.size := by have := hg.size; simp at this ⊢; omega
  have hs0 : wo.heap.size ≤ (w2.setCell ⟨po, 2, none⟩ (.slice (some ⟨g, 0, none⟩) (acc.length + 1) cap)).heap.size := by omega
  generalize w2.setCell ⟨po, 2, none⟩ (.slice (some ⟨g, 0, none⟩) (acc.length + 1) cap) = W3 at *
  obtain ⟨va, vb, c1, c2, hv, q1, q2, hc, -⟩ := k3
  simp only [Value.tuple.injEq, Array.mk.injEq, List.cons.injEq, and_true] at hv
  obtain ⟨rfl, rfl⟩ := hv
  have hm12 : ∀ c, c ∈ c1 ∨ c ∈ c2 → c < wo.heap.size := fun c hm => by
    have : c ∈ bs ++ bn := by rw [hc]; exact List.mem_append.2 hm
    rcases List.mem_append.1 this with k | k
    · exact l1 c k
    · exact l3 c k
  rw [hc] at k4 k5
  simp only [List.mem_append, List.mem_singleton, not_or] at k5
  have hlt2 := fun c (hm : c ∈ c2) => goodLL.lt q2 hm
  have hltc := fun c (hm : c ∈ c1) => (goodV ints 2).lt q1 hm
  have hltg := fun c (hm : c ∈ [g]) => (goodV bools 4).lt k2 hm
  have q2' := q2
  obtain ⟨vs, bss, hvv, e1, e2, e3, e4, e5⟩ := q2
  subst e4
  have hown3 : W3.ownsRow lo 22 1 (.slice Bn next.length kn) next.length vs := by have := hvv; unfold Own at this; rwa [e1] at this
  have hBn : ∀ b ∈ blks (.slice Bn next.length kn), b ∈ blks (.slice Bn next.length kn) ++ bss.flatten := fun b hb => List.mem_append_left _ hb
  refine ⟨hs0, k1, fun hm => k5.2.2 (hBn _ hm), vs, rows_below hown3 (below_alloc _ _), fun w5 g5 cap5 hg5 hown5 hat5 => ?_⟩
  have hG := goodL (goodV ints 2) 23
  have hnew : OwLL w5 lo (.slice (some ⟨g5, 0, none⟩) (next.length + 1) cap5) (next ++ [x0]) ([g5] ++ (bss ++ [b0]).flatten) := OwL.snoc hG (hvv.below (below_alloc W3 _)) e1 e2 (fun i u x b k1 k2 k3 => hG.below (e3 i u x b k1 k2 k3) (below_alloc W3 _)) e5 (hG.below (hG.mono hu3 (by omega)) (below_alloc W3 _)) (fun c hc hm => by
    have := (l0 c hc).1
    have := hm12 c (.inr hm)
    omega) hg5 hown5 hat5 (by simp)
  have hpair2 : OwAnd (OwV ints 2) (OwV bools 4) W3 lo (.tuple #[.slice Bs st.length ks, .slice (some ⟨g, 0, none⟩) (acc.length + 1) cap]) (st, acc ++ [z]) (c1 ++ [g]) := ⟨_, _, c1, [g], rfl, q1, k2, rfl, by
    rw [← List.append_assoc] at k4
    exact nodup_swap (List.nodup_append.1 k4).1⟩
  have hdN : ((blks (.slice Bn next.length kn) ++ bss.flatten) ++ (c1 ++ [g])).Nodup := nodup_swap (by
    rw [← List.append_assoc] at k4
    have := (List.perm_append_comm (l₁ := [g]) (l₂ := c1)).append_right (blks (.slice Bn next.length kn) ++ bss.flatten)
    exact this.nodup_iff.1 k4)
  have hdN2 := List.nodup_append.1 hdN
  obtain ⟨m1, m2, m3, m4, m5⟩ := box2_gen goodLL (goodAnd (goodV ints 2) (goodV bools 4)) (i := 3) (b1 := blks (.slice Bn next.length kn) ++ bss.flatten) k1 hpair2 hdN (by
    intro hm
    rcases List.mem_append.1 hm with h | h
    · exact k5.2.2 h
    · rcases List.mem_append.1 h with h | h
      · exact k5.2.1 h
      · exact k5.1 (List.mem_singleton.1 h)) (below_alloc W3 _) hg5 hBn hnew (fun c hc => by
    have hold : c ∈ blks (.slice Bn next.length kn) ++ bss.flatten → c ∉ c1 ++ [g] ∧ c ≠ po := fun h => ⟨fun hm => hdN2.2.2 c h c hm rfl, fun e => by
      subst e
      exact k5.2.2 h⟩
    rw [List.flatten_append] at hc
    simp only [List.mem_append, List.mem_singleton] at hc
    rcases hc with hc | hc | hc
    · subst hc
      rcases hat5 with k | k
      · exact hold (hBn _ (mem_blks.2 k))
      · refine ⟨fun hm => ?_, by omega⟩
        rcases List.mem_append.1 hm with k' | k'
        · have := (hltc c k').2; omega
        · have := (hltg c k').2; omega
    · exact hold (List.mem_append_right _ hc)
    · have hc0 : c ∈ b0 := by simpa using hc
      have hcl := l0 c hc0
      refine ⟨fun hm => ?_, by omega⟩
      rcases List.mem_append.1 hm with k' | k'
      · have := hm12 c (.inl k'); omega
      · simp only [List.mem_singleton] at k'
        rcases hgo with h | h
        · have := l2 g h; omega
        · omega)
  have hbz5 := below_step hB3 (below_alloc W3 (.cells #[u0] 22))
  obtain ⟨va, vb, d1, d2, hv, q1', q2'', hc', -⟩ := m3
  simp only [Value.tuple.injEq, Array.mk.injEq, List.cons.injEq, and_true] at hv
  obtain ⟨rfl, rfl⟩ := hv
  rw [hc'] at m4 m5
  have hl1 : (acc ++ [z]).length = acc.length + 1 := by simp
  have hl2 : (next ++ [x0]).length = next.length + 1 := by simp
  refine ⟨(hbz5.trans (grown_below hg5 hbz5.size (fun b hm => by have := hlt2 b (hBn b hm); omega))).setCell (p := ⟨po, 3, none⟩) (by show w.heap.size ≤ po; omega) _, (grown_row hg5 (hz3.below (below_alloc _ _) hz3.lt) (fun hm => by have := hlt2 _ (hBn _ hm); omega)).other (by show po ≠ w.heap.size; omega) _, Bs, ks, some ⟨g, 0, none⟩, cap, some ⟨g5, 0, none⟩, cap5, d1, d2, [g5] ++ (bss ++ [b0]).flatten, ?_, q1', by rw [hl1]; exact q2'', by rw [hl2]; exact m2, by rw [← List.append_assoc]; exact nodup_swap m4, ?_⟩
  · rw [hl1, hl2]; exact m1
  · simp only [List.mem_append, not_or] at m5 ⊢
    exact ⟨m5.2.1, m5.2.2, m5.1⟩
end Go.Proofs.Yteeckhhingmgfaa
