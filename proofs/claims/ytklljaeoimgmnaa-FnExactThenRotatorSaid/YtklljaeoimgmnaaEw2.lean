/-
  Two lists of owned things put one behind the other.
-/
import Derived.Test.YtklljaeoimgmnaaApp
namespace Go.Proofs.Ytklljaeoimgmnaa
open Go.RowKit

theorem OwL.join {α : Type} {R : World → Nat → Value → α → List Nat → Prop} (gd : Good R) {e : TypeId} {w : World} {lo : Nat} {v1 v2 : Value} {xs ys : List α} {bs1 bs2 : List Nat}
    (h1 : OwL R e w lo v1 xs bs1) (h2 : OwL R e w lo v2 ys bs2) (hd : ∀ c ∈ bs1, c ∉ bs2) :
    ∃ vs us, Own w e lo v1 vs ∧ vs.length = xs.length ∧ Own w e lo v2 us ∧ us.length = ys.length ∧ ∀ (w2 : World) (g m cap : Nat), w.grownBy w2 v1.ownBlock → w2.ownsRow lo e 1 (.slice (some ⟨g, 0, none⟩) m cap) (xs.length + ys.length) (vs ++ us) → (v1.ownBlock = some g ∨ g = w.heap.size) →
      ∃ bs', OwL R e w2 lo (.slice (some ⟨g, 0, none⟩) m cap) (xs ++ ys) bs' ∧ (∀ c ∈ bs', c ∈ bs1 ∨ c ∈ bs2 ∨ c = w.heap.size) := by
  have l1 := fun b hb => (goodL gd e).lt h1 (b := b) hb
  have l2 := fun b hb => (goodL gd e).lt h2 (b := b) hb
  obtain ⟨vs, bss, ho, e1, e2, e3, e4, e5⟩ := h1
  obtain ⟨us, css, ko, k1, k2, k3, k4, k5⟩ := h2
  subst e4; subst k4
  refine ⟨vs, us, ho, e1, ko, k1, ?_⟩
  intro w2 g m cap hg hown hat
  have hN := List.nodup_append.1 e5
  have kN := List.nodup_append.1 k5
  have hgo : ∀ c, c = g → (c ∈ blks v1 ∨ c = w.heap.size) := fun c hc => by
    subst hc
    rcases hat with h | h
    · exact .inl (mem_blks.2 h)
    · exact .inr h
  have hnb : ∀ c ∈ bss.flatten, c ≠ g := fun c hc hcg => by
    rcases hgo c hcg with h | h
    · exact hN.2.2 c h c hc rfl
    · have := (l1 c (List.mem_append_right _ hc)).2; omega
  have hnc : ∀ c ∈ css.flatten, c ≠ g := fun c hc hcg => by
    rcases hgo c hcg with h | h
    · exact hd c (List.mem_append_left _ h) (List.mem_append_right _ hc)
    · have := (l2 c (List.mem_append_right _ hc)).2; omega
  refine ⟨[g] ++ (bss ++ css).flatten, ⟨vs ++ us, bss ++ css, ?_, by simp [e1, k1], by simp [e2, k2], ?_, rfl, ?_⟩, ?_⟩
  · unfold Own; rw [show (vs ++ us).length = xs.length + ys.length by simp [e1, k1]]; exact hown
  · intro i u x b hi hx hb
    by_cases hlt : i < vs.length
    · rw [List.getElem?_append_left hlt] at hi
      rw [List.getElem?_append_left (by omega)] at hx hb
      exact grown_keep gd hg (e3 i u x b hi hx hb) (fun c hc hm => hN.2.2 c hm c (mem_bss hb hc) rfl)
    · rw [List.getElem?_append_right (by omega)] at hi hx hb
      have f1 : i - xs.length = i - vs.length := by omega
      have f2 : i - bss.length = i - vs.length := by omega
      rw [f1] at hx
      rw [f2] at hb
      exact grown_keep gd hg (k3 _ u x b hi hx hb) (fun c hc hm => hd c (List.mem_append_left _ hm) (List.mem_append_right _ (mem_bss hb hc)))
  · rw [List.flatten_append, List.nodup_append]
    refine ⟨by simp, ?_, ?_⟩
    · rw [List.nodup_append]
      refine ⟨hN.2.1, kN.2.1, fun b hb1 c hc1 e0 => ?_⟩
      subst e0
      exact hd b (List.mem_append_right _ hb1) (List.mem_append_right _ hc1)
    · intro b hb1 c hc1 e0
      subst e0
      simp only [List.mem_singleton] at hb1
      rcases List.mem_append.1 hc1 with hc | hc
      · exact hnb b hc hb1
      · exact hnc b hc hb1
  · intro c hc
    rcases List.mem_append.1 hc with h | h
    · simp only [List.mem_singleton] at h
      rcases hgo c h with k | k
      · exact .inl (List.mem_append_left _ k)
      · exact .inr (.inr k)
    · rw [List.flatten_append] at h
      rcases List.mem_append.1 h with k | k
      · exact .inl (List.mem_append_right _ k)
      · exact .inr (.inl (List.mem_append_right _ k))
end Go.Proofs.Ytklljaeoimgmnaa
