/-
  One member of an owned list is replaced by a newer one, which lies in its blocks or in new ones.
-/
import Derived.Test.YtdkalefepdlccaaApp
namespace Go.Proofs.Ytdkalefepdlccaa
open Go.RowKit

theorem flat_set_nodup {bss : List (List Nat)} {j H : Nat} {b b' : List Nat} (h : bss.flatten.Nodup) (hb : bss[j]? = some b) (hN : b'.Nodup) (hsub : ∀ c ∈ b', c ∈ b ∨ H ≤ c) (hlt : ∀ c ∈ bss.flatten, c < H) : (bss.set j b').flatten.Nodup := by
  have hj := (List.getElem?_eq_some_iff.1 hb).1
  have hap := h
  rw [List.Nodup, List.pairwise_flatten] at h ⊢
  obtain ⟨h1, h2⟩ := h
  refine ⟨fun l hl => ?_, ?_⟩
  · rcases List.mem_or_eq_of_mem_set hl with hl | rfl
    · exact h1 l hl
    · exact hN
  · rw [List.pairwise_iff_getElem] at h2 ⊢
    intro i k hi hk hik x hx y hy
    rw [List.length_set] at hi hk
    simp only [List.getElem_set] at hx hy
    by_cases e1 : j = i
    · subst e1
      rw [if_pos rfl] at hx
      rw [if_neg (by omega)] at hy
      rcases hsub x hx with hc | hc
      · have := flat_apart hap hb (List.getElem?_eq_getElem hk) (by omega) x hc
        intro e; subst e; exact this hy
      · have := hlt y (List.mem_flatten.2 ⟨_, List.getElem_mem hk, hy⟩)
        omega
    · rw [if_neg e1] at hx
      by_cases e2 : j = k
      · subst e2
        rw [if_pos rfl] at hy
        rcases hsub y hy with hc | hc
        · have := flat_apart hap (List.getElem?_eq_getElem hi) hb (by omega) x hx
          intro e; subst e; exact this hc
        · have := hlt x (List.mem_flatten.2 ⟨_, List.getElem_mem hi, hx⟩)
          omega
      · rw [if_neg e2] at hy
        exact h2 i k hi hk hik x hx y hy

theorem OwL.memberNew {α : Type} {R : World → Nat → Value → α → List Nat → Prop} (gd : Good R) {e : TypeId} {w : World} {lo : Nat} {v : Value} {ys : List α} {bs : List Nat} (h : OwL R e w lo v ys bs) {j : Nat} {x : α} (hx : ys[j]? = some x) :
    ∃ g cap u b, v = .slice (some ⟨g, 0, none⟩) ys.length cap ∧ w.cell? ⟨g, j, none⟩ = some u ∧ w.frozen? ⟨g, j, none⟩ = false ∧ g < w.heap.size ∧ lo ≤ g ∧ R w lo u x b ∧ g ∉ b ∧ (∀ c ∈ b, c ∈ bs) ∧
      ∀ w' u' x' b', R w' lo u' x' b' → (∀ k, k < w.heap.size → k ∉ b → w'.heap[k]? = w.heap[k]?) → (∀ c ∈ b', c ∈ b ∨ w.heap.size ≤ c) →
        ∃ bs', OwL R e (w'.setCell ⟨g, j, none⟩ u') lo v (ys.set j x') bs' ∧ ∀ c ∈ bs', c ∈ bs ∨ w.heap.size ≤ c := by
  obtain ⟨vs, bss, h, h1, h2, h3, h4, h5⟩ := h
  have hj := (List.getElem?_eq_some_iff.1 hx).1
  have hu : vs[j]? = some vs[j] := List.getElem?_eq_getElem (by omega)
  have hb : bss[j]? = some bss[j] := List.getElem?_eq_getElem (by omega)
  rcases h.nil_or with ⟨_, hn⟩ | ⟨g, cap, hv, hg⟩
  · subst hn; simp at h1; omega
  subst h4
  have hN := List.nodup_append.1 h5
  subst hv
  have h0 := h
  unfold Own at h0
  have hc : w.cell? ⟨g, j, none⟩ = some vs[j] := by
    rw [World.ownsRow.cellAt h0 j (by omega)]
    exact hu
  have hgl := h.lt (b := g) (by rw [hg]; simp)
  have hgb : g ∉ bss.flatten := fun hm => hN.2.2 g (by rw [hg]; simp) g hm rfl
  refine ⟨g, cap, vs[j], bss[j], by rw [h1], hc, h0.frozenAt j, hgl.2, hgl.1, h3 j _ _ _ hu hx hb, fun hm => hgb (mem_bss hb hm), fun c hc => List.mem_append_right _ (mem_bss hb hc), fun w' u' x' b' hR hk hs => ?_⟩
  have hall : ∀ c ∈ bss.flatten, lo ≤ c ∧ c < w.heap.size := fun c hc => by
    obtain ⟨l, hl1, hl2⟩ := List.mem_flatten.1 hc
    obtain ⟨i, hi⟩ := List.mem_iff_getElem?.1 hl1
    have hi' := (List.getElem?_eq_some_iff.1 hi).1
    exact gd.lt (h3 i vs[i] _ l (List.getElem?_eq_getElem (by omega)) (List.getElem?_eq_getElem (by omega)) hi) hl2
  have hgb' : g ∉ b' := fun hm => by
    rcases hs g hm with hm | hm
    · exact hgb (mem_bss hb hm)
    · omega
  have hgj : g ∉ bss[j] := fun hm => hgb (mem_bss hb hm)
  have hO' : Own w' e lo (.slice (some ⟨g, 0, none⟩) vs.length cap) vs := h.same (fun c hc => by
    rw [hg] at hc
    simp at hc
    subst hc
    exact hk _ hgl.2 hgj)
  have hst := (show w'.ownsRow lo e 1 (.slice (some ⟨g, 0, none⟩) vs.length cap) vs.length vs from hO').stored j u'
  refine ⟨blks (.slice (some ⟨g, 0, none⟩) vs.length cap) ++ (bss.set j b').flatten, ⟨vs.set j u', bss.set j b', ?_, by simp [h1], by simp [h2], ?_, rfl, ?_⟩, ?_⟩
  · unfold Own; rw [List.length_set]; exact hst.1
  · intro i p y b hp hy hbi
    by_cases hij : j = i
    · subst hij
      rw [List.getElem?_set_self (by omega)] at hp hy hbi
      cases hp; cases hy; cases hbi
      exact gd.other _ hR hgb'
    · rw [List.getElem?_set_ne hij] at hp hy hbi
      refine gd.other _ (gd.same (h3 i p y b hp hy hbi) (fun c hc => hk c ?_ ?_)) (fun hm => hgb (mem_bss hbi hm))
      · exact (hall c (mem_bss hbi hc)).2
      · exact flat_apart hN.2.1 hbi hb (fun e => hij e.symm) c hc
  · rw [List.nodup_append]
    refine ⟨hN.1, flat_set_nodup hN.2.1 hb (gd.nodup hR) hs (fun c hc => (hall c hc).2), ?_⟩
    intro c hc d hd e0
    subst e0
    rw [hg] at hc
    simp at hc
    subst hc
    obtain ⟨l, hl1, hl2⟩ := List.mem_flatten.1 hd
    rcases List.mem_or_eq_of_mem_set hl1 with hl | rfl
    · exact hgb (List.mem_flatten.2 ⟨l, hl, hl2⟩)
    · exact hgb' hl2
  · intro c hc
    rcases List.mem_append.1 hc with hc | hc
    · exact .inl (List.mem_append_left _ hc)
    · obtain ⟨l, hl1, hl2⟩ := List.mem_flatten.1 hc
      rcases List.mem_or_eq_of_mem_set hl1 with hl | rfl
      · exact .inl (List.mem_append_right _ (List.mem_flatten.2 ⟨l, hl, hl2⟩))
      · rcases hs c hl2 with hm | hm
        · exact .inl (List.mem_append_right _ (mem_bss hb hm))
        · exact .inr hm

/-- A list that the call owns, one member longer: the member has been made behind it. -/
theorem OwL.grow {α : Type} {R : World → Nat → Value → α → List Nat → Prop} (gd : Good R) {e : TypeId} {w : World} {lo : Nat} {v : Value} {xs : List α} {bs : List Nat} (h : OwL R e w lo v xs bs) :
    ∃ vs, w.ownsRow lo e 1 v xs.length vs ∧ (∀ b ∈ blks v, lo ≤ b ∧ b < w.heap.size) ∧ ∀ (w1 : World) (u0 : Value) (x0 : α) (b0 : List Nat), Below w.heap.size w w1 → R w1 lo u0 x0 b0 → (∀ c ∈ b0, w.heap.size ≤ c) →
      ∀ (o : Obj) (w2 : World) (g m cap : Nat), (w1.alloc o).grownBy w2 v.ownBlock → w2.ownsRow lo e 1 (.slice (some ⟨g, 0, none⟩) m cap) (xs.length + 1) (vs ++ [u0]) → (v.ownBlock = some g ∨ g = w1.heap.size + 1) →
        ∃ bs', OwL R e w2 lo (.slice (some ⟨g, 0, none⟩) m cap) (xs ++ [x0]) bs' := by
  have hlt := fun b hb => (goodL gd e).lt h (b := b) hb
  obtain ⟨vs, bss, hO, e1, e2, e3, e4, e5⟩ := h
  subst e4
  refine ⟨vs, by have := hO; unfold Own at this; rwa [e1] at this, fun b hb => hO.lt hb, ?_⟩
  intro w1 u0 x0 b0 hb hu hd o w2 g m cap hg hown hat
  have hb' : Below w.heap.size w (w1.alloc o) := below_step hb (below_alloc w1 o)
  exact ⟨_, OwL.snoc gd (hO.below hb') e1 e2 (fun i u x b h1 h2 h3 => gd.below (e3 i u x b h1 h2 h3) hb') e5 (gd.below hu (below_alloc w1 o)) (fun c hc hm => by
    have h1 := hd c hc
    have h2 := (hlt c hm).2
    omega) hg hown hat (by simp)⟩
end Go.Proofs.Ytdkalefepdlccaa
