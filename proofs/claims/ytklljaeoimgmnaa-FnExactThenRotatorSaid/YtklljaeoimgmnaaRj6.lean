/-
  One rotator behind another: what the model's drawn region makes.
-/
import Derived.Test.YtklljaeoimgmnaaRj4
import Derived.Test.YtklljaeoimgmnaaRo9
namespace Go.Proofs.Ytklljaeoimgmnaa
open Go.RowKit

theorem OwL.joinE {α : Type} {R : World → Nat → Value → α → List Nat → Prop} (gd : Good R) {e : TypeId} {w : World} {lo : Nat} {v1 v2 : Value} {xs ys : List α} {vs us : List Value} {bss css : List (List Nat)}
    (ho : Own w e lo v1 vs) (e1 : vs.length = xs.length) (e2 : bss.length = xs.length) (e3 : ∀ (i : Nat) u x b, vs[i]? = some u → xs[i]? = some x → bss[i]? = some b → R w lo u x b) (e5 : (blks v1 ++ bss.flatten).Nodup)
    (ko : Own w e lo v2 us) (k1 : us.length = ys.length) (k2 : css.length = ys.length) (k3 : ∀ (i : Nat) u x b, us[i]? = some u → ys[i]? = some x → css[i]? = some b → R w lo u x b) (k5 : (blks v2 ++ css.flatten).Nodup)
    (hd : ∀ c ∈ blks v1 ++ bss.flatten, c ∉ blks v2 ++ css.flatten) :
    ∀ (w2 : World) (g m cap : Nat), w.grownBy w2 v1.ownBlock → w2.ownsRow lo e 1 (.slice (some ⟨g, 0, none⟩) m cap) (xs.length + ys.length) (vs ++ us) → (v1.ownBlock = some g ∨ g = w.heap.size) →
      ∃ bs', OwL R e w2 lo (.slice (some ⟨g, 0, none⟩) m cap) (xs ++ ys) bs' ∧ (∀ c ∈ bs', c ∈ blks v1 ++ bss.flatten ∨ c ∈ blks v2 ++ css.flatten ∨ c = w.heap.size) := by
  have l1 := fun b hb => (goodL gd e).lt (⟨vs, bss, ho, e1, e2, e3, rfl, e5⟩ : OwL R e w lo v1 xs _) (b := b) hb
  have l2 := fun b hb => (goodL gd e).lt (⟨us, css, ko, k1, k2, k3, rfl, k5⟩ : OwL R e w lo v2 ys _) (b := b) hb
  intro w2 g m cap hg hown hat
  have hN := List.nodup_append.1 e5
  have kN := List.nodup_append.1 k5
  have hgo : ∀ c, c = g → (c ∈ blks v1 ∨ c = w.heap.size) := fun c hc => by
    subst hc
    rcases hat with h | h
    · exact .inl (mem_blks.2 h)
    · exact .inr h
  have hnb : ∀ c ∈ bss.flatten, c ≠ g := fun c hc hcg => by
    rcases hgo c hcg with h | h
    · exact hN.2.2 c h c hc rfl
    · have := (l1 c (List.mem_append_right _ hc)).2; omega
  have hnc : ∀ c ∈ css.flatten, c ≠ g := fun c hc hcg => by
    rcases hgo c hcg with h | h
    · exact hd c (List.mem_append_left _ h) (List.mem_append_right _ hc)
    · have := (l2 c (List.mem_append_right _ hc)).2; omega
  refine ⟨[g] ++ (bss ++ css).flatten, ⟨vs ++ us, bss ++ css, ?_, by simp [e1, k1], by simp [e2, k2], ?_, rfl, ?_⟩, ?_⟩
  · unfold Own; rw [show (vs ++ us).length = xs.length + ys.length by simp [e1, k1]]; exact hown
  · intro i u x b hi hx hb
    by_cases hlt : i < vs.length
    · rw [List.getElem?_append_left hlt] at hi
      rw [List.getElem?_append_left (by omega)] at hx hb
      exact grown_keep gd hg (e3 i u x b hi hx hb) (fun c hc hm => hN.2.2 c hm c (mem_bss hb hc) rfl)
    · rw [List.getElem?_append_right (by omega)] at hi hx hb
      have f1 : i - xs.length = i - vs.length := by omega
      have f2 : i - bss.length = i - vs.length := by omega
      rw [f1] at hx
      rw [f2] at hb
      exact grown_keep gd hg (k3 _ u x b hi hx hb) (fun c hc hm => hd c (List.mem_append_left _ hm) (List.mem_append_right _ (mem_bss hb hc)))
  · rw [List.flatten_append, List.nodup_append]
    refine ⟨by simp, ?_, ?_⟩
    · rw [List.nodup_append]
      refine ⟨hN.2.1, kN.2.1, fun b hb1 c hc1 e0 => ?_⟩
      subst e0
      exact hd b (List.mem_append_right _ hb1) (List.mem_append_right _ hc1)
    · intro b hb1 c hc1 e0
      subst e0
      simp only [List.mem_singleton] at hb1
      rcases List.mem_append.1 hc1 with hc | hc
      · exact hnb b hc hb1
      · exact hnc b hc hb1
  · intro c hc
    rcases List.mem_append.1 hc with h | h
    · simp only [List.mem_singleton] at h
      rcases hgo c h with k | k
      · exact .inl (List.mem_append_left _ k)
      · exact .inr (.inr k)
    · rw [List.flatten_append] at h
      rcases List.mem_append.1 h with k | k
      · exact .inl (List.mem_append_right _ k)
      · exact .inr (.inl (List.mem_append_right _ k))

theorem rj_join {w2 wb : World} {X Y : List (List Int)} {b1 b2 : List Nat} {n m ku ck : Nat} {Bu Bv : Option Addr}
    (h1 : OwII wb w2.heap.size (.slice Bu n ku) X b1) (h2 : OwII wb w2.heap.size (.slice Bv m ck) Y b2) (hd : ∀ c ∈ b1, c ∉ b2) (hn : X.length = n) (hm : Y.length = m) (hy : 0 < m) :
    ∃ cg vs us, Bv = some ⟨cg, 0, none⟩ ∧ us.length = m * 1 ∧ (∀ u ∈ us, u.oneCell' = true) ∧ (∀ b ∈ blks (Value.slice Bu n ku), b ∈ b1) ∧ ∀ W' : World, Below wb.heap.size wb W' → W'.ownsRow w2.heap.size 36 1 (.slice Bu n ku) n vs ∧ (∀ j u, us[j]? = some u → W'.cell? ((⟨cg, 0, none⟩ : Addr).add j) = some u) ∧
      ∀ (w5 : World) (g cap : Nat), W'.grownBy w5 (Value.slice Bu n ku).ownBlock → w5.ownsRow w2.heap.size 36 1 (.slice (some ⟨g, 0, none⟩) (n + m) cap) (n + m) (vs ++ us) → ((Value.slice Bu n ku).ownBlock = some g ∨ g = W'.heap.size) →
        ∃ bs', OwII w5 w2.heap.size (.slice (some ⟨g, 0, none⟩) (n + m) cap) (X ++ Y) bs' ∧ (∀ p, p < W'.heap.size → p ∉ b1 → p ∉ b2 → p ∉ bs') := by
  subst hn
  subst hm
  obtain ⟨vs, bss, ho, e1, e2, e3, rfl, e5⟩ := h1
  obtain ⟨us, css, ko, k1, k2, k3, rfl, k5⟩ := h2
  rcases ko.nil_or with ⟨_, hnil⟩ | ⟨cg, cap, ev, _⟩
  · exfalso; subst hnil; simp at k1; omega
  simp only [Value.slice.injEq] at ev
  obtain ⟨rfl, hl, rfl⟩ := ev
  have gI := goodV ints 2
  refine ⟨cg, vs, us, rfl, by omega, fun u hu => ?_, fun b hb => List.mem_append_left _ hb, fun W' hb => ⟨?_, ?_, ?_⟩⟩
  · obtain ⟨i, hi⟩ := List.mem_iff_getElem?.1 hu
    have hi' := (List.getElem?_eq_some_iff.1 hi).1
    obtain ⟨B', c', rfl⟩ := owI_shape (k3 i u Y[i] css[i] hi (List.getElem?_eq_getElem (by omega)) (List.getElem?_eq_getElem (by omega)))
    rfl
  · have := ho.below hb; unfold Own at this; rwa [e1] at this
  · exact rd_news (ko.below hb).rd
  · intro w5 g cap' hg hown hat
    obtain ⟨bs', hO, hs⟩ := OwL.joinE gI (ho.below hb) e1 e2 (fun i u x b q1 q2 q3 => gI.below (e3 i u x b q1 q2 q3) hb) e5 (ko.below hb) k1 k2 (fun i u x b q1 q2 q3 => gI.below (k3 i u x b q1 q2 q3) hb) k5 hd w5 g _ cap' hg hown hat
    refine ⟨bs', hO, fun p hp h1 h2 hm => ?_⟩
    rcases hs p hm with k | k | k
    · exact h1 k
    · exact h2 k
    · omega
theorem rj_second {w2 Wd wd Wi wa : World} {v u : Value} {X Y : List (List Int)} {bv bu : List Nat} (l : Below w2.heap.size w2 Wd) (hv : OwII wd Wd.heap.size v Y bv) (hd : Below Wd.heap.size Wd wd) (hm : Below wd.heap.size wd Wi) (hu : OwII wa Wi.heap.size u X bu) (hb : Below Wi.heap.size Wi wa) :
    OwII wa w2.heap.size u X bu ∧ OwII wa w2.heap.size v Y bv ∧ (∀ c ∈ bu, c ∉ bv) ∧ (∀ c ∈ bu, Wi.heap.size ≤ c ∧ c < wa.heap.size) ∧ (∀ c ∈ bv, Wd.heap.size ≤ c ∧ c < wd.heap.size) := by
  have s1 := l.size
  have s2 := hd.size
  have s3 := hm.size
  have lv := fun c (hc : c ∈ bv) => goodII.lt hv hc
  have lu := fun c (hc : c ∈ bu) => goodII.lt hu hc
  exact ⟨goodII.mono hu (by omega), goodII.mono (goodII.below hv (below_step hm hb)) s1, fun c hc hm' => by have := lu c hc; have := lv c hm'; omega, lu, lv⟩
theorem rj_pack {w2 Wi wa : World} {u : Value} {X : List (List Int)} {bs : List Nat} (hu : OwII wa Wi.heap.size u X bs) (hb : Below Wi.heap.size Wi wa) (l : Below w2.heap.size w2 Wi) : Below w2.heap.size w2 Wi ∧ OwII wa Wi.heap.size u X bs ∧ Below Wi.heap.size Wi wa := ⟨l, hu, hb⟩
theorem rj_grown {w2 W' w6 : World} {u : Value} {bu : List Nat} (hg : W'.grownBy w6 u.ownBlock) (hu : ∀ b ∈ blks u, b ∈ bu) (hl : ∀ c ∈ bu, w2.heap.size ≤ c) (hB : Below w2.heap.size w2 W') : Below w2.heap.size w2 w6 :=
  hB.trans (grown_below hg hB.size (fun b hm => hl b (hu b hm)))
theorem atBoxO_old2 {W wb : World} {po : Nat} {L S : Int} {u z0 z1 z2 z3 : Value} {rows : List (List Int)} {bs : List Nat} (hz : Row wb po 40 [z0, z1, z2, z3]) (hn : po ∉ bs) (hp : W.heap.size ≤ po) (hb : Below W.heap.size W wb) (hu : OwII wb W.heap.size u rows bs) :
    AtBoxO W ⟨L, S, rows, []⟩ (.pointer (some ⟨po, 0, none⟩)) ((((wb.setCell ⟨po, 0, none⟩ (.int .i64 L)).setCell ⟨po, 1, none⟩ (.int .i64 S)).setCell ⟨po, 2, none⟩ u).setCell ⟨po, 3, none⟩ (.slice none 0 0)) := by
  refine ⟨_, rfl, hp, (((hb.setCell (p := ⟨po, 0, none⟩) hp _).setCell (p := ⟨po, 1, none⟩) hp _).setCell (p := ⟨po, 2, none⟩) hp _).setCell (p := ⟨po, 3, none⟩) hp _, u, _, bs, [], (((hz.stored 0 (.int .i64 L)).stored 1 (.int .i64 S)).stored 2 u).stored 3 (.slice none 0 0), ?_, owV_nil ints [] rfl _ _ _, by simpa using goodII.nodup hu, by simpa using hn⟩
  exact goodII.other (a := ⟨po, 3, none⟩) _ (goodII.other (a := ⟨po, 2, none⟩) _ (goodII.other (a := ⟨po, 1, none⟩) _ (goodII.other (a := ⟨po, 0, none⟩) _ hu hn) hn) hn) hn
end Go.Proofs.Ytklljaeoimgmnaa
