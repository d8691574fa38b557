/-
  One rotator behind another, by the program: two rotators in boxes, the second's lists put behind the first's.
-/
import Derived.Test.YtklljaeoimgmnaaRj1
import Derived.Test.YtklljaeoimgmnaaMk
namespace Go.Proofs.Ytklljaeoimgmnaa
open Go.RowKit

theorem OwL.joinU {α : Type} {R : World → Nat → Value → α → List Nat → Prop} (gd : Good R) {e : TypeId} {w : World} {lo : Nat} {v1 v2 : Value} {xs ys : List α} {bs1 bs2 : List Nat}
    (h1 : OwL R e w lo v1 xs bs1) (h2 : OwL R e w lo v2 ys bs2) (hd : ∀ c ∈ bs1, c ∉ bs2) :
    ∃ vs us, Own w e lo v1 vs ∧ vs.length = xs.length ∧ Own w e lo v2 us ∧ us.length = ys.length ∧ (∀ u ∈ us, ∃ y b, R w lo u y b) ∧ ∀ (w2 : World) (g m cap : Nat), w.grownBy w2 v1.ownBlock → w2.ownsRow lo e 1 (.slice (some ⟨g, 0, none⟩) m cap) (xs.length + ys.length) (vs ++ us) → (v1.ownBlock = some g ∨ g = w.heap.size) →
      ∃ bs', OwL R e w2 lo (.slice (some ⟨g, 0, none⟩) m cap) (xs ++ ys) bs' ∧ (∀ c ∈ bs', c ∈ bs1 ∨ c ∈ bs2 ∨ c = w.heap.size) := by
  have l1 := fun b hb => (goodL gd e).lt h1 (b := b) hb
  have l2 := fun b hb => (goodL gd e).lt h2 (b := b) hb
  obtain ⟨vs, bss, ho, e1, e2, e3, e4, e5⟩ := h1
  obtain ⟨us, css, ko, k1, k2, k3, k4, k5⟩ := h2
  subst e4; subst k4
  refine ⟨vs, us, ho, e1, ko, k1, fun u hu => ?_, ?_⟩
  · obtain ⟨i, hi⟩ := List.mem_iff_getElem?.1 hu
    have hi' := (List.getElem?_eq_some_iff.1 hi).1
    exact ⟨_, _, k3 i u ys[i] css[i] hi (List.getElem?_eq_getElem (by omega)) (List.getElem?_eq_getElem (by omega))⟩
  intro w2 g m cap hg hown hat
  have hN := List.nodup_append.1 e5
  have kN := List.nodup_append.1 k5
  have hgo : ∀ c, c = g → (c ∈ blks v1 ∨ c = w.heap.size) := fun c hc => by
    subst hc
    rcases hat with h | h
    · exact .inl (mem_blks.2 h)
    · exact .inr h
  have hnb : ∀ c ∈ bss.flatten, c ≠ g := fun c hc hcg => by
    rcases hgo c hcg with h | h
    · exact hN.2.2 c h c hc rfl
    · have := (l1 c (List.mem_append_right _ hc)).2; omega
  have hnc : ∀ c ∈ css.flatten, c ≠ g := fun c hc hcg => by
    rcases hgo c hcg with h | h
    · exact hd c (List.mem_append_left _ h) (List.mem_append_right _ hc)
    · have := (l2 c (List.mem_append_right _ hc)).2; omega
  refine ⟨[g] ++ (bss ++ css).flatten, ⟨vs ++ us, bss ++ css, ?_, by simp [e1, k1], by simp [e2, k2], ?_, rfl, ?_⟩, ?_⟩
  · unfold Own; rw [show (vs ++ us).length = xs.length + ys.length by simp [e1, k1]]; exact hown
  · intro i u x b hi hx hb
    by_cases hlt : i < vs.length
    · rw [List.getElem?_append_left hlt] at hi
      rw [List.getElem?_append_left (by omega)] at hx hb
      exact grown_keep gd hg (e3 i u x b hi hx hb) (fun c hc hm => hN.2.2 c hm c (mem_bss hb hc) rfl)
    · rw [List.getElem?_append_right (by omega)] at hi hx hb
      have f1 : i - xs.length = i - vs.length := by omega
      have f2 : i - bss.length = i - vs.length := by omega
      rw [f1] at hx
      rw [f2] at hb
      exact grown_keep gd hg (k3 _ u x b hi hx hb) (fun c hc hm => hd c (List.mem_append_left _ hm) (List.mem_append_right _ (mem_bss hb hc)))
  · rw [List.flatten_append, List.nodup_append]
    refine ⟨by simp, ?_, ?_⟩
    · rw [List.nodup_append]
      refine ⟨hN.2.1, kN.2.1, fun b hb1 c hc1 e0 => ?_⟩
      subst e0
      exact hd b (List.mem_append_right _ hb1) (List.mem_append_right _ hc1)
    · intro b hb1 c hc1 e0
      subst e0
      simp only [List.mem_singleton] at hb1
      rcases List.mem_append.1 hc1 with hc | hc
      · exact hnb b hc hb1
      · exact hnc b hc hb1
  · intro c hc
    rcases List.mem_append.1 hc with h | h
    · simp only [List.mem_singleton] at h
      rcases hgo c h with k | k
      · exact .inl (List.mem_append_left _ k)
      · exact .inr (.inr k)
    · rw [List.flatten_append] at h
      rcases List.mem_append.1 h with k | k
      · exact .inl (List.mem_append_right _ k)
      · exact .inr (.inl (List.mem_append_right _ k))

/-- Two rotators in boxes. -/
structure JnI (w : World) (lo pr p7 p8 : Nat) (L S L' S' : Int) (A B C D : Value) (xs ys : List (List Int)) (fs gs : List Int) (bA bB bC bD : List Nat) (W : World) : Prop where
  bel : Below w.heap.size w W
  res : Row W pr 40 [.int .i64 0, .int .i64 0, .slice none 0 0, .slice none 0 0]
  r7 : Row W p7 40 [.int .i64 L, .int .i64 S, A, B]
  r8 : Row W p8 40 [.int .i64 L', .int .i64 S', C, D]
  hA : OwII W lo A xs bA
  hB : OwI W lo B fs bB
  hC : OwII W lo C ys bC
  hD : OwI W lo D gs bD
  nd : (bA ++ (bC ++ (bB ++ bD))).Nodup
  n7 : p7 ∉ bA ++ (bC ++ (bB ++ bD))
  n8 : p8 ∉ bA ++ (bC ++ (bB ++ bD))
  lp : w.heap.size ≤ pr
  lr : pr < lo
  l7 : lo ≤ p7
  l8 : lo ≤ p8
  ne : p7 ≠ p8
/-- What stands once the rows are joined. -/
structure JmI (w : World) (lo pr p7 p8 : Nat) (L S L' S' : Int) (A B C D : Value) (zs : List (List Int)) (fs gs : List Int) (bA bB bD : List Nat) (W : World) : Prop where
  bel : Below w.heap.size w W
  res : Row W pr 40 [.int .i64 0, .int .i64 0, .slice none 0 0, .slice none 0 0]
  r7 : Row W p7 40 [.int .i64 L, .int .i64 S, A, B]
  r8 : Row W p8 40 [.int .i64 L', .int .i64 S', C, D]
  hA : OwII W lo A zs bA
  hB : OwI W lo B fs bB
  hD : OwI W lo D gs bD
  nd : (bA ++ (bB ++ bD)).Nodup
  n7 : p7 ∉ bA ++ (bB ++ bD)
  n8 : p8 ∉ bA ++ (bB ++ bD)
  lp : w.heap.size ≤ pr
  lr : pr < lo
  l7 : lo ≤ p7
  l8 : lo ≤ p8
  ne : p7 ≠ p8
theorem JnI.next {w : World} {lo pr p7 p8 : Nat} {L S L' S' : Int} {A B C D : Value} {xs ys : List (List Int)} {fs gs : List Int} {bA bB bC bD : List Nat} {W : World} (h : JnI w lo pr p7 p8 L S L' S' A B C D xs ys fs gs bA bB bC bD W) (hy : ys ≠ []) :
    ∃ An ak, A = .slice An xs.length ak ∧ ∃ cg ck, C = .slice (some ⟨cg, 0, none⟩) ys.length ck ∧ ∃ vs us, W.ownsRow lo 36 1 A xs.length vs ∧ us.length = ys.length ∧ (∀ j u, us[j]? = some u → W.cell? ((⟨cg, 0, none⟩ : Addr).add j) = some u) ∧ (∀ u ∈ us, u.oneCell' = true) ∧ p7 ∉ blks A ∧ p8 ∉ blks A ∧
      ∀ (w2 : World) (g cap : Nat), W.grownBy w2 A.ownBlock → w2.ownsRow lo 36 1 (.slice (some ⟨g, 0, none⟩) (xs.length + ys.length) cap) (xs.length + ys.length) (vs ++ us) → (A.ownBlock = some g ∨ g = W.heap.size) →
        ∃ bA', JmI w lo pr p7 p8 L S L' S' (.slice (some ⟨g, 0, none⟩) (xs.length + ys.length) cap) B C D (xs ++ ys) fs gs bA' bB bD (w2.setCell ⟨p7, 2, none⟩ (.slice (some ⟨g, 0, none⟩) (xs.length + ys.length) cap)) := by
  obtain ⟨bel, res, r7, r8, hA, hB, hC, hD, nd, n7, n8, lp, lr, l7, l8, ne⟩ := h
  have N1 := List.nodup_append.1 nd
  have N2 := List.nodup_append.1 N1.2.1
  have N3 := List.nodup_append.1 N2.2.1
  simp only [List.mem_append, not_or] at n7 n8
  obtain ⟨An, ak, rfl⟩ := OwL.shape hA
  obtain ⟨vs, us, oA, eA, oC, eC, hsh, hjoin⟩ := OwL.joinU (goodV ints 2) hA hC (fun c hc hm => N1.2.2 c hc c (List.mem_append_left _ hm) rfl)
  have lA := fun c (hc : c ∈ bA) => goodII.lt hA hc
  have lC := fun c (hc : c ∈ bC) => goodII.lt hC hc
  have lB := fun c (hc : c ∈ bB) => goodI.lt hB hc
  have lD := fun c (hc : c ∈ bD) => goodI.lt hD hc
  have hbA : ∀ c ∈ blks (.slice An xs.length ak), c ∈ bA := fun c hc => by
    obtain ⟨vs', bss, _, _, _, _, e4, _⟩ := hA
    rw [e4]; exact List.mem_append_left _ hc
  rcases oC.nil_or with ⟨_, hn⟩ | ⟨cg, ck, rfl, _⟩
  · exfalso; subst hn; simp at eC; exact hy (List.length_eq_zero_iff.1 eC.symm)
  rw [eC] at hC r8 oC ⊢
  refine ⟨An, ak, rfl, cg, ck, rfl, vs, us, by have := oA; unfold Own at this; rwa [eA] at this, eC, rd_news oC.rd, fun u hu => ?_, fun hm => n7.1 (hbA _ hm), fun hm => n8.1 (hbA _ hm), ?_⟩
  · obtain ⟨y, b, hR⟩ := hsh u hu
    obtain ⟨B', c', rfl⟩ := owI_shape hR
    rfl
  · intro w2 g cap hg hown hat
    obtain ⟨bA', hO, hs⟩ := hjoin w2 g _ cap hg hown hat
    have sz := hg.size
    have lg := fun c (hc : c ∈ bA') => goodII.lt hO hc
    have d7 : p7 ∉ bA' := fun hm => by
      rcases hs _ hm with k | k | k
      · exact n7.1 k
      · exact n7.2.1 k
      · have := r7.lt; omega
    have d8 : p8 ∉ bA' := fun hm => by
      rcases hs _ hm with k | k | k
      · exact n8.1 k
      · exact n8.2.1 k
      · have := r8.lt; omega
    have dB : ∀ c ∈ bA', c ∉ bB ++ bD := fun c hc hm => by
      rcases hs _ hc with k | k | k
      · exact N1.2.2 c k c (List.mem_append_right _ hm) rfl
      · exact N2.2.2 c k c hm rfl
      · rcases List.mem_append.1 hm with m | m
        · have := (lB c m).2; omega
        · have := (lD c m).2; omega
    have kB : ∀ c ∈ bB, c ∉ blks (.slice An xs.length ak) := fun c hc hm => N1.2.2 c (hbA c hm) c (List.mem_append_right _ (List.mem_append_left _ hc)) rfl
    have kD : ∀ c ∈ bD, c ∉ blks (.slice An xs.length ak) := fun c hc hm => N1.2.2 c (hbA c hm) c (List.mem_append_right _ (List.mem_append_right _ hc)) rfl
    refine ⟨bA', (bel.trans (grown_below hg bel.size (fun b hm => by have := lA b (hbA b hm); omega))).setCell (p := ⟨p7, 2, none⟩) (by show w.heap.size ≤ p7; omega) _, (grown_row hg res (fun hm => by have := lA _ (hbA _ hm); omega)).other (by show p7 ≠ pr; omega) _, (grown_row hg r7 (fun hm => n7.1 (hbA _ hm))).stored 2 _, (grown_row hg r8 (fun hm => n8.1 (hbA _ hm))).other (by show p7 ≠ p8; exact ne) _,
      goodII.other (a := ⟨p7, 2, none⟩) _ hO d7, goodI.other (a := ⟨p7, 2, none⟩) _ (grown_keep goodI hg hB kB) n7.2.2.1, goodI.other (a := ⟨p7, 2, none⟩) _ (grown_keep goodI hg hD kD) n7.2.2.2, ?_, ?_, ?_, lp, lr, l7, l8, ne⟩
    · rw [List.nodup_append]
      exact ⟨goodII.nodup hO, N2.2.1, fun x hx y hy e => dB x hx (e ▸ hy)⟩
    · simp only [List.mem_append, not_or]; exact ⟨d7, n7.2.2⟩
    · simp only [List.mem_append, not_or]; exact ⟨d8, n8.2.2⟩
end Go.Proofs.Ytklljaeoimgmnaa
