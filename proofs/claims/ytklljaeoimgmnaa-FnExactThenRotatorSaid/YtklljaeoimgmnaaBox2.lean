/-
  A struct that is being made in a box of the call's own, with two things that it leads to, of any kinds: one of them grows.
-/
import Derived.Test.YtklljaeoimgmnaaMem1
namespace Go.Proofs.Ytklljaeoimgmnaa
open Go.RowKit

/-- A list that the call owns, one member longer; its blocks are old ones or new ones. -/
theorem OwL.growS {α : Type} {R : World → Nat → Value → α → List Nat → Prop} (gd : Good R) {e : TypeId} {w : World} {lo : Nat} {v : Value} {xs : List α} {bs : List Nat} (h : OwL R e w lo v xs bs) :
    ∃ vs, w.ownsRow lo e 1 v xs.length vs ∧ (∀ b ∈ blks v, b ∈ bs ∧ lo ≤ b ∧ b < w.heap.size) ∧ ∀ (w1 : World) (u0 : Value) (x0 : α) (b0 : List Nat), Below w.heap.size w w1 → R w1 lo u0 x0 b0 → (∀ c ∈ b0, w.heap.size ≤ c) →
      ∀ (o : Obj) (w2 : World) (g m cap : Nat), (w1.alloc o).grownBy w2 v.ownBlock → w2.ownsRow lo e 1 (.slice (some ⟨g, 0, none⟩) m cap) (xs.length + 1) (vs ++ [u0]) → (v.ownBlock = some g ∨ g = w1.heap.size + 1) →
        ∃ bs', OwL R e w2 lo (.slice (some ⟨g, 0, none⟩) m cap) (xs ++ [x0]) bs' ∧ ∀ c ∈ bs', c ∈ bs ∨ w.heap.size ≤ c := by
  have hlt := fun b hb => (goodL gd e).lt h (b := b) hb
  obtain ⟨vs, bss, hO, e1, e2, e3, e4, e5⟩ := h
  subst e4
  refine ⟨vs, by have := hO; unfold Own at this; rwa [e1] at this, fun b hb => ⟨List.mem_append_left _ hb, hO.lt hb⟩, ?_⟩
  intro w1 u0 x0 b0 hb hu hd o w2 g m cap hg hown hat
  have hb' : Below w.heap.size w (w1.alloc o) := below_step hb (below_alloc w1 o)
  have hs1 := hb.size
  refine ⟨_, OwL.snoc gd (hO.below hb') e1 e2 (fun i u x b h1 h2 h3 => gd.below (e3 i u x b h1 h2 h3) hb') e5 (gd.below hu (below_alloc w1 o)) (fun c hc hm => by
    have h1 := hd c hc
    have h2 := (hlt c hm).2
    omega) hg hown hat (by simp), fun c hc => ?_⟩
  rw [List.flatten_append] at hc
  simp only [List.mem_append, List.mem_singleton] at hc
  rcases hc with hc | hc | hc
  · subst hc
    rcases hat with hat | hat
    · exact .inl (List.mem_append_left _ (mem_blks.2 hat))
    · right; omega
  · exact .inl (List.mem_append_right _ hc)
  · right; exact hd c (by simpa using hc)

/-- The first of two things grows, and its new value is stored into the box. -/
theorem box2_left {α β : Type} {R1 : World → Nat → Value → α → List Nat → Prop} {R2 : World → Nat → Value → β → List Nat → Prop} (g1 : Good R1) (g2 : Good R2) {w w1 w2 : World} {lo po i : Nat} {e : TypeId} {cells : List Value} {v1 v1' v2 : Value} {x1' : α} {x2 : β} {b1 b1' b2 : List Nat}
    (ho : Row w po e cells) (h2 : R2 w lo v2 x2 b2) (hd : (b1 ++ b2).Nodup) (hp : po ∉ b1 ++ b2) (hb : Below w.heap.size w w1) (hg : w1.grownBy w2 v1.ownBlock) (hv : ∀ b ∈ blks v1, b ∈ b1) (hn : R1 w2 lo v1' x1' b1') (hs : ∀ c ∈ b1', c ∈ b1 ∨ w.heap.size ≤ c) :
    Row (w2.setCell ⟨po, i, none⟩ v1') po e (cells.set i v1') ∧ R1 (w2.setCell ⟨po, i, none⟩ v1') lo v1' x1' b1' ∧ R2 (w2.setCell ⟨po, i, none⟩ v1') lo v2 x2 b2 ∧ (b1' ++ b2).Nodup ∧ po ∉ b1' ++ b2 := by
  have hN := List.nodup_append.1 hd
  have lpo := ho.lt
  rw [List.mem_append, not_or] at hp
  have hpn : po ∉ b1' := fun hm => by
    rcases hs po hm with h | h
    · exact hp.1 h
    · omega
  refine ⟨(grown_row hg (ho.below hb lpo) (fun hm => hp.1 (hv _ hm))).stored i v1', g1.other (a := ⟨po, i, none⟩) _ hn hpn, g2.other (a := ⟨po, i, none⟩) _ (grown_keep g2 hg (g2.below h2 hb) (fun c hc hm => hN.2.2 c (hv c hm) c hc rfl)) hp.2, ?_, ?_⟩
  · rw [List.nodup_append]
    refine ⟨g1.nodup hn, hN.2.1, fun x hx y hy e => ?_⟩
    subst e
    rcases hs x hx with h | h
    · exact hN.2.2 x h x hy rfl
    · have := (g2.lt h2 hy).2; omega
  · rw [List.mem_append, not_or]; exact ⟨hpn, hp.2⟩
theorem nodup_swap {a b : List Nat} (h : (a ++ b).Nodup) : (b ++ a).Nodup := by
  rw [List.nodup_append] at h ⊢
  exact ⟨h.2.1, h.1, fun x hx y hy e => h.2.2 y hy x hx e.symm⟩
/-- The second of two things grows. -/
theorem box2_right {α β : Type} {R1 : World → Nat → Value → α → List Nat → Prop} {R2 : World → Nat → Value → β → List Nat → Prop} (g1 : Good R1) (g2 : Good R2) {w w1 w2 : World} {lo po i : Nat} {e : TypeId} {cells : List Value} {v1 v2 v2' : Value} {x1 : α} {x2' : β} {b1 b2 b2' : List Nat}
    (ho : Row w po e cells) (h1 : R1 w lo v1 x1 b1) (hd : (b1 ++ b2).Nodup) (hp : po ∉ b1 ++ b2) (hb : Below w.heap.size w w1) (hg : w1.grownBy w2 v2.ownBlock) (hv : ∀ b ∈ blks v2, b ∈ b2) (hn : R2 w2 lo v2' x2' b2') (hs : ∀ c ∈ b2', c ∈ b2 ∨ w.heap.size ≤ c) :
    Row (w2.setCell ⟨po, i, none⟩ v2') po e (cells.set i v2') ∧ R1 (w2.setCell ⟨po, i, none⟩ v2') lo v1 x1 b1 ∧ R2 (w2.setCell ⟨po, i, none⟩ v2') lo v2' x2' b2' ∧ (b1 ++ b2').Nodup ∧ po ∉ b1 ++ b2' := by
  obtain ⟨k1, k2, k3, k4, k5⟩ := box2_left g2 g1 (i := i) ho h1 (nodup_swap hd) (by rw [List.mem_append, not_or] at hp ⊢; exact ⟨hp.2, hp.1⟩) hb hg hv hn hs
  exact ⟨k1, k3, k2, nodup_swap k4, by rw [List.mem_append, not_or] at k5 ⊢; exact ⟨k5.2, k5.1⟩⟩
/-- Behind an append and a store into a box from B on, what lies below B is as it was. -/
theorem app_below2 {B : Nat} {w0 w w1 w2 : World} {v u : Value} {p off : Nat} (hb : Below B w0 w) (hb1 : Below w.heap.size w w1) (hB : B ≤ w.heap.size) (hg : w1.grownBy w2 v.ownBlock) (hv : ∀ b ∈ blks v, B ≤ b) (hp : B ≤ p) : Below B w0 (w2.setCell ⟨p, off, none⟩ u) :=
  ((hb.trans (hb1.mono hB)).trans (grown_below hg (Nat.le_trans hB hb1.size) hv)).setCell hp u
end Go.Proofs.Ytklljaeoimgmnaa
