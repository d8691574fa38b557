/-
  What a call owns, whatever its shape: 'R w lo v x bs': in w the value v reads as x, and all that it leads to lies in the blocks bs, each from lo on, none twice. Such readings are kept by stores elsewhere and by calls that leave what was there.
-/
import Derived.Test.YtdkalefepdlccaaKit
namespace Go.Proofs.Ytdkalefepdlccaa
open Go.RowKit

structure Good {α : Type} (R : World → Nat → Value → α → List Nat → Prop) : Prop where
  same : ∀ {w w' lo v x bs}, R w lo v x bs → (∀ b ∈ bs, w'.heap[b]? = w.heap[b]?) → R w' lo v x bs
  other : ∀ {w lo v x bs} {a : Addr} (u : Value), R w lo v x bs → a.block ∉ bs → R (w.setCell a u) lo v x bs
  below : ∀ {w w' lo v x bs}, R w lo v x bs → Below w.heap.size w w' → R w' lo v x bs
  mono : ∀ {w lo lo' v x bs}, R w lo v x bs → lo' ≤ lo → R w lo' v x bs
  lt : ∀ {w lo v x bs b}, R w lo v x bs → b ∈ bs → lo ≤ b ∧ b < w.heap.size
  nodup : ∀ {w lo v x bs}, R w lo v x bs → bs.Nodup

theorem Good.under {α : Type} {R : World → Nat → Value → α → List Nat → Prop} (g : Good R) {w : World} {lo : Nat} {v : Value} {x : α} {bs : List Nat} (h : R w lo v x bs) {a : Addr} (ha : a.block < lo) (u : Value) : R (w.setCell a u) lo v x bs :=
  g.other u h (fun hm => by have := (g.lt h hm).1; omega)

/-- A slice of one-cell elements. -/
def OwV {α : Type} (f : α → List Value) (e : TypeId) (w : World) (lo : Nat) (v : Value) (x : α) (bs : List Nat) : Prop := Own w e lo v (f x) ∧ bs = blks v

theorem blks_nodup (v : Value) : (blks v).Nodup := by unfold blks; cases v.ownBlock <;> simp

theorem Own.same {w w' : World} {e : TypeId} {lo : Nat} {v : Value} {xs : List Value} (h : Own w e lo v xs) (hb : ∀ b ∈ blks v, w'.heap[b]? = w.heap[b]?) : Own w' e lo v xs := by
  obtain ⟨h1, h2 | ⟨g, cap, cur, rfl, hg, h3, h4⟩⟩ := h
  · exact ⟨h1, .inl h2⟩
  · exact ⟨h1, .inr ⟨g, cap, cur, rfl, hg, (hb g (by simp [blks, Value.ownBlock])).trans h3, h4⟩⟩

theorem goodV {α : Type} (f : α → List Value) (e : TypeId) : Good (OwV f e) where
  same := fun ⟨h, hb⟩ hs => ⟨h.same (by rw [← hb]; exact hs), hb⟩
  other := fun u ⟨h, hb⟩ ha => ⟨h.other (by rw [← hb]; exact ha) u, hb⟩
  below := fun ⟨h, hb⟩ k => ⟨h.below k, hb⟩
  mono := fun ⟨h, hb⟩ k => ⟨h.mono k, hb⟩
  lt := fun ⟨h, hb⟩ k => h.lt (by rw [← hb]; exact k)
  nodup := fun ⟨_, hb⟩ => by rw [hb]; exact blks_nodup _

/-- A slice whose elements are owned, each by R. -/
def OwL {α : Type} (R : World → Nat → Value → α → List Nat → Prop) (e : TypeId) (w : World) (lo : Nat) (v : Value) (xs : List α) (bs : List Nat) : Prop :=
  ∃ (vs : List Value) (bss : List (List Nat)), Own w e lo v vs ∧ vs.length = xs.length ∧ bss.length = xs.length ∧ (∀ (i : Nat) u x b, vs[i]? = some u → xs[i]? = some x → bss[i]? = some b → R w lo u x b) ∧ bs = blks v ++ bss.flatten ∧ bs.Nodup

theorem mem_bss {bss : List (List Nat)} {i : Nat} {b : List Nat} (h : bss[i]? = some b) {c : Nat} (hc : c ∈ b) : c ∈ bss.flatten := List.mem_flatten.2 ⟨b, List.mem_of_getElem? h, hc⟩

theorem goodL {α : Type} {R : World → Nat → Value → α → List Nat → Prop} (g : Good R) (e : TypeId) : Good (OwL R e) where
  same := fun ⟨vs, bss, h, h1, h2, h3, h4, h5⟩ hs => by
    subst h4
    exact ⟨vs, bss, h.same (fun b hb => hs b (List.mem_append_left _ hb)), h1, h2, fun i p x b hp hx hb => g.same (h3 i p x b hp hx hb) (fun c hc => hs c (List.mem_append_right _ (mem_bss hb hc))), rfl, h5⟩
  other := fun u ⟨vs, bss, h, h1, h2, h3, h4, h5⟩ ha => by
    subst h4
    rw [List.mem_append, not_or] at ha
    exact ⟨vs, bss, h.other ha.1 u, h1, h2, fun i p x b hp hx hb => g.other u (h3 i p x b hp hx hb) (fun hm => ha.2 (mem_bss hb hm)), rfl, h5⟩
  below := fun ⟨vs, bss, h, h1, h2, h3, h4, h5⟩ k => ⟨vs, bss, h.below k, h1, h2, fun i p x b hp hx hb => g.below (h3 i p x b hp hx hb) k, h4, h5⟩
  mono := fun ⟨vs, bss, h, h1, h2, h3, h4, h5⟩ k => ⟨vs, bss, h.mono k, h1, h2, fun i p x b hp hx hb => g.mono (h3 i p x b hp hx hb) k, h4, h5⟩
  lt := fun ⟨vs, bss, h, h1, h2, h3, h4, h5⟩ k => by
    subst h4
    rcases List.mem_append.1 k with k | k
    · exact h.lt k
    · obtain ⟨b, hb, hk⟩ := List.mem_flatten.1 k
      obtain ⟨i, hi⟩ := List.mem_iff_getElem?.1 hb
      have hi' := (List.getElem?_eq_some_iff.1 hi).1
      exact g.lt (h3 i vs[i] _ b (by simp [h1, ← h2, hi']) (List.getElem?_eq_getElem (by omega)) hi) hk
  nodup := fun ⟨_, _, _, _, _, _, _, h5⟩ => h5

/-- A family that is being filled, and one member more; then a store below them all. -/
theorem fam_snoc {α : Type} {R : World → Nat → Value → α → List Nat → Prop} (g : Good R) {lo : Nat} {wr w1 : World} {us : List Value} {bss : List (List Nat)} {xs : List α} {u0 : Value} {x0 : α} {b0 : List Nat}
    (hO : ∀ (i : Nat) u x b, us[i]? = some u → xs[i]? = some x → bss[i]? = some b → R wr lo u x b) (hl : us.length = bss.length) (hx : us.length ≤ xs.length) (hN : bss.flatten.Nodup) (hB : Below wr.heap.size wr w1) (hu : R w1 lo u0 x0 b0)
    (hb : ∀ b ∈ b0, wr.heap.size ≤ b) (hx0 : xs[us.length]? = some x0) {a : Addr} (ha : a.block < lo) (val : Value) :
    (∀ (i : Nat) u x b, (us ++ [u0])[i]? = some u → xs[i]? = some x → (bss ++ [b0])[i]? = some b → R (w1.setCell a val) lo u x b) ∧ (us ++ [u0]).length = (bss ++ [b0]).length ∧ (bss ++ [b0]).flatten.Nodup := by
  refine ⟨?_, by simp [hl], ?_⟩
  · intro i u x b hi hxi hbi
    by_cases hlt : i < us.length
    · rw [List.getElem?_append_left hlt] at hi
      rw [List.getElem?_append_left (by omega)] at hbi
      exact g.under (g.below (hO i u x b hi hxi hbi) hB) ha val
    · have e0 : i = us.length := by
        have := (List.getElem?_eq_some_iff.1 hi).1
        simp at this; omega
      subst e0
      rw [List.getElem?_append_right (Nat.le_refl _)] at hi
      rw [hl, List.getElem?_append_right (Nat.le_refl _)] at hbi
      simp at hi hbi
      subst hi; subst hbi
      rw [hx0] at hxi
      cases hxi
      exact g.under hu ha val
  · rw [List.flatten_append, List.nodup_append]
    refine ⟨hN, by simpa using g.nodup hu, ?_⟩
    intro b hb1 c hc1 e0
    subst e0
    obtain ⟨l, hl1, hl2⟩ := List.mem_flatten.1 hb1
    obtain ⟨i, hi⟩ := List.mem_iff_getElem?.1 hl1
    have hi' := (List.getElem?_eq_some_iff.1 hi).1
    have := (g.lt (hO i us[i] _ l (List.getElem?_eq_getElem (by omega)) (List.getElem?_eq_getElem (by omega)) hi) hl2).2
    have := hb b (by simpa using hc1)
    omega

/-- The family is whole: with the row that leads to it. -/
theorem fam_whole {α : Type} {R : World → Nat → Value → α → List Nat → Prop} (gd : Good R) {e : TypeId} {lo : Nat} {w : World} {us : List Value} {bss : List (List Nat)} {xs : List α} {g : Nat}
    (hR : Row w g e us) (hl : us.length = xs.length) (hb : us.length = bss.length) (hm : us.length ≤ maxLen) (hO : ∀ (i : Nat) u x b, us[i]? = some u → xs[i]? = some x → bss[i]? = some b → R w (g + 1) u x b) (hN : bss.flatten.Nodup) (hg : lo ≤ g) :
    OwL R e w lo (.slice (some ⟨g, 0, none⟩) xs.length xs.length) xs ([g] ++ bss.flatten) := by
  refine ⟨us, bss, by rw [← hl]; exact hR.own hg hm, hl, by omega, fun i u x b hi hx hb => gd.mono (hO i u x b hi hx hb) (by omega), rfl, ?_⟩
  rw [List.nodup_append]
  refine ⟨by simp, hN, ?_⟩
  intro b hb1 c hc e0
  subst e0
  obtain ⟨l, hl1, hl2⟩ := List.mem_flatten.1 hc
  obtain ⟨i, hi⟩ := List.mem_iff_getElem?.1 hl1
  have hi' := (List.getElem?_eq_some_iff.1 hi).1
  have := (gd.lt (hO i us[i] xs[i] l (List.getElem?_eq_getElem (by omega)) (List.getElem?_eq_getElem (by omega)) hi) hl2).1
  simp at hb1
  omega

/-- What is owned can be read. -/
theorem OwL.rd {α : Type} {R : World → Nat → Value → α → List Nat → Prop} {Rd' : World → Value → α → Prop} (k : ∀ {w lo v x bs}, R w lo v x bs → Rd' w v x) {e : TypeId} {w : World} {lo : Nat} {v : Value} {xs : List α} {bs : List Nat} (h : OwL R e w lo v xs bs) : RdL Rd' w v xs := by
  obtain ⟨vs, bss, h, h1, h2, h3, _, _⟩ := h
  refine ⟨vs, h.rd, h1, fun i u x hu hx => ?_⟩
  have hi := (List.getElem?_eq_some_iff.1 hx).1
  exact k (h3 i u x bss[i] hu hx (List.getElem?_eq_getElem (by omega)))

theorem OwL.shape {α : Type} {R : World → Nat → Value → α → List Nat → Prop} {e : TypeId} {w : World} {lo : Nat} {v : Value} {xs : List α} {bs : List Nat} (h : OwL R e w lo v xs bs) : ∃ B c, v = .slice B xs.length c := by
  obtain ⟨vs, bss, h, h1, _⟩ := h
  rw [← h1]
  exact h.shape

theorem owI_shape {e : TypeId} {w : World} {lo : Nat} {v : Value} {xs : List Int} {bs : List Nat} (h : OwV ints e w lo v xs bs) : ∃ B c, v = .slice B xs.length c := by
  obtain ⟨B, c, hv⟩ := h.1.shape; rw [ints_len] at hv; exact ⟨B, c, hv⟩
theorem owB_shape {e : TypeId} {w : World} {lo : Nat} {v : Value} {xs : List Bool} {bs : List Nat} (h : OwV bools e w lo v xs bs) : ∃ B c, v = .slice B xs.length c := by
  obtain ⟨B, c, hv⟩ := h.1.shape; rw [bools_len] at hv; exact ⟨B, c, hv⟩
theorem rdI_shape {w : World} {v : Value} {xs : List Int} (h : RdI w v xs) : ∃ B c, v = .slice B xs.length c := by
  obtain ⟨B, c, hv⟩ := Rd.shape h; rw [ints_len] at hv; exact ⟨B, c, hv⟩
theorem rdB_shape {w : World} {v : Value} {xs : List Bool} (h : RdB w v xs) : ∃ B c, v = .slice B xs.length c := by
  obtain ⟨B, c, hv⟩ := Rd.shape h; rw [bools_len] at hv; exact ⟨B, c, hv⟩

/-- Two parts of one value, the second of which lies behind the first. -/
theorem nodup_two {b c : List Nat} {k : Nat} (hb : b.Nodup) (hc : c.Nodup) (h1 : ∀ x ∈ b, x < k) (h2 : ∀ x ∈ c, k ≤ x) : (b ++ c).Nodup := by
  rw [List.nodup_append]
  exact ⟨hb, hc, fun x hx y hy e => by subst e; have := h1 x hx; have := h2 x hy; omega⟩
end Go.Proofs.Ytdkalefepdlccaa
