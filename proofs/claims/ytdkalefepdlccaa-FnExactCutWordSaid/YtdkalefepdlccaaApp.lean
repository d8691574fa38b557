/-
  append to what a call owns: what else it owns stays, and the longer slice is owned.
-/
import Derived.Test.YtdkalefepdlccaaPr
import Derived.Deep.AppendLies
namespace Go.Proofs.Ytdkalefepdlccaa
open Go.RowKit

theorem mem_blks {v : Value} {k : Nat} : k ∈ blks v ↔ v.ownBlock = some k := by unfold blks; cases v.ownBlock <;> simp [eq_comm]

theorem below_keepf {w w' : World} {b off : Nat} (hb : Below w.heap.size w w') (hlt : b < w.heap.size) (h : w.frozen? ⟨b, off, none⟩ = false) : w'.frozen? ⟨b, off, none⟩ = false := (hb.frozen (p := ⟨b, off, none⟩) hlt).trans h
theorem grown_cell {w w' : World} {v : Value} {b off : Nat} {u : Value} (hg : w.grownBy w' v.ownBlock) (hb : b ∉ blks v) (h : w.cell? ⟨b, off, none⟩ = some u) : w'.cell? ⟨b, off, none⟩ = some u :=
  (hg.cell_far ⟨b, off, none⟩ (World.block_lt_of_cell? _ _ h) (fun e => hb (mem_blks.2 e.symm))).trans h
theorem grown_free {w w' : World} {v : Value} {b off : Nat} (hg : w.grownBy w' v.ownBlock) (hb : b ∉ blks v) (hl : b < w.heap.size) (h : w.frozen? ⟨b, off, none⟩ = false) : w'.frozen? ⟨b, off, none⟩ = false :=
  (hg.frozen_far ⟨b, off, none⟩ hl (fun e => hb (mem_blks.2 e.symm))).trans h

/-- Behind an append to v, what is owned elsewhere stays. -/
theorem grown_keep {α : Type} {R : World → Nat → Value → α → List Nat → Prop} (gd : Good R) {w w' : World} {v u : Value} {lo : Nat} {x : α} {cs : List Nat} (hg : w.grownBy w' v.ownBlock) (k : R w lo u x cs) (hd : ∀ c ∈ cs, c ∉ blks v) : R w' lo u x cs :=
  gd.same k (fun c hc => hg.block c (gd.lt k hc).2 (fun e => hd c hc (mem_blks.2 e.symm)))
theorem grown_row {w w' : World} {v : Value} {g : Nat} {e : TypeId} {xs : List Value} (hg : w.grownBy w' v.ownBlock) (h : Row w g e xs) (hd : g ∉ blks v) : Row w' g e xs :=
  (hg.block g h.lt (fun e => hd (mem_blks.2 e.symm))).trans h
theorem grown_below {w w' : World} {v : Value} {B : Nat} (hg : w.grownBy w' v.ownBlock) (hB : B ≤ w.heap.size) (hv : ∀ b ∈ blks v, B ≤ b) : Below B w w' :=
  ⟨hg.os, hg.tape, hg.output, hg.size, fun k hk => hg.block k (by omega) (fun e => by have := hv k (mem_blks.2 e.symm); omega)⟩

theorem ints_snoc (xs : List Int) (x : Int) : ints (xs ++ [x]) = ints xs ++ [.int .i64 x] := by simp [ints]
theorem bools_snoc (xs : List Bool) (x : Bool) : bools (xs ++ [x]) = bools xs ++ [.bool x] := by simp [bools]
theorem pcells_snoc (xs : List (Int × Int)) (x : Int × Int) : pcells (xs ++ [x]) = pcells xs ++ [.int .i64 x.1, .int .i64 x.2] := by simp [pcells, pcell]

/-- A slice of one-cell elements, one longer. -/
theorem OwV.snoc {α : Type} {f : α → List Value} {e : TypeId} {w' : World} {lo : Nat} {v' : Value} {n : Nat} {x' : α} {us : List Value} (h : w'.ownsRow lo e 1 v' n us) (hu : us = f x') (hn : n = (f x').length) {g cap m : Nat} (hv : v' = .slice (some ⟨g, 0, none⟩) m cap) : OwV f e w' lo v' x' [g] := by
  subst hu; subst hn; subst hv
  exact ⟨h, rfl⟩
theorem OwP.snoc {e : TypeId} {w' : World} {lo : Nat} {v' : Value} {n : Nat} {x' : List (Int × Int)} {us : List Value} (h : w'.ownsRow lo e 2 v' n us) (hu : us = pcells x') (hn : n = x'.length) {g cap m : Nat} (hv : v' = .slice (some ⟨g, 0, none⟩) m cap) : OwP e w' lo v' x' [g] := by
  subst hu; subst hn; subst hv
  exact ⟨h, rfl⟩

/-- A slice of slices, one longer. -/
theorem OwL.snoc {α : Type} {R : World → Nat → Value → α → List Nat → Prop} (gd : Good R) {e : TypeId} {w w' : World} {lo g cap m : Nat} {v u0 : Value} {vs : List Value} {bss : List (List Nat)} {xs : List α} {x0 : α} {b0 : List Nat}
    (_ho : Own w e lo v vs) (e1 : vs.length = xs.length) (e2 : bss.length = xs.length) (e3 : ∀ (i : Nat) u x b, vs[i]? = some u → xs[i]? = some x → bss[i]? = some b → R w lo u x b) (e5 : (blks v ++ bss.flatten).Nodup)
    (hu : R w lo u0 x0 b0) (hd : ∀ c ∈ b0, c ∉ blks v ++ bss.flatten) (hgrow : w.grownBy w' v.ownBlock) (hown : w'.ownsRow lo e 1 (.slice (some ⟨g, 0, none⟩) m cap) (xs.length + 1) (vs ++ [u0])) {H : Nat} (hat : v.ownBlock = some g ∨ g = H) (hH : w.heap.size ≤ H) :
    OwL R e w' lo (.slice (some ⟨g, 0, none⟩) m cap) (xs ++ [x0]) ([g] ++ (bss ++ [b0]).flatten) := by
  have hN := List.nodup_append.1 e5
  refine ⟨vs ++ [u0], bss ++ [b0], ?_, by simp [e1], by simp [e2], ?_, rfl, ?_⟩
  · unfold Own; rw [show (vs ++ [u0]).length = xs.length + 1 by simp [e1]]; exact hown
  · intro i u x b hi hx hb
    by_cases hlt : i < vs.length
    · rw [List.getElem?_append_left hlt] at hi
      rw [List.getElem?_append_left (by omega)] at hx hb
      exact grown_keep gd hgrow (e3 i u x b hi hx hb) (fun c hc hm => hN.2.2 c hm c (mem_bss hb hc) rfl)
    · have e0 : i = vs.length := by
        have := (List.getElem?_eq_some_iff.1 hi).1
        simp at this; omega
      subst e0
      rw [List.getElem?_append_right (Nat.le_refl _)] at hi
      rw [e1, List.getElem?_append_right (Nat.le_refl _)] at hx
      rw [e1, ← e2, List.getElem?_append_right (Nat.le_refl _)] at hb
      simp at hi hx hb
      subst hi; subst hx; subst hb
      exact grown_keep gd hgrow hu (fun c hc hm => hd c hc (List.mem_append_left _ hm))
  · rw [List.flatten_append, List.nodup_append]
    refine ⟨by simp, ?_, ?_⟩
    · rw [List.nodup_append]
      refine ⟨hN.2.1, by simpa using gd.nodup hu, ?_⟩
      intro b hb1 c hc1 e0
      subst e0
      exact hd b (by simpa using hc1) (List.mem_append_right _ hb1)
    · intro b hb1 c hc1 e0
      subst e0
      simp at hb1
      subst hb1
      rcases List.mem_append.1 hc1 with hc | hc
      · rcases hat with h | h
        · exact hN.2.2 b (mem_blks.2 h) b hc rfl
        · obtain ⟨l, hl1, hl2⟩ := List.mem_flatten.1 hc
          obtain ⟨i, hi⟩ := List.mem_iff_getElem?.1 hl1
          have hi' := (List.getElem?_eq_some_iff.1 hi).1
          have := (gd.lt (e3 i vs[i] xs[i] l (List.getElem?_eq_getElem (by omega)) (List.getElem?_eq_getElem (by omega)) hi) hl2).2
          omega
      · have hc0 : b ∈ b0 := by simpa using hc
        rcases hat with h | h
        · exact hd b hc0 (List.mem_append_left _ (mem_blks.2 h))
        · have := (gd.lt hu hc0).2
          omega

/-- Where the blocks of a longer slice lie: in the old ones, or behind all. -/
theorem snoc_block {v : Value} {g H : Nat} (hat : v.ownBlock = some g ∨ g = H) : g ∈ blks v ∨ g = H := by
  rcases hat with h | h
  · exact .inl (mem_blks.2 h)
  · exact .inr h
theorem owV_nil {α : Type} (f : α → List Value) (x : α) (hf : f x = []) (e : TypeId) (w : World) (lo : Nat) : OwV f e w lo (.slice none 0 0) x [] := ⟨by unfold Own; rw [hf]; exact World.ownsRow_nil w lo e 1, rfl⟩
theorem owP_nil (e : TypeId) (w : World) (lo : Nat) : OwP e w lo (.slice none 0 0) [] [] := ⟨World.ownsRow_nil w lo e 2, rfl⟩
theorem owL_nil {α : Type} (R : World → Nat → Value → α → List Nat → Prop) (e : TypeId) (w : World) (lo : Nat) : OwL R e w lo (.slice none 0 0) [] [] :=
  ⟨[], [], World.ownsRow_nil w lo e 1, rfl, rfl, fun i u x b hi => by simp at hi, rfl, by simp [blks, Value.ownBlock]⟩
end Go.Proofs.Ytdkalefepdlccaa
