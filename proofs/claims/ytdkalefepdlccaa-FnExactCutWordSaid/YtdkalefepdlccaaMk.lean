/-
  Marks: consecutive numbers laid into what a call owns, and found there again.
-/
import Derived.Test.YtdkalefepdlccaaOwn
namespace Go.Proofs.Ytdkalefepdlccaa
open Go.RowKit

/-- Only the blocks bs may have turned. -/
structure Only (bs : List Nat) (w w' : World) : Prop where
  os : w'.os = w.os
  tape : w'.tape = w.tape
  output : w'.output = w.output
  size : w'.heap.size = w.heap.size
  block : ∀ k, k ∉ bs → w'.heap[k]? = w.heap[k]?

theorem Only.refl (bs : List Nat) (w : World) : Only bs w w := ⟨rfl, rfl, rfl, rfl, fun _ _ => rfl⟩
theorem Only.trans {bs : List Nat} {a b c : World} (h : Only bs a b) (k : Only bs b c) : Only bs a c :=
  ⟨k.os.trans h.os, k.tape.trans h.tape, k.output.trans h.output, k.size.trans h.size, fun i hi => (k.block i hi).trans (h.block i hi)⟩
theorem Only.mono {bs cs : List Nat} {a b : World} (h : Only bs a b) (hs : ∀ x ∈ bs, x ∈ cs) : Only cs a b :=
  ⟨h.os, h.tape, h.output, h.size, fun i hi => h.block i (fun hm => hi (hs i hm))⟩
theorem Only.setCell {bs : List Nat} {a w : World} (h : Only bs a w) {p : Addr} (hp : p.block ∈ bs) (u : Value) : Only bs a (w.setCell p u) :=
  h.trans ⟨rfl, rfl, rfl, by simp, fun k hk => Below.heap_setCell _ _ _ _ (fun e => hk (e ▸ hp))⟩
theorem Only.drew {bs : List Nat} {a w : World} (h : Only bs a w) : Only bs a w.drew := ⟨h.os, h.tape, h.output, h.size, h.block⟩
theorem Only.below {bs : List Nat} {w w' : World} (h : Only bs w w') {B : Nat} (hb : ∀ b ∈ bs, B ≤ b) : Below B w w' :=
  ⟨h.os, h.tape, h.output, Nat.le_of_eq h.size.symm, fun k hk => h.block k (fun hm => by have := hb k hm; omega)⟩
theorem Only.cell {bs : List Nat} {w w' : World} (h : Only bs w w') {p : Addr} (hp : p.block ∉ bs) : w'.cell? p = w.cell? p := World.cell?_of_block (w := w) (h.block _ hp)
theorem Only.keep {α : Type} {R : World → Nat → Value → α → List Nat → Prop} (g : Good R) {bs cs : List Nat} {w w' : World} (h : Only bs w w') {lo : Nat} {v : Value} {x : α} (k : R w lo v x cs) (hd : ∀ c ∈ cs, c ∉ bs) : R w' lo v x cs :=
  g.same k (fun c hc => h.block c (hd c hc))

/-- Consecutive numbers in the place of a list's elements. -/
def mkI (k : Int) (xs : List Int) : List Int := (List.range xs.length).map fun (i : Nat) => k + (i : Int)
def mkB (k : Int) (xs : List Bool) : List Bool := (List.range xs.length).map fun (i : Nat) => (k + (i : Int)) % 3 == 0
def mkL {α : Type} (mk : Int → α → α) (n : α → Nat) : Int → List α → List α
  | _, [] => []
  | k, x :: r => mk k x :: mkL mk n (k + n x) r
def numL {α : Type} (n : α → Nat) (xs : List α) : Nat := (xs.map n).sum

theorem mkI_len (k : Int) (xs : List Int) : (mkI k xs).length = xs.length := by simp [mkI]
theorem mkB_len (k : Int) (xs : List Bool) : (mkB k xs).length = xs.length := by simp [mkB]
theorem mkI_get {k : Int} {i : Nat} {xs : List Int} (h : i < xs.length) : (mkI k xs)[i]? = some (k + (i : Int)) := by simp [mkI, h]
theorem mkB_get {k : Int} {i : Nat} {xs : List Bool} (h : i < xs.length) : (mkB k xs)[i]? = some ((k + (i : Int)) % 3 == 0) := by simp [mkB, h]

/-- The first i elements are marked. -/
def partI (k : Int) (i : Nat) (xs : List Int) : List Int := (mkI k xs).take i ++ xs.drop i
def partB (k : Int) (i : Nat) (xs : List Bool) : List Bool := (mkB k xs).take i ++ xs.drop i

theorem part_step {α : Type} {ms xs : List α} {i : Nat} {m : α} (hl : ms.length = xs.length) (hi : i < xs.length) (hm : ms[i]? = some m) : (ms.take i ++ xs.drop i).set i m = ms.take (i + 1) ++ xs.drop (i + 1) := by
  have e : (ms.take i).length = i := by simp; omega
  rw [List.set_append, if_neg (by omega), e, Nat.sub_self, take_succ_of hm]
  have e2 := List.drop_eq_getElem_cons hi
  rw [e2, List.set_cons_zero, List.append_assoc]
  rfl
theorem part_len {α : Type} {ms xs : List α} {i : Nat} (hl : ms.length = xs.length) (hi : i ≤ xs.length) : (ms.take i ++ xs.drop i).length = xs.length := by simp; omega
theorem part_done {α : Type} {ms xs : List α} {i : Nat} (hl : ms.length = xs.length) (hi : ¬ i < xs.length) : ms.take i ++ xs.drop i = ms := by
  rw [List.take_of_length_le (by omega), List.drop_of_length_le (by omega), List.append_nil]

theorem Own.nil_or {w : World} {e : TypeId} {lo : Nat} {v : Value} {xs : List Value} (h : Own w e lo v xs) : (v = .slice none 0 0 ∧ xs = []) ∨ ∃ g cap, v = .slice (some ⟨g, 0, none⟩) xs.length cap ∧ blks v = [g] := by
  obtain ⟨_, ⟨rfl, h0⟩ | ⟨g, cap, cur, rfl, _⟩⟩ := h
  · exact .inl ⟨rfl, List.length_eq_zero_iff.1 h0⟩
  · exact .inr ⟨g, cap, rfl, rfl⟩

theorem mkL_len {α : Type} (mk : Int → α → α) (n : α → Nat) (k : Int) (xs : List α) : (mkL mk n k xs).length = xs.length := by
  induction xs generalizing k with
  | nil => rfl
  | cons x r ih => simp [mkL, ih]
theorem numL_take {α : Type} {n : α → Nat} {xs : List α} {j : Nat} {x : α} (h : xs[j]? = some x) : numL n (xs.take (j + 1)) = numL n (xs.take j) + n x := by
  rw [take_succ_of h]; simp [numL]
theorem numL_le {α : Type} {n : α → Nat} (xs : List α) (j : Nat) : numL n (xs.take j) ≤ numL n xs := by
  have : numL n xs = numL n (xs.take j) + numL n (xs.drop j) := by
    simp only [numL, ← List.sum_append, ← List.map_append, List.take_append_drop]
  omega
theorem mkL_get {α : Type} (mk : Int → α → α) (n : α → Nat) (k : Int) (xs : List α) {j : Nat} {x : α} (h : xs[j]? = some x) : (mkL mk n k xs)[j]? = some (mk (k + (numL n (xs.take j) : Int)) x) := by
  induction xs generalizing k j with
  | nil => simp at h
  | cons y r ih =>
    cases j with
    | zero => simp at h; subst h; simp [mkL, numL]
    | succ j =>
      simp at h
      simp only [mkL, List.getElem?_cons_succ]
      rw [ih (k + n y) h]
      simp only [numL, List.take_succ_cons, List.map_cons, List.sum_cons]
      congr 2
      omega

theorem flat_apart {bss : List (List Nat)} (h : bss.flatten.Nodup) {i j : Nat} {b c : List Nat} (hi : bss[i]? = some b) (hj : bss[j]? = some c) (hne : i ≠ j) : ∀ x ∈ b, x ∉ c := by
  rw [List.Nodup, List.pairwise_flatten] at h
  have hp := h.2
  rw [List.pairwise_iff_getElem] at hp
  obtain ⟨hi1, hi2⟩ := List.getElem?_eq_some_iff.1 hi
  obtain ⟨hj1, hj2⟩ := List.getElem?_eq_some_iff.1 hj
  intro x hx hc
  rcases Nat.lt_or_gt_of_ne hne with hlt | hlt
  · exact hp i j hi1 hj1 hlt x (by rw [hi2]; exact hx) x (by rw [hj2]; exact hc) rfl
  · exact hp j i hj1 hi1 hlt x (by rw [hj2]; exact hc) x (by rw [hi2]; exact hx) rfl

/-- One member of an owned list: its cell, its reading; and the list with another member in its place, where only its blocks have turned. -/
theorem OwL.member {α : Type} {R : World → Nat → Value → α → List Nat → Prop} (gd : Good R) {e : TypeId} {w : World} {lo : Nat} {v : Value} {ys : List α} {bs : List Nat} (h : OwL R e w lo v ys bs) {j : Nat} {x : α} (hx : ys[j]? = some x) :
    ∃ g cap u b, v = .slice (some ⟨g, 0, none⟩) ys.length cap ∧ w.cell? ⟨g, j, none⟩ = some u ∧ R w lo u x b ∧ (∀ c ∈ b, c ∈ bs) ∧ ∀ w' x', R w' lo u x' b → Only b w w' → OwL R e w' lo v (ys.set j x') bs := by
  obtain ⟨vs, bss, h, h1, h2, h3, h4, h5⟩ := h
  have hj := (List.getElem?_eq_some_iff.1 hx).1
  have hu : vs[j]? = some vs[j] := List.getElem?_eq_getElem (by omega)
  have hb : bss[j]? = some bss[j] := List.getElem?_eq_getElem (by omega)
  rcases h.nil_or with ⟨_, hn⟩ | ⟨g, cap, hv, hg⟩
  · subst hn; simp at h1; omega
  subst h4
  have hN := List.nodup_append.1 h5
  have hc : w.cell? ⟨g, j, none⟩ = some vs[j] := by
    have h0 := h
    unfold Own at h0
    rw [hv] at h0
    rw [World.ownsRow.cellAt h0 j (by omega)]
    exact hu
  refine ⟨g, cap, vs[j], bss[j], by rw [hv, h1], hc, h3 j _ _ _ hu hx hb, fun c hc => List.mem_append_right _ (mem_bss hb hc), fun w' x' hR hO => ?_⟩
  refine ⟨vs, bss, h.same (fun b hb' => hO.block b (fun hm => hN.2.2 b hb' b (mem_bss hb hm) rfl)), by simpa using h1, by simpa using h2, ?_, rfl, h5⟩
  intro i p y b hp hy hbi
  by_cases hij : i = j
  · subst hij
    rw [hu] at hp; rw [hb] at hbi
    cases hp; cases hbi
    rw [List.getElem?_set_self (by omega)] at hy
    cases hy
    exact hR
  · rw [List.getElem?_set_ne (fun e => hij e.symm)] at hy
    exact hO.keep gd (h3 i p y b hp hy hbi) (fun c hc => flat_apart hN.2.1 hbi hb hij c hc)

theorem OwL.empty {α : Type} {R : World → Nat → Value → α → List Nat → Prop} {e : TypeId} {w : World} {lo : Nat} {v : Value} {ys : List α} {bs : List Nat} (h : OwL R e w lo v ys bs) : (ys = [] ∧ v = .slice none 0 0) ∨ ∃ g cap, v = .slice (some ⟨g, 0, none⟩) ys.length cap := by
  obtain ⟨vs, bss, h, h1, _⟩ := h
  rcases h.nil_or with ⟨hv, hn⟩ | ⟨g, cap, hv, _⟩
  · subst hn; exact .inl ⟨List.length_eq_zero_iff.1 h1.symm, hv⟩
  · exact .inr ⟨g, cap, by rw [hv, h1]⟩
end Go.Proofs.Ytdkalefepdlccaa
