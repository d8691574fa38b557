/-
  Crossing sequences: the program's answer.
-/
import Derived.Test.YtdkalefepdlccaaCr1
namespace Go.Proofs.Ytdkalefepdlccaa
open Go.RowKit

/-- What a run's list of sequences is behind k moves. -/
def CrI (W : World) (g cp : Nat) (z : Nat) (pl : List (Nat × Nat)) (k : Nat) (wr : World) : Prop :=
  Below W.heap.size W wr ∧ ∃ bs, OwL (OwV ints 2) 42 wr W.heap.size (.slice (some ⟨g, 0, none⟩) (z + 1) cp) (crossL z pl k) bs
theorem CrI.below {W : World} {g cp z : Nat} {pl : List (Nat × Nat)} {k : Nat} {wr w' : World} (h : CrI W g cp z pl k wr) (hb : Below wr.heap.size wr w') : CrI W g cp z pl k w' :=
  ⟨below_step h.1 hb, let ⟨bs, h2⟩ := h.2; ⟨bs, (goodL (goodV ints _) _).below h2 hb⟩⟩
theorem CrI.same {W : World} {g cp z : Nat} {pl : List (Nat × Nat)} {k : Nat} {wr : World} (h : CrI W g cp z pl k wr) {p q : Nat × Nat} (hp : pl[k]? = some p) (hq : pl[k + 1]? = some q) (e : p.2 = q.2) : CrI W g cp z pl (k + 1) wr := by
  unfold CrI
  rw [crossL_same hp hq e]
  exact h
theorem CrI.start (W : World) (z : Nat) (hz : z ≤ 60) (pl : List (Nat × Nat)) : CrI W W.heap.size (z + 1) z pl 0 (W.alloc (.cells (madeCells #[.slice none 0 0] (z + 1)) 42)) := by
  have h := fam_whole (goodV ints 2) (lo := W.heap.size) (Row.made W (.slice none 0 0) (z + 1) 42) (xs := crossL z pl 0) (bss := List.replicate (z + 1) []) (by rw [crossL_len]; simp) (by simp) (by simp; unfold maxLen; omega) (fun i u x b hu hx hb => by
    simp only [crossL, List.getElem?_replicate] at hu hx hb
    split at hu
    · rw [if_pos (by assumption)] at hx hb
      cases hu; cases hx; cases hb
      exact owV_nil ints [] rfl _ _ _
    · cases hu) (by simp) (Nat.le_refl _)
  rw [crossL_len] at h
  exact ⟨below_alloc _ _, _, h⟩
theorem news_int (W : World) (x : Int) (e : TypeId) : ∀ j u, ([Value.int .i64 x])[j]? = some u → (W.alloc (.cells #[.int .i64 x] e)).cell? ((⟨W.heap.size, 0, none⟩ : Addr).add j) = some u :=
  World.news_of_block (cs := #[.int .i64 x]) (t := e) (fr := (0, 0)) (heap_alloc_new W _)

/-- One move over a border: the sequence there is one longer, in its own array or a new one. -/
theorem CrI.cross {W : World} {g cp z : Nat} {pl : List (Nat × Nat)} {k : Nat} {wr : World} (h : CrI W g cp z pl k wr) {p q : Nat × Nat} (hp : pl[k]? = some p) (hq : pl[k + 1]? = some q) (e : p.2 ≠ q.2) (hz : borderN p q ≤ z) :
    g < wr.heap.size ∧ ∃ u n, wr.cell? ⟨g, borderN p q, none⟩ = some u ∧ wr.frozen? ⟨g, borderN p q, none⟩ = false ∧ n ≤ k ∧ (∃ B c, u = .slice B n c) ∧ g ∉ blks u ∧ (∀ b ∈ blks u, b < wr.heap.size) ∧ ∃ xs, wr.ownsRow W.heap.size 2 1 u n xs ∧
      ∀ w3 g3 cap, w3.ownsRow W.heap.size 2 1 (.slice (some ⟨g3, 0, none⟩) (n + 1) cap) (n + 1) (xs ++ [.int .i64 (q.1 : Int)]) →
        (wr.alloc (.cells #[.int .i64 (q.1 : Int)] 2)).grownBy w3 u.ownBlock → (u.ownBlock = some g3 ∨ g3 = wr.heap.size + 1) →
        CrI W g cp z pl (k + 1) (w3.setCell ⟨g, borderN p q, none⟩ (.slice (some ⟨g3, 0, none⟩) (n + 1) cap)) := by
  obtain ⟨hb, bs, hO⟩ := h
  obtain ⟨g', cap', u, b, hv, hc, hf, hg, hlo, hR, hgb, hsub, hset⟩ := OwL.memberNew (goodV ints 2) hO (cross_get hz)
  rw [crossL_len] at hv
  cases hv
  obtain ⟨hR1, rfl⟩ := hR
  obtain ⟨B, c, hu⟩ := owI_shape (show OwV ints 2 wr W.heap.size u _ (blks u) from ⟨hR1, rfl⟩)
  have hR2 : wr.ownsRow W.heap.size 2 1 u ((crossL z pl k).getD (borderN p q) []).length (ints ((crossL z pl k).getD (borderN p q) [])) := by
    have := hR1
    unfold Own at this
    rwa [ints_len] at this
  refine ⟨hg, u, _, hc, hf, crossL_le z pl k _, ⟨B, c, hu⟩, hgb, fun b hb => ((goodV ints 2).lt (show OwV ints 2 wr W.heap.size u _ (blks u) from ⟨hR1, rfl⟩) hb).2, _, hR2, ?_⟩
  intro w3 g3 cap hown hgrow hat
  have hlu : ∀ b ∈ blks u, W.heap.size ≤ b := fun b hb => ((goodV ints 2).lt (show OwV ints 2 wr W.heap.size u _ (blks u) from ⟨hR1, rfl⟩) hb).1
  have hkeep : ∀ k, k < wr.heap.size → k ∉ blks u → w3.heap[k]? = wr.heap[k]? := fun k hk hn =>
    (hgrow.block k (by simp; omega) (fun e => hn (mem_blks.2 e.symm))).trans (Below.heap_alloc wr _ k hk)
  obtain ⟨bs', hO', -⟩ := hset w3 (.slice (some ⟨g3, 0, none⟩) (((crossL z pl k).getD (borderN p q) []).length + 1) cap) ((crossL z pl k).getD (borderN p q) [] ++ [(q.1 : Int)]) [g3]
    (OwV.snoc hown (by rw [ints_snoc]) (by rw [ints_len]; simp) rfl) hkeep (fun c hc => by
      simp only [List.mem_singleton] at hc
      subst hc
      rcases hat with hat | hat
      · exact .inl (mem_blks.2 hat)
      · exact .inr (by omega))
  refine ⟨?_, bs', ?_⟩
  · have h1 : Below W.heap.size W w3 := (below_step hb (below_alloc wr _)).trans (grown_below hgrow (by have := hb.size; simp; omega) hlu)
    exact h1.setCell (p := ⟨g, borderN p q, none⟩) hlo _
  · rw [crossL_step hp hq e]
    exact hO'
end Go.Proofs.Ytdkalefepdlccaa
