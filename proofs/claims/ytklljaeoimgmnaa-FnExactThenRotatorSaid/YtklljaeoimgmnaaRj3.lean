/-
  One rotator behind another: the program's answer.
-/
import Derived.Test.YtklljaeoimgmnaaRj2
import Derived.Deep.CutRange
namespace Go.Proofs.Ytklljaeoimgmnaa
open Go.RowKit

theorem JmI.last {w : World} {lo pr p7 p8 : Nat} {L S L' S' : Int} {A B C D : Value} {zs : List (List Int)} {fs gs : List Int} {bA bB bD : List Nat} {W : World} (h : JmI w lo pr p7 p8 L S L' S' A B C D zs fs gs bA bB bD W) (hy : gs ≠ []) :
    (∃ An ak, A = .slice An zs.length ak) ∧ ∃ Bn bk, B = .slice Bn fs.length bk ∧ ∃ dg dk, D = .slice (some ⟨dg, 0, none⟩) gs.length dk ∧ W.ownsRow lo 2 1 B fs.length (ints fs) ∧ (∀ j u, (ints gs)[j]? = some u → W.cell? ((⟨dg, 0, none⟩ : Addr).add j) = some u) ∧ p7 ∉ blks B ∧
      ∀ (w2 : World) (g cap : Nat), W.grownBy w2 B.ownBlock → w2.ownsRow lo 2 1 (.slice (some ⟨g, 0, none⟩) (fs.length + gs.length) cap) (fs.length + gs.length) (ints fs ++ ints gs) → (B.ownBlock = some g ∨ g = W.heap.size) →
        ∃ W', W' = w2.setCell ⟨p7, 3, none⟩ (.slice (some ⟨g, 0, none⟩) (fs.length + gs.length) cap) ∧ Below w.heap.size w W' ∧ Row W' pr 40 [.int .i64 0, .int .i64 0, .slice none 0 0, .slice none 0 0] ∧ Row W' p7 40 [.int .i64 L, .int .i64 S, A, .slice (some ⟨g, 0, none⟩) (fs.length + gs.length) cap] ∧
          ∃ bs, OwO W' lo (.agg #[.int .i64 L, .int .i64 S, A, .slice (some ⟨g, 0, none⟩) (fs.length + gs.length) cap]) ⟨L, S, zs, fs ++ gs⟩ bs := by
  obtain ⟨bel, res, r7, r8, hA, hB, hD, nd, n7, n8, lp, lr, l7, l8, ne⟩ := h
  have N1 := List.nodup_append.1 nd
  have N2 := List.nodup_append.1 N1.2.1
  simp only [List.mem_append, not_or] at n7 n8
  obtain ⟨An, ak, hAs⟩ := OwL.shape hA
  obtain ⟨Bn, bk, rfl⟩ := owI_shape hB
  have lA := fun c (hc : c ∈ bA) => goodII.lt hA hc
  have lB := fun c (hc : c ∈ bB) => goodI.lt hB hc
  have hbB : bB = blks (.slice Bn fs.length bk) := hB.2
  have oB : W.ownsRow lo 2 1 (.slice Bn fs.length bk) fs.length (ints fs) := by have := hB.1; unfold Own at this; rwa [ints_len] at this
  have oD := hD.1
  rcases oD.nil_or with ⟨_, hn⟩ | ⟨dg, dk, rfl, _⟩
  · exfalso; exact hy (by simpa [ints] using hn)
  rw [ints_len] at oD ⊢
  refine ⟨⟨An, ak, hAs⟩, Bn, bk, rfl, dg, dk, rfl, oB, fun j u hu => rd_news oD.rd j u hu, fun hm => n7.2.1 (hbB ▸ hm), ?_⟩
  intro w2 g cap hg hown hat
  have sz := hg.size
  have hO : OwI w2 lo (.slice (some ⟨g, 0, none⟩) (fs.length + gs.length) cap) (fs ++ gs) [g] := OwV.snoc hown (by simp [ints]) (by simp [ints]) rfl
  have hgo : g ∈ bB ∨ g = W.heap.size := hat.imp (fun h => hbB ▸ mem_blks.2 h) id
  have d7 : p7 ∉ [g] := fun hm => by
    simp only [List.mem_singleton] at hm
    subst hm
    rcases hgo with k | k
    · exact n7.2.1 k
    · have := r7.lt; omega
  have dA : ∀ c ∈ bA, c ∉ [g] := fun c hc hm => by
    simp only [List.mem_singleton] at hm
    subst hm
    rcases hgo with k | k
    · exact N1.2.2 c hc c (List.mem_append_left _ k) rfl
    · have := (lA c hc).2; omega
  have kA : ∀ c ∈ bA, c ∉ blks (.slice Bn fs.length bk) := fun c hc hm => N1.2.2 c hc c (List.mem_append_left _ (hbB ▸ hm)) rfl
  refine ⟨_, rfl, (bel.trans (grown_below hg bel.size (fun b hm => by have := lB b (hbB ▸ hm); omega))).setCell (p := ⟨p7, 3, none⟩) (by show w.heap.size ≤ p7; omega) _, (grown_row hg res (fun hm => by have := lB _ (hbB ▸ hm); omega)).other (by show p7 ≠ pr; omega) _, (grown_row hg r7 (fun hm => n7.2.1 (hbB ▸ hm))).stored 3 _, bA ++ [g], _, _, bA, [g], rfl,
    goodII.other (a := ⟨p7, 3, none⟩) _ (grown_keep goodII hg hA kA) n7.1, goodI.other (a := ⟨p7, 3, none⟩) _ hO d7, rfl, ?_⟩
  rw [List.nodup_append]
  exact ⟨N1.1, by simp, fun x hx y hy e => dA x hx (e ▸ hy)⟩

theorem jn_make {w w3 w4 w5 : World} {pr : Nat} {L S L' S' : Int} {A B C D : Value} {xs ys : List (List Int)} {fs gs : List Int} {b1 b2 : List Nat}
    (hb : Below w.heap.size w w3) (res : Row w3 pr 40 [.int .i64 0, .int .i64 0, .slice none 0 0, .slice none 0 0]) (lp : w.heap.size ≤ pr)
    (hu : OwO w4 w3.heap.size (.agg #[.int .i64 L, .int .i64 S, A, B]) ⟨L, S, xs, fs⟩ b1) (h4 : Below w3.heap.size w3 w4)
    (hv : OwO w5 (w4.alloc (.cells #[.int .i64 L, .int .i64 S, A, B] 40)).heap.size (.agg #[.int .i64 L', .int .i64 S', C, D]) ⟨L', S', ys, gs⟩ b2) (h5 : Below (w4.alloc (.cells #[.int .i64 L, .int .i64 S, A, B] 40)).heap.size (w4.alloc (.cells #[.int .i64 L, .int .i64 S, A, B] 40)) w5) :
    ∃ bA bB bC bD, JnI w w3.heap.size pr w4.heap.size w5.heap.size L S L' S' A B C D xs ys fs gs bA bB bC bD (w5.alloc (.cells #[.int .i64 L', .int .i64 S', C, D] 40)) := by
  obtain ⟨_, _, bA, bB, e1, hA, hB, rfl, n1⟩ := hu
  obtain ⟨_, _, bC, bD, e2, hC, hD, rfl, n2⟩ := hv
  simp only [Value.agg.injEq, Array.mk.injEq, List.cons.injEq, and_true, true_and] at e1 e2
  obtain ⟨rfl, rfl⟩ := e1
  obtain ⟨rfl, rfl⟩ := e2
  simp only at hA hB hC hD
  have hsz4 : (w4.alloc (.cells #[.int .i64 L, .int .i64 S, A, B] 40)).heap.size = w4.heap.size + 1 := by simp
  rw [hsz4] at hC hD
  have s5 := h5.size
  rw [hsz4] at s5
  have s4 := h4.size
  have k4 : Below w4.heap.size w4 w5 := below_step (below_alloc w4 _) h5
  have k5 := below_alloc w5 (.cells #[.int .i64 L', .int .i64 S', C, D] 40)
  have k45 := below_step k4 k5
  have lA := fun c (hc : c ∈ bA) => goodII.lt hA hc
  have lB := fun c (hc : c ∈ bB) => goodI.lt hB hc
  have lC := fun c (hc : c ∈ bC) => goodII.lt hC hc
  have lD := fun c (hc : c ∈ bD) => goodI.lt hD hc
  have N1 := List.nodup_append.1 n1
  have N2 := List.nodup_append.1 n2
  have hr := res.lt
  refine ⟨bA, bB, bC, bD, below_step (below_step (below_step hb h4) k4) k5, ((res.below h4 res.lt).below k4 (res.below h4 res.lt).lt).alloc _, ((Row.new w4 [.int .i64 L, .int .i64 S, A, B] 40).below h5 (Row.new w4 _ _).lt).alloc _, Row.new w5 _ _, goodII.below hA k45, goodI.below hB k45, goodII.below (goodII.mono hC (by omega)) k5, goodI.below (goodI.mono hD (by omega)) k5, ?_, ?_, ?_, lp, hr, s4, by omega, by omega⟩
  · rw [List.nodup_append]
    refine ⟨N1.1, ?_, fun x hx y hy e => ?_⟩
    · rw [List.nodup_append]
      refine ⟨N2.1, ?_, fun x hx y hy e => ?_⟩
      · rw [List.nodup_append]
        exact ⟨N1.2.1, N2.2.1, fun x hx y hy e => by have := lB x hx; have := lD y hy; omega⟩
      · rcases List.mem_append.1 hy with k | k
        · have := lC x hx; have := lB y k; omega
        · exact N2.2.2 x hx y k e
    · rcases List.mem_append.1 hy with k | k
      · have := lA x hx; have := lC y k; omega
      · rcases List.mem_append.1 k with k | k
        · exact N1.2.2 x hx y k e
        · have := lA x hx; have := lD y k; omega
  · intro hm
    rcases List.mem_append.1 hm with k | k
    · have := lA _ k; omega
    · rcases List.mem_append.1 k with k | k
      · have := lC _ k; omega
      · rcases List.mem_append.1 k with k | k
        · have := lB _ k; omega
        · have := lD _ k; omega
  · intro hm
    rcases List.mem_append.1 hm with k | k
    · have := lA _ k; omega
    · rcases List.mem_append.1 k with k | k
      · have := lC _ k; omega
      · rcases List.mem_append.1 k with k | k
        · have := lB _ k; omega
        · have := lD _ k; omega
end Go.Proofs.Ytklljaeoimgmnaa
