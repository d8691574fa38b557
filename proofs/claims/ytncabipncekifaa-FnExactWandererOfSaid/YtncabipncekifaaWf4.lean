/-
  The wanderer of a turner: how many numbers lie in it.
-/
import Derived.Test.YtncabipncekifaaWf3
namespace Go.Proofs.Ytncabipncekifaa
open Go.RowKit

theorem numL_upto {α : Type} {f : α → Nat} {B : Nat} (xs : List α) (h : ∀ x ∈ xs, f x ≤ B) : numL f xs ≤ xs.length * B := by
  induction xs with
  | nil => simp [numL]
  | cons x r ih =>
    have h0 := h x (List.mem_cons_self ..)
    have h1 := ih (fun y hy => h y (List.mem_cons_of_mem _ hy))
    simp only [numL, List.map_cons, List.sum_cons, List.length_cons] at h1 ⊢
    rw [Nat.succ_mul]
    omega
theorem wof_num (t : TData) : (numW (wofRes t).1 : Int) ≤ 2305843009213693952 := by
  unfold wofRes
  split
  · rename_i hok
    have ok := okT_out hok
    have l2 := ok.l2
    split
    · rename_i hn
      have h : numL (fun x : List (List (Int × Int)) => numL (fun x : List (Int × Int) => 2 * x.length) x) (t.mv.map rowW) ≤ (t.mv.map rowW).length * 10 := numL_upto _ (fun y hy => by
        obtain ⟨x, hx, rfl⟩ := List.mem_map.1 hy
        obtain ⟨i, hi⟩ := List.mem_iff_getElem?.1 hx
        have hlen := ok.len i x hi
        have h1 : numL (fun x : List (Int × Int) => 2 * x.length) (rowW x) ≤ (rowW x).length * 2 := numL_upto _ (fun z hz => by
          obtain ⟨m, -, rfl⟩ := List.mem_map.1 hz
          unfold oneW
          split <;> simp)
        rw [rowW_len] at h1
        omega)
      simp only [numW, List.length_map, List.length_cons, List.length_nil] at h ⊢
      omega
    · simp [numW, numL]
  · simp [numW, numL]
end Go.Proofs.Ytncabipncekifaa
