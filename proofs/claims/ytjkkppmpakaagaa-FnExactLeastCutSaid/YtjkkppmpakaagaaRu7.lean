/-
  Visits: how often a run is in each cell.
-/
import Derived.Test.YtjkkppmpakaagaaRu6
import Derived.Test.YtjkkppmpakaagaaT2
namespace Go.Proofs.Ytjkkppmpakaagaa
open Go.RowKit

theorem runF_ok {t : TData} {s : ByteArray} (ok : OkT t) (hl : lettersOk t.L s = true) : ∀ (f : Nat) (ps : List (Nat × Nat)) (p : Nat × Nat), (∀ q ∈ ps, OkP t.mv.length s.size q) → OkP t.mv.length s.size p → ∀ q ∈ (runF t s f ps p).places, OkP t.mv.length s.size q
  | 0, ps, p => fun h _ => by simpa [runF] using h
  | f + 1, ps, p => fun h hp => by
    have hs : ∀ q ∈ ps ++ [p], OkP t.mv.length s.size q := fun q hq => by
      rcases List.mem_append.1 hq with hq | hq
      · exact h q hq
      · simp only [List.mem_singleton] at hq; subst hq; exact hp
    unfold runF
    split
    · exact h
    · split
      · exact hs
      · split
        · exact hs
        · rename_i h1 h2 h3
          exact runF_ok ok hl f (ps ++ [p]) (nextP t s p) hs (next_ok ok hl hp h2 h3).1
theorem run_ok {t : TData} {s : ByteArray} (ok : OkT t) (hl : lettersOk t.L s = true) : ∀ q ∈ (runN t s).places, OkP t.mv.length s.size q :=
  runF_ok ok hl _ _ _ (by simp) (RunAt.start s ok).here

def incV (V : List Int) (p : Nat × Nat) : List Int := V.set p.2 (V.getD p.2 0 + 1)
def visitsL (z : Nat) (ps : List (Nat × Nat)) : List Int := ps.foldl incV (List.replicate (z + 2) 0)
def visitsRes (t : TData) (s : ByteArray) : List Int × Int := if givenC t s = 0 then (visitsL s.size (runN t s).places, 0) else ([], 1)
theorem visitsL_snoc (z : Nat) (ps : List (Nat × Nat)) (p : Nat × Nat) : visitsL z (ps ++ [p]) = incV (visitsL z ps) p := by simp [visitsL, List.foldl_append]
theorem foldl_incV_len : ∀ (ps : List (Nat × Nat)) (V : List Int), (ps.foldl incV V).length = V.length
  | [], V => rfl
  | p :: r, V => by rw [List.foldl_cons, foldl_incV_len r]; simp [incV]
theorem visitsL_len (z : Nat) (ps : List (Nat × Nat)) : (visitsL z ps).length = z + 2 := by unfold visitsL; rw [foldl_incV_len]; simp
theorem foldl_incV_le : ∀ (ps : List (Nat × Nat)) (V : List Int) (m : Int), 0 ≤ m → (∀ i, 0 ≤ V.getD i 0 ∧ V.getD i 0 ≤ m) → ∀ i, 0 ≤ (ps.foldl incV V).getD i 0 ∧ (ps.foldl incV V).getD i 0 ≤ m + ps.length
  | [], V, m => fun _ h i => by simpa using h i
  | p :: r, V, m => fun hm h i => by
    have h2 : ∀ i, 0 ≤ (incV V p).getD i 0 ∧ (incV V p).getD i 0 ≤ m + 1 := fun i => by
      have a := h p.2
      have b := h i
      unfold incV
      simp only [List.getD_eq_getElem?_getD] at a b ⊢
      rw [List.getElem?_set]
      split
      · split
        · simp only [Option.getD_some]; omega
        · simp only [Option.getD_none]; omega
      · omega
    have := foldl_incV_le r (incV V p) (m + 1) (by omega) h2 i
    rw [List.foldl_cons, List.length_cons]
    omega
theorem visitsL_le (z : Nat) (ps : List (Nat × Nat)) (i : Nat) : 0 ≤ (visitsL z ps).getD i 0 ∧ (visitsL z ps).getD i 0 ≤ ps.length := by
  have := foldl_incV_le ps (List.replicate (z + 2) 0) 0 (by omega) (fun i => by
    simp only [List.getD_eq_getElem?_getD, List.getElem?_replicate]
    split <;> simp) i
  unfold visitsL
  omega
theorem visits_get {z : Nat} {ps : List (Nat × Nat)} {a : Nat} (ha : a ≤ z + 1) : (visitsL z ps)[a]? = some ((visitsL z ps).getD a 0) := by
  have := visitsL_len z ps
  rw [List.getD_eq_getElem?_getD, List.getElem?_eq_getElem (by omega)]
  rfl
theorem take_snoc {α : Type} {l : List α} {k : Nat} {x : α} (h : l[k]? = some x) : l.take (k + 1) = l.take k ++ [x] := take_succ_of h

theorem fieldCourse (u v l : Value) (W : World) : (Instr.field 75 (.agg #[u, v, l]) 0).run Try.prog W = .ok u W := by kernel_rfl
theorem fieldMove (x y : Value) (W : World) : (Instr.field 59 (.agg #[x, y]) 1).run Try.prog W = .ok y W := by kernel_rfl
theorem rdP_at {w : World} {B : Option Addr} {n c : Nat} {ms : List (Int × Int)} (h : RdP w (.slice B n c) ms) {i : Nat} {m : Int × Int} (hm : ms[i]? = some m) : ∃ b off, B = some ⟨b, off, none⟩ ∧ w.cell? ⟨b, off + i * 2, none⟩ = some (.int .i64 m.1) ∧ w.cell? ⟨b, off + i * 2 + 1, none⟩ = some (.int .i64 m.2) := by
  obtain ⟨A, cap, hv, _, _, h3⟩ := h
  simp only [Value.slice.injEq] at hv
  obtain ⟨b', off', hA, h4⟩ := h3 i m hm
  exact ⟨b', off', hv.1.trans hA, h4⟩

theorem visits_num (t : TData) (s : ByteArray) : (((visitsRes t s).1).length : Int) ≤ 2305843009213693952 := by
  unfold visitsRes
  split
  · rename_i h
    have := (okWord_parts (givenC_zero h).2).1
    simp only [visitsL_len]
    omega
  · simp
end Go.Proofs.Ytjkkppmpakaagaa
