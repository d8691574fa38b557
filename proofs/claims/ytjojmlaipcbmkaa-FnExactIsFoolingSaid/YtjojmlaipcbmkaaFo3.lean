/-
  IsFooling: the program's answer.
-/
import Derived.Test.YtjojmlaipcbmkaaFo2
namespace Go.Proofs.Ytjojmlaipcbmkaa
open Go.RowKit

def foolB (r : RData) (ps : List (ByteArray × ByteArray)) : Bool := (List.range ps.length).all fun i => goesB r (ps.getD i (⟨#[]⟩, ⟨#[]⟩)) (ps.take i)
def foolRes (r : RData) (ps : List (ByteArray × ByteArray)) : Bool × Int :=
  if rowsCode r (ps.map Prod.fst) (ps.map Prod.snd) = 0 then (foolB r ps, 0) else (false, rowsCode r (ps.map Prod.fst) (ps.map Prod.snd))
theorem fool_range {r : RData} {ps : List (ByteArray × ByteArray)} {k : Nat} {p : ByteArray × ByteArray} (h : (List.range k).all (fun i => goesB r (ps.getD i (⟨#[]⟩, ⟨#[]⟩)) (ps.take i)) = true) (hp : ps[k]? = some p) (hg : goesB r p (ps.take k) = true) :
    (List.range (k + 1)).all (fun i => goesB r (ps.getD i (⟨#[]⟩, ⟨#[]⟩)) (ps.take i)) = true := by
  rw [List.range_succ, List.all_append, h]
  simp [List.getD, hp, hg]
theorem fool_not {r : RData} {ps : List (ByteArray × ByteArray)} {k : Nat} {p : ByteArray × ByteArray} (hp : ps[k]? = some p) (hg : goesB r p (ps.take k) = false) : foolB r ps = false := by
  have hk := (List.getElem?_eq_some_iff.1 hp).1
  unfold foolB
  rw [List.all_eq_false]
  exact ⟨k, List.mem_range.2 hk, by simp [List.getD, hp, hg]⟩
theorem fool_ok {r : RData} {ps : List (ByteArray × ByteArray)} (h : rowsCode r (ps.map Prod.fst) (ps.map Prod.snd) = 0) : okR r = true ∧ FoOk r ps ∧ ps.length ≤ 20 := by
  obtain ⟨h1, h2, h3, h4, h5, h6⟩ := rowsCode_zero h
  refine ⟨h1, fun p hp q hq => ⟨okWords_mem h2 (List.mem_map.2 ⟨p, hp, rfl⟩), okWords_mem h3 (List.mem_map.2 ⟨q, hq, rfl⟩), ?_⟩, by simpa using h4⟩
  unfold tooLong at h6
  rw [List.any_eq_false] at h6
  have h7 := h6 p.1 (List.mem_map.2 ⟨p, hp, rfl⟩)
  rw [Bool.not_eq_true, List.any_eq_false] at h7
  have h8 := h7 q.2 (List.mem_map.2 ⟨q, hq, rfl⟩)
  simp at h8
  omega
theorem FoOk.sub {r : RData} {ps : List (ByteArray × ByteArray)} (h : FoOk r ps) {k : Nat} {p : ByteArray × ByteArray} (hp : ps[k]? = some p) : FoOk r (p :: ps.take k) := fun a ha b hb => by
  have ma : a ∈ ps := by
    rcases List.mem_cons.1 ha with rfl | ha
    · exact List.mem_of_getElem? hp
    · exact List.mem_of_mem_take ha
  have mb : b ∈ ps := by
    rcases List.mem_cons.1 hb with rfl | hb
    · exact List.mem_of_getElem? hp
    · exact List.mem_of_mem_take hb
  exact h a ma b mb
theorem RdF.take {w : World} {A : Option Addr} {cap : Nat} {ps : List (ByteArray × ByteArray)} (h : RdF w (.slice A ps.length cap) ps) {k : Nat} (hk : k ≤ ps.length) : RdF w (.slice A k cap) (ps.take k) := by
  obtain ⟨A', cap', hA, h1, h2, h3⟩ := h
  simp only [Value.slice.injEq, true_and] at hA
  obtain ⟨rfl, rfl⟩ := hA
  refine ⟨A, cap, by rw [List.length_take, Nat.min_eq_left hk], by rw [List.length_take]; omega, h2, fun i m hm => ?_⟩
  rw [List.getElem?_take] at hm
  split at hm
  · exact h3 i m hm
  · cases hm
theorem small_fst {ps : List (ByteArray × ByteArray)} (h : FSmall ps) : SSmall (ps.map Prod.fst) := ⟨by have := h.1; simp; omega, fun s hs => by obtain ⟨p, hp, rfl⟩ := List.mem_map.1 hs; exact (h.2 p hp).1⟩
theorem small_snd {ps : List (ByteArray × ByteArray)} (h : FSmall ps) : SSmall (ps.map Prod.snd) := ⟨by have := h.1; simp; omega, fun s hs => by obtain ⟨p, hp, rfl⟩ := List.mem_map.1 hs; exact (h.2 p hp).2⟩

/-- Two lists of strings that a call is making; one more in the first one. -/
theorem two_snoc {w w2 : World} {lo : Nat} {ul ur : Value} {ls rs : List ByteArray} {bl br : List Nat} {o : Obj} {x : ByteArray} {g m cap : Nat}
    (hl : OwV strs 9 w lo ul ls bl) (hr : OwV strs 9 w lo ur rs br) (hd : ∀ b ∈ bl, b ∉ br)
    (hg : (w.alloc o).grownBy w2 ul.ownBlock) (hown : w2.ownsRow lo 9 1 (.slice (some ⟨g, 0, none⟩) m cap) m (strs ls ++ [.string x])) (hm : m = ls.length + 1) (hat : ul.ownBlock = some g ∨ g = w.heap.size + 1) :
    OwV strs 9 w2 lo (.slice (some ⟨g, 0, none⟩) m cap) (ls ++ [x]) [g] ∧ OwV strs 9 w2 lo ur rs br ∧ (∀ b ∈ [g], b ∉ br) := by
  obtain ⟨hl1, rfl⟩ := hl
  refine ⟨⟨?_, by simp [blks, Value.ownBlock]⟩, ?_, ?_⟩
  · have e : strs (ls ++ [x]) = strs ls ++ [.string x] := by simp [strs]
    unfold Own
    rw [e, show (strs ls ++ [Value.string x]).length = m by simp [strs_len, hm]]
    exact hown
  · exact grown_keep (goodV strs _) hg ((goodV strs _).below hr (below_alloc w o)) (fun c hc hb => hd c hb hc)
  · intro b hb hc
    simp at hb
    subst hb
    rcases hat with h | h
    · exact hd b (mem_blks.2 h) hc
    · have := ((goodV strs 9).lt hr hc).2; omega

/-- What stands while both lists are being made. -/
def LrI (w0 : World) (ul ur : Value) (ls rs : List ByteArray) (wr : World) : Prop := Below w0.heap.size w0 wr ∧ ∃ bl br, OwV strs 9 wr w0.heap.size ul ls bl ∧ OwV strs 9 wr w0.heap.size ur rs br ∧ (∀ b ∈ bl, b ∉ br)
theorem LrI.start (w0 : World) : LrI w0 (.slice none 0 0) (.slice none 0 0) [] [] w0 := ⟨Below.refl _ _, [], [], owV_nil strs [] rfl _ _ _, owV_nil strs [] rfl _ _ _, by simp⟩
theorem LrI.below {w0 : World} {ul ur : Value} {ls rs : List ByteArray} {wr w' : World} (h : LrI w0 ul ur ls rs wr) (hb : Below wr.heap.size wr w') : LrI w0 ul ur ls rs w' := by
  obtain ⟨h1, bl, br, h2, h3, h4⟩ := h
  exact ⟨below_step h1 hb, bl, br, (goodV strs _).below h2 hb, (goodV strs _).below h3 hb, h4⟩
theorem LrI.rows {w0 : World} {A : Option Addr} {n c : Nat} {ur : Value} {ls rs : List ByteArray} {wr : World} (h : LrI w0 (.slice A n c) ur ls rs wr) (hn : n = ls.length) : wr.ownsRow w0.heap.size 9 1 (.slice A n c) n (strs ls) := by
  obtain ⟨-, bl, br, h2, -, -⟩ := h
  have := h2.1
  unfold Own at this
  rwa [strs_len, ← hn] at this
theorem LrI.swap {w0 : World} {ul ur : Value} {ls rs : List ByteArray} {wr : World} (h : LrI w0 ul ur ls rs wr) : LrI w0 ur ul rs ls wr := by
  obtain ⟨h1, bl, br, h2, h3, h4⟩ := h
  exact ⟨h1, br, bl, h3, h2, fun b hb hc => h4 b hc hb⟩
theorem LrI.snoc {w0 : World} {A : Option Addr} {n c : Nat} {ur : Value} {ls rs : List ByteArray} {wr w2 : World} (h : LrI w0 (.slice A n c) ur ls rs wr) (hn : n = ls.length) {o : Obj} {x : ByteArray} {g cap : Nat}
    (hg : (wr.alloc o).grownBy w2 (Value.slice A n c).ownBlock) (hown : w2.ownsRow w0.heap.size 9 1 (.slice (some ⟨g, 0, none⟩) (n + 1) cap) (n + 1) (strs ls ++ [.string x])) (hat : (Value.slice A n c).ownBlock = some g ∨ g = wr.heap.size + 1) :
    LrI w0 (.slice (some ⟨g, 0, none⟩) (n + 1) cap) ur (ls ++ [x]) rs w2 := by
  obtain ⟨h1, bl, br, h2, h3, h4⟩ := h
  obtain ⟨k1, k2, k3⟩ := two_snoc h2 h3 h4 hg hown (by omega) hat
  refine ⟨(below_step h1 (below_alloc wr o)).trans (grown_below hg (by have := h1.size; simp; omega) (fun b hb => ?_)), [g], br, k1, k2, k3⟩
  exact ((goodV strs 9).lt h2 (by rw [h2.2]; exact hb)).1
theorem LrI.box {w0 : World} {A : Option Addr} {n c : Nat} {ur : Value} {ls rs : List ByteArray} {wr : World} (h : LrI w0 (.slice A n c) ur ls rs wr) {g : Nat} (hg : g < w0.heap.size) : g ∉ blks (.slice A n c) := fun hm => by
  obtain ⟨h1, bl, br, h2, h3, h4⟩ := h
  have := ((goodV strs 9).lt h2 (by rw [h2.2]; exact hm)).1
  omega
theorem LrI.old {w0 : World} {A : Option Addr} {n c : Nat} {ur : Value} {ls rs : List ByteArray} {wr : World} (h : LrI w0 (.slice A n c) ur ls rs wr) {g : Nat} (hg : wr.heap.size ≤ g) : g ∉ blks (.slice A n c) := fun hm => by
  obtain ⟨h1, bl, br, h2, h3, h4⟩ := h
  have := ((goodV strs 9).lt h2 (by rw [h2.2]; exact hm)).2
  omega
end Go.Proofs.Ytjojmlaipcbmkaa
