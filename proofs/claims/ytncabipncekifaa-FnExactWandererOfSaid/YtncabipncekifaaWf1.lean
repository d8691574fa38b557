/-
  The wanderer of a turner: what it is, and what is kept while one is made.
-/
import Derived.Test.YtncabipncekifaaWn1
import Derived.Test.YtncabipncekifaaZW
import Derived.BigRegion
namespace Go.Proofs.Ytncabipncekifaa
open Go.RowKit

def oneW (m : Int × Int) : List (Int × Int) := if m.1 = -2 then [] else [m]
def rowW (x : List (Int × Int)) : List (List (Int × Int)) := x.map oneW
def wofRes (t : TData) : WData × Int := if okT t = true then (if t.mv.length ≤ 5 then (⟨t.L, [t.S], t.mv.map rowW⟩, 0) else (⟨0, [], []⟩, 3)) else (⟨0, [], []⟩, 1)

/-- A wanderer that is being made in a box, and the result's box. -/
structure WofI (w wr : World) (pr po lo : Nat) (L S : Int) (sv vm : Value) (ys : List (List (List (Int × Int)))) : Prop where
  bel : Below w.heap.size w wr
  rp : w.heap.size ≤ pr
  res : Row wr pr 30 [.int .i64 0, .slice none 0 0, .slice none 0 0]
  box : Row wr po 30 [.int .i64 L, sv, vm]
  st : ∃ gs, sv = .slice (some ⟨gs, 0, none⟩) 1 1 ∧ OwV ints 2 wr w.heap.size sv [S] [gs] ∧ pr < gs ∧ gs < po
  mv : ∃ bs, OwL (OwL (OwP 86) 76) 41 wr lo vm ys bs
  lt2 : po < lo
  lt3 : lo ≤ wr.heap.size
theorem WofI.below {w wr w' : World} {pr po lo : Nat} {L S : Int} {sv vm : Value} {ys : List (List (List (Int × Int)))} (h : WofI w wr pr po lo L S sv vm ys) (hb : Below wr.heap.size wr w') : WofI w w' pr po lo L S sv vm ys where
  bel := below_step h.bel hb
  rp := h.rp
  res := h.res.below hb h.res.lt
  box := h.box.below hb h.box.lt
  st := by
    obtain ⟨gs, e, h1, h2, h3⟩ := h.st
    exact ⟨gs, e, (goodV ints _).below h1 hb, h2, h3⟩
  mv := by
    obtain ⟨bs, h1⟩ := h.mv
    exact ⟨bs, (goodL (goodL (goodP _) _) _).below h1 hb⟩
  lt2 := h.lt2
  lt3 := Nat.le_trans h.lt3 hb.size
theorem WofI.start {w w1 : World} {pr : Nat} (hp : w.heap.size ≤ pr) (hb : Below w.heap.size w w1) (hr : Row w1 pr 30 [.int .i64 0, .slice none 0 0, .slice none 0 0]) (L S : Int) :
    WofI w ((w1.alloc (.cells #[.int .i64 S] 2)).alloc (.cells #[.int .i64 L, .slice (some ⟨w1.heap.size, 0, none⟩) 1 1, .slice none 0 0] 30)) pr (w1.heap.size + 1) (w1.heap.size + 2) L S (.slice (some ⟨w1.heap.size, 0, none⟩) 1 1) (.slice none 0 0) [] where
  bel := below_step (below_step hb (below_alloc _ _)) (below_alloc _ _)
  rp := hp
  res := (hr.alloc _).alloc _
  box := by
    have := Row.new (w1.alloc (.cells #[.int .i64 S] 2)) [.int .i64 L, .slice (some ⟨w1.heap.size, 0, none⟩) 1 1, .slice none 0 0] 30
    simpa using this
  st := by
    refine ⟨w1.heap.size, rfl, ?_, hr.lt, Nat.lt_succ_self _⟩
    have h1 : Row (w1.alloc (.cells #[.int .i64 S] 2)) w1.heap.size 2 (ints [S]) := Row.new w1 [.int .i64 S] 2
    exact ⟨(h1.alloc _).own hb.size (by simp [ints, maxLen]), rfl⟩
  mv := ⟨[], owL_nil _ _ _ _⟩
  lt2 := Nat.lt_succ_self _
  lt3 := by simp
/-- One row more. -/
theorem WofI.grow {w wr : World} {pr po lo : Nat} {L S : Int} {sv vm : Value} {ys : List (List (List (Int × Int)))} (h : WofI w wr pr po lo L S sv vm ys) :
    (∃ B c, vm = .slice B ys.length c) ∧ po ∉ blks vm ∧ ∃ vs, wr.ownsRow lo 41 1 vm ys.length vs ∧ (∀ b ∈ blks vm, lo ≤ b ∧ b < wr.heap.size) ∧ ∀ (w1 : World) (u0 : Value) (x0 : List (List (Int × Int))) (b0 : List Nat), Below wr.heap.size wr w1 → OwL (OwP 86) 76 w1 wr.heap.size u0 x0 b0 →
      ∀ (o : Obj) (w2 : World) (g m cap : Nat), (w1.alloc o).grownBy w2 vm.ownBlock → w2.ownsRow lo 41 1 (.slice (some ⟨g, 0, none⟩) m cap) (ys.length + 1) (vs ++ [u0]) → (vm.ownBlock = some g ∨ g = w1.heap.size + 1) →
        WofI w (w2.setCell ⟨po, 2, none⟩ (.slice (some ⟨g, 0, none⟩) m cap)) pr po lo L S sv (.slice (some ⟨g, 0, none⟩) m cap) (ys ++ [x0]) := by
  obtain ⟨bs, hO⟩ := h.mv
  obtain ⟨B, c, hvm⟩ := OwL.shape hO
  have hG := goodL (goodP 86) 76
  obtain ⟨vs, how, hbv, hnext⟩ := OwL.grow hG hO
  refine ⟨⟨B, c, hvm⟩, fun hm => by have := (hbv _ hm).1; have := h.lt2; omega, vs, how, hbv, ?_⟩
  intro w1 u0 x0 b0 hb hu o w2 g m cap hg hown hat
  have hl3 := h.lt3
  have hlt2 := h.lt2
  obtain ⟨bs', hO'⟩ := hnext w1 u0 x0 b0 hb (hG.mono hu hl3) (fun c hc => (hG.lt hu hc).1) o w2 g m cap hg hown hat
  have hI1 := (h.below hb).below (below_alloc w1 o)
  have hpo : po ∉ blks vm := fun hm => by have := (hbv _ hm).1; omega
  have hsz := hg.size
  have hszb := hb.size
  have hBw : Below w.heap.size w w2 := hI1.bel.trans (grown_below hg hI1.bel.size (fun b hb => by have := (hbv b hb).1; have := h.res.lt; have := h.rp; have h1 := (show pr < po from by obtain ⟨gs, _, _, h2, h3⟩ := h.st; omega); omega))
  obtain ⟨gs, hsv, hst, hg1, hg2⟩ := hI1.st
  have hresn : pr ∉ blks vm := fun hm => by have := (hbv _ hm).1; omega
  have hgsn : gs ∉ blks vm := fun hm => by have := (hbv _ hm).1; omega
  have hrp := h.rp
  refine ⟨hBw.setCell (p := ⟨po, 2, none⟩) (by show w.heap.size ≤ po; omega) _, h.rp, (grown_row hg hI1.res hresn).other (by show po ≠ _; omega) _, (grown_row hg hI1.box hpo).stored 2 _, ⟨gs, hsv, ?_, hg1, hg2⟩, ⟨bs', ?_⟩, hlt2, by have := hI1.lt3; simp; omega⟩
  · refine (goodV ints _).other (a := ⟨po, 2, none⟩) _ (grown_keep (goodV ints 2) hg hst (fun c hc hm => ?_)) (fun hm => ?_)
    · simp only [List.mem_singleton] at hc
      subst hc
      exact hgsn hm
    · simp only [List.mem_singleton] at hm
      omega
  · exact (goodL hG _).under (a := ⟨po, 2, none⟩) hO' hlt2 _

/-- The wanderer stored into the result's box. -/
theorem WofI.stored {w wr : World} {pr po lo : Nat} {L S : Int} {sv vm : Value} {ys : List (List (List (Int × Int)))} (h : WofI w wr pr po lo L S sv vm ys) :
    let W := ((wr.setCell ⟨pr, 0, none⟩ (.int .i64 L)).setCell ⟨pr, 1, none⟩ sv).setCell ⟨pr, 2, none⟩ vm
    (W.cell? ⟨pr, 0, none⟩ = some (.int .i64 L) ∧ W.cell? ⟨pr, 1, none⟩ = some sv ∧ W.cell? ⟨pr, 2, none⟩ = some vm) ∧ (∃ bs, OwW W w.heap.size (.agg #[.int .i64 L, sv, vm]) ⟨L, [S], ys⟩ bs) ∧ Below w.heap.size w W := by
  intro W
  obtain ⟨gs, hsv, hst, hg1, hg2⟩ := h.st
  obtain ⟨bs, hO⟩ := h.mv
  have hlt2 := h.lt2
  have hrp := h.rp
  have hrow : Row W (pr) 30 [.int .i64 L, sv, vm] := ((h.res.stored 0 _).stored 1 _).stored 2 _
  obtain ⟨hc, -⟩ := hrow.three
  have hG := goodL (goodL (goodP 86) 76) 41
  have hgn : pr ∉ [gs] := fun hm => by simp only [List.mem_singleton] at hm; omega
  have hst' : OwV ints 2 W w.heap.size sv [S] [gs] := (goodV ints _).other (a := ⟨pr, 2, none⟩) _ ((goodV ints _).other (a := ⟨pr, 1, none⟩) _ ((goodV ints _).other (a := ⟨pr, 0, none⟩) _ hst hgn) hgn) hgn
  have hO' := hG.under (a := ⟨pr, 2, none⟩) (hG.under (a := ⟨pr, 1, none⟩) (hG.under (a := ⟨pr, 0, none⟩) hO (by show pr < lo; omega) (.int .i64 L)) (by show pr < lo; omega) sv) (by show pr < lo; omega) vm
  refine ⟨hc, ⟨[gs] ++ bs, sv, vm, [gs], bs, rfl, hst', hG.mono hO' (by omega), rfl, ?_⟩, ?_⟩
  · exact nodup_two (by simp) (hG.nodup hO) (k := lo) (fun x hx => by simp at hx; omega) (fun x hx => (hG.lt hO hx).1)
  · exact ((h.bel.setCell (p := ⟨pr, 0, none⟩) h.rp _).setCell (p := ⟨pr, 1, none⟩) h.rp _).setCell (p := ⟨pr, 2, none⟩) h.rp _

theorem rowW_len (x : List (Int × Int)) : (rowW x).length = x.length := by simp [rowW]
/-- A row's lists so far, the others being empty. -/
def partW (x : List (Int × Int)) (k : Nat) : List (List (Int × Int)) := (rowW x).take k ++ List.replicate (x.length - k) []
theorem partW_zero (x : List (Int × Int)) : partW x 0 = List.replicate x.length [] := by simp [partW]
theorem partW_full (x : List (Int × Int)) : partW x x.length = rowW x := by
  rw [partW, List.take_of_length_le (by rw [rowW_len]; exact Nat.le_refl _), Nat.sub_self]; simp
theorem partW_len {x : List (Int × Int)} {k : Nat} (h : k ≤ x.length) : (partW x k).length = x.length := by simp [partW, rowW_len]; omega
theorem partW_at {x : List (Int × Int)} {k : Nat} (h : k < x.length) : (partW x k)[k]? = some [] := by
  rw [partW, List.getElem?_append_right (by simp [rowW_len]; omega)]
  simp only [List.length_take, rowW_len, Nat.min_eq_left (Nat.le_of_lt h), Nat.sub_self, List.getElem?_replicate]
  rw [if_pos (by omega)]
theorem partW_set {x : List (Int × Int)} {k : Nat} {m : Int × Int} (h : x[k]? = some m) : (partW x k).set k (oneW m) = partW x (k + 1) := by
  have hk := (List.getElem?_eq_some_iff.1 h).1
  have e : x.length - k = (x.length - (k + 1)) + 1 := by omega
  have hm : (rowW x)[k]? = some (oneW m) := by simp [rowW, h]
  rw [partW, partW, List.set_append, if_neg (by simp [rowW_len]; omega), take_succ_of hm, e, List.replicate_succ]
  simp [rowW_len, Nat.min_eq_left (Nat.le_of_lt hk)]
theorem partW_same {x : List (Int × Int)} {k : Nat} {m : Int × Int} (h : x[k]? = some m) (hm : m.1 = -2) : partW x (k + 1) = partW x k := by
  have hk := (List.getElem?_eq_some_iff.1 h).1
  rw [← partW_set h]
  have e : oneW m = [] := by simp [oneW, hm]
  rw [e]
  apply List.ext_getElem?
  intro j
  by_cases hj : k = j
  · subst hj; rw [partW_at hk, List.getElem?_set_self (by rw [partW_len (Nat.le_of_lt hk)]; exact hk)]
  · rw [List.getElem?_set_ne hj]
end Go.Proofs.Ytncabipncekifaa
