/-
  Words with a certain letter from the end, as an automaton with many ways: what it is, the tests of numbers, what stands while it is made.
-/
import Derived.Test.YteeckhhingmgfaaBxM
import Derived.Test.YteeckhhingmgfaaT7
import Derived.Test.YteeckhhingmgfaaRo6
namespace Go.Proofs.Yteeckhhingmgfaa
open Go.RowKit

def okNth (L n : Int) : Bool := within L 1 3 && within n 1 8
theorem okNth_parts {L n : Int} (h : okNth L n = true) : (1 ≤ L ∧ L ≤ 3) ∧ (1 ≤ n ∧ n ≤ 8) := by simpa [okNth, within] using h
theorem isCount64_any (n m : Int) (w : World) :
    Calls Try.prog 85 #[.int .i64 n, .int .i64 m] w fun e w' => e = .returned (.bool (within n 1 m)) ∧ w = w' := by
  by_cases h1 : 1 ≤ n
  · by_cases h2 : n ≤ m
    · go_enter Try.func85, Try.ntmps85
      go_wp2
      go_ret
      exact ⟨ret_bool (by simp [within]; omega), rfl⟩
    · go_enter Try.func85, Try.ntmps85
      go_wp2
      go_ret
      exact ⟨ret_bool (by simp [within]; omega), rfl⟩
  · go_enter Try.func85, Try.ntmps85
    go_wp2
    go_ret
    exact ⟨ret_bool (by simp [within]; omega), rfl⟩
theorem isNth_any (L n : Int) (w : World) :
    Calls Try.prog 64 #[.int .i64 L, .int .i64 n] w fun e w' => e = .returned (.bool (okNth L n)) ∧ w = w' := by
  have HV := Lib.hid (fun W => validLetters_any L W)
  by_cases h1 : 1 ≤ L ∧ L ≤ 3
  · rw [decide_eq_true h1] at HV
    have HE := Lib.hid (show okNth L n = within n 1 8 by simp [okNth, within, h1])
    clear h1
    go_enter Try.func64, Try.ntmps64
    go_wp2_with (first | (go_at_call 72; refine (HV.out _).mono ?_; rintro e w' ⟨rfl, rfl⟩) | (go_at_call 85; refine (isCount64_any _ _ _).mono ?_; rintro e w' ⟨rfl, rfl⟩))
    go_ret
    exact ⟨ret_bool HE.out.symm, rfl⟩
  · rw [decide_eq_false h1] at HV
    have HE := Lib.hid (show okNth L n = false by simp only [okNth, within, decide_eq_false h1, Bool.false_and])
    clear h1
    go_enter Try.func64, Try.ntmps64
    go_wp2_with (go_at_call 72; refine (HV.out _).mono ?_; rintro e w' ⟨rfl, rfl⟩)
    go_ret
    exact ⟨ret_bool HE.out.symm, rfl⟩
theorem l06Nth_any (L n : Int) (w : World) :
    Calls Try.prog 63 #[.int .i64 L, .int .i64 n] w fun e w' => e = .returned (.bool (okNth L n)) ∧ w = w' := by
  have HV := Lib.hid (fun W => l00In_w L 1 3 W)
  have HV2 := Lib.hid (fun W => l00In_w n 1 8 W)
  by_cases h1 : within L 1 3 = true
  · rw [h1] at HV
    have HE := Lib.hid (show okNth L n = within n 1 8 by simp [okNth, h1])
    clear h1
    go_enter Try.func63, Try.ntmps63
    go_wp2_with (first | (go_at_call 71; with_reducible refine (HV.out _).mono ?_; rintro e w' ⟨rfl, rfl⟩) | (go_at_call 71; with_reducible refine (HV2.out _).mono ?_; rintro e w' ⟨rfl, rfl⟩))
    go_ret
    exact ⟨ret_bool HE.out.symm, rfl⟩
  · have h1' : within L 1 3 = false := by simpa using h1
    rw [h1'] at HV
    have HE := Lib.hid (show okNth L n = false by simp [okNth, h1'])
    clear h1 h1'
    go_enter Try.func63, Try.ntmps63
    go_wp2_with (go_at_call 71; with_reducible refine (HV.out _).mono ?_; rintro e w' ⟨rfl, rfl⟩)
    go_ret
    exact ⟨ret_bool HE.out.symm, rfl⟩
/-- An automaton's four values stored into a box below all that it leads to. -/
theorem stored4M {w wr : World} {z lo : Nat} {L : Int} {A0 A1 A2 : Option Addr} {n0 n1 n2 k0 k1 k2 : Nat} {r : MData} {bs : List Nat} {z0 z1 z2 z3 : Value}
    (hz : Row wr z 43 [z0, z1, z2, z3]) (hO : OwM wr lo (.agg #[.int .i64 L, .slice A0 n0 k0, .slice A1 n1 k1, .slice A2 n2 k2]) r bs) (hlo : z < lo) (hw : w.heap.size ≤ z) (hb : Below w.heap.size w wr) :
    ∃ W2, W2 = ((((wr.setCell ⟨z, 0, none⟩ (.int .i64 L)).setCell ⟨z, 1, none⟩ (.slice A0 n0 k0)).setCell ⟨z, 2, none⟩ (.slice A1 n1 k1)).setCell ⟨z, 3, none⟩ (.slice A2 n2 k2)) ∧
      (W2.cell? ⟨z, 0, none⟩ = some (.int .i64 L) ∧ W2.cell? ⟨z, 1, none⟩ = some (.slice A0 n0 k0) ∧ W2.cell? ⟨z, 2, none⟩ = some (.slice A1 n1 k1) ∧ W2.cell? ⟨z, 3, none⟩ = some (.slice A2 n2 k2)) ∧
      OwM W2 w.heap.size (.agg #[.int .i64 L, .slice A0 n0 k0, .slice A1 n1 k1, .slice A2 n2 k2]) r bs ∧ Below w.heap.size w W2 := by
  have rF := ((((hz.stored 0 (.int .i64 L)).stored 1 (.slice A0 n0 k0)).stored 2 (.slice A1 n1 k1)).stored 3 (.slice A2 n2 k2))
  have eO := (goodM.under (a := ⟨z, 3, none⟩) (goodM.under (a := ⟨z, 2, none⟩) (goodM.under (a := ⟨z, 1, none⟩) (goodM.under (a := ⟨z, 0, none⟩) hO hlo (.int .i64 L)) hlo (.slice A0 n0 k0)) hlo (.slice A1 n1 k1)) hlo (.slice A2 n2 k2))
  have eB := ((((hb.setCell (p := ⟨z, 0, none⟩) hw (.int .i64 L)).setCell (p := ⟨z, 1, none⟩) hw (.slice A0 n0 k0)).setCell (p := ⟨z, 2, none⟩) hw (.slice A1 n1 k1)).setCell (p := ⟨z, 3, none⟩) hw (.slice A2 n2 k2))
  obtain ⟨⟨y0, y1, y2, y3⟩, -⟩ := Row.four (a := .int .i64 L) (b := .slice A0 n0 k0) (c := .slice A1 n1 k1) (d := .slice A2 n2 k2) rF
  exact ⟨_, rfl, ⟨y0, y1, y2, y3⟩, goodM.mono eO (by omega), eB⟩
theorem owM_zero (w : World) (lo : Nat) : OwM w lo (.agg #[.int .i64 0, .slice none 0 0, .slice none 0 0, .slice none 0 0]) ⟨0, [], [], []⟩ [] :=
  ⟨_, _, _, [], [], [], rfl, owV_nil ints [] rfl _ _ _, owV_nil bools [] rfl _ _ _, owL_nil _ _ _ _, rfl, by simp⟩


def nthL (n s l : Nat) : List Int := if s = 0 then (if l = 0 then [0, 1] else [0]) else if s < n then [(s : Int) + 1] else []
def nthRowM (n s l : Nat) : List (List Int) := (List.range l).map (nthL n s)
def nthM (l n k : Nat) : MData := ⟨(l : Int), [0], (List.range k).map (fun s => decide (s = n)), (List.range k).map (fun s => nthRowM n s l)⟩
def nthMRes (L n : Int) : MData × Int := if okNth L n = true then (nthM L.toNat n.toNat (n.toNat + 1), 0) else (⟨0, [], [], []⟩, 2)
theorem nthRowM_succ (n s l : Nat) : nthRowM n s (l + 1) = nthRowM n s l ++ [nthL n s l] := by simp [nthRowM, List.range_succ]
theorem nthRowM_len (n s l : Nat) : (nthRowM n s l).length = l := by simp [nthRowM]
theorem nthM_succ (l n k : Nat) : nthM l n (k + 1) = ⟨(l : Int), [0], (nthM l n k).acc ++ [decide (k = n)], (nthM l n k).next ++ [nthRowM n k l]⟩ := by simp [nthM, List.range_succ]
theorem numL_each {α : Type} (f : α → Nat) (b : Nat) : ∀ xs : List α, (∀ x ∈ xs, f x ≤ b) → numL f xs ≤ b * xs.length := by
  intro xs
  induction xs with
  | nil => intro _; simp [numL]
  | cons x r ih =>
    intro h
    simp only [numL, List.map_cons, List.sum_cons, List.length_cons] at ih ⊢
    have h1 := ih (fun y hy => h y (by simp [hy]))
    have h2 := h x (by simp)
    rw [Nat.mul_add]; omega
theorem nthM_num (L n : Int) : (numM (nthMRes L n).1 : Int) ≤ 2305843009213693952 := by
  unfold nthMRes
  split
  · rename_i h
    obtain ⟨⟨l1, l2⟩, n1, n2⟩ := okNth_parts h
    have h3 : ∀ m s k, (nthL m s k).length ≤ 2 := by
      intro m s k
      unfold nthL
      repeat' split
      all_goals simp
    have h4 : ∀ m s k, numL (fun x : List Int => x.length) (nthRowM m s k) ≤ 2 * k := by
      intro m s k
      have := numL_each (fun x : List Int => x.length) 2 (nthRowM m s k) (fun x hx => by
        obtain ⟨j, -, rfl⟩ := List.mem_map.1 hx
        exact h3 _ _ _)
      rwa [nthRowM_len] at this
    have h5 := numL_each (fun x : List (List Int) => numL (fun x : List Int => x.length) x) (2 * 3) (nthM L.toNat n.toNat (n.toNat + 1)).next (fun x hx => by
      obtain ⟨j, -, rfl⟩ := List.mem_map.1 hx
      exact Nat.le_trans (h4 _ _ _) (Nat.mul_le_mul_left 2 (by omega)))
    have h6 : (nthM L.toNat n.toNat (n.toNat + 1)).next.length = n.toNat + 1 := by simp [nthM]
    have h7 : (nthM L.toNat n.toNat (n.toNat + 1)).acc.length = n.toNat + 1 := by simp [nthM]
    have h8 : (nthM L.toNat n.toNat (n.toNat + 1)).st.length = 1 := rfl
    rw [h6] at h5
    simp only [numM, h7, h8]
    omega
  · simp [numM, numL]

/-- What stands while the automaton is being made: the result's box, and the automaton in its box. -/
def NmI (w : World) (lo po : Nat) (m : MData) (wr : World) : Prop :=
  Below w.heap.size w wr ∧ Row wr w.heap.size 43 [.int .i64 0, .slice none 0 0, .slice none 0 0, .slice none 0 0] ∧ BoxM wr lo po m
theorem NmI.below {w : World} {lo po : Nat} {m : MData} {wr w' : World} (h : NmI w lo po m wr) (hb : Below wr.heap.size wr w') : NmI w lo po m w' := ⟨below_step h.1 hb, h.2.1.below hb h.2.1.lt, h.2.2.below hb⟩
theorem NmI.acc {w : World} {lo po : Nat} {L : Int} {st : List Int} {acc : List Bool} {next : List (List (List Int))} {wr : World} (h : NmI w lo po ⟨L, st, acc, next⟩ wr) (hlo : w.heap.size < lo) (hlp : lo ≤ po) :
    ∃ Bs ks Ba ka Bn kn, Row wr po 43 [.int .i64 L, .slice Bs st.length ks, .slice Ba acc.length ka, .slice Bn next.length kn] ∧
      po ∉ blks (.slice Ba acc.length ka) ∧ ∀ z : Bool, (wr.alloc (.cells #[.bool z] 4)).ownsRow lo 4 1 (.slice Ba acc.length ka) acc.length (bools acc) ∧
      ∀ (w2 : World) (g cap : Nat), (wr.alloc (.cells #[.bool z] 4)).grownBy w2 (Value.slice Ba acc.length ka).ownBlock → w2.ownsRow lo 4 1 (.slice (some ⟨g, 0, none⟩) (acc.length + 1) cap) (acc.length + 1) (bools acc ++ [.bool z]) → ((Value.slice Ba acc.length ka).ownBlock = some g ∨ g = wr.heap.size + 1) →
        NmI w lo po ⟨L, st, acc ++ [z], next⟩ (w2.setCell ⟨po, 2, none⟩ (.slice (some ⟨g, 0, none⟩) (acc.length + 1) cap)) := by
  obtain ⟨hb, hz, hx⟩ := h
  obtain ⟨Bs, ks, Ba, ka, Bn, kn, vs, ho, ha, -, pa, -, la, -, gA, -⟩ := hx.openN
  refine ⟨Bs, ks, Ba, ka, Bn, kn, ho, pa, fun z => ⟨rows_below ha (below_alloc _ _), fun w2 g cap hg hown hat => ?_⟩⟩
  have hbz := below_step hb (below_alloc wr (.cells #[.bool z] 4))
  exact ⟨(hbz.trans (grown_below hg hbz.size (fun b hm => by have := la b hm; omega))).setCell (p := ⟨po, 2, none⟩) (by show w.heap.size ≤ po; omega) _, (grown_row hg (hz.below (below_alloc _ _) hz.lt) (fun hm => by have := la _ hm; omega)).other (by show po ≠ w.heap.size; omega) _, gA wr z (Below.refl _ _) _ w2 g cap hg hown hat⟩
theorem NmI.next {w : World} {lo po : Nat} {L : Int} {st : List Int} {acc : List Bool} {next : List (List (List Int))} {wo wi : World} (h : NmI w lo po ⟨L, st, acc, next⟩ wo) (hlo : w.heap.size < lo) (hlp : lo ≤ po) (hbi : Below wo.heap.size wo wi) {u0 : Value} {x0 : List (List Int)} {b0 : List Nat} (hu : OwIIm wi wo.heap.size u0 x0 b0) :
    ∃ Bs ks Ba ka Bn kn vs, Row wi po 43 [.int .i64 L, .slice Bs st.length ks, .slice Ba acc.length ka, .slice Bn next.length kn] ∧
      po ∉ blks (.slice Bn next.length kn) ∧ (wi.alloc (.cells #[u0] 22)).ownsRow lo 22 1 (.slice Bn next.length kn) next.length vs ∧
      ∀ (w2 : World) (g cap : Nat), (wi.alloc (.cells #[u0] 22)).grownBy w2 (Value.slice Bn next.length kn).ownBlock → w2.ownsRow lo 22 1 (.slice (some ⟨g, 0, none⟩) (next.length + 1) cap) (next.length + 1) (vs ++ [u0]) → ((Value.slice Bn next.length kn).ownBlock = some g ∨ g = wi.heap.size + 1) →
        NmI w lo po ⟨L, st, acc, next ++ [x0]⟩ (w2.setCell ⟨po, 3, none⟩ (.slice (some ⟨g, 0, none⟩) (next.length + 1) cap)) := by
  obtain ⟨hb, hz, hx⟩ := h
  have lpo := hx.lt
  obtain ⟨Bs, ks, Ba, ka, Bn, kn, vs, ho, -, hn, -, pn, -, ln, -, gN⟩ := hx.openN
  have hb2 := below_step hbi (below_alloc wi (.cells #[u0] 22))
  refine ⟨Bs, ks, Ba, ka, Bn, kn, vs, ho.below hbi ho.lt, pn, rows_below hn hb2, fun w2 g cap hg hown hat => ?_⟩
  have hbz := below_step hb hb2
  exact ⟨(hbz.trans (grown_below hg hbz.size (fun b hm => by have := ln b hm; omega))).setCell (p := ⟨po, 3, none⟩) (by show w.heap.size ≤ po; omega) _, (grown_row hg (hz.below hb2 hz.lt) (fun hm => by have := ln _ hm; omega)).other (by show po ≠ w.heap.size; omega) _, gN wi u0 x0 b0 hbi (goodIIm.mono hu (by omega)) (fun c hc => (goodIIm.lt hu hc).1) _ w2 g cap hg hown hat⟩
theorem NmI.start (w : World) (L : Int) : NmI w (w.heap.size + 1) (w.heap.size + 2) ⟨L, [0], [], []⟩ (((w.alloc (.cells #[.int .i64 0, .slice none 0 0, .slice none 0 0, .slice none 0 0] 43)).alloc (.cells #[.int .i64 0] 2)).alloc (.cells #[.int .i64 L, .slice (some ⟨w.heap.size + 1, 0, none⟩) 1 1, .slice none 0 0, .slice none 0 0] 43)) := by
  refine ⟨below_step (below_step (below_alloc _ _) (below_alloc _ _)) (below_alloc _ _), ((Row.new w _ _).alloc _).alloc _, some ⟨w.heap.size + 1, 0, none⟩, 1, none, 0, none, 0, [w.heap.size + 1], [], [], ?_, ?_, owV_nil bools [] rfl _ _ _, owL_nil _ _ _ _, by simp, by simp⟩
  · simpa using Row.new ((w.alloc (.cells #[.int .i64 0, .slice none 0 0, .slice none 0 0, .slice none 0 0] 43)).alloc (.cells #[.int .i64 0] 2)) [.int .i64 L, .slice (some ⟨w.heap.size + 1, 0, none⟩) 1 1, .slice none 0 0, .slice none 0 0] 43
  · have hr := (Row.new (w.alloc (.cells #[.int .i64 0, .slice none 0 0, .slice none 0 0, .slice none 0 0] 43)) [.int .i64 0] 2).alloc (.cells #[.int .i64 L, .slice (some ⟨w.heap.size + 1, 0, none⟩) 1 1, .slice none 0 0, .slice none 0 0] 43)
    rw [show (w.alloc (.cells #[.int .i64 0, .slice none 0 0, .slice none 0 0, .slice none 0 0] 43)).heap.size = w.heap.size + 1 by simp] at hr
    exact ⟨Row.own (xs := ints [0]) hr (Nat.le_refl _) (by simp [ints, maxLen]), rfl⟩

/-- A member of a list that is the call's own grows by one number. -/
theorem memApp {w : World} {lo g cap : Nat} {ys : List (List Int)} {bs : List Nat} (h : OwIIm w lo (.slice (some ⟨g, 0, none⟩) ys.length cap) ys bs) {j : Nat} {x : List Int} (hx : ys[j]? = some x) (t : Int) :
    g < w.heap.size ∧ lo ≤ g ∧ ∃ B c, w.cell? ⟨g, j, none⟩ = some (.slice B x.length c) ∧ w.frozen? ⟨g, j, none⟩ = false ∧ g ∉ blks (.slice B x.length c) ∧ (∀ b ∈ blks (.slice B x.length c), lo ≤ b) ∧ (w.alloc (.cells #[.int .i64 t] 2)).ownsRow lo 2 1 (.slice B x.length c) x.length (ints x) ∧
      ∀ w3 g3 cap3, w3.ownsRow lo 2 1 (.slice (some ⟨g3, 0, none⟩) (x.length + 1) cap3) (x.length + 1) (ints x ++ [.int .i64 t]) → (w.alloc (.cells #[.int .i64 t] 2)).grownBy w3 (Value.slice B x.length c).ownBlock → ((Value.slice B x.length c).ownBlock = some g3 ∨ g3 = w.heap.size + 1) →
        ∃ bs', OwIIm (w3.setCell ⟨g, j, none⟩ (.slice (some ⟨g3, 0, none⟩) (x.length + 1) cap3)) lo (.slice (some ⟨g, 0, none⟩) ys.length cap) (ys.set j (x ++ [t])) bs' := by
  obtain ⟨g', cap', u, b, hv, hc, hf, hg, hlo, hR, hgb, hsub, hset⟩ := OwL.memberNew (goodV ints 2) h hx
  cases hv
  obtain ⟨hR1, rfl⟩ := hR
  obtain ⟨B, c, rfl⟩ := owI_shape (show OwV ints 2 w lo u x (blks u) from ⟨hR1, rfl⟩)
  have hR2 : w.ownsRow lo 2 1 (.slice B x.length c) x.length (ints x) := by have := hR1; unfold Own at this; rwa [ints_len] at this
  refine ⟨hg, hlo, B, c, hc, hf, hgb, fun b hb => ((goodV ints 2).lt (show OwV ints 2 w lo _ x (blks (.slice B x.length c)) from ⟨hR1, rfl⟩) hb).1, rows_below hR2 (below_alloc _ _), ?_⟩
  intro w3 g3 cap3 hown hgrow hat
  obtain ⟨bs', hO', -⟩ := hset w3 (.slice (some ⟨g3, 0, none⟩) (x.length + 1) cap3) (x ++ [t]) [g3] (OwV.snoc hown (by rw [ints_snoc]) (by rw [ints_len]; simp) rfl)
    (fun k hk hn => (hgrow.block k (by simp; omega) (fun e => hn (mem_blks.2 e.symm))).trans (Below.heap_alloc w _ k hk)) (fun c hc => by
      simp only [List.mem_singleton] at hc
      subst hc
      rcases hat with hat | hat
      · exact .inl (mem_blks.2 hat)
      · exact .inr (by omega))
  exact ⟨bs', hO'⟩
end Go.Proofs.Yteeckhhingmgfaa
