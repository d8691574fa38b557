/-
  One turner after another: what the model's turner is while its rows are turned in place and further rows come behind them.
-/
import Derived.Test.YtklljaeoimgmnaaTh4
import Derived.Test.YtklljaeoimgmnaaTh3
import Derived.Test.YtklljaeoimgmnaaBxT
namespace Go.Proofs.Ytklljaeoimgmnaa
open Go.RowKit

/-- A move of a turner in a box is turned in place. -/
theorem BoxT.put {w : World} {lo po : Nat} {L S : Int} {mv : List (List (Int × Int))} (h : BoxT w lo po ⟨L, S, mv⟩) {s : Nat} {x : List (Int × Int)} (hx : mv[s]? = some x) (hl : 0 < x.length) :
    ∃ g km gr cr, Row w po 28 [.int .i64 L, .int .i64 S, .slice (some ⟨g, 0, none⟩) mv.length km] ∧ w.cell? ⟨g, s, none⟩ = some (.slice (some ⟨gr, 0, none⟩) x.length cr) ∧ x.length ≤ cr ∧ cr ≤ maxLen ∧ lo ≤ gr ∧ gr < w.heap.size ∧ gr ≠ po ∧ (∀ i, w.frozen? ⟨gr, i, none⟩ = false) ∧
      (∀ k m, x[k]? = some m → w.cell? ⟨gr, k * 2, none⟩ = some (.int .i64 m.1) ∧ w.cell? ⟨gr, k * 2 + 1, none⟩ = some (.int .i64 m.2)) ∧
      (∀ k m, k < x.length → BoxT ((w.setCell ⟨gr, k * 2, none⟩ (.int .i64 m.1)).setCell ⟨gr, k * 2 + 1, none⟩ (.int .i64 m.2)) lo po ⟨L, S, mv.set s (x.set k m)⟩) := by
  obtain ⟨vm, bm, ho, hm, hp⟩ := h
  simp only at ho hm
  obtain ⟨g, cap, u, bb, hv, hc, hR, hbb, hset⟩ := OwL.member (goodP 51) hm hx
  subst hv
  rcases hR.nil_or with ⟨_, h0⟩ | ⟨gr, cr, hu, rfl, hcr1, hcr2⟩
  · rw [h0] at hl; simp at hl
  subst hu
  have hgr := hbb gr (by simp)
  have hne : gr ≠ po := fun e => hp (e ▸ hgr)
  have hlt := (goodL (goodP 51) 53).lt hm hgr
  refine ⟨g, cap, gr, cr, ho, hc, hcr1, hcr2, hlt.1, hlt.2, hne, fun i => hR.1.frozenAt i, fun k m hk => ?_, fun k m hk => ?_⟩
  · have hkl := (List.getElem?_eq_some_iff.1 hk).1
    exact ⟨(hR.1.cellAt (k * 2) (by omega)).trans (pcells_get hk).1, (hR.1.cellAt (k * 2 + 1) (by omega)).trans (pcells_get hk).2⟩
  · have hst := hR.stored (i := k) hk m
    have hon : Only [gr] w ((w.setCell ⟨gr, k * 2, none⟩ (.int .i64 m.1)).setCell ⟨gr, k * 2 + 1, none⟩ (.int .i64 m.2)) := ((Only.refl _ _).setCell (p := ⟨gr, k * 2, none⟩) (by simp) _).setCell (p := ⟨gr, k * 2 + 1, none⟩) (by simp) _
    have hl2 : (x.set k m).length = x.length := by simp
    rw [hl2] at hst
    exact ⟨_, bm, (ho.other (a := ⟨gr, k * 2, none⟩) hne _).other (a := ⟨gr, k * 2 + 1, none⟩) hne _, hset _ _ hst hon, hp⟩

/-- What stands while the model makes the turner: the arguments' boxes and the result's, two moves, and the box in which it is made. -/
def ThQ (w : World) (rt ru : List Value) (p7 p8 lo po : Nat) (hm bg : Int × Int) (t : TData) (wr : World) : Prop :=
  ThI w rt ru wr ∧ Row wr p7 51 [.int .i64 hm.1, .int .i64 hm.2] ∧ Row wr p8 51 [.int .i64 bg.1, .int .i64 bg.2] ∧ (w.heap.size + 3 ≤ lo ∧ p7 < lo ∧ p8 < lo ∧ lo ≤ po) ∧ BoxT wr lo po t
theorem ThQ.below {w : World} {rt ru : List Value} {p7 p8 lo po : Nat} {hm bg : Int × Int} {t : TData} {wr w' : World} (h : ThQ w rt ru p7 p8 lo po hm bg t wr) (hb : Below wr.heap.size wr w') : ThQ w rt ru p7 p8 lo po hm bg t w' :=
  ⟨h.1.below hb, h.2.1.below hb h.2.1.lt, h.2.2.1.below hb h.2.2.1.lt, h.2.2.2.1, h.2.2.2.2.below hb⟩
theorem ThQ.put2 {w : World} {rt ru : List Value} {p7 p8 lo po : Nat} {hm bg : Int × Int} {t t' : TData} {wr : World} (h : ThQ w rt ru p7 p8 lo po hm bg t wr) {g i j : Nat} (hg : lo ≤ g) (a b : Value) (hbox : BoxT ((wr.setCell ⟨g, i, none⟩ a).setCell ⟨g, j, none⟩ b) lo po t') :
    ThQ w rt ru p7 p8 lo po hm bg t' ((wr.setCell ⟨g, i, none⟩ a).setCell ⟨g, j, none⟩ b) := by
  obtain ⟨⟨hb, h0, h1, h2⟩, h7, h8, ⟨l0, l1, l2, l3⟩, -⟩ := h
  exact ⟨⟨(hb.setCell (p := ⟨g, i, none⟩) (by show w.heap.size ≤ g; omega) _).setCell (p := ⟨g, j, none⟩) (by show w.heap.size ≤ g; omega) _,
    (h0.other (a := ⟨g, i, none⟩) (by show g ≠ w.heap.size; omega) _).other (a := ⟨g, j, none⟩) (by show g ≠ w.heap.size; omega) _,
    (h1.other (a := ⟨g, i, none⟩) (by show g ≠ w.heap.size + 1; omega) _).other (a := ⟨g, j, none⟩) (by show g ≠ w.heap.size + 1; omega) _,
    (h2.other (a := ⟨g, i, none⟩) (by show g ≠ w.heap.size + 2; omega) _).other (a := ⟨g, j, none⟩) (by show g ≠ w.heap.size + 2; omega) _⟩,
    (h7.other (a := ⟨g, i, none⟩) (by show g ≠ p7; omega) _).other (a := ⟨g, j, none⟩) (by show g ≠ p7; omega) _,
    (h8.other (a := ⟨g, i, none⟩) (by show g ≠ p8; omega) _).other (a := ⟨g, j, none⟩) (by show g ≠ p8; omega) _, ⟨l0, l1, l2, l3⟩, hbox⟩
theorem ThQ.stored {w : World} {rt ru : List Value} {p7 p8 lo po : Nat} {hm bg : Int × Int} {t t' : TData} {wr w1 w2 : World} {v u : Value} (h : ThQ w rt ru p7 p8 lo po hm bg t wr) (hb1 : Below wr.heap.size wr w1) (hg : w1.grownBy w2 v.ownBlock) (hv : ∀ b ∈ blks v, lo ≤ b) (hbox : BoxT (w2.setCell ⟨po, 2, none⟩ u) lo po t') :
    ThQ w rt ru p7 p8 lo po hm bg t' (w2.setCell ⟨po, 2, none⟩ u) := by
  obtain ⟨⟨hb, h0, h1, h2⟩, h7, h8, ⟨l0, l1, l2, l3⟩, -⟩ := h
  have hb2 := below_step hb hb1
  exact ⟨⟨(hb2.trans (grown_below hg hb2.size (fun b hb => by have := hv b hb; omega))).setCell (p := ⟨po, 2, none⟩) (by show w.heap.size ≤ po; omega) _,
    (grown_row hg (h0.below hb1 h0.lt) (fun hm => by have := hv _ hm; omega)).other (by show po ≠ w.heap.size; omega) _,
    (grown_row hg (h1.below hb1 h1.lt) (fun hm => by have := hv _ hm; omega)).other (by show po ≠ w.heap.size + 1; omega) _,
    (grown_row hg (h2.below hb1 h2.lt) (fun hm => by have := hv _ hm; omega)).other (by show po ≠ w.heap.size + 2; omega) _⟩,
    (grown_row hg (h7.below hb1 h7.lt) (fun hm => by have := hv _ hm; omega)).other (by show po ≠ p7; omega) _,
    (grown_row hg (h8.below hb1 h8.lt) (fun hm => by have := hv _ hm; omega)).other (by show po ≠ p8; omega) _, ⟨l0, l1, l2, l3⟩, hbox⟩
/-- One row more in the box. -/
theorem thMore {w wo w5 w6 : World} {rt ru : List Value} {p7 p8 lo po : Nat} {hm bg : Int × Int} {t : TData} {Bm : Option Addr} {km q g5 cap5 g6 cap6 n : Nat} {vs : List Value} {row : List (Int × Int)} {o : Obj} (hI : ThQ w rt ru p7 p8 lo po hm bg t wo)
    (hE : Below wo.heap.size wo w5 ∧ ∃ bs', OwP 51 w5 wo.heap.size (.slice (some ⟨g5, 0, none⟩) n cap5) row bs') (hv : ∀ b ∈ blks (.slice Bm q km), lo ≤ b)
    (hgr : ∀ (w1 : World) (u0 : Value) (x0 : List (Int × Int)) (b0 : List Nat), Below wo.heap.size wo w1 → OwP 51 w1 lo u0 x0 b0 → (∀ c ∈ b0, wo.heap.size ≤ c) → ∀ (o : Obj) (w2 : World) (g cap : Nat), (w1.alloc o).grownBy w2 (Value.slice Bm q km).ownBlock →
        w2.ownsRow lo 53 1 (.slice (some ⟨g, 0, none⟩) (q + 1) cap) (q + 1) (vs ++ [u0]) → ((Value.slice Bm q km).ownBlock = some g ∨ g = w1.heap.size + 1) → BoxT (w2.setCell ⟨po, 2, none⟩ (.slice (some ⟨g, 0, none⟩) (q + 1) cap)) lo po ⟨t.L, t.S, t.mv ++ [x0]⟩)
    (hg6 : (w5.alloc o).grownBy w6 (Value.slice Bm q km).ownBlock) (hown6 : w6.ownsRow lo 53 1 (.slice (some ⟨g6, 0, none⟩) (q + 1) cap6) (q + 1) (vs ++ [.slice (some ⟨g5, 0, none⟩) n cap5])) (hat : (Value.slice Bm q km).ownBlock = some g6 ∨ g6 = w5.heap.size + 1) :
    ThQ w rt ru p7 p8 lo po hm bg ⟨t.L, t.S, t.mv ++ [row]⟩ (w6.setCell ⟨po, 2, none⟩ (.slice (some ⟨g6, 0, none⟩) (q + 1) cap6)) := by
  obtain ⟨hb, bs', hu⟩ := hE
  have hlo : lo ≤ wo.heap.size := by have := hI.2.2.2.2.lt; have := hI.2.2.2.1; omega
  exact hI.stored (below_step hb (below_alloc _ o)) hg6 hv (hgr w5 _ row bs' hb ((goodP _).mono hu hlo) (fun c hc => ((goodP _).lt hu hc).1) o w6 g6 cap6 hg6 hown6 hat)

theorem thG_low {t u : TData} {s k : Nat} (hs : s < t.mv.length) : thG t u s k = if (moveAt t s k).1 = -1 then thOn t u k else moveAt t s k := by
  unfold thG; rw [if_neg (by unfold thHome; omega), if_neg (by omega)]
theorem thG_mid {t u : TData} {s k : Nat} (hs : s < u.mv.length) : thG t u (t.mv.length + s) k = raiseM t.mv.length (moveAt u s k) := by
  unfold thG; rw [if_neg (by unfold thHome; omega), if_pos (by omega), show t.mv.length + s - t.mv.length = s by omega]
theorem thG_last {t u : TData} {k : Nat} : thG t u (t.mv.length + u.mv.length) k = thOn t u k := by unfold thG; rw [if_pos (by rfl)]
theorem thRow_two (G : Nat → Nat → Int × Int) (l q : Nat) {g1 g2 : Int × Int} (h1 : G q l = g1) (h2 : G q (l + 1) = g2) : rowOf G (l + 2) q = (rowOf G (l + 2) q).take l ++ [g1, g2] := by
  subst h1; subst h2
  have e1 := take_succ_of (rowOf_get G (c := l + 2) (q := q) (k := l) (by omega))
  have e2 := take_succ_of (rowOf_get G (c := l + 2) (q := q) (k := l + 1) (by omega))
  have e3 : (rowOf G (l + 2) q).take (l + 1 + 1) = rowOf G (l + 2) q := List.take_of_length_le (by rw [rowOf_len]; omega)
  calc rowOf G (l + 2) q = (rowOf G (l + 2) q).take (l + 1 + 1) := e3.symm
    _ = (rowOf G (l + 2) q).take (l + 1) ++ [G q (l + 1)] := e2
    _ = (rowOf G (l + 2) q).take l ++ [G q l] ++ [G q (l + 1)] := by rw [e1]
    _ = _ := by simp
end Go.Proofs.Ytklljaeoimgmnaa
