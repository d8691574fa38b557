/-
  Rotator: what it reads as, its copies, sizes and comparisons.
-/
import Derived.Test.YtklljaeoimgmnaaO1
namespace Go.Proofs.Ytklljaeoimgmnaa
open Go.RowKit

/-- What a Rotator reads as. -/
structure OData where
  L : Int
  S : Int
  next : List (List Int)
  fin : List Int

def RdO (w : World) (v : Value) (r : OData) : Prop := ∃ vnext vfin, v = .agg #[.int .i64 r.L, .int .i64 r.S, vnext, vfin] ∧ RdII w vnext r.next ∧ RdI w vfin r.fin
theorem keepsO : Keeps RdO := fun _ _ _ _ ⟨vnext, vfin, hv, hnext, hfin⟩ hb => ⟨vnext, vfin, hv, keepsII _ _ _ _ hnext hb, keepsI _ _ _ _ hfin hb⟩
def OwO (w : World) (lo : Nat) (v : Value) (r : OData) (bs : List Nat) : Prop := ∃ vnext vfin bnext bfin, v = .agg #[.int .i64 r.L, .int .i64 r.S, vnext, vfin] ∧ OwL (OwV ints 2) 36 w lo vnext r.next bnext ∧ OwV ints 2 w lo vfin r.fin bfin ∧ bs = bnext ++ bfin ∧ bs.Nodup
theorem OwO.rd {w : World} {lo : Nat} {v : Value} {r : OData} {bs : List Nat} (h : OwO w lo v r bs) : RdO w v r := by
  obtain ⟨vnext, vfin, bnext, bfin, hv, hnext, hfin, hbs, hnd⟩ := h
  exact ⟨_, _, hv, OwL.rd (fun h => h.1.rd) hnext, hfin.1.rd⟩
theorem RdO.shape {w : World} {v : Value} {r : OData} (h : RdO w v r) : ∃ A0 k0 A1 k1, v = .agg #[.int .i64 r.L, .int .i64 r.S, .slice A0 r.next.length k0, .slice A1 r.fin.length k1] := by
  obtain ⟨vnext, vfin, hv, hnext, hfin⟩ := h
  obtain ⟨A0, k0, rfl⟩ := RdL.shape hnext
  obtain ⟨A1, k1, rfl⟩ := rdI_shape hfin
  exact ⟨A0, k0, A1, k1, hv⟩

/-- What an argument of this kind is bounded by. -/
def OSmall (r : OData) : Prop := (24 * r.next.length ≤ 281474976710656 ∧ ∀ x ∈ r.next, 8 * x.length ≤ 281474976710656) ∧ (8 * r.fin.length ≤ 281474976710656)

set_option maxHeartbeats 800000 in
theorem szO_any (v : Value) (r : OData) (left : Int) (w : World) (h : RdO w v r) :
    Calls Try.prog 12 #[v, .int .i64 left] w fun e w' => (∃ n, e = .returned (.int .i64 n)) ∧ Below w.heap.size w w' := by
  obtain ⟨vnext, vfin, hv, hnext, hfin⟩ := h
  subst hv
  have Hnext := Lib.hid (fun o l => szInt64SS_any vnext r.next l (w.alloc o) (keepsII _ _ _ _ hnext (below_alloc _ _)))
  have Hfin := Lib.hid (fun o l => szInt64S_any vfin r.fin l (w.alloc o) (keepsI _ _ _ _ hfin (below_alloc _ _)))
  clear hnext hfin
  go_enter Try.func12, Try.ntmps12
  go_wp2_with (first | (go_at_call 36; (with_reducible refine (Hnext.out _ _).mono ?_); rintro e w' ⟨⟨m, rfl⟩, rfl⟩) | (go_at_call 37; (with_reducible refine (Hfin.out _ _).mono ?_); rintro e w' ⟨⟨m, rfl⟩, rfl⟩))
  all_goals go_ret
  all_goals exact ⟨⟨_, rfl⟩, below_alloc _ _⟩


set_option maxHeartbeats 800000 in
theorem eqO_same (v u : Value) (r : OData) (w : World) (h : RdO w v r) (k : RdO w u r) :
    Calls Try.prog 16 #[v, u] w fun e w' => e = .returned (.bool true) ∧ Below w.heap.size w w' := by
  obtain ⟨vnext, vfin, hv, hnext, hfin⟩ := h
  subst hv
  obtain ⟨unext, ufin, hu, knext, kfin⟩ := k
  subst hu
  have eL : (r.L != r.L) = false := by simp
  have eS : (r.S != r.S) = false := by simp
  have enext : decide (r.next = r.next) = true := by simp
  have Hnext := Lib.hid (fun W (hb : Below w.heap.size w W) => eqInt64SS_any vnext unext r.next r.next W (keepsII _ _ _ _ hnext hb) (keepsII _ _ _ _ knext hb))
  have efin : decide (r.fin = r.fin) = true := by simp
  have Hfin := Lib.hid (fun W (hb : Below w.heap.size w W) => eqInt64S_any vfin ufin r.fin r.fin W (keepsI _ _ _ _ hfin hb) (keepsI _ _ _ _ kfin hb))
  have HB := Lib.hid (fun o o' m => below_drewN (((below_alloc w o).alloc (by simp) o')) m)
  clear hnext hfin knext kfin
  go_enter Try.func16, Try.ntmps16
  go_wp2_with (first | (go_at_call 46; refine (Hnext.out _ (HB.out _ _ 0)).mono ?_; rintro e w' ⟨rfl, m, rfl⟩) | (go_at_call 47; refine (Hfin.out _ (HB.out _ _ _)).mono ?_; rintro e w' ⟨rfl, m, rfl⟩))
  all_goals go_ret
  all_goals exact ⟨rfl, HB.out _ _ _⟩


set_option maxHeartbeats 1600000 in
theorem toO_own (v : Value) (r : OData) (w : World) (h : RdO w v r) (hs : OSmall r) :
    Calls Try.prog 14 #[v] w fun e w' => ∃ u bs, e = .returned u ∧ OwO w' w.heap.size u r bs ∧ Below w.heap.size w w' := by
  obtain ⟨fL, fS, fnext, ffin⟩ := r
  obtain ⟨vnext, vfin, hv, hnext, hfin⟩ := h
  subst hv
  obtain ⟨snext, sfin⟩ := hs
  have Hnext := Lib.hid (fun W (hb : Below w.heap.size w W) => toInt64SS_own vnext fnext W (keepsII _ _ _ _ hnext hb) snext.1 snext.2)
  have Hfin := Lib.hid (fun W (hb : Below w.heap.size w W) => toInt64S_own vfin ffin W (keepsI _ _ _ _ hfin hb) sfin)
  have hw1 : Below w.heap.size w (((w.alloc (.cells #[.int .i64 fL, .int .i64 fS, vnext, vfin] 38)).alloc (.cells #[.int .i64 0, .int .i64 0, .slice none 0 0, .slice none 0 0] 40)).alloc (.cells #[.int .i64 fL, .int .i64 fS, .slice none 0 0, .slice none 0 0] 40)) := ((below_alloc _ _).alloc (by simp) _).alloc (by simp; omega) _
  have hrA : Row (((w.alloc (.cells #[.int .i64 fL, .int .i64 fS, vnext, vfin] 38)).alloc (.cells #[.int .i64 0, .int .i64 0, .slice none 0 0, .slice none 0 0] 40)).alloc (.cells #[.int .i64 fL, .int .i64 fS, .slice none 0 0, .slice none 0 0] 40)) w.heap.size 38 [.int .i64 fL, .int .i64 fS, vnext, vfin] := ((Row.new w _ _).alloc _).alloc _
  have hrB : Row (((w.alloc (.cells #[.int .i64 fL, .int .i64 fS, vnext, vfin] 38)).alloc (.cells #[.int .i64 0, .int .i64 0, .slice none 0 0, .slice none 0 0] 40)).alloc (.cells #[.int .i64 fL, .int .i64 fS, .slice none 0 0, .slice none 0 0] 40)) (w.heap.size + 1) 40 [.int .i64 0, .int .i64 0, .slice none 0 0, .slice none 0 0] := by
    have := (Row.new (w.alloc (.cells #[.int .i64 fL, .int .i64 fS, vnext, vfin] 38)) [.int .i64 0, .int .i64 0, .slice none 0 0, .slice none 0 0] 40).alloc (.cells #[.int .i64 fL, .int .i64 fS, .slice none 0 0, .slice none 0 0] 40)
    simpa using this
  have hrC : Row (((w.alloc (.cells #[.int .i64 fL, .int .i64 fS, vnext, vfin] 38)).alloc (.cells #[.int .i64 0, .int .i64 0, .slice none 0 0, .slice none 0 0] 40)).alloc (.cells #[.int .i64 fL, .int .i64 fS, .slice none 0 0, .slice none 0 0] 40)) (w.heap.size + 1 + 1) 40 [.int .i64 fL, .int .i64 fS, .slice none 0 0, .slice none 0 0] := by
    have := Row.new ((w.alloc (.cells #[.int .i64 fL, .int .i64 fS, vnext, vfin] 38)).alloc (.cells #[.int .i64 0, .int .i64 0, .slice none 0 0, .slice none 0 0] 40)) [.int .i64 fL, .int .i64 fS, .slice none 0 0, .slice none 0 0] 40
    simpa using this
  have hsz : (((w.alloc (.cells #[.int .i64 fL, .int .i64 fS, vnext, vfin] 38)).alloc (.cells #[.int .i64 0, .int .i64 0, .slice none 0 0, .slice none 0 0] 40)).alloc (.cells #[.int .i64 fL, .int .i64 fS, .slice none 0 0, .slice none 0 0] 40)).heap.size = w.heap.size + 3 := by simp
  go_enter Try.func14, Try.ntmps14
  clear hnext hfin
  go_wp2_with fail
  refine (Hnext.out _ hw1).mono ?_
  generalize ((w.alloc (.cells #[.int .i64 fL, .int .i64 fS, vnext, vfin] 38)).alloc (.cells #[.int .i64 0, .int .i64 0, .slice none 0 0, .slice none 0 0] 40)).alloc (.cells #[.int .i64 fL, .int .i64 fS, .slice none 0 0, .slice none 0 0] 40) = W0 at *
  rintro e w1 ⟨unext, bnext, rfl, hunext, hb⟩
  obtain ⟨Anext, knext, rfl⟩ := OwL.shape hunext
  have rA := hrA.below hb hrA.lt
  have rB := hrB.below hb hrB.lt
  have rC := hrC.below hb hrC.lt
  have hnd := (goodL (goodV ints 2) 36).nodup hunext
  have ND := Lib.hid hnd
  clear hnd
  have hw2 := hw1.trans (hb.mono hw1.size)
  have hsz2 : w.heap.size + 3 ≤ W0.heap.size := by first | omega | exact hsz
  have oM : OwL (OwV ints 2) 36 w1 (w.heap.size + 3) (.slice Anext fnext.length knext) fnext bnext := (goodL (goodV ints 2) 36).mono hunext hsz2
  have hsz3 := Nat.le_trans hsz2 hb.size
  have H1 := Lib.hid (show _ ∧ _ ∧ _ ∧ _ ∧ _ from ⟨rA, rB, rC, hw2, oM⟩)
  obtain ⟨⟨ca0, ca1, ca2, ca3⟩, -⟩ := rA.four
  obtain ⟨⟨cc0, cc1, cc2, cc3⟩, fc⟩ := rC.four
  have hl1 := rC.lt
  clear rA rB rC hrA hrB hrC hw1 hb hunext hsz hsz2 hw2 oM 
  go_wp2_with fail
  obtain ⟨rA, rB, rC, hw1, onext⟩ := H1.out
  have hrA := (rA.other (a := ⟨w.heap.size + 1 + 1, 2, none⟩) (by show w.heap.size + 1 + 1 ≠ _; omega) (.slice Anext fnext.length knext))
  have hrB := (rB.other (a := ⟨w.heap.size + 1 + 1, 2, none⟩) (by show w.heap.size + 1 + 1 ≠ _; omega) (.slice Anext fnext.length knext))
  have hrC := (rC.stored 2 (.slice Anext fnext.length knext))
  have hw1 := (hw1.setCell (p := ⟨w.heap.size + 1 + 1, 2, none⟩) (by show w.heap.size ≤ _ + 1 + 1; omega) (.slice Anext fnext.length knext))
  have onext := ((goodL (goodV ints 2) 36).under (a := ⟨w.heap.size + 1 + 1, 2, none⟩) onext (by show w.heap.size + 1 + 1 < _; omega) (.slice Anext fnext.length knext))
  have hsz : w.heap.size + 3 ≤ ((w1).setCell ⟨w.heap.size + 1 + 1, 2, none⟩ (.slice Anext fnext.length knext)).heap.size := by simpa using hsz3
  clear rA rB rC H1 hsz3 hl1 ca0 ca1 ca2 ca3 cc0 cc1 cc2 cc3 fc
  refine (Hfin.out _ hw1).mono ?_
  generalize (w1).setCell ⟨w.heap.size + 1 + 1, 2, none⟩ (.slice Anext fnext.length knext) = W0 at *
  rintro e w2 ⟨ufin, bfin, rfl, hufin, hb⟩
  obtain ⟨Afin, kfin, rfl⟩ := owI_shape hufin
  have rA := hrA.below hb hrA.lt
  have rB := hrB.below hb hrB.lt
  have rC := hrC.below hb hrC.lt
  have oNnext := (goodL (goodV ints 2) 36).below onext hb
  have ltp : ∀ x ∈ bnext, x < W0.heap.size := by
    intro x hx
    exact ((goodL (goodV ints 2) 36).lt onext hx).2
  have hnd := nodup_two ND.out ((goodV ints 2).nodup hufin) ltp (fun x hx => ((goodV ints 2).lt hufin hx).1)
  clear ltp ND
  have ND := Lib.hid hnd
  clear hnd
  have hw2 := hw1.trans (hb.mono hw1.size)
  have hsz2 : w.heap.size + 3 ≤ W0.heap.size := by first | omega | exact hsz
  have oM : OwV ints 2 w2 (w.heap.size + 3) (.slice Afin ffin.length kfin) ffin bfin := (goodV ints 2).mono hufin hsz2
  have hsz3 := Nat.le_trans hsz2 hb.size
  have H1 := Lib.hid (show _ ∧ _ ∧ _ ∧ _ ∧ _ ∧ _ from ⟨rA, rB, rC, hw2, oM, oNnext⟩)
  obtain ⟨⟨ca0, ca1, ca2, ca3⟩, -⟩ := rA.four
  obtain ⟨⟨cc0, cc1, cc2, cc3⟩, fc⟩ := rC.four
  obtain ⟨⟨cb0, cb1, cb2, cb3⟩, fb⟩ := rB.four
  have hl1 := rC.lt
  clear rA rB rC hrA hrB hrC hw1 hb hufin hsz hsz2 hw2 oM oNnext onext
  go_wp2
  obtain ⟨rA, rB, rC, hw1, ofin, onext⟩ := H1.out
  clear ca0 ca1 ca2 ca3 cc0 cc1 cc2 cc3 fc cb0 cb1 cb2 cb3 fb H1
  have rF := (((((rB.other (a := ⟨w.heap.size + 1 + 1, 3, none⟩) (by show w.heap.size + 1 + 1 ≠ _; omega) (.slice Afin ffin.length kfin)).stored 0 (.int .i64 fL)).stored 1 (.int .i64 fS)).stored 2 (.slice Anext fnext.length knext)).stored 3 (.slice Afin ffin.length kfin))
  have enext := ((goodL (goodV ints 2) 36).under (a := ⟨w.heap.size + 1, 3, none⟩) ((goodL (goodV ints 2) 36).under (a := ⟨w.heap.size + 1, 2, none⟩) ((goodL (goodV ints 2) 36).under (a := ⟨w.heap.size + 1, 1, none⟩) ((goodL (goodV ints 2) 36).under (a := ⟨w.heap.size + 1, 0, none⟩) ((goodL (goodV ints 2) 36).under (a := ⟨w.heap.size + 1 + 1, 3, none⟩) onext (by show w.heap.size + 1 + 1 < _; omega) (.slice Afin ffin.length kfin)) (by show w.heap.size + 1 < _; omega) (.int .i64 fL)) (by show w.heap.size + 1 < _; omega) (.int .i64 fS)) (by show w.heap.size + 1 < _; omega) (.slice Anext fnext.length knext)) (by show w.heap.size + 1 < _; omega) (.slice Afin ffin.length kfin))
  have efin := ((goodV ints 2).under (a := ⟨w.heap.size + 1, 3, none⟩) ((goodV ints 2).under (a := ⟨w.heap.size + 1, 2, none⟩) ((goodV ints 2).under (a := ⟨w.heap.size + 1, 1, none⟩) ((goodV ints 2).under (a := ⟨w.heap.size + 1, 0, none⟩) ((goodV ints 2).under (a := ⟨w.heap.size + 1 + 1, 3, none⟩) ofin (by show w.heap.size + 1 + 1 < _; omega) (.slice Afin ffin.length kfin)) (by show w.heap.size + 1 < _; omega) (.int .i64 fL)) (by show w.heap.size + 1 < _; omega) (.int .i64 fS)) (by show w.heap.size + 1 < _; omega) (.slice Anext fnext.length knext)) (by show w.heap.size + 1 < _; omega) (.slice Afin ffin.length kfin))
  have eB := (((((hw1.setCell (p := ⟨w.heap.size + 1 + 1, 3, none⟩) (by show w.heap.size ≤ w.heap.size + 1 + 1; omega) (.slice Afin ffin.length kfin)).setCell (p := ⟨w.heap.size + 1, 0, none⟩) (by show w.heap.size ≤ w.heap.size + 1; omega) (.int .i64 fL)).setCell (p := ⟨w.heap.size + 1, 1, none⟩) (by show w.heap.size ≤ w.heap.size + 1; omega) (.int .i64 fS)).setCell (p := ⟨w.heap.size + 1, 2, none⟩) (by show w.heap.size ≤ w.heap.size + 1; omega) (.slice Anext fnext.length knext)).setCell (p := ⟨w.heap.size + 1, 3, none⟩) (by show w.heap.size ≤ w.heap.size + 1; omega) (.slice Afin ffin.length kfin))
  have hnd := ND.out
  clear rA rB rC hw1 ND onext ofin
  generalize (((((w2).setCell ⟨w.heap.size + 1 + 1, 3, none⟩ (.slice Afin ffin.length kfin)).setCell ⟨w.heap.size + 1, 0, none⟩ (.int .i64 fL)).setCell ⟨w.heap.size + 1, 1, none⟩ (.int .i64 fS)).setCell ⟨w.heap.size + 1, 2, none⟩ (.slice Anext fnext.length knext)).setCell ⟨w.heap.size + 1, 3, none⟩ (.slice Afin ffin.length kfin) = W2 at *
  obtain ⟨⟨q0, q1, q2, q3⟩, -⟩ := Row.four rF
  refine bodyPost_ret (v := .agg #[.int .i64 fL, .int .i64 fS, .slice Anext fnext.length knext, .slice Afin ffin.length kfin]) (by simp [results, Try.results14, go_sem, q0, q1, q2, q3]) rfl ⟨_, bnext ++ bfin, rfl, ?_, eB⟩
  exact ⟨_, _, _, _, rfl, (goodL (goodV ints 2) 36).mono enext (by omega), (goodV ints 2).mono efin (by omega), rfl, hnd⟩

end Go.Proofs.Ytklljaeoimgmnaa
