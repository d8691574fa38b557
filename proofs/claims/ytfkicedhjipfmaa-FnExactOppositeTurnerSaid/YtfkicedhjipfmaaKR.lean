/-
  Reader: what it reads as, its copies, sizes and comparisons.
-/
import Derived.Test.YtfkicedhjipfmaaO1
namespace Go.Proofs.Ytfkicedhjipfmaa
open Go.RowKit

/-- What a Reader reads as. -/
structure RData where
  L : Int
  S : Int
  acc : List Bool
  next : List (List Int)

def RdR (w : World) (v : Value) (r : RData) : Prop := ∃ vacc vnext, v = .agg #[.int .i64 r.L, .int .i64 r.S, vacc, vnext] ∧ RdB w vacc r.acc ∧ RdII w vnext r.next
theorem keepsR : Keeps RdR := fun _ _ _ _ ⟨vacc, vnext, hv, hacc, hnext⟩ hb => ⟨vacc, vnext, hv, keepsB _ _ _ _ hacc hb, keepsII _ _ _ _ hnext hb⟩
def OwR (w : World) (lo : Nat) (v : Value) (r : RData) (bs : List Nat) : Prop := ∃ vacc vnext bacc bnext, v = .agg #[.int .i64 r.L, .int .i64 r.S, vacc, vnext] ∧ OwV bools 4 w lo vacc r.acc bacc ∧ OwL (OwV ints 2) 48 w lo vnext r.next bnext ∧ bs = bacc ++ bnext ∧ bs.Nodup
theorem OwR.rd {w : World} {lo : Nat} {v : Value} {r : RData} {bs : List Nat} (h : OwR w lo v r bs) : RdR w v r := by
  obtain ⟨vacc, vnext, bacc, bnext, hv, hacc, hnext, hbs, hnd⟩ := h
  exact ⟨_, _, hv, hacc.1.rd, OwL.rd (fun h => h.1.rd) hnext⟩
theorem RdR.shape {w : World} {v : Value} {r : RData} (h : RdR w v r) : ∃ A0 k0 A1 k1, v = .agg #[.int .i64 r.L, .int .i64 r.S, .slice A0 r.acc.length k0, .slice A1 r.next.length k1] := by
  obtain ⟨vacc, vnext, hv, hacc, hnext⟩ := h
  obtain ⟨A0, k0, rfl⟩ := rdB_shape hacc
  obtain ⟨A1, k1, rfl⟩ := RdL.shape hnext
  exact ⟨A0, k0, A1, k1, hv⟩

/-- What an argument of this kind is bounded by. -/
def RSmall (r : RData) : Prop := (r.acc.length ≤ 281474976710656) ∧ (24 * r.next.length ≤ 281474976710656 ∧ ∀ x ∈ r.next, 8 * x.length ≤ 281474976710656)

set_option maxHeartbeats 800000 in
theorem szR_any (v : Value) (r : RData) (left : Int) (w : World) (h : RdR w v r) :
    Calls Try.prog 10 #[v, .int .i64 left] w fun e w' => (∃ n, e = .returned (.int .i64 n)) ∧ Below w.heap.size w w' := by
  obtain ⟨vacc, vnext, hv, hacc, hnext⟩ := h
  subst hv
  have Hacc := Lib.hid (fun o l => szBoolS_any vacc r.acc l (w.alloc o) (keepsB _ _ _ _ hacc (below_alloc _ _)))
  have Hnext := Lib.hid (fun o l => szInt64SS_any vnext r.next l (w.alloc o) (keepsII _ _ _ _ hnext (below_alloc _ _)))
  clear hacc hnext
  go_enter Try.func10, Try.ntmps10
  go_wp2_with (first | (go_at_call 37; (with_reducible refine (Hacc.out _ _).mono ?_); rintro e w' ⟨⟨m, rfl⟩, rfl⟩) | (go_at_call 38; (with_reducible refine (Hnext.out _ _).mono ?_); rintro e w' ⟨⟨m, rfl⟩, rfl⟩))
  all_goals go_ret
  all_goals exact ⟨⟨_, rfl⟩, below_alloc _ _⟩


set_option maxHeartbeats 800000 in
theorem eqR_same (v u : Value) (r : RData) (w : World) (h : RdR w v r) (k : RdR w u r) :
    Calls Try.prog 15 #[v, u] w fun e w' => e = .returned (.bool true) ∧ Below w.heap.size w w' := by
  obtain ⟨vacc, vnext, hv, hacc, hnext⟩ := h
  subst hv
  obtain ⟨uacc, unext, hu, kacc, knext⟩ := k
  subst hu
  have eL : (r.L != r.L) = false := by simp
  have eS : (r.S != r.S) = false := by simp
  have eacc : decide (r.acc = r.acc) = true := by simp
  have Hacc := Lib.hid (fun W (hb : Below w.heap.size w W) => eqBoolS_any vacc uacc r.acc r.acc W (keepsB _ _ _ _ hacc hb) (keepsB _ _ _ _ kacc hb))
  have enext : decide (r.next = r.next) = true := by simp
  have Hnext := Lib.hid (fun W (hb : Below w.heap.size w W) => eqInt64SS_any vnext unext r.next r.next W (keepsII _ _ _ _ hnext hb) (keepsII _ _ _ _ knext hb))
  have HB := Lib.hid (fun o o' m => below_drewN (((below_alloc w o).alloc (by simp) o')) m)
  clear hacc hnext kacc knext
  go_enter Try.func15, Try.ntmps15
  go_wp2_with (first | (go_at_call 49; refine (Hacc.out _ (HB.out _ _ 0)).mono ?_; rintro e w' ⟨rfl, m, rfl⟩) | (go_at_call 50; refine (Hnext.out _ (HB.out _ _ _)).mono ?_; rintro e w' ⟨rfl, m, rfl⟩))
  all_goals go_ret
  all_goals exact ⟨rfl, HB.out _ _ _⟩


set_option maxHeartbeats 1600000 in
theorem toR_own (v : Value) (r : RData) (w : World) (h : RdR w v r) (hs : RSmall r) :
    Calls Try.prog 12 #[v] w fun e w' => ∃ u bs, e = .returned u ∧ OwR w' w.heap.size u r bs ∧ Below w.heap.size w w' := by
  obtain ⟨fL, fS, facc, fnext⟩ := r
  obtain ⟨vacc, vnext, hv, hacc, hnext⟩ := h
  subst hv
  obtain ⟨sacc, snext⟩ := hs
  have Hacc := Lib.hid (fun W (hb : Below w.heap.size w W) => toBoolS_own vacc facc W (keepsB _ _ _ _ hacc hb) (by simpa using sacc))
  have Hnext := Lib.hid (fun W (hb : Below w.heap.size w W) => toInt64SS_own vnext fnext W (keepsII _ _ _ _ hnext hb) snext.1 snext.2)
  have hw1 : Below w.heap.size w (((w.alloc (.cells #[.int .i64 fL, .int .i64 fS, vacc, vnext] 25)).alloc (.cells #[.int .i64 0, .int .i64 0, .slice none 0 0, .slice none 0 0] 32)).alloc (.cells #[.int .i64 fL, .int .i64 fS, .slice none 0 0, .slice none 0 0] 32)) := ((below_alloc _ _).alloc (by simp) _).alloc (by simp; omega) _
  have hrA : Row (((w.alloc (.cells #[.int .i64 fL, .int .i64 fS, vacc, vnext] 25)).alloc (.cells #[.int .i64 0, .int .i64 0, .slice none 0 0, .slice none 0 0] 32)).alloc (.cells #[.int .i64 fL, .int .i64 fS, .slice none 0 0, .slice none 0 0] 32)) w.heap.size 25 [.int .i64 fL, .int .i64 fS, vacc, vnext] := ((Row.new w _ _).alloc _).alloc _
  have hrB : Row (((w.alloc (.cells #[.int .i64 fL, .int .i64 fS, vacc, vnext] 25)).alloc (.cells #[.int .i64 0, .int .i64 0, .slice none 0 0, .slice none 0 0] 32)).alloc (.cells #[.int .i64 fL, .int .i64 fS, .slice none 0 0, .slice none 0 0] 32)) (w.heap.size + 1) 32 [.int .i64 0, .int .i64 0, .slice none 0 0, .slice none 0 0] := by
    have := (Row.new (w.alloc (.cells #[.int .i64 fL, .int .i64 fS, vacc, vnext] 25)) [.int .i64 0, .int .i64 0, .slice none 0 0, .slice none 0 0] 32).alloc (.cells #[.int .i64 fL, .int .i64 fS, .slice none 0 0, .slice none 0 0] 32)
    simpa using this
  have hrC : Row (((w.alloc (.cells #[.int .i64 fL, .int .i64 fS, vacc, vnext] 25)).alloc (.cells #[.int .i64 0, .int .i64 0, .slice none 0 0, .slice none 0 0] 32)).alloc (.cells #[.int .i64 fL, .int .i64 fS, .slice none 0 0, .slice none 0 0] 32)) (w.heap.size + 1 + 1) 32 [.int .i64 fL, .int .i64 fS, .slice none 0 0, .slice none 0 0] := by
    have := Row.new ((w.alloc (.cells #[.int .i64 fL, .int .i64 fS, vacc, vnext] 25)).alloc (.cells #[.int .i64 0, .int .i64 0, .slice none 0 0, .slice none 0 0] 32)) [.int .i64 fL, .int .i64 fS, .slice none 0 0, .slice none 0 0] 32
    simpa using this
  have hsz : (((w.alloc (.cells #[.int .i64 fL, .int .i64 fS, vacc, vnext] 25)).alloc (.cells #[.int .i64 0, .int .i64 0, .slice none 0 0, .slice none 0 0] 32)).alloc (.cells #[.int .i64 fL, .int .i64 fS, .slice none 0 0, .slice none 0 0] 32)).heap.size = w.heap.size + 3 := by simp
  go_enter Try.func12, Try.ntmps12
  clear hacc hnext
  go_wp2_with fail
  refine (Hacc.out _ hw1).mono ?_
  generalize ((w.alloc (.cells #[.int .i64 fL, .int .i64 fS, vacc, vnext] 25)).alloc (.cells #[.int .i64 0, .int .i64 0, .slice none 0 0, .slice none 0 0] 32)).alloc (.cells #[.int .i64 fL, .int .i64 fS, .slice none 0 0, .slice none 0 0] 32) = W0 at *
  rintro e w1 ⟨uacc, bacc, rfl, huacc, hb⟩
  obtain ⟨Aacc, kacc, rfl⟩ := owB_shape huacc
  have rA := hrA.below hb hrA.lt
  have rB := hrB.below hb hrB.lt
  have rC := hrC.below hb hrC.lt
  have hnd := (goodV bools 4).nodup huacc
  have ND := Lib.hid hnd
  clear hnd
  have hw2 := hw1.trans (hb.mono hw1.size)
  have hsz2 : w.heap.size + 3 ≤ W0.heap.size := by first | omega | exact hsz
  have oM : OwV bools 4 w1 (w.heap.size + 3) (.slice Aacc facc.length kacc) facc bacc := (goodV bools 4).mono huacc hsz2
  have hsz3 := Nat.le_trans hsz2 hb.size
  have H1 := Lib.hid (show _ ∧ _ ∧ _ ∧ _ ∧ _ from ⟨rA, rB, rC, hw2, oM⟩)
  obtain ⟨⟨ca0, ca1, ca2, ca3⟩, -⟩ := rA.four
  obtain ⟨⟨cc0, cc1, cc2, cc3⟩, fc⟩ := rC.four
  have hl1 := rC.lt
  clear rA rB rC hrA hrB hrC hw1 hb huacc hsz hsz2 hw2 oM 
  go_wp2_with fail
  obtain ⟨rA, rB, rC, hw1, oacc⟩ := H1.out
  have hrA := (rA.other (a := ⟨w.heap.size + 1 + 1, 2, none⟩) (by show w.heap.size + 1 + 1 ≠ _; omega) (.slice Aacc facc.length kacc))
  have hrB := (rB.other (a := ⟨w.heap.size + 1 + 1, 2, none⟩) (by show w.heap.size + 1 + 1 ≠ _; omega) (.slice Aacc facc.length kacc))
  have hrC := (rC.stored 2 (.slice Aacc facc.length kacc))
  have hw1 := (hw1.setCell (p := ⟨w.heap.size + 1 + 1, 2, none⟩) (by show w.heap.size ≤ _ + 1 + 1; omega) (.slice Aacc facc.length kacc))
  have oacc := ((goodV bools 4).under (a := ⟨w.heap.size + 1 + 1, 2, none⟩) oacc (by show w.heap.size + 1 + 1 < _; omega) (.slice Aacc facc.length kacc))
  have hsz : w.heap.size + 3 ≤ ((w1).setCell ⟨w.heap.size + 1 + 1, 2, none⟩ (.slice Aacc facc.length kacc)).heap.size := by simpa using hsz3
  clear rA rB rC H1 hsz3 hl1 ca0 ca1 ca2 ca3 cc0 cc1 cc2 cc3 fc
  refine (Hnext.out _ hw1).mono ?_
  generalize (w1).setCell ⟨w.heap.size + 1 + 1, 2, none⟩ (.slice Aacc facc.length kacc) = W0 at *
  rintro e w2 ⟨unext, bnext, rfl, hunext, hb⟩
  obtain ⟨Anext, knext, rfl⟩ := OwL.shape hunext
  have rA := hrA.below hb hrA.lt
  have rB := hrB.below hb hrB.lt
  have rC := hrC.below hb hrC.lt
  have oNacc := (goodV bools 4).below oacc hb
  have ltp : ∀ x ∈ bacc, x < W0.heap.size := by
    intro x hx
    exact ((goodV bools 4).lt oacc hx).2
  have hnd := nodup_two ND.out ((goodL (goodV ints 2) 48).nodup hunext) ltp (fun x hx => ((goodL (goodV ints 2) 48).lt hunext hx).1)
  clear ltp ND
  have ND := Lib.hid hnd
  clear hnd
  have hw2 := hw1.trans (hb.mono hw1.size)
  have hsz2 : w.heap.size + 3 ≤ W0.heap.size := by first | omega | exact hsz
  have oM : OwL (OwV ints 2) 48 w2 (w.heap.size + 3) (.slice Anext fnext.length knext) fnext bnext := (goodL (goodV ints 2) 48).mono hunext hsz2
  have hsz3 := Nat.le_trans hsz2 hb.size
  have H1 := Lib.hid (show _ ∧ _ ∧ _ ∧ _ ∧ _ ∧ _ from ⟨rA, rB, rC, hw2, oM, oNacc⟩)
  obtain ⟨⟨ca0, ca1, ca2, ca3⟩, -⟩ := rA.four
  obtain ⟨⟨cc0, cc1, cc2, cc3⟩, fc⟩ := rC.four
  obtain ⟨⟨cb0, cb1, cb2, cb3⟩, fb⟩ := rB.four
  have hl1 := rC.lt
  clear rA rB rC hrA hrB hrC hw1 hb hunext hsz hsz2 hw2 oM oNacc oacc
  go_wp2
  obtain ⟨rA, rB, rC, hw1, onext, oacc⟩ := H1.out
  clear ca0 ca1 ca2 ca3 cc0 cc1 cc2 cc3 fc cb0 cb1 cb2 cb3 fb H1
  have rF := (((((rB.other (a := ⟨w.heap.size + 1 + 1, 3, none⟩) (by show w.heap.size + 1 + 1 ≠ _; omega) (.slice Anext fnext.length knext)).stored 0 (.int .i64 fL)).stored 1 (.int .i64 fS)).stored 2 (.slice Aacc facc.length kacc)).stored 3 (.slice Anext fnext.length knext))
  have eacc := ((goodV bools 4).under (a := ⟨w.heap.size + 1, 3, none⟩) ((goodV bools 4).under (a := ⟨w.heap.size + 1, 2, none⟩) ((goodV bools 4).under (a := ⟨w.heap.size + 1, 1, none⟩) ((goodV bools 4).under (a := ⟨w.heap.size + 1, 0, none⟩) ((goodV bools 4).under (a := ⟨w.heap.size + 1 + 1, 3, none⟩) oacc (by show w.heap.size + 1 + 1 < _; omega) (.slice Anext fnext.length knext)) (by show w.heap.size + 1 < _; omega) (.int .i64 fL)) (by show w.heap.size + 1 < _; omega) (.int .i64 fS)) (by show w.heap.size + 1 < _; omega) (.slice Aacc facc.length kacc)) (by show w.heap.size + 1 < _; omega) (.slice Anext fnext.length knext))
  have enext := ((goodL (goodV ints 2) 48).under (a := ⟨w.heap.size + 1, 3, none⟩) ((goodL (goodV ints 2) 48).under (a := ⟨w.heap.size + 1, 2, none⟩) ((goodL (goodV ints 2) 48).under (a := ⟨w.heap.size + 1, 1, none⟩) ((goodL (goodV ints 2) 48).under (a := ⟨w.heap.size + 1, 0, none⟩) ((goodL (goodV ints 2) 48).under (a := ⟨w.heap.size + 1 + 1, 3, none⟩) onext (by show w.heap.size + 1 + 1 < _; omega) (.slice Anext fnext.length knext)) (by show w.heap.size + 1 < _; omega) (.int .i64 fL)) (by show w.heap.size + 1 < _; omega) (.int .i64 fS)) (by show w.heap.size + 1 < _; omega) (.slice Aacc facc.length kacc)) (by show w.heap.size + 1 < _; omega) (.slice Anext fnext.length knext))
  have eB := (((((hw1.setCell (p := ⟨w.heap.size + 1 + 1, 3, none⟩) (by show w.heap.size ≤ w.heap.size + 1 + 1; omega) (.slice Anext fnext.length knext)).setCell (p := ⟨w.heap.size + 1, 0, none⟩) (by show w.heap.size ≤ w.heap.size + 1; omega) (.int .i64 fL)).setCell (p := ⟨w.heap.size + 1, 1, none⟩) (by show w.heap.size ≤ w.heap.size + 1; omega) (.int .i64 fS)).setCell (p := ⟨w.heap.size + 1, 2, none⟩) (by show w.heap.size ≤ w.heap.size + 1; omega) (.slice Aacc facc.length kacc)).setCell (p := ⟨w.heap.size + 1, 3, none⟩) (by show w.heap.size ≤ w.heap.size + 1; omega) (.slice Anext fnext.length knext))
  have hnd := ND.out
  clear rA rB rC hw1 ND oacc onext
  generalize (((((w2).setCell ⟨w.heap.size + 1 + 1, 3, none⟩ (.slice Anext fnext.length knext)).setCell ⟨w.heap.size + 1, 0, none⟩ (.int .i64 fL)).setCell ⟨w.heap.size + 1, 1, none⟩ (.int .i64 fS)).setCell ⟨w.heap.size + 1, 2, none⟩ (.slice Aacc facc.length kacc)).setCell ⟨w.heap.size + 1, 3, none⟩ (.slice Anext fnext.length knext) = W2 at *
  obtain ⟨⟨q0, q1, q2, q3⟩, -⟩ := Row.four rF
  refine bodyPost_ret (v := .agg #[.int .i64 fL, .int .i64 fS, .slice Aacc facc.length kacc, .slice Anext fnext.length knext]) (by simp [results, Try.results12, go_sem, q0, q1, q2, q3]) rfl ⟨_, bacc ++ bnext, rfl, ?_, eB⟩
  exact ⟨_, _, _, _, rfl, (goodV bools 4).mono eacc (by omega), (goodL (goodV ints 2) 48).mono enext (by omega), rfl, hnd⟩

end Go.Proofs.Ytfkicedhjipfmaa
