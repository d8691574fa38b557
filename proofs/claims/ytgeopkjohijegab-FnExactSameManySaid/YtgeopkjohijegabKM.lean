/-
  Many: what it reads as, its copies, sizes and comparisons.
-/
import Derived.Test.YtgeopkjohijegabO2
namespace Go.Proofs.Ytgeopkjohijegab
open Go.RowKit

/-- What a Many reads as. -/
structure MData where
  L : Int
  st : List Int
  acc : List Bool
  next : List (List (List Int))

def RdM (w : World) (v : Value) (r : MData) : Prop := ∃ vst vacc vnext, v = .agg #[.int .i64 r.L, vst, vacc, vnext] ∧ RdI w vst r.st ∧ RdB w vacc r.acc ∧ RdIII w vnext r.next
theorem keepsM : Keeps RdM := fun _ _ _ _ ⟨vst, vacc, vnext, hv, hst, hacc, hnext⟩ hb => ⟨vst, vacc, vnext, hv, keepsI _ _ _ _ hst hb, keepsB _ _ _ _ hacc hb, keepsIII _ _ _ _ hnext hb⟩
def OwM (w : World) (lo : Nat) (v : Value) (r : MData) (bs : List Nat) : Prop := ∃ vst vacc vnext bst bacc bnext, v = .agg #[.int .i64 r.L, vst, vacc, vnext] ∧ OwV ints 2 w lo vst r.st bst ∧ OwV bools 4 w lo vacc r.acc bacc ∧ OwL (OwL (OwV ints 2) 45) 23 w lo vnext r.next bnext ∧ bs = bst ++ bacc ++ bnext ∧ bs.Nodup
theorem OwM.rd {w : World} {lo : Nat} {v : Value} {r : MData} {bs : List Nat} (h : OwM w lo v r bs) : RdM w v r := by
  obtain ⟨vst, vacc, vnext, bst, bacc, bnext, hv, hst, hacc, hnext, hbs, hnd⟩ := h
  exact ⟨_, _, _, hv, hst.1.rd, hacc.1.rd, OwL.rd (fun h => OwL.rd (fun h => h.1.rd) h) hnext⟩
theorem RdM.shape {w : World} {v : Value} {r : MData} (h : RdM w v r) : ∃ A0 k0 A1 k1 A2 k2, v = .agg #[.int .i64 r.L, .slice A0 r.st.length k0, .slice A1 r.acc.length k1, .slice A2 r.next.length k2] := by
  obtain ⟨vst, vacc, vnext, hv, hst, hacc, hnext⟩ := h
  obtain ⟨A0, k0, rfl⟩ := rdI_shape hst
  obtain ⟨A1, k1, rfl⟩ := rdB_shape hacc
  obtain ⟨A2, k2, rfl⟩ := RdL.shape hnext
  exact ⟨A0, k0, A1, k1, A2, k2, hv⟩

/-- What an argument of this kind is bounded by. -/
def MSmall (r : MData) : Prop := (8 * r.st.length ≤ 281474976710656) ∧ (r.acc.length ≤ 281474976710656) ∧ (24 * r.next.length ≤ 281474976710656 ∧ ∀ y ∈ r.next, 24 * y.length ≤ 281474976710656 ∧ ∀ x ∈ y, 8 * x.length ≤ 281474976710656)

set_option maxHeartbeats 800000 in
theorem szM_any (v : Value) (r : MData) (left : Int) (w : World) (h : RdM w v r) :
    Calls Try.prog 31 #[v, .int .i64 left] w fun e w' => (∃ n, e = .returned (.int .i64 n)) ∧ Below w.heap.size w w' := by
  obtain ⟨vst, vacc, vnext, hv, hst, hacc, hnext⟩ := h
  subst hv
  have Hst := Lib.hid (fun o l => szInt64S_any vst r.st l (w.alloc o) (keepsI _ _ _ _ hst (below_alloc _ _)))
  have Hacc := Lib.hid (fun o l => szBoolS_any vacc r.acc l (w.alloc o) (keepsB _ _ _ _ hacc (below_alloc _ _)))
  have Hnext := Lib.hid (fun o l => szInt64SSS_any vnext r.next l (w.alloc o) (keepsIII _ _ _ _ hnext (below_alloc _ _)))
  clear hst hacc hnext
  go_enter Try.func31, Try.ntmps31
  go_wp2_with (first | (go_at_call 72; (with_reducible refine (Hst.out _ _).mono ?_); rintro e w' ⟨⟨m, rfl⟩, rfl⟩) | (go_at_call 38; (with_reducible refine (Hacc.out _ _).mono ?_); rintro e w' ⟨⟨m, rfl⟩, rfl⟩) | (go_at_call 73; (with_reducible refine (Hnext.out _ _).mono ?_); rintro e w' ⟨⟨m, rfl⟩, rfl⟩))
  all_goals go_ret
  all_goals exact ⟨⟨_, rfl⟩, below_alloc _ _⟩


set_option maxHeartbeats 800000 in
theorem eqM_same (v u : Value) (r : MData) (w : World) (h : RdM w v r) (k : RdM w u r) :
    Calls Try.prog 35 #[v, u] w fun e w' => e = .returned (.bool true) ∧ Below w.heap.size w w' := by
  obtain ⟨vst, vacc, vnext, hv, hst, hacc, hnext⟩ := h
  subst hv
  obtain ⟨ust, uacc, unext, hu, kst, kacc, knext⟩ := k
  subst hu
  have eL : (r.L != r.L) = false := by simp
  have est : decide (r.st = r.st) = true := by simp
  have Hst := Lib.hid (fun W (hb : Below w.heap.size w W) => eqInt64S_any vst ust r.st r.st W (keepsI _ _ _ _ hst hb) (keepsI _ _ _ _ kst hb))
  have eacc : decide (r.acc = r.acc) = true := by simp
  have Hacc := Lib.hid (fun W (hb : Below w.heap.size w W) => eqBoolS_any vacc uacc r.acc r.acc W (keepsB _ _ _ _ hacc hb) (keepsB _ _ _ _ kacc hb))
  have enext : decide (r.next = r.next) = true := by simp
  have Hnext := Lib.hid (fun W (hb : Below w.heap.size w W) => eqInt64SSS_any vnext unext r.next r.next W (keepsIII _ _ _ _ hnext hb) (keepsIII _ _ _ _ knext hb))
  have HB := Lib.hid (fun o o' m => below_drewN (((below_alloc w o).alloc (by simp) o')) m)
  clear hst hacc hnext kst kacc knext
  go_enter Try.func35, Try.ntmps35
  go_wp2_with (first | (go_at_call 79; refine (Hst.out _ (HB.out _ _ 0)).mono ?_; rintro e w' ⟨rfl, m, rfl⟩) | (go_at_call 46; refine (Hacc.out _ (HB.out _ _ _)).mono ?_; rintro e w' ⟨rfl, m, rfl⟩) | (go_at_call 80; refine (Hnext.out _ (HB.out _ _ _)).mono ?_; rintro e w' ⟨rfl, m, rfl⟩))
  all_goals go_ret
  all_goals exact ⟨rfl, HB.out _ _ _⟩


set_option maxHeartbeats 1600000 in
theorem toM_own (v : Value) (r : MData) (w : World) (h : RdM w v r) (hs : MSmall r) :
    Calls Try.prog 33 #[v] w fun e w' => ∃ u bs, e = .returned u ∧ OwM w' w.heap.size u r bs ∧ Below w.heap.size w w' := by
  obtain ⟨fL, fst, facc, fnext⟩ := r
  obtain ⟨vst, vacc, vnext, hv, hst, hacc, hnext⟩ := h
  subst hv
  obtain ⟨sst, sacc, snext⟩ := hs
  have Hst := Lib.hid (fun W (hb : Below w.heap.size w W) => toInt64S_own vst fst W (keepsI _ _ _ _ hst hb) sst)
  have Hacc := Lib.hid (fun W (hb : Below w.heap.size w W) => toBoolS_own vacc facc W (keepsB _ _ _ _ hacc hb) (by simpa using sacc))
  have Hnext := Lib.hid (fun W (hb : Below w.heap.size w W) => toInt64SSS_own vnext fnext W (keepsIII _ _ _ _ hnext hb) snext.1 snext.2)
  have hw1 : Below w.heap.size w (((w.alloc (.cells #[.int .i64 fL, vst, vacc, vnext] 48)).alloc (.cells #[.int .i64 0, .slice none 0 0, .slice none 0 0, .slice none 0 0] 51)).alloc (.cells #[.int .i64 fL, .slice none 0 0, .slice none 0 0, .slice none 0 0] 51)) := ((below_alloc _ _).alloc (by simp) _).alloc (by simp; omega) _
  have hrA : Row (((w.alloc (.cells #[.int .i64 fL, vst, vacc, vnext] 48)).alloc (.cells #[.int .i64 0, .slice none 0 0, .slice none 0 0, .slice none 0 0] 51)).alloc (.cells #[.int .i64 fL, .slice none 0 0, .slice none 0 0, .slice none 0 0] 51)) w.heap.size 48 [.int .i64 fL, vst, vacc, vnext] := ((Row.new w _ _).alloc _).alloc _
  have hrB : Row (((w.alloc (.cells #[.int .i64 fL, vst, vacc, vnext] 48)).alloc (.cells #[.int .i64 0, .slice none 0 0, .slice none 0 0, .slice none 0 0] 51)).alloc (.cells #[.int .i64 fL, .slice none 0 0, .slice none 0 0, .slice none 0 0] 51)) (w.heap.size + 1) 51 [.int .i64 0, .slice none 0 0, .slice none 0 0, .slice none 0 0] := by
    have := (Row.new (w.alloc (.cells #[.int .i64 fL, vst, vacc, vnext] 48)) [.int .i64 0, .slice none 0 0, .slice none 0 0, .slice none 0 0] 51).alloc (.cells #[.int .i64 fL, .slice none 0 0, .slice none 0 0, .slice none 0 0] 51)
    simpa using this
  have hrC : Row (((w.alloc (.cells #[.int .i64 fL, vst, vacc, vnext] 48)).alloc (.cells #[.int .i64 0, .slice none 0 0, .slice none 0 0, .slice none 0 0] 51)).alloc (.cells #[.int .i64 fL, .slice none 0 0, .slice none 0 0, .slice none 0 0] 51)) (w.heap.size + 1 + 1) 51 [.int .i64 fL, .slice none 0 0, .slice none 0 0, .slice none 0 0] := by
    have := Row.new ((w.alloc (.cells #[.int .i64 fL, vst, vacc, vnext] 48)).alloc (.cells #[.int .i64 0, .slice none 0 0, .slice none 0 0, .slice none 0 0] 51)) [.int .i64 fL, .slice none 0 0, .slice none 0 0, .slice none 0 0] 51
    simpa using this
  have hsz : (((w.alloc (.cells #[.int .i64 fL, vst, vacc, vnext] 48)).alloc (.cells #[.int .i64 0, .slice none 0 0, .slice none 0 0, .slice none 0 0] 51)).alloc (.cells #[.int .i64 fL, .slice none 0 0, .slice none 0 0, .slice none 0 0] 51)).heap.size = w.heap.size + 3 := by simp
  go_enter Try.func33, Try.ntmps33
  clear hst hacc hnext
  go_wp2_with fail
  refine (Hst.out _ hw1).mono ?_
  generalize ((w.alloc (.cells #[.int .i64 fL, vst, vacc, vnext] 48)).alloc (.cells #[.int .i64 0, .slice none 0 0, .slice none 0 0, .slice none 0 0] 51)).alloc (.cells #[.int .i64 fL, .slice none 0 0, .slice none 0 0, .slice none 0 0] 51) = W0 at *
  rintro e w1 ⟨ust, bst, rfl, hust, hb⟩
  obtain ⟨Ast, kst, rfl⟩ := owI_shape hust
  have rA := hrA.below hb hrA.lt
  have rB := hrB.below hb hrB.lt
  have rC := hrC.below hb hrC.lt
  have hnd := (goodV ints 2).nodup hust
  have ND := Lib.hid hnd
  clear hnd
  have hw2 := hw1.trans (hb.mono hw1.size)
  have hsz2 : w.heap.size + 3 ≤ W0.heap.size := by first | omega | exact hsz
  have oM : OwV ints 2 w1 (w.heap.size + 3) (.slice Ast fst.length kst) fst bst := (goodV ints 2).mono hust hsz2
  have hsz3 := Nat.le_trans hsz2 hb.size
  have H1 := Lib.hid (show _ ∧ _ ∧ _ ∧ _ ∧ _ from ⟨rA, rB, rC, hw2, oM⟩)
  obtain ⟨⟨ca0, ca1, ca2, ca3⟩, -⟩ := rA.four
  obtain ⟨⟨cc0, cc1, cc2, cc3⟩, fc⟩ := rC.four
  have hl1 := rC.lt
  clear rA rB rC hrA hrB hrC hw1 hb hust hsz hsz2 hw2 oM 
  go_wp2_with fail
  obtain ⟨rA, rB, rC, hw1, ost⟩ := H1.out
  have hrA := (rA.other (a := ⟨w.heap.size + 1 + 1, 1, none⟩) (by show w.heap.size + 1 + 1 ≠ _; omega) (.slice Ast fst.length kst))
  have hrB := (rB.other (a := ⟨w.heap.size + 1 + 1, 1, none⟩) (by show w.heap.size + 1 + 1 ≠ _; omega) (.slice Ast fst.length kst))
  have hrC := (rC.stored 1 (.slice Ast fst.length kst))
  have hw1 := (hw1.setCell (p := ⟨w.heap.size + 1 + 1, 1, none⟩) (by show w.heap.size ≤ _ + 1 + 1; omega) (.slice Ast fst.length kst))
  have ost := ((goodV ints 2).under (a := ⟨w.heap.size + 1 + 1, 1, none⟩) ost (by show w.heap.size + 1 + 1 < _; omega) (.slice Ast fst.length kst))
  have hsz : w.heap.size + 3 ≤ ((w1).setCell ⟨w.heap.size + 1 + 1, 1, none⟩ (.slice Ast fst.length kst)).heap.size := by simpa using hsz3
  clear rA rB rC H1 hsz3 hl1 ca0 ca1 ca2 ca3 cc0 cc1 cc2 cc3 fc
  refine (Hacc.out _ hw1).mono ?_
  generalize (w1).setCell ⟨w.heap.size + 1 + 1, 1, none⟩ (.slice Ast fst.length kst) = W0 at *
  rintro e w2 ⟨uacc, bacc, rfl, huacc, hb⟩
  obtain ⟨Aacc, kacc, rfl⟩ := owB_shape huacc
  have rA := hrA.below hb hrA.lt
  have rB := hrB.below hb hrB.lt
  have rC := hrC.below hb hrC.lt
  have oNst := (goodV ints 2).below ost hb
  have ltp : ∀ x ∈ bst, x < W0.heap.size := by
    intro x hx
    exact ((goodV ints 2).lt ost hx).2
  have hnd := nodup_two ND.out ((goodV bools 4).nodup huacc) ltp (fun x hx => ((goodV bools 4).lt huacc hx).1)
  clear ltp ND
  have ND := Lib.hid hnd
  clear hnd
  have hw2 := hw1.trans (hb.mono hw1.size)
  have hsz2 : w.heap.size + 3 ≤ W0.heap.size := by first | omega | exact hsz
  have oM : OwV bools 4 w2 (w.heap.size + 3) (.slice Aacc facc.length kacc) facc bacc := (goodV bools 4).mono huacc hsz2
  have hsz3 := Nat.le_trans hsz2 hb.size
  have H1 := Lib.hid (show _ ∧ _ ∧ _ ∧ _ ∧ _ ∧ _ from ⟨rA, rB, rC, hw2, oM, oNst⟩)
  obtain ⟨⟨ca0, ca1, ca2, ca3⟩, -⟩ := rA.four
  obtain ⟨⟨cc0, cc1, cc2, cc3⟩, fc⟩ := rC.four
  have hl1 := rC.lt
  clear rA rB rC hrA hrB hrC hw1 hb huacc hsz hsz2 hw2 oM oNst ost
  go_wp2_with fail
  obtain ⟨rA, rB, rC, hw1, oacc, ost⟩ := H1.out
  have hrA := (rA.other (a := ⟨w.heap.size + 1 + 1, 2, none⟩) (by show w.heap.size + 1 + 1 ≠ _; omega) (.slice Aacc facc.length kacc))
  have hrB := (rB.other (a := ⟨w.heap.size + 1 + 1, 2, none⟩) (by show w.heap.size + 1 + 1 ≠ _; omega) (.slice Aacc facc.length kacc))
  have hrC := (rC.stored 2 (.slice Aacc facc.length kacc))
  have hw1 := (hw1.setCell (p := ⟨w.heap.size + 1 + 1, 2, none⟩) (by show w.heap.size ≤ _ + 1 + 1; omega) (.slice Aacc facc.length kacc))
  have ost := ((goodV ints 2).under (a := ⟨w.heap.size + 1 + 1, 2, none⟩) ost (by show w.heap.size + 1 + 1 < _; omega) (.slice Aacc facc.length kacc))
  have oacc := ((goodV bools 4).under (a := ⟨w.heap.size + 1 + 1, 2, none⟩) oacc (by show w.heap.size + 1 + 1 < _; omega) (.slice Aacc facc.length kacc))
  have hsz : w.heap.size + 3 ≤ ((w2).setCell ⟨w.heap.size + 1 + 1, 2, none⟩ (.slice Aacc facc.length kacc)).heap.size := by simpa using hsz3
  clear rA rB rC H1 hsz3 hl1 ca0 ca1 ca2 ca3 cc0 cc1 cc2 cc3 fc
  refine (Hnext.out _ hw1).mono ?_
  generalize (w2).setCell ⟨w.heap.size + 1 + 1, 2, none⟩ (.slice Aacc facc.length kacc) = W0 at *
  rintro e w3 ⟨unext, bnext, rfl, hunext, hb⟩
  obtain ⟨Anext, knext, rfl⟩ := OwL.shape hunext
  have rA := hrA.below hb hrA.lt
  have rB := hrB.below hb hrB.lt
  have rC := hrC.below hb hrC.lt
  have oNst := (goodV ints 2).below ost hb
  have oNacc := (goodV bools 4).below oacc hb
  have ltp : ∀ x ∈ bst ++ bacc, x < W0.heap.size := by
    intro x hx; simp only [List.mem_append] at hx
    rcases hx with (hx | hx) <;> first | exact ((goodV ints 2).lt ost hx).2 | exact ((goodV bools 4).lt oacc hx).2
  have hnd := nodup_two ND.out ((goodL (goodL (goodV ints 2) 45) 23).nodup hunext) ltp (fun x hx => ((goodL (goodL (goodV ints 2) 45) 23).lt hunext hx).1)
  clear ltp ND
  have ND := Lib.hid hnd
  clear hnd
  have hw2 := hw1.trans (hb.mono hw1.size)
  have hsz2 : w.heap.size + 3 ≤ W0.heap.size := by first | omega | exact hsz
  have oM : OwL (OwL (OwV ints 2) 45) 23 w3 (w.heap.size + 3) (.slice Anext fnext.length knext) fnext bnext := (goodL (goodL (goodV ints 2) 45) 23).mono hunext hsz2
  have hsz3 := Nat.le_trans hsz2 hb.size
  have H1 := Lib.hid (show _ ∧ _ ∧ _ ∧ _ ∧ _ ∧ _ ∧ _ from ⟨rA, rB, rC, hw2, oM, oNst, oNacc⟩)
  obtain ⟨⟨ca0, ca1, ca2, ca3⟩, -⟩ := rA.four
  obtain ⟨⟨cc0, cc1, cc2, cc3⟩, fc⟩ := rC.four
  obtain ⟨⟨cb0, cb1, cb2, cb3⟩, fb⟩ := rB.four
  have hl1 := rC.lt
  clear rA rB rC hrA hrB hrC hw1 hb hunext hsz hsz2 hw2 oM oNst ost oNacc oacc
  go_wp2
  obtain ⟨rA, rB, rC, hw1, onext, ost, oacc⟩ := H1.out
  clear ca0 ca1 ca2 ca3 cc0 cc1 cc2 cc3 fc cb0 cb1 cb2 cb3 fb H1
  have rF := (((((rB.other (a := ⟨w.heap.size + 1 + 1, 3, none⟩) (by show w.heap.size + 1 + 1 ≠ _; omega) (.slice Anext fnext.length knext)).stored 0 (.int .i64 fL)).stored 1 (.slice Ast fst.length kst)).stored 2 (.slice Aacc facc.length kacc)).stored 3 (.slice Anext fnext.length knext))
  have est := ((goodV ints 2).under (a := ⟨w.heap.size + 1, 3, none⟩) ((goodV ints 2).under (a := ⟨w.heap.size + 1, 2, none⟩) ((goodV ints 2).under (a := ⟨w.heap.size + 1, 1, none⟩) ((goodV ints 2).under (a := ⟨w.heap.size + 1, 0, none⟩) ((goodV ints 2).under (a := ⟨w.heap.size + 1 + 1, 3, none⟩) ost (by show w.heap.size + 1 + 1 < _; omega) (.slice Anext fnext.length knext)) (by show w.heap.size + 1 < _; omega) (.int .i64 fL)) (by show w.heap.size + 1 < _; omega) (.slice Ast fst.length kst)) (by show w.heap.size + 1 < _; omega) (.slice Aacc facc.length kacc)) (by show w.heap.size + 1 < _; omega) (.slice Anext fnext.length knext))
  have eacc := ((goodV bools 4).under (a := ⟨w.heap.size + 1, 3, none⟩) ((goodV bools 4).under (a := ⟨w.heap.size + 1, 2, none⟩) ((goodV bools 4).under (a := ⟨w.heap.size + 1, 1, none⟩) ((goodV bools 4).under (a := ⟨w.heap.size + 1, 0, none⟩) ((goodV bools 4).under (a := ⟨w.heap.size + 1 + 1, 3, none⟩) oacc (by show w.heap.size + 1 + 1 < _; omega) (.slice Anext fnext.length knext)) (by show w.heap.size + 1 < _; omega) (.int .i64 fL)) (by show w.heap.size + 1 < _; omega) (.slice Ast fst.length kst)) (by show w.heap.size + 1 < _; omega) (.slice Aacc facc.length kacc)) (by show w.heap.size + 1 < _; omega) (.slice Anext fnext.length knext))
  have enext := ((goodL (goodL (goodV ints 2) 45) 23).under (a := ⟨w.heap.size + 1, 3, none⟩) ((goodL (goodL (goodV ints 2) 45) 23).under (a := ⟨w.heap.size + 1, 2, none⟩) ((goodL (goodL (goodV ints 2) 45) 23).under (a := ⟨w.heap.size + 1, 1, none⟩) ((goodL (goodL (goodV ints 2) 45) 23).under (a := ⟨w.heap.size + 1, 0, none⟩) ((goodL (goodL (goodV ints 2) 45) 23).under (a := ⟨w.heap.size + 1 + 1, 3, none⟩) onext (by show w.heap.size + 1 + 1 < _; omega) (.slice Anext fnext.length knext)) (by show w.heap.size + 1 < _; omega) (.int .i64 fL)) (by show w.heap.size + 1 < _; omega) (.slice Ast fst.length kst)) (by show w.heap.size + 1 < _; omega) (.slice Aacc facc.length kacc)) (by show w.heap.size + 1 < _; omega) (.slice Anext fnext.length knext))
  have eB := (((((hw1.setCell (p := ⟨w.heap.size + 1 + 1, 3, none⟩) (by show w.heap.size ≤ w.heap.size + 1 + 1; omega) (.slice Anext fnext.length knext)).setCell (p := ⟨w.heap.size + 1, 0, none⟩) (by show w.heap.size ≤ w.heap.size + 1; omega) (.int .i64 fL)).setCell (p := ⟨w.heap.size + 1, 1, none⟩) (by show w.heap.size ≤ w.heap.size + 1; omega) (.slice Ast fst.length kst)).setCell (p := ⟨w.heap.size + 1, 2, none⟩) (by show w.heap.size ≤ w.heap.size + 1; omega) (.slice Aacc facc.length kacc)).setCell (p := ⟨w.heap.size + 1, 3, none⟩) (by show w.heap.size ≤ w.heap.size + 1; omega) (.slice Anext fnext.length knext))
  have hnd := ND.out
  clear rA rB rC hw1 ND ost oacc onext
  generalize (((((w3).setCell ⟨w.heap.size + 1 + 1, 3, none⟩ (.slice Anext fnext.length knext)).setCell ⟨w.heap.size + 1, 0, none⟩ (.int .i64 fL)).setCell ⟨w.heap.size + 1, 1, none⟩ (.slice Ast fst.length kst)).setCell ⟨w.heap.size + 1, 2, none⟩ (.slice Aacc facc.length kacc)).setCell ⟨w.heap.size + 1, 3, none⟩ (.slice Anext fnext.length knext) = W2 at *
  obtain ⟨⟨q0, q1, q2, q3⟩, -⟩ := Row.four rF
  refine bodyPost_ret (v := .agg #[.int .i64 fL, .slice Ast fst.length kst, .slice Aacc facc.length kacc, .slice Anext fnext.length knext]) (by simp [results, Try.results33, go_sem, q0, q1, q2, q3]) rfl ⟨_, bst ++ bacc ++ bnext, rfl, ?_, eB⟩
  exact ⟨_, _, _, _, _, _, rfl, (goodV ints 2).mono est (by omega), (goodV bools 4).mono eacc (by omega), (goodL (goodL (goodV ints 2) 45) 23).mono enext (by omega), rfl, hnd⟩

end Go.Proofs.Ytgeopkjohijegab
