/-
  Table: what it reads as, its copies, sizes and comparisons.
-/
import Derived.Test.YtnpbfafcfghmcabQExit
namespace Go.Proofs.Ytnpbfafcfghmcab
open Go.RowKit

/-- What a Table reads as. -/
structure XData where
  fl : List (Int × Int)
  fr : List (Int × Int)

def RdX (w : World) (v : Value) (r : XData) : Prop := ∃ vfl vfr, v = .agg #[vfl, vfr] ∧ RdP w vfl r.fl ∧ RdP w vfr r.fr
theorem keepsX : Keeps RdX := fun _ _ _ _ ⟨vfl, vfr, hv, hfl, hfr⟩ hb => ⟨vfl, vfr, hv, keepsP _ _ _ _ hfl hb, keepsP _ _ _ _ hfr hb⟩
def OwX (w : World) (lo : Nat) (v : Value) (r : XData) (bs : List Nat) : Prop := ∃ vfl vfr bfl bfr, v = .agg #[vfl, vfr] ∧ OwP 47 w lo vfl r.fl bfl ∧ OwP 47 w lo vfr r.fr bfr ∧ bs = bfl ++ bfr ∧ bs.Nodup
theorem OwX.rd {w : World} {lo : Nat} {v : Value} {r : XData} {bs : List Nat} (h : OwX w lo v r bs) : RdX w v r := by
  obtain ⟨vfl, vfr, bfl, bfr, hv, hfl, hfr, hbs, hnd⟩ := h
  exact ⟨_, _, hv, hfl.rd, hfr.rd⟩
theorem RdX.shape {w : World} {v : Value} {r : XData} (h : RdX w v r) : ∃ A0 k0 A1 k1, v = .agg #[.slice A0 r.fl.length k0, .slice A1 r.fr.length k1] := by
  obtain ⟨vfl, vfr, hv, hfl, hfr⟩ := h
  obtain ⟨A0, k0, rfl⟩ := RdP.shape hfl
  obtain ⟨A1, k1, rfl⟩ := RdP.shape hfr
  exact ⟨A0, k0, A1, k1, hv⟩

/-- What an argument of this kind is bounded by. -/
def XSmall (r : XData) : Prop := (16 * r.fl.length ≤ 281474976710656) ∧ (16 * r.fr.length ≤ 281474976710656)

set_option maxHeartbeats 800000 in
theorem szX_any (v : Value) (r : XData) (left : Int) (w : World) (h : RdX w v r) :
    Calls Try.prog 7 #[v, .int .i64 left] w fun e w' => (∃ n, e = .returned (.int .i64 n)) ∧ Below w.heap.size w w' := by
  obtain ⟨vfl, vfr, hv, hfl, hfr⟩ := h
  subst hv
  have Hfl := Lib.hid (fun o l => szExitS_any vfl r.fl l (w.alloc o) (keepsP _ _ _ _ hfl (below_alloc _ _)))
  have Hfr := Lib.hid (fun o l => szExitS_any vfr r.fr l (w.alloc o) (keepsP _ _ _ _ hfr (below_alloc _ _)))
  clear hfl hfr
  go_enter Try.func7, Try.ntmps7
  go_wp2_with (first | (go_at_call 20; (with_reducible refine (Hfl.out _ _).mono ?_); rintro e w' ⟨⟨m, rfl⟩, rfl⟩) | (go_at_call 20; (with_reducible refine (Hfr.out _ _).mono ?_); rintro e w' ⟨⟨m, rfl⟩, rfl⟩))
  all_goals go_ret
  all_goals exact ⟨⟨_, rfl⟩, below_alloc _ _⟩


set_option maxHeartbeats 800000 in
theorem eqX_same (v u : Value) (r : XData) (w : World) (h : RdX w v r) (k : RdX w u r) :
    Calls Try.prog 11 #[v, u] w fun e w' => e = .returned (.bool true) ∧ Below w.heap.size w w' := by
  obtain ⟨vfl, vfr, hv, hfl, hfr⟩ := h
  subst hv
  obtain ⟨ufl, ufr, hu, kfl, kfr⟩ := k
  subst hu
  have efl : decide (r.fl = r.fl) = true := by simp
  have Hfl := Lib.hid (fun W (hb : Below w.heap.size w W) => eqExitS_any vfl ufl r.fl r.fl W (keepsP _ _ _ _ hfl hb) (keepsP _ _ _ _ kfl hb))
  have efr : decide (r.fr = r.fr) = true := by simp
  have Hfr := Lib.hid (fun W (hb : Below w.heap.size w W) => eqExitS_any vfr ufr r.fr r.fr W (keepsP _ _ _ _ hfr hb) (keepsP _ _ _ _ kfr hb))
  have HB := Lib.hid (fun o o' m => below_drewN (((below_alloc w o).alloc (by simp) o')) m)
  clear hfl hfr kfl kfr
  have HR1 := Lib.hid ((Row.new w [vfl, vfr] 29).alloc (.cells #[ufl, ufr] 29))
  have hr2 := Row.new (w.alloc (.cells #[vfl, vfr] 29)) [ufl, ufr] 29
  have HR2 := Lib.hid (show Row _ (w.heap.size + 1) _ _ by simpa using hr2)
  clear hr2
  go_enter Try.func11, Try.ntmps11
  go_wp2_with fail
  refine (Hfl.out _ (HB.out _ _ 0)).mono ?_
  rintro e w1 ⟨rfl, hbb⟩
  have HC := Lib.hid (below_step (HB.out _ _ 0) hbb)
  obtain ⟨⟨b0, b1⟩, -⟩ := (HR1.out.below hbb HR1.out.lt).two
  obtain ⟨⟨c0, c1⟩, -⟩ := (HR2.out.below hbb HR2.out.lt).two
  clear hbb
  go_wp2_with fail
  refine (Hfr.out _ HC.out).mono ?_
  rintro e w2 ⟨rfl, hbb⟩
  have HD := Lib.hid (below_step HC.out hbb)
  clear hbb
  go_wp2
  go_ret
  exact ⟨rfl, HD.out⟩


set_option maxHeartbeats 1600000 in
theorem toX_own (v : Value) (r : XData) (w : World) (h : RdX w v r) (hs : XSmall r) :
    Calls Try.prog 9 #[v] w fun e w' => ∃ u bs, e = .returned u ∧ OwX w' w.heap.size u r bs ∧ Below w.heap.size w w' := by
  obtain ⟨ffl, ffr⟩ := r
  obtain ⟨vfl, vfr, hv, hfl, hfr⟩ := h
  subst hv
  obtain ⟨sfl, sfr⟩ := hs
  have Hfl := Lib.hid (fun W (hb : Below w.heap.size w W) => toExitS_own vfl ffl W (keepsP _ _ _ _ hfl hb) sfl)
  have Hfr := Lib.hid (fun W (hb : Below w.heap.size w W) => toExitS_own vfr ffr W (keepsP _ _ _ _ hfr hb) sfr)
  have hw1 : Below w.heap.size w (((w.alloc (.cells #[vfl, vfr] 24)).alloc (.cells #[.slice none 0 0, .slice none 0 0] 29)).alloc (.cells #[.slice none 0 0, .slice none 0 0] 29)) := ((below_alloc _ _).alloc (by simp) _).alloc (by simp; omega) _
  have hrA : Row (((w.alloc (.cells #[vfl, vfr] 24)).alloc (.cells #[.slice none 0 0, .slice none 0 0] 29)).alloc (.cells #[.slice none 0 0, .slice none 0 0] 29)) w.heap.size 24 [vfl, vfr] := ((Row.new w _ _).alloc _).alloc _
  have hrB : Row (((w.alloc (.cells #[vfl, vfr] 24)).alloc (.cells #[.slice none 0 0, .slice none 0 0] 29)).alloc (.cells #[.slice none 0 0, .slice none 0 0] 29)) (w.heap.size + 1) 29 [.slice none 0 0, .slice none 0 0] := by
    have := (Row.new (w.alloc (.cells #[vfl, vfr] 24)) [.slice none 0 0, .slice none 0 0] 29).alloc (.cells #[.slice none 0 0, .slice none 0 0] 29)
    simpa using this
  have hrC : Row (((w.alloc (.cells #[vfl, vfr] 24)).alloc (.cells #[.slice none 0 0, .slice none 0 0] 29)).alloc (.cells #[.slice none 0 0, .slice none 0 0] 29)) (w.heap.size + 1 + 1) 29 [.slice none 0 0, .slice none 0 0] := by
    have := Row.new ((w.alloc (.cells #[vfl, vfr] 24)).alloc (.cells #[.slice none 0 0, .slice none 0 0] 29)) [.slice none 0 0, .slice none 0 0] 29
    simpa using this
  have hsz : (((w.alloc (.cells #[vfl, vfr] 24)).alloc (.cells #[.slice none 0 0, .slice none 0 0] 29)).alloc (.cells #[.slice none 0 0, .slice none 0 0] 29)).heap.size = w.heap.size + 3 := by simp
  go_enter Try.func9, Try.ntmps9
  clear hfl hfr
  go_wp2_with fail
  refine (Hfl.out _ hw1).mono ?_
  generalize ((w.alloc (.cells #[vfl, vfr] 24)).alloc (.cells #[.slice none 0 0, .slice none 0 0] 29)).alloc (.cells #[.slice none 0 0, .slice none 0 0] 29) = W0 at *
  rintro e w1 ⟨ufl, bfl, rfl, hufl, hb⟩
  obtain ⟨Afl, kfl, rfl⟩ := owP_shape hufl
  have rA := hrA.below hb hrA.lt
  have rB := hrB.below hb hrB.lt
  have rC := hrC.below hb hrC.lt
  have hnd := (goodP 47).nodup hufl
  have ND := Lib.hid hnd
  clear hnd
  have hw2 := hw1.trans (hb.mono hw1.size)
  have hsz2 : w.heap.size + 3 ≤ W0.heap.size := by first | omega | exact hsz
  have oM : OwP 47 w1 (w.heap.size + 3) (.slice Afl ffl.length kfl) ffl bfl := (goodP 47).mono hufl hsz2
  have hsz3 := Nat.le_trans hsz2 hb.size
  have H1 := Lib.hid (show _ ∧ _ ∧ _ ∧ _ ∧ _ from ⟨rA, rB, rC, hw2, oM⟩)
  obtain ⟨⟨ca0, ca1⟩, -⟩ := rA.two
  obtain ⟨⟨cc0, cc1⟩, fc⟩ := rC.two
  have hl1 := rC.lt
  clear rA rB rC hrA hrB hrC hw1 hb hufl hsz hsz2 hw2 oM 
  go_wp2_with fail
  obtain ⟨rA, rB, rC, hw1, ofl⟩ := H1.out
  have hrA := (rA.other (a := ⟨w.heap.size + 1 + 1, 0, none⟩) (by show w.heap.size + 1 + 1 ≠ _; omega) (.slice Afl ffl.length kfl))
  have hrB := (rB.other (a := ⟨w.heap.size + 1 + 1, 0, none⟩) (by show w.heap.size + 1 + 1 ≠ _; omega) (.slice Afl ffl.length kfl))
  have hrC := (rC.stored 0 (.slice Afl ffl.length kfl))
  have hw1 := (hw1.setCell (p := ⟨w.heap.size + 1 + 1, 0, none⟩) (by show w.heap.size ≤ _ + 1 + 1; omega) (.slice Afl ffl.length kfl))
  have ofl := ((goodP 47).under (a := ⟨w.heap.size + 1 + 1, 0, none⟩) ofl (by show w.heap.size + 1 + 1 < _; omega) (.slice Afl ffl.length kfl))
  have hsz : w.heap.size + 3 ≤ ((w1).setCell ⟨w.heap.size + 1 + 1, 0, none⟩ (.slice Afl ffl.length kfl)).heap.size := by simpa using hsz3
  clear rA rB rC H1 hsz3 hl1 ca0 ca1 cc0 cc1 fc
  refine (Hfr.out _ hw1).mono ?_
  generalize (w1).setCell ⟨w.heap.size + 1 + 1, 0, none⟩ (.slice Afl ffl.length kfl) = W0 at *
  rintro e w2 ⟨ufr, bfr, rfl, hufr, hb⟩
  obtain ⟨Afr, kfr, rfl⟩ := owP_shape hufr
  have rA := hrA.below hb hrA.lt
  have rB := hrB.below hb hrB.lt
  have rC := hrC.below hb hrC.lt
  have oNfl := (goodP 47).below ofl hb
  have ltp : ∀ x ∈ bfl, x < W0.heap.size := by
    intro x hx
    exact ((goodP 47).lt ofl hx).2
  have hnd := nodup_two ND.out ((goodP 47).nodup hufr) ltp (fun x hx => ((goodP 47).lt hufr hx).1)
  clear ltp ND
  have ND := Lib.hid hnd
  clear hnd
  have hw2 := hw1.trans (hb.mono hw1.size)
  have hsz2 : w.heap.size + 3 ≤ W0.heap.size := by first | omega | exact hsz
  have oM : OwP 47 w2 (w.heap.size + 3) (.slice Afr ffr.length kfr) ffr bfr := (goodP 47).mono hufr hsz2
  have hsz3 := Nat.le_trans hsz2 hb.size
  have H1 := Lib.hid (show _ ∧ _ ∧ _ ∧ _ ∧ _ ∧ _ from ⟨rA, rB, rC, hw2, oM, oNfl⟩)
  obtain ⟨⟨ca0, ca1⟩, -⟩ := rA.two
  obtain ⟨⟨cc0, cc1⟩, fc⟩ := rC.two
  obtain ⟨⟨cb0, cb1⟩, fb⟩ := rB.two
  have hl1 := rC.lt
  clear rA rB rC hrA hrB hrC hw1 hb hufr hsz hsz2 hw2 oM oNfl ofl
  go_wp2
  obtain ⟨rA, rB, rC, hw1, ofr, ofl⟩ := H1.out
  clear ca0 ca1 cc0 cc1 fc cb0 cb1 fb H1
  have rF := (((rB.other (a := ⟨w.heap.size + 1 + 1, 1, none⟩) (by show w.heap.size + 1 + 1 ≠ _; omega) (.slice Afr ffr.length kfr)).stored 0 (.slice Afl ffl.length kfl)).stored 1 (.slice Afr ffr.length kfr))
  have efl := ((goodP 47).under (a := ⟨w.heap.size + 1, 1, none⟩) ((goodP 47).under (a := ⟨w.heap.size + 1, 0, none⟩) ((goodP 47).under (a := ⟨w.heap.size + 1 + 1, 1, none⟩) ofl (by show w.heap.size + 1 + 1 < _; omega) (.slice Afr ffr.length kfr)) (by show w.heap.size + 1 < _; omega) (.slice Afl ffl.length kfl)) (by show w.heap.size + 1 < _; omega) (.slice Afr ffr.length kfr))
  have efr := ((goodP 47).under (a := ⟨w.heap.size + 1, 1, none⟩) ((goodP 47).under (a := ⟨w.heap.size + 1, 0, none⟩) ((goodP 47).under (a := ⟨w.heap.size + 1 + 1, 1, none⟩) ofr (by show w.heap.size + 1 + 1 < _; omega) (.slice Afr ffr.length kfr)) (by show w.heap.size + 1 < _; omega) (.slice Afl ffl.length kfl)) (by show w.heap.size + 1 < _; omega) (.slice Afr ffr.length kfr))
  have eB := (((hw1.setCell (p := ⟨w.heap.size + 1 + 1, 1, none⟩) (by show w.heap.size ≤ w.heap.size + 1 + 1; omega) (.slice Afr ffr.length kfr)).setCell (p := ⟨w.heap.size + 1, 0, none⟩) (by show w.heap.size ≤ w.heap.size + 1; omega) (.slice Afl ffl.length kfl)).setCell (p := ⟨w.heap.size + 1, 1, none⟩) (by show w.heap.size ≤ w.heap.size + 1; omega) (.slice Afr ffr.length kfr))
  have hnd := ND.out
  clear rA rB rC hw1 ND ofl ofr
  generalize (((w2).setCell ⟨w.heap.size + 1 + 1, 1, none⟩ (.slice Afr ffr.length kfr)).setCell ⟨w.heap.size + 1, 0, none⟩ (.slice Afl ffl.length kfl)).setCell ⟨w.heap.size + 1, 1, none⟩ (.slice Afr ffr.length kfr) = W2 at *
  obtain ⟨⟨q0, q1⟩, -⟩ := Row.two rF
  refine bodyPost_ret (v := .agg #[.slice Afl ffl.length kfl, .slice Afr ffr.length kfr]) (by simp [results, Try.results9, go_sem, q0, q1]) rfl ⟨_, bfl ++ bfr, rfl, ?_, eB⟩
  exact ⟨_, _, _, _, rfl, (goodP 47).mono efl (by omega), (goodP 47).mono efr (by omega), rfl, hnd⟩

end Go.Proofs.Ytnpbfafcfghmcab
