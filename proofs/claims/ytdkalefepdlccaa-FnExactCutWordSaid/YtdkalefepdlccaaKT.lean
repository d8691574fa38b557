/-
  Turner: what it reads as, its copies, sizes and comparisons.
-/
import Derived.Test.YtdkalefepdlccaaQQMove
namespace Go.Proofs.Ytdkalefepdlccaa
open Go.RowKit

/-- What a Turner reads as. -/
structure TData where
  L : Int
  S : Int
  mv : List (List (Int × Int))

def RdT (w : World) (v : Value) (r : TData) : Prop := ∃ vmv, v = .agg #[.int .i64 r.L, .int .i64 r.S, vmv] ∧ RdPP w vmv r.mv
theorem keepsT : Keeps RdT := fun _ _ _ _ ⟨vmv, hv, hmv⟩ hb => ⟨vmv, hv, keepsPP _ _ _ _ hmv hb⟩
def OwT (w : World) (lo : Nat) (v : Value) (r : TData) (bs : List Nat) : Prop := ∃ vmv bmv, v = .agg #[.int .i64 r.L, .int .i64 r.S, vmv] ∧ OwL (OwP 96) 132 w lo vmv r.mv bmv ∧ bs = bmv ∧ bs.Nodup
theorem OwT.rd {w : World} {lo : Nat} {v : Value} {r : TData} {bs : List Nat} (h : OwT w lo v r bs) : RdT w v r := by
  obtain ⟨vmv, bmv, hv, hmv, hbs, hnd⟩ := h
  exact ⟨_, hv, OwL.rd (fun h => h.rd) hmv⟩
theorem RdT.shape {w : World} {v : Value} {r : TData} (h : RdT w v r) : ∃ A0 k0, v = .agg #[.int .i64 r.L, .int .i64 r.S, .slice A0 r.mv.length k0] := by
  obtain ⟨vmv, hv, hmv⟩ := h
  obtain ⟨A0, k0, rfl⟩ := RdL.shape hmv
  exact ⟨A0, k0, hv⟩

/-- What an argument of this kind is bounded by. -/
def TSmall (r : TData) : Prop := (24 * r.mv.length ≤ 281474976710656 ∧ ∀ x ∈ r.mv, 16 * x.length ≤ 281474976710656)

set_option maxHeartbeats 800000 in
theorem szT_any (v : Value) (r : TData) (left : Int) (w : World) (h : RdT w v r) :
    Calls Try.prog 15 #[v, .int .i64 left] w fun e w' => (∃ n, e = .returned (.int .i64 n)) ∧ Below w.heap.size w w' := by
  obtain ⟨vmv, hv, hmv⟩ := h
  subst hv
  have Hmv := Lib.hid (fun o l => szMoveSS_any vmv r.mv l (w.alloc o) (keepsPP _ _ _ _ hmv (below_alloc _ _)))
  clear hmv
  go_enter Try.func15, Try.ntmps15
  go_wp2_with (first | (go_at_call 59; (with_reducible refine (Hmv.out _ _).mono ?_); rintro e w' ⟨⟨m, rfl⟩, rfl⟩))
  all_goals go_ret
  all_goals exact ⟨⟨_, rfl⟩, below_alloc _ _⟩


set_option maxHeartbeats 800000 in
theorem eqT_same (v u : Value) (r : TData) (w : World) (h : RdT w v r) (k : RdT w u r) :
    Calls Try.prog 20 #[v, u] w fun e w' => e = .returned (.bool true) ∧ Below w.heap.size w w' := by
  obtain ⟨vmv, hv, hmv⟩ := h
  subst hv
  obtain ⟨umv, hu, kmv⟩ := k
  subst hu
  have eL : (r.L != r.L) = false := by simp
  have eS : (r.S != r.S) = false := by simp
  have emv : decide (r.mv = r.mv) = true := by simp
  have Hmv := Lib.hid (fun W (hb : Below w.heap.size w W) => eqMoveSS_any vmv umv r.mv r.mv W (keepsPP _ _ _ _ hmv hb) (keepsPP _ _ _ _ kmv hb))
  have HB := Lib.hid (fun o o' m => below_drewN (((below_alloc w o).alloc (by simp) o')) m)
  clear hmv kmv
  go_enter Try.func20, Try.ntmps20
  go_wp2_with (first | (go_at_call 66; refine (Hmv.out _ (HB.out _ _ 0)).mono ?_; rintro e w' ⟨rfl, hbb⟩))
  all_goals go_ret
  all_goals exact ⟨rfl, below_step (HB.out _ _ 0) hbb⟩


set_option maxHeartbeats 1600000 in
theorem toT_own (v : Value) (r : TData) (w : World) (h : RdT w v r) (hs : TSmall r) :
    Calls Try.prog 17 #[v] w fun e w' => ∃ u bs, e = .returned u ∧ OwT w' w.heap.size u r bs ∧ Below w.heap.size w w' := by
  obtain ⟨fL, fS, fmv⟩ := r
  obtain ⟨vmv, hv, hmv⟩ := h
  subst hv
  have smv := hs
  have Hmv := Lib.hid (fun W (hb : Below w.heap.size w W) => toMoveSS_own vmv fmv W (keepsPP _ _ _ _ hmv hb) smv.1 smv.2)
  have hw1 : Below w.heap.size w (((w.alloc (.cells #[.int .i64 fL, .int .i64 fS, vmv] 24)).alloc (.cells #[.int .i64 0, .int .i64 0, .slice none 0 0] 31)).alloc (.cells #[.int .i64 fL, .int .i64 fS, .slice none 0 0] 31)) := ((below_alloc _ _).alloc (by simp) _).alloc (by simp; omega) _
  have hrA : Row (((w.alloc (.cells #[.int .i64 fL, .int .i64 fS, vmv] 24)).alloc (.cells #[.int .i64 0, .int .i64 0, .slice none 0 0] 31)).alloc (.cells #[.int .i64 fL, .int .i64 fS, .slice none 0 0] 31)) w.heap.size 24 [.int .i64 fL, .int .i64 fS, vmv] := ((Row.new w _ _).alloc _).alloc _
  have hrB : Row (((w.alloc (.cells #[.int .i64 fL, .int .i64 fS, vmv] 24)).alloc (.cells #[.int .i64 0, .int .i64 0, .slice none 0 0] 31)).alloc (.cells #[.int .i64 fL, .int .i64 fS, .slice none 0 0] 31)) (w.heap.size + 1) 31 [.int .i64 0, .int .i64 0, .slice none 0 0] := by
    have := (Row.new (w.alloc (.cells #[.int .i64 fL, .int .i64 fS, vmv] 24)) [.int .i64 0, .int .i64 0, .slice none 0 0] 31).alloc (.cells #[.int .i64 fL, .int .i64 fS, .slice none 0 0] 31)
    simpa using this
  have hrC : Row (((w.alloc (.cells #[.int .i64 fL, .int .i64 fS, vmv] 24)).alloc (.cells #[.int .i64 0, .int .i64 0, .slice none 0 0] 31)).alloc (.cells #[.int .i64 fL, .int .i64 fS, .slice none 0 0] 31)) (w.heap.size + 1 + 1) 31 [.int .i64 fL, .int .i64 fS, .slice none 0 0] := by
    have := Row.new ((w.alloc (.cells #[.int .i64 fL, .int .i64 fS, vmv] 24)).alloc (.cells #[.int .i64 0, .int .i64 0, .slice none 0 0] 31)) [.int .i64 fL, .int .i64 fS, .slice none 0 0] 31
    simpa using this
  have hsz : (((w.alloc (.cells #[.int .i64 fL, .int .i64 fS, vmv] 24)).alloc (.cells #[.int .i64 0, .int .i64 0, .slice none 0 0] 31)).alloc (.cells #[.int .i64 fL, .int .i64 fS, .slice none 0 0] 31)).heap.size = w.heap.size + 3 := by simp
  go_enter Try.func17, Try.ntmps17
  clear hmv
  go_wp2_with fail
  refine (Hmv.out _ hw1).mono ?_
  generalize ((w.alloc (.cells #[.int .i64 fL, .int .i64 fS, vmv] 24)).alloc (.cells #[.int .i64 0, .int .i64 0, .slice none 0 0] 31)).alloc (.cells #[.int .i64 fL, .int .i64 fS, .slice none 0 0] 31) = W0 at *
  rintro e w1 ⟨umv, bmv, rfl, humv, hb⟩
  obtain ⟨Amv, kmv, rfl⟩ := OwL.shape humv
  have rA := hrA.below hb hrA.lt
  have rB := hrB.below hb hrB.lt
  have rC := hrC.below hb hrC.lt
  have hnd := (goodL (goodP 96) 132).nodup humv
  have ND := Lib.hid hnd
  clear hnd
  have hw2 := hw1.trans (hb.mono hw1.size)
  have hsz2 : w.heap.size + 3 ≤ W0.heap.size := by first | omega | exact hsz
  have oM : OwL (OwP 96) 132 w1 (w.heap.size + 3) (.slice Amv fmv.length kmv) fmv bmv := (goodL (goodP 96) 132).mono humv hsz2
  have hsz3 := Nat.le_trans hsz2 hb.size
  have H1 := Lib.hid (show _ ∧ _ ∧ _ ∧ _ ∧ _ from ⟨rA, rB, rC, hw2, oM⟩)
  obtain ⟨⟨ca0, ca1, ca2⟩, -⟩ := rA.three
  obtain ⟨⟨cc0, cc1, cc2⟩, fc⟩ := rC.three
  obtain ⟨⟨cb0, cb1, cb2⟩, fb⟩ := rB.three
  have hl1 := rC.lt
  clear rA rB rC hrA hrB hrC hw1 hb humv hsz hsz2 hw2 oM 
  go_wp2
  obtain ⟨rA, rB, rC, hw1, omv⟩ := H1.out
  clear ca0 ca1 ca2 cc0 cc1 cc2 fc cb0 cb1 cb2 fb H1
  have rF := ((((rB.other (a := ⟨w.heap.size + 1 + 1, 2, none⟩) (by show w.heap.size + 1 + 1 ≠ _; omega) (.slice Amv fmv.length kmv)).stored 0 (.int .i64 fL)).stored 1 (.int .i64 fS)).stored 2 (.slice Amv fmv.length kmv))
  have emv := ((goodL (goodP 96) 132).under (a := ⟨w.heap.size + 1, 2, none⟩) ((goodL (goodP 96) 132).under (a := ⟨w.heap.size + 1, 1, none⟩) ((goodL (goodP 96) 132).under (a := ⟨w.heap.size + 1, 0, none⟩) ((goodL (goodP 96) 132).under (a := ⟨w.heap.size + 1 + 1, 2, none⟩) omv (by show w.heap.size + 1 + 1 < _; omega) (.slice Amv fmv.length kmv)) (by show w.heap.size + 1 < _; omega) (.int .i64 fL)) (by show w.heap.size + 1 < _; omega) (.int .i64 fS)) (by show w.heap.size + 1 < _; omega) (.slice Amv fmv.length kmv))
  have eB := ((((hw1.setCell (p := ⟨w.heap.size + 1 + 1, 2, none⟩) (by show w.heap.size ≤ w.heap.size + 1 + 1; omega) (.slice Amv fmv.length kmv)).setCell (p := ⟨w.heap.size + 1, 0, none⟩) (by show w.heap.size ≤ w.heap.size + 1; omega) (.int .i64 fL)).setCell (p := ⟨w.heap.size + 1, 1, none⟩) (by show w.heap.size ≤ w.heap.size + 1; omega) (.int .i64 fS)).setCell (p := ⟨w.heap.size + 1, 2, none⟩) (by show w.heap.size ≤ w.heap.size + 1; omega) (.slice Amv fmv.length kmv))
  have hnd := ND.out
  clear rA rB rC hw1 ND omv
  generalize ((((w1).setCell ⟨w.heap.size + 1 + 1, 2, none⟩ (.slice Amv fmv.length kmv)).setCell ⟨w.heap.size + 1, 0, none⟩ (.int .i64 fL)).setCell ⟨w.heap.size + 1, 1, none⟩ (.int .i64 fS)).setCell ⟨w.heap.size + 1, 2, none⟩ (.slice Amv fmv.length kmv) = W2 at *
  obtain ⟨⟨q0, q1, q2⟩, -⟩ := Row.three rF
  refine bodyPost_ret (v := .agg #[.int .i64 fL, .int .i64 fS, .slice Amv fmv.length kmv]) (by simp [results, Try.results17, go_sem, q0, q1, q2]) rfl ⟨_, bmv, rfl, ?_, eB⟩
  exact ⟨_, _, rfl, (goodL (goodP 96) 132).mono emv (by omega), rfl, hnd⟩

end Go.Proofs.Ytdkalefepdlccaa
