/-
  Wanderer: what it reads as, its copies, sizes and comparisons.
-/
import Derived.Test.YtdkalefepdlccaaQQQMove
namespace Go.Proofs.Ytdkalefepdlccaa
open Go.RowKit

/-- What a Wanderer reads as. -/
structure WData where
  L : Int
  st : List Int
  mv : List (List (List (Int × Int)))

def RdW (w : World) (v : Value) (r : WData) : Prop := ∃ vst vmv, v = .agg #[.int .i64 r.L, vst, vmv] ∧ RdI w vst r.st ∧ RdPPP w vmv r.mv
theorem keepsW : Keeps RdW := fun _ _ _ _ ⟨vst, vmv, hv, hst, hmv⟩ hb => ⟨vst, vmv, hv, keepsI _ _ _ _ hst hb, keepsPPP _ _ _ _ hmv hb⟩
def OwW (w : World) (lo : Nat) (v : Value) (r : WData) (bs : List Nat) : Prop := ∃ vst vmv bst bmv, v = .agg #[.int .i64 r.L, vst, vmv] ∧ OwV ints 2 w lo vst r.st bst ∧ OwL (OwL (OwP 96) 132) 29 w lo vmv r.mv bmv ∧ bs = bst ++ bmv ∧ bs.Nodup
theorem OwW.rd {w : World} {lo : Nat} {v : Value} {r : WData} {bs : List Nat} (h : OwW w lo v r bs) : RdW w v r := by
  obtain ⟨vst, vmv, bst, bmv, hv, hst, hmv, hbs, hnd⟩ := h
  exact ⟨_, _, hv, hst.1.rd, OwL.rd (fun h => OwL.rd (fun h => h.rd) h) hmv⟩
theorem RdW.shape {w : World} {v : Value} {r : WData} (h : RdW w v r) : ∃ A0 k0 A1 k1, v = .agg #[.int .i64 r.L, .slice A0 r.st.length k0, .slice A1 r.mv.length k1] := by
  obtain ⟨vst, vmv, hv, hst, hmv⟩ := h
  obtain ⟨A0, k0, rfl⟩ := rdI_shape hst
  obtain ⟨A1, k1, rfl⟩ := RdL.shape hmv
  exact ⟨A0, k0, A1, k1, hv⟩

/-- What an argument of this kind is bounded by. -/
def WSmall (r : WData) : Prop := (8 * r.st.length ≤ 281474976710656) ∧ (24 * r.mv.length ≤ 281474976710656 ∧ ∀ y ∈ r.mv, 24 * y.length ≤ 281474976710656 ∧ ∀ x ∈ y, 16 * x.length ≤ 281474976710656)

set_option maxHeartbeats 800000 in
theorem szW_any (v : Value) (r : WData) (left : Int) (w : World) (h : RdW w v r) :
    Calls Try.prog 48 #[v, .int .i64 left] w fun e w' => (∃ n, e = .returned (.int .i64 n)) ∧ Below w.heap.size w w' := by
  obtain ⟨vst, vmv, hv, hst, hmv⟩ := h
  subst hv
  have Hst := Lib.hid (fun o l => szInt64S_any vst r.st l (w.alloc o) (keepsI _ _ _ _ hst (below_alloc _ _)))
  have Hmv := Lib.hid (fun o l => szMoveSSS_any vmv r.mv l (w.alloc o) (keepsPPP _ _ _ _ hmv (below_alloc _ _)))
  clear hst hmv
  go_enter Try.func48, Try.ntmps48
  go_wp2_with (first | (go_at_call 80; (with_reducible refine (Hst.out _ _).mono ?_); rintro e w' ⟨⟨m, rfl⟩, rfl⟩) | (go_at_call 81; (with_reducible refine (Hmv.out _ _).mono ?_); rintro e w' ⟨⟨m, rfl⟩, rfl⟩))
  all_goals go_ret
  all_goals exact ⟨⟨_, rfl⟩, below_alloc _ _⟩


set_option maxHeartbeats 800000 in
theorem eqW_same (v u : Value) (r : WData) (w : World) (h : RdW w v r) (k : RdW w u r) :
    Calls Try.prog 53 #[v, u] w fun e w' => e = .returned (.bool true) ∧ Below w.heap.size w w' := by
  obtain ⟨vst, vmv, hv, hst, hmv⟩ := h
  subst hv
  obtain ⟨ust, umv, hu, kst, kmv⟩ := k
  subst hu
  have eL : (r.L != r.L) = false := by simp
  have est : decide (r.st = r.st) = true := by simp
  have Hst := Lib.hid (fun W (hb : Below w.heap.size w W) => eqInt64S_any vst ust r.st r.st W (keepsI _ _ _ _ hst hb) (keepsI _ _ _ _ kst hb))
  have emv : decide (r.mv = r.mv) = true := by simp
  have Hmv := Lib.hid (fun W (hb : Below w.heap.size w W) => eqMoveSSS_any vmv umv r.mv r.mv W (keepsPPP _ _ _ _ hmv hb) (keepsPPP _ _ _ _ kmv hb))
  have HB := Lib.hid (fun o o' m => below_drewN (((below_alloc w o).alloc (by simp) o')) m)
  clear hst hmv kst kmv
  go_enter Try.func53, Try.ntmps53
  go_wp2_with (first | (go_at_call 30; refine (Hst.out _ (HB.out _ _ 0)).mono ?_; rintro e w' ⟨rfl, m, rfl⟩) | (go_at_call 91; refine (Hmv.out _ (HB.out _ _ _)).mono ?_; rintro e w' ⟨rfl, hbb⟩))
  all_goals go_ret
  all_goals exact ⟨rfl, below_step (HB.out _ _ _) hbb⟩


set_option maxHeartbeats 1600000 in
theorem toW_own (v : Value) (r : WData) (w : World) (h : RdW w v r) (hs : WSmall r) :
    Calls Try.prog 50 #[v] w fun e w' => ∃ u bs, e = .returned u ∧ OwW w' w.heap.size u r bs ∧ Below w.heap.size w w' := by
  obtain ⟨fL, fst, fmv⟩ := r
  obtain ⟨vst, vmv, hv, hst, hmv⟩ := h
  subst hv
  obtain ⟨sst, smv⟩ := hs
  have Hst := Lib.hid (fun W (hb : Below w.heap.size w W) => toInt64S_own vst fst W (keepsI _ _ _ _ hst hb) sst)
  have Hmv := Lib.hid (fun W (hb : Below w.heap.size w W) => toMoveSSS_own vmv fmv W (keepsPPP _ _ _ _ hmv hb) smv.1 smv.2)
  have hw1 : Below w.heap.size w (((w.alloc (.cells #[.int .i64 fL, vst, vmv] 60)).alloc (.cells #[.int .i64 0, .slice none 0 0, .slice none 0 0] 68)).alloc (.cells #[.int .i64 fL, .slice none 0 0, .slice none 0 0] 68)) := ((below_alloc _ _).alloc (by simp) _).alloc (by simp; omega) _
  have hrA : Row (((w.alloc (.cells #[.int .i64 fL, vst, vmv] 60)).alloc (.cells #[.int .i64 0, .slice none 0 0, .slice none 0 0] 68)).alloc (.cells #[.int .i64 fL, .slice none 0 0, .slice none 0 0] 68)) w.heap.size 60 [.int .i64 fL, vst, vmv] := ((Row.new w _ _).alloc _).alloc _
  have hrB : Row (((w.alloc (.cells #[.int .i64 fL, vst, vmv] 60)).alloc (.cells #[.int .i64 0, .slice none 0 0, .slice none 0 0] 68)).alloc (.cells #[.int .i64 fL, .slice none 0 0, .slice none 0 0] 68)) (w.heap.size + 1) 68 [.int .i64 0, .slice none 0 0, .slice none 0 0] := by
    have := (Row.new (w.alloc (.cells #[.int .i64 fL, vst, vmv] 60)) [.int .i64 0, .slice none 0 0, .slice none 0 0] 68).alloc (.cells #[.int .i64 fL, .slice none 0 0, .slice none 0 0] 68)
    simpa using this
  have hrC : Row (((w.alloc (.cells #[.int .i64 fL, vst, vmv] 60)).alloc (.cells #[.int .i64 0, .slice none 0 0, .slice none 0 0] 68)).alloc (.cells #[.int .i64 fL, .slice none 0 0, .slice none 0 0] 68)) (w.heap.size + 1 + 1) 68 [.int .i64 fL, .slice none 0 0, .slice none 0 0] := by
    have := Row.new ((w.alloc (.cells #[.int .i64 fL, vst, vmv] 60)).alloc (.cells #[.int .i64 0, .slice none 0 0, .slice none 0 0] 68)) [.int .i64 fL, .slice none 0 0, .slice none 0 0] 68
    simpa using this
  have hsz : (((w.alloc (.cells #[.int .i64 fL, vst, vmv] 60)).alloc (.cells #[.int .i64 0, .slice none 0 0, .slice none 0 0] 68)).alloc (.cells #[.int .i64 fL, .slice none 0 0, .slice none 0 0] 68)).heap.size = w.heap.size + 3 := by simp
  go_enter Try.func50, Try.ntmps50
  clear hst hmv
  go_wp2_with fail
  refine (Hst.out _ hw1).mono ?_
  generalize ((w.alloc (.cells #[.int .i64 fL, vst, vmv] 60)).alloc (.cells #[.int .i64 0, .slice none 0 0, .slice none 0 0] 68)).alloc (.cells #[.int .i64 fL, .slice none 0 0, .slice none 0 0] 68) = W0 at *
  rintro e w1 ⟨ust, bst, rfl, hust, hb⟩
  obtain ⟨Ast, kst, rfl⟩ := owI_shape hust
  have rA := hrA.below hb hrA.lt
  have rB := hrB.below hb hrB.lt
  have rC := hrC.below hb hrC.lt
  have hnd := (goodV ints 2).nodup hust
  have ND := Lib.hid hnd
  clear hnd
  have hw2 := hw1.trans (hb.mono hw1.size)
  have hsz2 : w.heap.size + 3 ≤ W0.heap.size := by first | omega | exact hsz
  have oM : OwV ints 2 w1 (w.heap.size + 3) (.slice Ast fst.length kst) fst bst := (goodV ints 2).mono hust hsz2
  have hsz3 := Nat.le_trans hsz2 hb.size
  have H1 := Lib.hid (show _ ∧ _ ∧ _ ∧ _ ∧ _ from ⟨rA, rB, rC, hw2, oM⟩)
  obtain ⟨⟨ca0, ca1, ca2⟩, -⟩ := rA.three
  obtain ⟨⟨cc0, cc1, cc2⟩, fc⟩ := rC.three
  have hl1 := rC.lt
  clear rA rB rC hrA hrB hrC hw1 hb hust hsz hsz2 hw2 oM 
  go_wp2_with fail
  obtain ⟨rA, rB, rC, hw1, ost⟩ := H1.out
  have hrA := (rA.other (a := ⟨w.heap.size + 1 + 1, 1, none⟩) (by show w.heap.size + 1 + 1 ≠ _; omega) (.slice Ast fst.length kst))
  have hrB := (rB.other (a := ⟨w.heap.size + 1 + 1, 1, none⟩) (by show w.heap.size + 1 + 1 ≠ _; omega) (.slice Ast fst.length kst))
  have hrC := (rC.stored 1 (.slice Ast fst.length kst))
  have hw1 := (hw1.setCell (p := ⟨w.heap.size + 1 + 1, 1, none⟩) (by show w.heap.size ≤ _ + 1 + 1; omega) (.slice Ast fst.length kst))
  have ost := ((goodV ints 2).under (a := ⟨w.heap.size + 1 + 1, 1, none⟩) ost (by show w.heap.size + 1 + 1 < _; omega) (.slice Ast fst.length kst))
  have hsz : w.heap.size + 3 ≤ ((w1).setCell ⟨w.heap.size + 1 + 1, 1, none⟩ (.slice Ast fst.length kst)).heap.size := by simpa using hsz3
  clear rA rB rC H1 hsz3 hl1 ca0 ca1 ca2 cc0 cc1 cc2 fc
  refine (Hmv.out _ hw1).mono ?_
  generalize (w1).setCell ⟨w.heap.size + 1 + 1, 1, none⟩ (.slice Ast fst.length kst) = W0 at *
  rintro e w2 ⟨umv, bmv, rfl, humv, hb⟩
  obtain ⟨Amv, kmv, rfl⟩ := OwL.shape humv
  have rA := hrA.below hb hrA.lt
  have rB := hrB.below hb hrB.lt
  have rC := hrC.below hb hrC.lt
  have oNst := (goodV ints 2).below ost hb
  have ltp : ∀ x ∈ bst, x < W0.heap.size := by
    intro x hx
    exact ((goodV ints 2).lt ost hx).2
  have hnd := nodup_two ND.out ((goodL (goodL (goodP 96) 132) 29).nodup humv) ltp (fun x hx => ((goodL (goodL (goodP 96) 132) 29).lt humv hx).1)
  clear ltp ND
  have ND := Lib.hid hnd
  clear hnd
  have hw2 := hw1.trans (hb.mono hw1.size)
  have hsz2 : w.heap.size + 3 ≤ W0.heap.size := by first | omega | exact hsz
  have oM : OwL (OwL (OwP 96) 132) 29 w2 (w.heap.size + 3) (.slice Amv fmv.length kmv) fmv bmv := (goodL (goodL (goodP 96) 132) 29).mono humv hsz2
  have hsz3 := Nat.le_trans hsz2 hb.size
  have H1 := Lib.hid (show _ ∧ _ ∧ _ ∧ _ ∧ _ ∧ _ from ⟨rA, rB, rC, hw2, oM, oNst⟩)
  obtain ⟨⟨ca0, ca1, ca2⟩, -⟩ := rA.three
  obtain ⟨⟨cc0, cc1, cc2⟩, fc⟩ := rC.three
  obtain ⟨⟨cb0, cb1, cb2⟩, fb⟩ := rB.three
  have hl1 := rC.lt
  clear rA rB rC hrA hrB hrC hw1 hb humv hsz hsz2 hw2 oM oNst ost
  go_wp2
  obtain ⟨rA, rB, rC, hw1, omv, ost⟩ := H1.out
  clear ca0 ca1 ca2 cc0 cc1 cc2 fc cb0 cb1 cb2 fb H1
  have rF := ((((rB.other (a := ⟨w.heap.size + 1 + 1, 2, none⟩) (by show w.heap.size + 1 + 1 ≠ _; omega) (.slice Amv fmv.length kmv)).stored 0 (.int .i64 fL)).stored 1 (.slice Ast fst.length kst)).stored 2 (.slice Amv fmv.length kmv))
  have est := ((goodV ints 2).under (a := ⟨w.heap.size + 1, 2, none⟩) ((goodV ints 2).under (a := ⟨w.heap.size + 1, 1, none⟩) ((goodV ints 2).under (a := ⟨w.heap.size + 1, 0, none⟩) ((goodV ints 2).under (a := ⟨w.heap.size + 1 + 1, 2, none⟩) ost (by show w.heap.size + 1 + 1 < _; omega) (.slice Amv fmv.length kmv)) (by show w.heap.size + 1 < _; omega) (.int .i64 fL)) (by show w.heap.size + 1 < _; omega) (.slice Ast fst.length kst)) (by show w.heap.size + 1 < _; omega) (.slice Amv fmv.length kmv))
  have emv := ((goodL (goodL (goodP 96) 132) 29).under (a := ⟨w.heap.size + 1, 2, none⟩) ((goodL (goodL (goodP 96) 132) 29).under (a := ⟨w.heap.size + 1, 1, none⟩) ((goodL (goodL (goodP 96) 132) 29).under (a := ⟨w.heap.size + 1, 0, none⟩) ((goodL (goodL (goodP 96) 132) 29).under (a := ⟨w.heap.size + 1 + 1, 2, none⟩) omv (by show w.heap.size + 1 + 1 < _; omega) (.slice Amv fmv.length kmv)) (by show w.heap.size + 1 < _; omega) (.int .i64 fL)) (by show w.heap.size + 1 < _; omega) (.slice Ast fst.length kst)) (by show w.heap.size + 1 < _; omega) (.slice Amv fmv.length kmv))
  have eB := ((((hw1.setCell (p := ⟨w.heap.size + 1 + 1, 2, none⟩) (by show w.heap.size ≤ w.heap.size + 1 + 1; omega) (.slice Amv fmv.length kmv)).setCell (p := ⟨w.heap.size + 1, 0, none⟩) (by show w.heap.size ≤ w.heap.size + 1; omega) (.int .i64 fL)).setCell (p := ⟨w.heap.size + 1, 1, none⟩) (by show w.heap.size ≤ w.heap.size + 1; omega) (.slice Ast fst.length kst)).setCell (p := ⟨w.heap.size + 1, 2, none⟩) (by show w.heap.size ≤ w.heap.size + 1; omega) (.slice Amv fmv.length kmv))
  have hnd := ND.out
  clear rA rB rC hw1 ND ost omv
  generalize ((((w2).setCell ⟨w.heap.size + 1 + 1, 2, none⟩ (.slice Amv fmv.length kmv)).setCell ⟨w.heap.size + 1, 0, none⟩ (.int .i64 fL)).setCell ⟨w.heap.size + 1, 1, none⟩ (.slice Ast fst.length kst)).setCell ⟨w.heap.size + 1, 2, none⟩ (.slice Amv fmv.length kmv) = W2 at *
  obtain ⟨⟨q0, q1, q2⟩, -⟩ := Row.three rF
  refine bodyPost_ret (v := .agg #[.int .i64 fL, .slice Ast fst.length kst, .slice Amv fmv.length kmv]) (by simp [results, Try.results50, go_sem, q0, q1, q2]) rfl ⟨_, bst ++ bmv, rfl, ?_, eB⟩
  exact ⟨_, _, _, _, rfl, (goodV ints 2).mono est (by omega), (goodL (goodL (goodP 96) 132) 29).mono emv (by omega), rfl, hnd⟩

end Go.Proofs.Ytdkalefepdlccaa
