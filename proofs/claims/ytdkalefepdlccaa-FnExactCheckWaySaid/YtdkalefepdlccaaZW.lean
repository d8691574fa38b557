/-
  Wanderer: what its slices hold in all; its marks.
-/
import Derived.Test.YtdkalefepdlccaaKW
import Derived.Test.YtdkalefepdlccaaZPP
import Derived.Test.YtdkalefepdlccaaNNNMove
namespace Go.Proofs.Ytdkalefepdlccaa
open Go.RowKit

theorem goodW : Good OwW where
  same := fun ⟨vst, vmv, bst, bmv, hv, hst, hmv, hbs, hnd⟩ hs => by
    subst hbs
    exact ⟨vst, vmv, bst, bmv, hv, (goodV ints 2).same hst (fun b hm => hs b (by simp [hm])), (goodL (goodL (goodP 96) 132) 29).same hmv (fun b hm => hs b (by simp [hm])), rfl, hnd⟩
  other := fun u ⟨vst, vmv, bst, bmv, hv, hst, hmv, hbs, hnd⟩ ha => by
    subst hbs
    exact ⟨vst, vmv, bst, bmv, hv, (goodV ints 2).other u hst (fun hm => ha (by simp [hm])), (goodL (goodL (goodP 96) 132) 29).other u hmv (fun hm => ha (by simp [hm])), rfl, hnd⟩
  below := fun ⟨vst, vmv, bst, bmv, hv, hst, hmv, hbs, hnd⟩ k => by
    subst hbs
    exact ⟨vst, vmv, bst, bmv, hv, (goodV ints 2).below hst k, (goodL (goodL (goodP 96) 132) 29).below hmv k, rfl, hnd⟩
  mono := fun ⟨vst, vmv, bst, bmv, hv, hst, hmv, hbs, hnd⟩ k => by
    subst hbs
    exact ⟨vst, vmv, bst, bmv, hv, (goodV ints 2).mono hst k, (goodL (goodL (goodP 96) 132) 29).mono hmv k, rfl, hnd⟩
  lt := fun ⟨vst, vmv, bst, bmv, hv, hst, hmv, hbs, hnd⟩ hm => by
    subst hbs
    simp only [List.mem_append] at hm
    rcases hm with hm | hm
    all_goals first | exact (goodV ints 2).lt hst hm | exact (goodL (goodL (goodP 96) 132) 29).lt hmv hm
  nodup := fun ⟨vst, vmv, bst, bmv, hv, hst, hmv, hbs, hnd⟩ => hnd

/-- What its slices hold in all, and how many numbers are marked. -/
def cntW (r : WData) : Nat := r.st.length + (r.mv.length + numL (fun y : List (List (Int × Int)) => y.length + numL (fun x : List (Int × Int) => x.length) y) r.mv)
def numW (r : WData) : Nat := r.st.length + numL (fun x : List (List (Int × Int)) => numL (fun x : List (Int × Int) => 2 * x.length) x) r.mv
theorem numW_le (r : WData) : numW r ≤ 2 * cntW r := by
  unfold numW cntW
  have a := Nat.le_trans (numL_mono (f := fun x : List (List (Int × Int)) => numL (fun x : List (Int × Int) => 2 * x.length) x) (g := fun x => 2 * (fun y : List (List (Int × Int)) => y.length + numL (fun x : List (Int × Int) => x.length) y) x) (fun x => by have := numL_two (fun x : List (Int × Int) => x.length) x; simp only []; omega) r.mv) (Nat.le_of_eq (numL_two (fun y : List (List (Int × Int)) => y.length + numL (fun x : List (Int × Int) => x.length) y) r.mv))
  omega

def mkW (k : Int) (r : WData) : WData := { L := r.L, st := mkI k r.st, mv := mkL (mkL mkP (fun x : List (Int × Int) => 2 * x.length)) (fun x : List (List (Int × Int)) => numL (fun x : List (Int × Int) => 2 * x.length) x) (k + ((r.st.length : Nat) : Int)) r.mv }

set_option maxHeartbeats 800000 in
theorem szW_tot (v : Value) (r : WData) (left : Int) (w : World) (h : RdW w v r) (h0 : 0 ≤ left) (hb : left ≤ 4611686018427387904) :
    Calls Try.prog 48 #[v, .int .i64 left] w fun e w' => (∃ n : Int, e = .returned (.int .i64 n) ∧ (n < 0 ∨ n + (cntW r : Int) = left)) ∧ Below w.heap.size w w' := by
  obtain ⟨vst, vmv, hv, hst, hmv⟩ := h
  subst hv
  have Hst := Lib.hid (fun o l => szInt64S_tot vst r.st l (w.alloc o) (keepsI _ _ _ _ hst (below_alloc _ _)))
  have Hmv := Lib.hid (fun o l => szMoveSSS_tot vmv r.mv l (w.alloc o) (keepsPPP _ _ _ _ hmv (below_alloc _ _)))
  clear hst hmv
  go_enter Try.func48, Try.ntmps48
  go_wp2_with fail
  refine (Hst.out _ _ (by omega) (by omega)).mono ?_
  rintro e w' ⟨⟨m0, rfl, hm0⟩, rfl⟩
  have HM0 := Lib.hid hm0
  by_cases hl0 : m0 < 0
  · clear hm0
    go_wp2
    go_ret
    exact ⟨⟨_, rfl, .inl (by decide)⟩, below_alloc _ _⟩
  have hp0 : m0 ≤ left := by omega
  clear hm0
  go_wp2_with fail
  refine (Hmv.out _ _ (by omega) (by omega)).mono ?_
  rintro e w' ⟨⟨m1, rfl, hm1⟩, rfl⟩
  have HM1 := Lib.hid hm1
  by_cases hl1 : m1 < 0
  · clear hm1
    go_wp2
    go_ret
    exact ⟨⟨_, rfl, .inl (by decide)⟩, below_alloc _ _⟩
  have hp1 : m1 ≤ m0 := by omega
  clear hm1
  go_wp2
  go_ret
  exact ⟨⟨_, rfl, .inr (by have := HM0.out; have := HM1.out; unfold cntW; omega)⟩, below_alloc _ _⟩


set_option maxHeartbeats 1600000 in
theorem markW_own (v : Value) (r : WData) (bs : List Nat) (lo : Nat) (k : Int) (w : World) (h : OwW w lo v r bs) (hk0 : 0 ≤ k) (hk : k + (numW r : Int) ≤ 4611686018427387904) :
    Calls Try.prog 54 #[v, .int .i64 k] w fun e w' => e = .returned (.int .i64 (k + (numW r : Int))) ∧ OwW w' lo v (mkW k r) bs ∧ Turned bs w w' := by
  obtain ⟨vst, vmv, bst, bmv, hv, hst, hmv, hbs, hnd⟩ := h
  subst hv
  subst hbs
  unfold numW at hk
  have hnd' := hnd
  simp only [List.nodup_append] at hnd'
  have ltst : ∀ x ∈ bst, x < w.heap.size := fun x hx => ((goodV ints 2).lt hst hx).2
  have ltmv : ∀ x ∈ bmv, x < w.heap.size := fun x hx => ((goodL (goodL (goodP 96) 132) 29).lt hmv hx).2
  have ap01 : ∀ x ∈ bst, x ∉ bmv := fun x hx hy => hnd'.2.2 x hx x hy rfl
  have ap10 : ∀ x ∈ bmv, x ∉ bst := fun x hx hy => hnd'.2.2 x hy x hx rfl
  have hR : Row (w.alloc (.cells #[.int .i64 r.L, vst, vmv] 68)) w.heap.size 68 [.int .i64 r.L, vst, vmv] := Row.new w _ _
  have ost := (goodV ints 2).below hst (below_alloc w (.cells #[.int .i64 r.L, vst, vmv] 68))
  have omv := (goodL (goodL (goodP 96) 132) 29).below hmv (below_alloc w (.cells #[.int .i64 r.L, vst, vmv] 68))
  have hT : Turned [] w (w.alloc (.cells #[.int .i64 r.L, vst, vmv] 68)) := Turned.alloc w _
  clear hst hmv
  clear hnd'
  have HH := Lib.hid (show _ ∧ _ ∧ _ ∧ _ ∧ _ ∧ _ ∧ _ ∧ _ ∧ _ from ⟨hR, hT, hnd, ost, omv, ltst, ltmv, ap01, ap10⟩)
  have gg := hR.three
  obtain ⟨⟨c0, c1, c2⟩, -⟩ := gg
  clear hR hT hnd ost omv ltst ltmv ap01 ap10
  go_enter Try.func54, Try.ntmps54
  go_wp2_with fail
  have HG0 := HH.out
  obtain ⟨hR, hT, hnd, ost, omv, ltst, ltmv, ap01, ap10⟩ := HG0
  refine (markInt64S_own vst r.st bst lo (k) _ ost (by omega) (by omega)).mono ?_
  generalize (w.alloc (.cells #[.int .i64 r.L, vst, vmv] 68)) = W0 at *
  rintro e w1 ⟨rfl, nst, hO⟩
  have nmv := hO.keep (goodL (goodL (goodP 96) 132) 29) omv ap10
  have nR := hR.same (hO.block w.heap.size (fun hm => absurd (ltst _ hm) (by omega)))
  have nT := hT.only hO
  clear hO hR hT ost omv HH
  have ost := nst; clear nst
  have omv := nmv; clear nmv
  have hR := nR; clear nR
  have hT := nT; clear nT
  have HH1 := Lib.hid (show _ ∧ _ ∧ _ ∧ _ ∧ _ ∧ _ ∧ _ ∧ _ ∧ _ from ⟨hR, hT, hnd, ost, omv, ltst, ltmv, ap01, ap10⟩)
  clear c0 c1 c2
  have gg := hR.three
  obtain ⟨⟨c0, c1, c2⟩, -⟩ := gg
  clear hR hT hnd ost omv ltst ltmv ap01 ap10
  go_wp2_with fail
  have HG1 := HH1.out
  obtain ⟨hR, hT, hnd, ost, omv, ltst, ltmv, ap01, ap10⟩ := HG1
  refine (markMoveSSS_own vmv r.mv bmv lo (k + ((r.st.length : Nat) : Int)) _ omv (by omega) (by omega)).mono ?_
  rintro e w2 ⟨rfl, nmv, hO⟩
  have nst := hO.keep (goodV ints 2) ost ap01
  have nR := hR.same (hO.block w.heap.size (fun hm => absurd (ltmv _ hm) (by omega)))
  have nT := hT.only hO
  clear hO hR hT ost omv HH1
  have ost := nst; clear nst
  have omv := nmv; clear nmv
  have hR := nR; clear nR
  have hT := nT; clear nT
  have HH2 := Lib.hid (show _ ∧ _ ∧ _ ∧ _ ∧ _ ∧ _ ∧ _ ∧ _ ∧ _ from ⟨hR, hT, hnd, ost, omv, ltst, ltmv, ap01, ap10⟩)
  clear c0 c1 c2
  have gg := hR.three
  obtain ⟨⟨c0, c1, c2⟩, -⟩ := gg
  clear hR hT hnd ost omv ltst ltmv ap01 ap10
  go_wp2
  go_ret
  obtain ⟨hR, hT, hnd, ost, omv, ltst, ltmv, ap01, ap10⟩ := HH2.out
  refine ⟨ret_int (by unfold numW; omega), ⟨_, _, _, _, rfl, ost, omv, rfl, hnd⟩, hT.mono (by intro x hx; simpa using hx)⟩


end Go.Proofs.Ytdkalefepdlccaa
