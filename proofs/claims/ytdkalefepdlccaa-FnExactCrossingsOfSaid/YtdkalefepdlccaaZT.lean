/-
  Turner: what its slices hold in all; its marks.
-/
import Derived.Test.YtdkalefepdlccaaKT
import Derived.Test.YtdkalefepdlccaaZP
import Derived.Test.YtdkalefepdlccaaNNMove
namespace Go.Proofs.Ytdkalefepdlccaa
open Go.RowKit

theorem goodT : Good OwT where
  same := fun ⟨vmv, bmv, hv, hmv, hbs, hnd⟩ hs => by
    have hbs := hbs.symm; subst hbs
    exact ⟨vmv, bmv, hv, (goodL (goodP 96) 132).same hmv (fun b hm => hs b (by simp [hm])), rfl, hnd⟩
  other := fun u ⟨vmv, bmv, hv, hmv, hbs, hnd⟩ ha => by
    have hbs := hbs.symm; subst hbs
    exact ⟨vmv, bmv, hv, (goodL (goodP 96) 132).other u hmv (fun hm => ha (by simp [hm])), rfl, hnd⟩
  below := fun ⟨vmv, bmv, hv, hmv, hbs, hnd⟩ k => by
    have hbs := hbs.symm; subst hbs
    exact ⟨vmv, bmv, hv, (goodL (goodP 96) 132).below hmv k, rfl, hnd⟩
  mono := fun ⟨vmv, bmv, hv, hmv, hbs, hnd⟩ k => by
    have hbs := hbs.symm; subst hbs
    exact ⟨vmv, bmv, hv, (goodL (goodP 96) 132).mono hmv k, rfl, hnd⟩
  lt := fun ⟨vmv, bmv, hv, hmv, hbs, hnd⟩ hm => by
    have hbs := hbs.symm; subst hbs
    all_goals first | exact (goodL (goodP 96) 132).lt hmv hm
  nodup := fun ⟨vmv, bmv, hv, hmv, hbs, hnd⟩ => hnd

/-- What its slices hold in all, and how many numbers are marked. -/
def cntT (r : TData) : Nat := (r.mv.length + numL (fun x : List (Int × Int) => x.length) r.mv)
def numT (r : TData) : Nat := numL (fun x : List (Int × Int) => 2 * x.length) r.mv
theorem numT_le (r : TData) : numT r ≤ 2 * cntT r := by
  unfold numT cntT
  have a_mv := numL_two (fun x : List (Int × Int) => x.length) r.mv
  omega

def mkT (k : Int) (r : TData) : TData := { L := r.L, S := r.S, mv := mkL mkP (fun x : List (Int × Int) => 2 * x.length) k r.mv }

set_option maxHeartbeats 800000 in
theorem szT_tot (v : Value) (r : TData) (left : Int) (w : World) (h : RdT w v r) (h0 : 0 ≤ left) (hb : left ≤ 4611686018427387904) :
    Calls Try.prog 15 #[v, .int .i64 left] w fun e w' => (∃ n : Int, e = .returned (.int .i64 n) ∧ (n < 0 ∨ n + (cntT r : Int) = left)) ∧ Below w.heap.size w w' := by
  obtain ⟨vmv, hv, hmv⟩ := h
  subst hv
  have Hmv := Lib.hid (fun o l => szMoveSS_tot vmv r.mv l (w.alloc o) (keepsPP _ _ _ _ hmv (below_alloc _ _)))
  clear hmv
  go_enter Try.func15, Try.ntmps15
  go_wp2_with fail
  refine (Hmv.out _ _ (by omega) (by omega)).mono ?_
  rintro e w' ⟨⟨m0, rfl, hm0⟩, rfl⟩
  have HM0 := Lib.hid hm0
  by_cases hl0 : m0 < 0
  · clear hm0
    go_wp2
    go_ret
    exact ⟨⟨_, rfl, .inl (by decide)⟩, below_alloc _ _⟩
  have hp0 : m0 ≤ left := by omega
  clear hm0
  go_wp2
  go_ret
  exact ⟨⟨_, rfl, .inr (by have := HM0.out; unfold cntT; omega)⟩, below_alloc _ _⟩


set_option maxHeartbeats 1600000 in
theorem markT_own (v : Value) (r : TData) (bs : List Nat) (lo : Nat) (k : Int) (w : World) (h : OwT w lo v r bs) (hk0 : 0 ≤ k) (hk : k + (numT r : Int) ≤ 4611686018427387904) :
    Calls Try.prog 21 #[v, .int .i64 k] w fun e w' => e = .returned (.int .i64 (k + (numT r : Int))) ∧ OwT w' lo v (mkT k r) bs ∧ Turned bs w w' := by
  obtain ⟨vmv, bmv, hv, hmv, hbs, hnd⟩ := h
  subst hv
  have hbs := hbs.symm; subst hbs
  unfold numT at hk
  have ltmv : ∀ x ∈ bmv, x < w.heap.size := fun x hx => ((goodL (goodP 96) 132).lt hmv hx).2
  have hR : Row (w.alloc (.cells #[.int .i64 r.L, .int .i64 r.S, vmv] 31)) w.heap.size 31 [.int .i64 r.L, .int .i64 r.S, vmv] := Row.new w _ _
  have omv := (goodL (goodP 96) 132).below hmv (below_alloc w (.cells #[.int .i64 r.L, .int .i64 r.S, vmv] 31))
  have hT : Turned [] w (w.alloc (.cells #[.int .i64 r.L, .int .i64 r.S, vmv] 31)) := Turned.alloc w _
  clear hmv
  have HH := Lib.hid (show _ ∧ _ ∧ _ ∧ _ ∧ _ from ⟨hR, hT, hnd, omv, ltmv⟩)
  have gg := hR.three
  obtain ⟨⟨c0, c1, c2⟩, -⟩ := gg
  clear hR hT hnd omv ltmv
  go_enter Try.func21, Try.ntmps21
  go_wp2_with fail
  have HG0 := HH.out
  obtain ⟨hR, hT, hnd, omv, ltmv⟩ := HG0
  refine (markMoveSS_own vmv r.mv bmv lo (k) _ omv (by omega) (by omega)).mono ?_
  generalize (w.alloc (.cells #[.int .i64 r.L, .int .i64 r.S, vmv] 31)) = W0 at *
  rintro e w1 ⟨rfl, nmv, hO⟩
  have nR := hR.same (hO.block w.heap.size (fun hm => absurd (ltmv _ hm) (by omega)))
  have nT := hT.only hO
  clear hO hR hT omv HH
  have omv := nmv; clear nmv
  have hR := nR; clear nR
  have hT := nT; clear nT
  have HH1 := Lib.hid (show _ ∧ _ ∧ _ ∧ _ ∧ _ from ⟨hR, hT, hnd, omv, ltmv⟩)
  clear c0 c1 c2
  have gg := hR.three
  obtain ⟨⟨c0, c1, c2⟩, -⟩ := gg
  clear hR hT hnd omv ltmv
  go_wp2
  go_ret
  obtain ⟨hR, hT, hnd, omv, ltmv⟩ := HH1.out
  refine ⟨ret_int (by unfold numT; omega), ⟨_, _, rfl, omv, rfl, hnd⟩, hT.mono (by intro x hx; simpa using hx)⟩


end Go.Proofs.Ytdkalefepdlccaa
