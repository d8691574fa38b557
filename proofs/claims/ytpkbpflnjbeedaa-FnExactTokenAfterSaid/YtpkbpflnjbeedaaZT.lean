/-
  Turner: what its slices hold in all; its marks.
-/
import Derived.Test.YtpkbpflnjbeedaaKT
import Derived.Test.YtpkbpflnjbeedaaZP
import Derived.Test.YtpkbpflnjbeedaaNNMove
namespace Go.Proofs.Ytpkbpflnjbeedaa
open Go.RowKit

theorem goodT : Good OwT where
  same := fun ⟨vmv, bmv, hv, hmv, hbs, hnd⟩ hs => by
    have hbs := hbs.symm; subst hbs
    exact ⟨vmv, bmv, hv, (goodL (goodP 82) 97).same hmv (fun b hm => hs b (by simp [hm])), rfl, hnd⟩
  other := fun u ⟨vmv, bmv, hv, hmv, hbs, hnd⟩ ha => by
    have hbs := hbs.symm; subst hbs
    exact ⟨vmv, bmv, hv, (goodL (goodP 82) 97).other u hmv (fun hm => ha (by simp [hm])), rfl, hnd⟩
  below := fun ⟨vmv, bmv, hv, hmv, hbs, hnd⟩ k => by
    have hbs := hbs.symm; subst hbs
    exact ⟨vmv, bmv, hv, (goodL (goodP 82) 97).below hmv k, rfl, hnd⟩
  mono := fun ⟨vmv, bmv, hv, hmv, hbs, hnd⟩ k => by
    have hbs := hbs.symm; subst hbs
    exact ⟨vmv, bmv, hv, (goodL (goodP 82) 97).mono hmv k, rfl, hnd⟩
  lt := fun ⟨vmv, bmv, hv, hmv, hbs, hnd⟩ hm => by
    have hbs := hbs.symm; subst hbs
    all_goals first | exact (goodL (goodP 82) 97).lt hmv hm
  nodup := fun ⟨vmv, bmv, hv, hmv, hbs, hnd⟩ => hnd

/-- What its slices hold in all, and how many numbers are marked. -/
def cntT (r : TData) : Nat := (r.mv.length + numL (fun x : List (Int × Int) => x.length) r.mv)
def numT (r : TData) : Nat := numL (fun x : List (Int × Int) => 2 * x.length) r.mv
theorem numT_le (r : TData) : numT r ≤ 2 * cntT r := by
  unfold numT cntT
  have a_mv := numL_two (fun x : List (Int × Int) => x.length) r.mv
  omega

def mkT (k : Int) (r : TData) : TData := { L := r.L, S := r.S, mv := mkL mkP (fun x : List (Int × Int) => 2 * x.length) k r.mv }

set_option maxHeartbeats 800000 in
theorem szT_tot (v : Value) (r : TData) (left : Int) (w : World) (h : RdT w v r) (h0 : 0 ≤ left) (hb : left ≤ 4611686018427387904) :
    Calls Try.prog 21 #[v, .int .i64 left] w fun e w' => (∃ n : Int, e = .returned (.int .i64 n) ∧ (n < 0 ∨ n + (cntT r : Int) = left)) ∧ Below w.heap.size w w' := by
  obtain ⟨vmv, hv, hmv⟩ := h
  subst hv
  have Hmv := Lib.hid (fun o l => szMoveSS_tot vmv r.mv l (w.alloc o) (keepsPP _ _ _ _ hmv (below_alloc _ _)))
  clear hmv
  go_enter Try.func21, Try.ntmps21
  go_wp2_with fail
  refine (Hmv.out _ _ (by omega) (by omega)).mono ?_
  rintro e w' ⟨⟨m0, rfl, hm0⟩, rfl⟩
  have HM0 := Lib.hid hm0
  by_cases hl0 : m0 < 0
  · clear hm0
    go_wp2
    go_ret
    exact ⟨⟨_, rfl, .inl (by decide)⟩, below_alloc _ _⟩
  have hp0 : m0 ≤ left := by omega
  clear hm0
  go_wp2
  go_ret
  exact ⟨⟨_, rfl, .inr (by have := HM0.out; unfold cntT; omega)⟩, below_alloc _ _⟩


end Go.Proofs.Ytpkbpflnjbeedaa
