/-
  Rotator: what its slices hold in all; its marks.
-/
import Derived.Test.YtklljaeoimgmnaaKO
import Derived.Test.YtklljaeoimgmnaaZ
import Derived.Test.YtklljaeoimgmnaaN2
namespace Go.Proofs.Ytklljaeoimgmnaa
open Go.RowKit

theorem goodO : Good OwO where
  same := fun ⟨vnext, vfin, bnext, bfin, hv, hnext, hfin, hbs, hnd⟩ hs => by
    subst hbs
    exact ⟨vnext, vfin, bnext, bfin, hv, (goodL (goodV ints 2) 36).same hnext (fun b hm => hs b (by simp [hm])), (goodV ints 2).same hfin (fun b hm => hs b (by simp [hm])), rfl, hnd⟩
  other := fun u ⟨vnext, vfin, bnext, bfin, hv, hnext, hfin, hbs, hnd⟩ ha => by
    subst hbs
    exact ⟨vnext, vfin, bnext, bfin, hv, (goodL (goodV ints 2) 36).other u hnext (fun hm => ha (by simp [hm])), (goodV ints 2).other u hfin (fun hm => ha (by simp [hm])), rfl, hnd⟩
  below := fun ⟨vnext, vfin, bnext, bfin, hv, hnext, hfin, hbs, hnd⟩ k => by
    subst hbs
    exact ⟨vnext, vfin, bnext, bfin, hv, (goodL (goodV ints 2) 36).below hnext k, (goodV ints 2).below hfin k, rfl, hnd⟩
  mono := fun ⟨vnext, vfin, bnext, bfin, hv, hnext, hfin, hbs, hnd⟩ k => by
    subst hbs
    exact ⟨vnext, vfin, bnext, bfin, hv, (goodL (goodV ints 2) 36).mono hnext k, (goodV ints 2).mono hfin k, rfl, hnd⟩
  lt := fun ⟨vnext, vfin, bnext, bfin, hv, hnext, hfin, hbs, hnd⟩ hm => by
    subst hbs
    simp only [List.mem_append] at hm
    rcases hm with hm | hm
    all_goals first | exact (goodL (goodV ints 2) 36).lt hnext hm | exact (goodV ints 2).lt hfin hm
  nodup := fun ⟨vnext, vfin, bnext, bfin, hv, hnext, hfin, hbs, hnd⟩ => hnd

/-- What its slices hold in all, and how many numbers are marked. -/
def cntO (r : OData) : Nat := (r.next.length + numL (fun x : List Int => x.length) r.next) + r.fin.length
def numO (r : OData) : Nat := numL (fun x : List Int => x.length) r.next + r.fin.length
theorem numO_le (r : OData) : numO r ≤ 2 * cntO r := by
  unfold numO cntO
  omega

def mkO (k : Int) (r : OData) : OData := { L := r.L, S := r.S, next := mkL mkI (fun x : List Int => x.length) k r.next, fin := mkI (k + ((numL (fun x : List Int => x.length) r.next : Nat) : Int)) r.fin }

set_option maxHeartbeats 800000 in
theorem szO_tot (v : Value) (r : OData) (left : Int) (w : World) (h : RdO w v r) (h0 : 0 ≤ left) (hb : left ≤ 4611686018427387904) :
    Calls Try.prog 12 #[v, .int .i64 left] w fun e w' => (∃ n : Int, e = .returned (.int .i64 n) ∧ (n < 0 ∨ n + (cntO r : Int) = left)) ∧ Below w.heap.size w w' := by
  obtain ⟨vnext, vfin, hv, hnext, hfin⟩ := h
  subst hv
  have Hnext := Lib.hid (fun o l => szInt64SS_tot vnext r.next l (w.alloc o) (keepsII _ _ _ _ hnext (below_alloc _ _)))
  have Hfin := Lib.hid (fun o l => szInt64S_tot vfin r.fin l (w.alloc o) (keepsI _ _ _ _ hfin (below_alloc _ _)))
  clear hnext hfin
  go_enter Try.func12, Try.ntmps12
  go_wp2_with fail
  refine (Hnext.out _ _ (by omega) (by omega)).mono ?_
  rintro e w' ⟨⟨m0, rfl, hm0⟩, rfl⟩
  have HM0 := Lib.hid hm0
  by_cases hl0 : m0 < 0
  · clear hm0
    go_wp2
    go_ret
    exact ⟨⟨_, rfl, .inl (by decide)⟩, below_alloc _ _⟩
  have hp0 : m0 ≤ left := by omega
  clear hm0
  go_wp2_with fail
  refine (Hfin.out _ _ (by omega) (by omega)).mono ?_
  rintro e w' ⟨⟨m1, rfl, hm1⟩, rfl⟩
  have HM1 := Lib.hid hm1
  by_cases hl1 : m1 < 0
  · clear hm1
    go_wp2
    go_ret
    exact ⟨⟨_, rfl, .inl (by decide)⟩, below_alloc _ _⟩
  have hp1 : m1 ≤ m0 := by omega
  clear hm1
  go_wp2
  go_ret
  exact ⟨⟨_, rfl, .inr (by have := HM0.out; have := HM1.out; unfold cntO; omega)⟩, below_alloc _ _⟩


set_option maxHeartbeats 1600000 in
theorem markO_own (v : Value) (r : OData) (bs : List Nat) (lo : Nat) (k : Int) (w : World) (h : OwO w lo v r bs) (hk0 : 0 ≤ k) (hk : k + (numO r : Int) ≤ 4611686018427387904) :
    Calls Try.prog 17 #[v, .int .i64 k] w fun e w' => e = .returned (.int .i64 (k + (numO r : Int))) ∧ OwO w' lo v (mkO k r) bs ∧ Turned bs w w' := by
  obtain ⟨vnext, vfin, bnext, bfin, hv, hnext, hfin, hbs, hnd⟩ := h
  subst hv
  subst hbs
  unfold numO at hk
  have hnd' := hnd
  simp only [List.nodup_append] at hnd'
  have ltnext : ∀ x ∈ bnext, x < w.heap.size := fun x hx => ((goodL (goodV ints 2) 36).lt hnext hx).2
  have ltfin : ∀ x ∈ bfin, x < w.heap.size := fun x hx => ((goodV ints 2).lt hfin hx).2
  have ap01 : ∀ x ∈ bnext, x ∉ bfin := fun x hx hy => hnd'.2.2 x hx x hy rfl
  have ap10 : ∀ x ∈ bfin, x ∉ bnext := fun x hx hy => hnd'.2.2 x hy x hx rfl
  have hR : Row (w.alloc (.cells #[.int .i64 r.L, .int .i64 r.S, vnext, vfin] 40)) w.heap.size 40 [.int .i64 r.L, .int .i64 r.S, vnext, vfin] := Row.new w _ _
  have onext := (goodL (goodV ints 2) 36).below hnext (below_alloc w (.cells #[.int .i64 r.L, .int .i64 r.S, vnext, vfin] 40))
  have ofin := (goodV ints 2).below hfin (below_alloc w (.cells #[.int .i64 r.L, .int .i64 r.S, vnext, vfin] 40))
  have hT : Turned [] w (w.alloc (.cells #[.int .i64 r.L, .int .i64 r.S, vnext, vfin] 40)) := Turned.alloc w _
  clear hnext hfin
  clear hnd'
  have HH := Lib.hid (show _ ∧ _ ∧ _ ∧ _ ∧ _ ∧ _ ∧ _ ∧ _ ∧ _ from ⟨hR, hT, hnd, onext, ofin, ltnext, ltfin, ap01, ap10⟩)
  have gg := hR.four
  obtain ⟨⟨c0, c1, c2, c3⟩, -⟩ := gg
  clear hR hT hnd onext ofin ltnext ltfin ap01 ap10
  go_enter Try.func17, Try.ntmps17
  go_wp2_with fail
  have HG0 := HH.out
  obtain ⟨hR, hT, hnd, onext, ofin, ltnext, ltfin, ap01, ap10⟩ := HG0
  refine (markInt64SS_own vnext r.next bnext lo (k) _ onext (by omega) (by omega)).mono ?_
  generalize (w.alloc (.cells #[.int .i64 r.L, .int .i64 r.S, vnext, vfin] 40)) = W0 at *
  rintro e w1 ⟨rfl, nnext, hO⟩
  have nfin := hO.keep (goodV ints 2) ofin ap10
  have nR := hR.same (hO.block w.heap.size (fun hm => absurd (ltnext _ hm) (by omega)))
  have nT := hT.only hO
  clear hO hR hT onext ofin HH
  have onext := nnext; clear nnext
  have ofin := nfin; clear nfin
  have hR := nR; clear nR
  have hT := nT; clear nT
  have HH1 := Lib.hid (show _ ∧ _ ∧ _ ∧ _ ∧ _ ∧ _ ∧ _ ∧ _ ∧ _ from ⟨hR, hT, hnd, onext, ofin, ltnext, ltfin, ap01, ap10⟩)
  clear c0 c1 c2 c3
  have gg := hR.four
  obtain ⟨⟨c0, c1, c2, c3⟩, -⟩ := gg
  clear hR hT hnd onext ofin ltnext ltfin ap01 ap10
  go_wp2_with fail
  have HG1 := HH1.out
  obtain ⟨hR, hT, hnd, onext, ofin, ltnext, ltfin, ap01, ap10⟩ := HG1
  refine (markInt64S_own vfin r.fin bfin lo (k + ((numL (fun x : List Int => x.length) r.next : Nat) : Int)) _ ofin (by omega) (by omega)).mono ?_
  rintro e w2 ⟨rfl, nfin, hO⟩
  have nnext := hO.keep (goodL (goodV ints 2) 36) onext ap01
  have nR := hR.same (hO.block w.heap.size (fun hm => absurd (ltfin _ hm) (by omega)))
  have nT := hT.only hO
  clear hO hR hT onext ofin HH1
  have onext := nnext; clear nnext
  have ofin := nfin; clear nfin
  have hR := nR; clear nR
  have hT := nT; clear nT
  have HH2 := Lib.hid (show _ ∧ _ ∧ _ ∧ _ ∧ _ ∧ _ ∧ _ ∧ _ ∧ _ from ⟨hR, hT, hnd, onext, ofin, ltnext, ltfin, ap01, ap10⟩)
  clear c0 c1 c2 c3
  have gg := hR.four
  obtain ⟨⟨c0, c1, c2, c3⟩, -⟩ := gg
  clear hR hT hnd onext ofin ltnext ltfin ap01 ap10
  go_wp2
  go_ret
  obtain ⟨hR, hT, hnd, onext, ofin, ltnext, ltfin, ap01, ap10⟩ := HH2.out
  refine ⟨ret_int (by unfold numO; omega), ⟨_, _, _, _, rfl, onext, ofin, rfl, hnd⟩, hT.mono (by intro x hx; simpa using hx)⟩


set_option maxHeartbeats 1600000 in
theorem heldO_any (v : Value) (r : OData) (k : Int) (w : World) (h : RdO w v (mkO k r)) (hk0 : 0 ≤ k) (hk : k + (numO r : Int) ≤ 4611686018427387904) :
    Calls Try.prog 18 #[v, .int .i64 k] w fun e w' => e = .returned (.int .i64 (k + (numO r : Int))) ∧ Below w.heap.size w w' := by
  obtain ⟨vnext, vfin, hv, hnext, hfin⟩ := h
  subst hv
  unfold numO at hk
  have Hnext := Lib.hid (fun o m => heldInt64SS_any vnext r.next (k) ((w.alloc o).drewN m) (keepsII _ _ _ _ hnext (below_drewN (below_alloc w o) m)) (by omega) (by omega))
  have inext : (0 : Int) ≤ k + ((numL (fun x : List Int => x.length) r.next : Nat) : Int) := by omega
  have Hfin := Lib.hid (fun o m => heldInt64S_any vfin r.fin (k + ((numL (fun x : List Int => x.length) r.next : Nat) : Int)) ((w.alloc o).drewN m) (keepsI _ _ _ _ hfin (below_drewN (below_alloc w o) m)) (by omega) (by omega))
  have ifin : (0 : Int) ≤ k + ((numL (fun x : List Int => x.length) r.next : Nat) : Int) + ((r.fin.length : Nat) : Int) := by omega
  clear hnext hfin
  go_enter Try.func18, Try.ntmps18
  go_wp2_with fail
  refine (Hnext.out _ 0).mono ?_
  rintro e w' ⟨rfl, m0, rfl⟩
  go_wp2_with fail
  refine (Hfin.out _ _).mono ?_
  rintro e w' ⟨rfl, m1, rfl⟩
  go_wp2
  go_ret
  exact ⟨ret_int (by unfold numO; omega), below_drewN (below_alloc w _) _⟩

end Go.Proofs.Ytklljaeoimgmnaa
