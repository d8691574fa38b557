/-
  Many: what its slices hold in all; its marks.
-/
import Derived.Test.YteeckhhingmgfaaKM
import Derived.Test.YteeckhhingmgfaaZ
import Derived.Test.YteeckhhingmgfaaN3
namespace Go.Proofs.Yteeckhhingmgfaa
open Go.RowKit

theorem goodM : Good OwM where
  same := fun ⟨vst, vacc, vnext, bst, bacc, bnext, hv, hst, hacc, hnext, hbs, hnd⟩ hs => by
    subst hbs
    exact ⟨vst, vacc, vnext, bst, bacc, bnext, hv, (goodV ints 2).same hst (fun b hm => hs b (by simp [hm])), (goodV bools 4).same hacc (fun b hm => hs b (by simp [hm])), (goodL (goodL (goodV ints 2) 23) 22).same hnext (fun b hm => hs b (by simp [hm])), rfl, hnd⟩
  other := fun u ⟨vst, vacc, vnext, bst, bacc, bnext, hv, hst, hacc, hnext, hbs, hnd⟩ ha => by
    subst hbs
    exact ⟨vst, vacc, vnext, bst, bacc, bnext, hv, (goodV ints 2).other u hst (fun hm => ha (by simp [hm])), (goodV bools 4).other u hacc (fun hm => ha (by simp [hm])), (goodL (goodL (goodV ints 2) 23) 22).other u hnext (fun hm => ha (by simp [hm])), rfl, hnd⟩
  below := fun ⟨vst, vacc, vnext, bst, bacc, bnext, hv, hst, hacc, hnext, hbs, hnd⟩ k => by
    subst hbs
    exact ⟨vst, vacc, vnext, bst, bacc, bnext, hv, (goodV ints 2).below hst k, (goodV bools 4).below hacc k, (goodL (goodL (goodV ints 2) 23) 22).below hnext k, rfl, hnd⟩
  mono := fun ⟨vst, vacc, vnext, bst, bacc, bnext, hv, hst, hacc, hnext, hbs, hnd⟩ k => by
    subst hbs
    exact ⟨vst, vacc, vnext, bst, bacc, bnext, hv, (goodV ints 2).mono hst k, (goodV bools 4).mono hacc k, (goodL (goodL (goodV ints 2) 23) 22).mono hnext k, rfl, hnd⟩
  lt := fun ⟨vst, vacc, vnext, bst, bacc, bnext, hv, hst, hacc, hnext, hbs, hnd⟩ hm => by
    subst hbs
    simp only [List.mem_append] at hm
    rcases hm with (hm | hm) | hm
    all_goals first | exact (goodV ints 2).lt hst hm | exact (goodV bools 4).lt hacc hm | exact (goodL (goodL (goodV ints 2) 23) 22).lt hnext hm
  nodup := fun ⟨vst, vacc, vnext, bst, bacc, bnext, hv, hst, hacc, hnext, hbs, hnd⟩ => hnd

/-- What its slices hold in all, and how many numbers are marked. -/
def cntM (r : MData) : Nat := r.st.length + r.acc.length + (r.next.length + numL (fun y : List (List Int) => y.length + numL (fun x : List Int => x.length) y) r.next)
def numM (r : MData) : Nat := r.st.length + r.acc.length + numL (fun x : List (List Int) => numL (fun x : List Int => x.length) x) r.next
theorem numM_le (r : MData) : numM r ≤ 2 * cntM r := by
  unfold numM cntM
  have a_next := numL_mono (f := fun x : List (List Int) => numL (fun x : List Int => x.length) x) (g := fun y : List (List Int) => y.length + numL (fun x : List Int => x.length) y) (fun x => Nat.le_add_left _ _) r.next
  omega

def mkM (k : Int) (r : MData) : MData := { L := r.L, st := mkI k r.st, acc := mkB (k + ((r.st.length : Nat) : Int)) r.acc, next := mkL (mkL mkI (fun x : List Int => x.length)) (fun x : List (List Int) => numL (fun x : List Int => x.length) x) (k + ((r.st.length : Nat) : Int) + ((r.acc.length : Nat) : Int)) r.next }

set_option maxHeartbeats 1600000 in
theorem markM_own (v : Value) (r : MData) (bs : List Nat) (lo : Nat) (k : Int) (w : World) (h : OwM w lo v r bs) (hk0 : 0 ≤ k) (hk : k + (numM r : Int) ≤ 4611686018427387904) :
    Calls Try.prog 27 #[v, .int .i64 k] w fun e w' => e = .returned (.int .i64 (k + (numM r : Int))) ∧ OwM w' lo v (mkM k r) bs ∧ Turned bs w w' := by
  obtain ⟨vst, vacc, vnext, bst, bacc, bnext, hv, hst, hacc, hnext, hbs, hnd⟩ := h
  subst hv
  subst hbs
  unfold numM at hk
  have hnd' := hnd
  simp only [List.nodup_append] at hnd'
  have ltst : ∀ x ∈ bst, x < w.heap.size := fun x hx => ((goodV ints 2).lt hst hx).2
  have ltacc : ∀ x ∈ bacc, x < w.heap.size := fun x hx => ((goodV bools 4).lt hacc hx).2
  have ltnext : ∀ x ∈ bnext, x < w.heap.size := fun x hx => ((goodL (goodL (goodV ints 2) 23) 22).lt hnext hx).2
  have ap01 : ∀ x ∈ bst, x ∉ bacc := fun x hx hy => hnd'.1.2.2 x hx x hy rfl
  have ap10 : ∀ x ∈ bacc, x ∉ bst := fun x hx hy => hnd'.1.2.2 x hy x hx rfl
  have ap02 : ∀ x ∈ bst, x ∉ bnext := fun x hx hy => hnd'.2.2 x (by simp [hx]) x hy rfl
  have ap20 : ∀ x ∈ bnext, x ∉ bst := fun x hx hy => hnd'.2.2 x (by simp [hy]) x hx rfl
  have ap12 : ∀ x ∈ bacc, x ∉ bnext := fun x hx hy => hnd'.2.2 x (by simp [hx]) x hy rfl
  have ap21 : ∀ x ∈ bnext, x ∉ bacc := fun x hx hy => hnd'.2.2 x (by simp [hy]) x hx rfl
  have hR : Row (w.alloc (.cells #[.int .i64 r.L, vst, vacc, vnext] 43)) w.heap.size 43 [.int .i64 r.L, vst, vacc, vnext] := Row.new w _ _
  have ost := (goodV ints 2).below hst (below_alloc w (.cells #[.int .i64 r.L, vst, vacc, vnext] 43))
  have oacc := (goodV bools 4).below hacc (below_alloc w (.cells #[.int .i64 r.L, vst, vacc, vnext] 43))
  have onext := (goodL (goodL (goodV ints 2) 23) 22).below hnext (below_alloc w (.cells #[.int .i64 r.L, vst, vacc, vnext] 43))
  have hT : Turned [] w (w.alloc (.cells #[.int .i64 r.L, vst, vacc, vnext] 43)) := Turned.alloc w _
  clear hst hacc hnext
  clear hnd'
  have HH := Lib.hid (show _ ∧ _ ∧ _ ∧ _ ∧ _ ∧ _ ∧ _ ∧ _ ∧ _ ∧ _ ∧ _ ∧ _ ∧ _ ∧ _ ∧ _ from ⟨hR, hT, hnd, ost, oacc, onext, ltst, ltacc, ltnext, ap01, ap02, ap10, ap12, ap20, ap21⟩)
  have gg := hR.four
  obtain ⟨⟨c0, c1, c2, c3⟩, -⟩ := gg
  clear hR hT hnd ost oacc onext ltst ltacc ltnext ap01 ap02 ap10 ap12 ap20 ap21
  go_enter Try.func27, Try.ntmps27
  go_wp2_with fail
  have HG0 := HH.out
  obtain ⟨hR, hT, hnd, ost, oacc, onext, ltst, ltacc, ltnext, ap01, ap02, ap10, ap12, ap20, ap21⟩ := HG0
  refine (markInt64S_own vst r.st bst lo (k) _ ost (by omega) (by omega)).mono ?_
  generalize (w.alloc (.cells #[.int .i64 r.L, vst, vacc, vnext] 43)) = W0 at *
  rintro e w1 ⟨rfl, nst, hO⟩
  have nacc := hO.keep (goodV bools 4) oacc ap10
  have nnext := hO.keep (goodL (goodL (goodV ints 2) 23) 22) onext ap20
  have nR := hR.same (hO.block w.heap.size (fun hm => absurd (ltst _ hm) (by omega)))
  have nT := hT.only hO
  clear hO hR hT ost oacc onext HH
  have ost := nst; clear nst
  have oacc := nacc; clear nacc
  have onext := nnext; clear nnext
  have hR := nR; clear nR
  have hT := nT; clear nT
  have HH1 := Lib.hid (show _ ∧ _ ∧ _ ∧ _ ∧ _ ∧ _ ∧ _ ∧ _ ∧ _ ∧ _ ∧ _ ∧ _ ∧ _ ∧ _ ∧ _ from ⟨hR, hT, hnd, ost, oacc, onext, ltst, ltacc, ltnext, ap01, ap02, ap10, ap12, ap20, ap21⟩)
  clear c0 c1 c2 c3
  have gg := hR.four
  obtain ⟨⟨c0, c1, c2, c3⟩, -⟩ := gg
  clear hR hT hnd ost oacc onext ltst ltacc ltnext ap01 ap02 ap10 ap12 ap20 ap21
  go_wp2_with fail
  have HG1 := HH1.out
  obtain ⟨hR, hT, hnd, ost, oacc, onext, ltst, ltacc, ltnext, ap01, ap02, ap10, ap12, ap20, ap21⟩ := HG1
  refine (markBoolS_own vacc r.acc bacc lo (k + ((r.st.length : Nat) : Int)) _ oacc (by omega) (by omega)).mono ?_
  rintro e w2 ⟨rfl, nacc, hO⟩
  have nst := hO.keep (goodV ints 2) ost ap01
  have nnext := hO.keep (goodL (goodL (goodV ints 2) 23) 22) onext ap21
  have nR := hR.same (hO.block w.heap.size (fun hm => absurd (ltacc _ hm) (by omega)))
  have nT := hT.only hO
  clear hO hR hT ost oacc onext HH1
  have ost := nst; clear nst
  have oacc := nacc; clear nacc
  have onext := nnext; clear nnext
  have hR := nR; clear nR
  have hT := nT; clear nT
  have HH2 := Lib.hid (show _ ∧ _ ∧ _ ∧ _ ∧ _ ∧ _ ∧ _ ∧ _ ∧ _ ∧ _ ∧ _ ∧ _ ∧ _ ∧ _ ∧ _ from ⟨hR, hT, hnd, ost, oacc, onext, ltst, ltacc, ltnext, ap01, ap02, ap10, ap12, ap20, ap21⟩)
  clear c0 c1 c2 c3
  have gg := hR.four
  obtain ⟨⟨c0, c1, c2, c3⟩, -⟩ := gg
  clear hR hT hnd ost oacc onext ltst ltacc ltnext ap01 ap02 ap10 ap12 ap20 ap21
  go_wp2_with fail
  have HG2 := HH2.out
  obtain ⟨hR, hT, hnd, ost, oacc, onext, ltst, ltacc, ltnext, ap01, ap02, ap10, ap12, ap20, ap21⟩ := HG2
  refine (markInt64SSS_own vnext r.next bnext lo (k + ((r.st.length : Nat) : Int) + ((r.acc.length : Nat) : Int)) _ onext (by omega) (by omega)).mono ?_
  rintro e w3 ⟨rfl, nnext, hO⟩
  have nst := hO.keep (goodV ints 2) ost ap02
  have nacc := hO.keep (goodV bools 4) oacc ap12
  have nR := hR.same (hO.block w.heap.size (fun hm => absurd (ltnext _ hm) (by omega)))
  have nT := hT.only hO
  clear hO hR hT ost oacc onext HH2
  have ost := nst; clear nst
  have oacc := nacc; clear nacc
  have onext := nnext; clear nnext
  have hR := nR; clear nR
  have hT := nT; clear nT
  have HH3 := Lib.hid (show _ ∧ _ ∧ _ ∧ _ ∧ _ ∧ _ ∧ _ ∧ _ ∧ _ ∧ _ ∧ _ ∧ _ ∧ _ ∧ _ ∧ _ from ⟨hR, hT, hnd, ost, oacc, onext, ltst, ltacc, ltnext, ap01, ap02, ap10, ap12, ap20, ap21⟩)
  clear c0 c1 c2 c3
  have gg := hR.four
  obtain ⟨⟨c0, c1, c2, c3⟩, -⟩ := gg
  clear hR hT hnd ost oacc onext ltst ltacc ltnext ap01 ap02 ap10 ap12 ap20 ap21
  go_wp2
  go_ret
  obtain ⟨hR, hT, hnd, ost, oacc, onext, ltst, ltacc, ltnext, ap01, ap02, ap10, ap12, ap20, ap21⟩ := HH3.out
  refine ⟨ret_int (by unfold numM; omega), ⟨_, _, _, _, _, _, rfl, ost, oacc, onext, rfl, hnd⟩, hT.mono (by intro x hx; simpa using hx)⟩


set_option maxHeartbeats 1600000 in
theorem heldM_any (v : Value) (r : MData) (k : Int) (w : World) (h : RdM w v (mkM k r)) (hk0 : 0 ≤ k) (hk : k + (numM r : Int) ≤ 4611686018427387904) :
    Calls Try.prog 28 #[v, .int .i64 k] w fun e w' => e = .returned (.int .i64 (k + (numM r : Int))) ∧ Below w.heap.size w w' := by
  obtain ⟨vst, vacc, vnext, hv, hst, hacc, hnext⟩ := h
  subst hv
  unfold numM at hk
  have Hst := Lib.hid (fun o m => heldInt64S_any vst r.st (k) ((w.alloc o).drewN m) (keepsI _ _ _ _ hst (below_drewN (below_alloc w o) m)) (by omega) (by omega))
  have ist : (0 : Int) ≤ k + ((r.st.length : Nat) : Int) := by omega
  have Hacc := Lib.hid (fun o m => heldBoolS_any vacc r.acc (k + ((r.st.length : Nat) : Int)) ((w.alloc o).drewN m) (keepsB _ _ _ _ hacc (below_drewN (below_alloc w o) m)) (by omega) (by omega))
  have iacc : (0 : Int) ≤ k + ((r.st.length : Nat) : Int) + ((r.acc.length : Nat) : Int) := by omega
  have Hnext := Lib.hid (fun o m => heldInt64SSS_any vnext r.next (k + ((r.st.length : Nat) : Int) + ((r.acc.length : Nat) : Int)) ((w.alloc o).drewN m) (keepsIII _ _ _ _ hnext (below_drewN (below_alloc w o) m)) (by omega) (by omega))
  have inext : (0 : Int) ≤ k + ((r.st.length : Nat) : Int) + ((r.acc.length : Nat) : Int) + ((numL (fun x : List (List Int) => numL (fun x : List Int => x.length) x) r.next : Nat) : Int) := by omega
  clear hst hacc hnext
  go_enter Try.func28, Try.ntmps28
  go_wp2_with fail
  refine (Hst.out _ 0).mono ?_
  rintro e w' ⟨rfl, m0, rfl⟩
  go_wp2_with fail
  refine (Hacc.out _ _).mono ?_
  rintro e w' ⟨rfl, m1, rfl⟩
  go_wp2_with fail
  refine (Hnext.out _ _).mono ?_
  rintro e w' ⟨rfl, m2, rfl⟩
  go_wp2
  go_ret
  exact ⟨ret_int (by unfold numM; omega), below_drewN (below_alloc w _) _⟩

end Go.Proofs.Yteeckhhingmgfaa
