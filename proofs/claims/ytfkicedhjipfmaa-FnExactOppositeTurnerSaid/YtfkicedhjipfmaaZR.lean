/-
  Reader: what its slices hold in all; its marks.
-/
import Derived.Test.YtfkicedhjipfmaaKR
import Derived.Test.YtfkicedhjipfmaaZ
import Derived.Test.YtfkicedhjipfmaaN2
namespace Go.Proofs.Ytfkicedhjipfmaa
open Go.RowKit

theorem goodR : Good OwR where
  same := fun ⟨vacc, vnext, bacc, bnext, hv, hacc, hnext, hbs, hnd⟩ hs => by
    subst hbs
    exact ⟨vacc, vnext, bacc, bnext, hv, (goodV bools 4).same hacc (fun b hm => hs b (by simp [hm])), (goodL (goodV ints 2) 48).same hnext (fun b hm => hs b (by simp [hm])), rfl, hnd⟩
  other := fun u ⟨vacc, vnext, bacc, bnext, hv, hacc, hnext, hbs, hnd⟩ ha => by
    subst hbs
    exact ⟨vacc, vnext, bacc, bnext, hv, (goodV bools 4).other u hacc (fun hm => ha (by simp [hm])), (goodL (goodV ints 2) 48).other u hnext (fun hm => ha (by simp [hm])), rfl, hnd⟩
  below := fun ⟨vacc, vnext, bacc, bnext, hv, hacc, hnext, hbs, hnd⟩ k => by
    subst hbs
    exact ⟨vacc, vnext, bacc, bnext, hv, (goodV bools 4).below hacc k, (goodL (goodV ints 2) 48).below hnext k, rfl, hnd⟩
  mono := fun ⟨vacc, vnext, bacc, bnext, hv, hacc, hnext, hbs, hnd⟩ k => by
    subst hbs
    exact ⟨vacc, vnext, bacc, bnext, hv, (goodV bools 4).mono hacc k, (goodL (goodV ints 2) 48).mono hnext k, rfl, hnd⟩
  lt := fun ⟨vacc, vnext, bacc, bnext, hv, hacc, hnext, hbs, hnd⟩ hm => by
    subst hbs
    simp only [List.mem_append] at hm
    rcases hm with hm | hm
    all_goals first | exact (goodV bools 4).lt hacc hm | exact (goodL (goodV ints 2) 48).lt hnext hm
  nodup := fun ⟨vacc, vnext, bacc, bnext, hv, hacc, hnext, hbs, hnd⟩ => hnd

/-- What its slices hold in all, and how many numbers are marked. -/
def cntR (r : RData) : Nat := r.acc.length + (r.next.length + numL (fun x : List Int => x.length) r.next)
def numR (r : RData) : Nat := r.acc.length + numL (fun x : List Int => x.length) r.next
theorem numR_le (r : RData) : numR r ≤ 2 * cntR r := by
  unfold numR cntR
  omega

def mkR (k : Int) (r : RData) : RData := { L := r.L, S := r.S, acc := mkB k r.acc, next := mkL mkI (fun x : List Int => x.length) (k + ((r.acc.length : Nat) : Int)) r.next }

set_option maxHeartbeats 800000 in
theorem szR_tot (v : Value) (r : RData) (left : Int) (w : World) (h : RdR w v r) (h0 : 0 ≤ left) (hb : left ≤ 4611686018427387904) :
    Calls Try.prog 10 #[v, .int .i64 left] w fun e w' => (∃ n : Int, e = .returned (.int .i64 n) ∧ (n < 0 ∨ n + (cntR r : Int) = left)) ∧ Below w.heap.size w w' := by
  obtain ⟨vacc, vnext, hv, hacc, hnext⟩ := h
  subst hv
  have Hacc := Lib.hid (fun o l => szBoolS_tot vacc r.acc l (w.alloc o) (keepsB _ _ _ _ hacc (below_alloc _ _)))
  have Hnext := Lib.hid (fun o l => szInt64SS_tot vnext r.next l (w.alloc o) (keepsII _ _ _ _ hnext (below_alloc _ _)))
  clear hacc hnext
  go_enter Try.func10, Try.ntmps10
  go_wp2_with fail
  refine (Hacc.out _ _ (by omega) (by omega)).mono ?_
  rintro e w' ⟨⟨m0, rfl, hm0⟩, rfl⟩
  have HM0 := Lib.hid hm0
  by_cases hl0 : m0 < 0
  · clear hm0
    go_wp2
    go_ret
    exact ⟨⟨_, rfl, .inl (by decide)⟩, below_alloc _ _⟩
  have hp0 : m0 ≤ left := by omega
  clear hm0
  go_wp2_with fail
  refine (Hnext.out _ _ (by omega) (by omega)).mono ?_
  rintro e w' ⟨⟨m1, rfl, hm1⟩, rfl⟩
  have HM1 := Lib.hid hm1
  by_cases hl1 : m1 < 0
  · clear hm1
    go_wp2
    go_ret
    exact ⟨⟨_, rfl, .inl (by decide)⟩, below_alloc _ _⟩
  have hp1 : m1 ≤ m0 := by omega
  clear hm1
  go_wp2
  go_ret
  exact ⟨⟨_, rfl, .inr (by have := HM0.out; have := HM1.out; unfold cntR; omega)⟩, below_alloc _ _⟩


set_option maxHeartbeats 1600000 in
theorem markR_own (v : Value) (r : RData) (bs : List Nat) (lo : Nat) (k : Int) (w : World) (h : OwR w lo v r bs) (hk0 : 0 ≤ k) (hk : k + (numR r : Int) ≤ 4611686018427387904) :
    Calls Try.prog 16 #[v, .int .i64 k] w fun e w' => e = .returned (.int .i64 (k + (numR r : Int))) ∧ OwR w' lo v (mkR k r) bs ∧ Turned bs w w' := by
  obtain ⟨vacc, vnext, bacc, bnext, hv, hacc, hnext, hbs, hnd⟩ := h
  subst hv
  subst hbs
  unfold numR at hk
  have hnd' := hnd
  simp only [List.nodup_append] at hnd'
  have ltacc : ∀ x ∈ bacc, x < w.heap.size := fun x hx => ((goodV bools 4).lt hacc hx).2
  have ltnext : ∀ x ∈ bnext, x < w.heap.size := fun x hx => ((goodL (goodV ints 2) 48).lt hnext hx).2
  have ap01 : ∀ x ∈ bacc, x ∉ bnext := fun x hx hy => hnd'.2.2 x hx x hy rfl
  have ap10 : ∀ x ∈ bnext, x ∉ bacc := fun x hx hy => hnd'.2.2 x hy x hx rfl
  have hR : Row (w.alloc (.cells #[.int .i64 r.L, .int .i64 r.S, vacc, vnext] 32)) w.heap.size 32 [.int .i64 r.L, .int .i64 r.S, vacc, vnext] := Row.new w _ _
  have oacc := (goodV bools 4).below hacc (below_alloc w (.cells #[.int .i64 r.L, .int .i64 r.S, vacc, vnext] 32))
  have onext := (goodL (goodV ints 2) 48).below hnext (below_alloc w (.cells #[.int .i64 r.L, .int .i64 r.S, vacc, vnext] 32))
  have hT : Turned [] w (w.alloc (.cells #[.int .i64 r.L, .int .i64 r.S, vacc, vnext] 32)) := Turned.alloc w _
  clear hacc hnext
  clear hnd'
  have HH := Lib.hid (show _ ∧ _ ∧ _ ∧ _ ∧ _ ∧ _ ∧ _ ∧ _ ∧ _ from ⟨hR, hT, hnd, oacc, onext, ltacc, ltnext, ap01, ap10⟩)
  have gg := hR.four
  obtain ⟨⟨c0, c1, c2, c3⟩, -⟩ := gg
  clear hR hT hnd oacc onext ltacc ltnext ap01 ap10
  go_enter Try.func16, Try.ntmps16
  go_wp2_with fail
  have HG0 := HH.out
  obtain ⟨hR, hT, hnd, oacc, onext, ltacc, ltnext, ap01, ap10⟩ := HG0
  refine (markBoolS_own vacc r.acc bacc lo (k) _ oacc (by omega) (by omega)).mono ?_
  generalize (w.alloc (.cells #[.int .i64 r.L, .int .i64 r.S, vacc, vnext] 32)) = W0 at *
  rintro e w1 ⟨rfl, nacc, hO⟩
  have nnext := hO.keep (goodL (goodV ints 2) 48) onext ap10
  have nR := hR.same (hO.block w.heap.size (fun hm => absurd (ltacc _ hm) (by omega)))
  have nT := hT.only hO
  clear hO hR hT oacc onext HH
  have oacc := nacc; clear nacc
  have onext := nnext; clear nnext
  have hR := nR; clear nR
  have hT := nT; clear nT
  have HH1 := Lib.hid (show _ ∧ _ ∧ _ ∧ _ ∧ _ ∧ _ ∧ _ ∧ _ ∧ _ from ⟨hR, hT, hnd, oacc, onext, ltacc, ltnext, ap01, ap10⟩)
  clear c0 c1 c2 c3
  have gg := hR.four
  obtain ⟨⟨c0, c1, c2, c3⟩, -⟩ := gg
  clear hR hT hnd oacc onext ltacc ltnext ap01 ap10
  go_wp2_with fail
  have HG1 := HH1.out
  obtain ⟨hR, hT, hnd, oacc, onext, ltacc, ltnext, ap01, ap10⟩ := HG1
  refine (markInt64SS_own vnext r.next bnext lo (k + ((r.acc.length : Nat) : Int)) _ onext (by omega) (by omega)).mono ?_
  rintro e w2 ⟨rfl, nnext, hO⟩
  have nacc := hO.keep (goodV bools 4) oacc ap01
  have nR := hR.same (hO.block w.heap.size (fun hm => absurd (ltnext _ hm) (by omega)))
  have nT := hT.only hO
  clear hO hR hT oacc onext HH1
  have oacc := nacc; clear nacc
  have onext := nnext; clear nnext
  have hR := nR; clear nR
  have hT := nT; clear nT
  have HH2 := Lib.hid (show _ ∧ _ ∧ _ ∧ _ ∧ _ ∧ _ ∧ _ ∧ _ ∧ _ from ⟨hR, hT, hnd, oacc, onext, ltacc, ltnext, ap01, ap10⟩)
  clear c0 c1 c2 c3
  have gg := hR.four
  obtain ⟨⟨c0, c1, c2, c3⟩, -⟩ := gg
  clear hR hT hnd oacc onext ltacc ltnext ap01 ap10
  go_wp2
  go_ret
  obtain ⟨hR, hT, hnd, oacc, onext, ltacc, ltnext, ap01, ap10⟩ := HH2.out
  refine ⟨ret_int (by unfold numR; omega), ⟨_, _, _, _, rfl, oacc, onext, rfl, hnd⟩, hT.mono (by intro x hx; simpa using hx)⟩


end Go.Proofs.Ytfkicedhjipfmaa
