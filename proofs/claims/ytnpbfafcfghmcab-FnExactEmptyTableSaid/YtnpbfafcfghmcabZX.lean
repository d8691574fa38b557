/-
  Table: what its slices hold in all; its marks.
-/
import Derived.Test.YtnpbfafcfghmcabKX
import Derived.Test.YtnpbfafcfghmcabZPX
import Derived.Test.YtnpbfafcfghmcabNExit
namespace Go.Proofs.Ytnpbfafcfghmcab
open Go.RowKit

theorem goodX : Good OwX where
  same := fun ⟨vfl, vfr, bfl, bfr, hv, hfl, hfr, hbs, hnd⟩ hs => by
    subst hbs
    exact ⟨vfl, vfr, bfl, bfr, hv, (goodP 47).same hfl (fun b hm => hs b (by simp [hm])), (goodP 47).same hfr (fun b hm => hs b (by simp [hm])), rfl, hnd⟩
  other := fun u ⟨vfl, vfr, bfl, bfr, hv, hfl, hfr, hbs, hnd⟩ ha => by
    subst hbs
    exact ⟨vfl, vfr, bfl, bfr, hv, (goodP 47).other u hfl (fun hm => ha (by simp [hm])), (goodP 47).other u hfr (fun hm => ha (by simp [hm])), rfl, hnd⟩
  below := fun ⟨vfl, vfr, bfl, bfr, hv, hfl, hfr, hbs, hnd⟩ k => by
    subst hbs
    exact ⟨vfl, vfr, bfl, bfr, hv, (goodP 47).below hfl k, (goodP 47).below hfr k, rfl, hnd⟩
  mono := fun ⟨vfl, vfr, bfl, bfr, hv, hfl, hfr, hbs, hnd⟩ k => by
    subst hbs
    exact ⟨vfl, vfr, bfl, bfr, hv, (goodP 47).mono hfl k, (goodP 47).mono hfr k, rfl, hnd⟩
  lt := fun ⟨vfl, vfr, bfl, bfr, hv, hfl, hfr, hbs, hnd⟩ hm => by
    subst hbs
    simp only [List.mem_append] at hm
    rcases hm with hm | hm
    all_goals first | exact (goodP 47).lt hfl hm | exact (goodP 47).lt hfr hm
  nodup := fun ⟨vfl, vfr, bfl, bfr, hv, hfl, hfr, hbs, hnd⟩ => hnd

/-- What its slices hold in all, and how many numbers are marked. -/
def cntX (r : XData) : Nat := r.fl.length + r.fr.length
def numX (r : XData) : Nat := (2 * r.fl.length) + (2 * r.fr.length)
theorem numX_le (r : XData) : numX r ≤ 2 * cntX r := by
  unfold numX cntX
  omega

def mkX (k : Int) (r : XData) : XData := { fl := mkP k r.fl, fr := mkP (k + (((2 * r.fl.length) : Nat) : Int)) r.fr }

set_option maxHeartbeats 800000 in
theorem szX_tot (v : Value) (r : XData) (left : Int) (w : World) (h : RdX w v r) (h0 : 0 ≤ left) (hb : left ≤ 4611686018427387904) :
    Calls Try.prog 7 #[v, .int .i64 left] w fun e w' => (∃ n : Int, e = .returned (.int .i64 n) ∧ (n < 0 ∨ n + (cntX r : Int) = left)) ∧ Below w.heap.size w w' := by
  obtain ⟨vfl, vfr, hv, hfl, hfr⟩ := h
  subst hv
  have Hfl := Lib.hid (fun o l => szExitS_tot vfl r.fl l (w.alloc o) (keepsP _ _ _ _ hfl (below_alloc _ _)))
  have Hfr := Lib.hid (fun o l => szExitS_tot vfr r.fr l (w.alloc o) (keepsP _ _ _ _ hfr (below_alloc _ _)))
  clear hfl hfr
  go_enter Try.func7, Try.ntmps7
  go_wp2_with fail
  refine (Hfl.out _ _ (by omega) (by omega)).mono ?_
  rintro e w' ⟨⟨m0, rfl, hm0⟩, rfl⟩
  have HM0 := Lib.hid hm0
  by_cases hl0 : m0 < 0
  · clear hm0
    go_wp2
    go_ret
    exact ⟨⟨_, rfl, .inl (by decide)⟩, below_alloc _ _⟩
  have hp0 : m0 ≤ left := by omega
  clear hm0
  go_wp2_with fail
  refine (Hfr.out _ _ (by omega) (by omega)).mono ?_
  rintro e w' ⟨⟨m1, rfl, hm1⟩, rfl⟩
  have HM1 := Lib.hid hm1
  by_cases hl1 : m1 < 0
  · clear hm1
    go_wp2
    go_ret
    exact ⟨⟨_, rfl, .inl (by decide)⟩, below_alloc _ _⟩
  have hp1 : m1 ≤ m0 := by omega
  clear hm1
  go_wp2
  go_ret
  exact ⟨⟨_, rfl, .inr (by have := HM0.out; have := HM1.out; unfold cntX; omega)⟩, below_alloc _ _⟩


set_option maxHeartbeats 1600000 in
theorem markX_own (v : Value) (r : XData) (bs : List Nat) (lo : Nat) (k : Int) (w : World) (h : OwX w lo v r bs) (hk0 : 0 ≤ k) (hk : k + (numX r : Int) ≤ 4611686018427387904) :
    Calls Try.prog 16 #[v, .int .i64 k] w fun e w' => e = .returned (.int .i64 (k + (numX r : Int))) ∧ OwX w' lo v (mkX k r) bs ∧ Turned bs w w' := by
  obtain ⟨vfl, vfr, bfl, bfr, hv, hfl, hfr, hbs, hnd⟩ := h
  subst hv
  subst hbs
  unfold numX at hk
  have hnd' := hnd
  simp only [List.nodup_append] at hnd'
  have ltfl : ∀ x ∈ bfl, x < w.heap.size := fun x hx => ((goodP 47).lt hfl hx).2
  have ltfr : ∀ x ∈ bfr, x < w.heap.size := fun x hx => ((goodP 47).lt hfr hx).2
  have ap01 : ∀ x ∈ bfl, x ∉ bfr := fun x hx hy => hnd'.2.2 x hx x hy rfl
  have ap10 : ∀ x ∈ bfr, x ∉ bfl := fun x hx hy => hnd'.2.2 x hy x hx rfl
  have hR : Row (w.alloc (.cells #[vfl, vfr] 29)) w.heap.size 29 [vfl, vfr] := Row.new w _ _
  have ofl := (goodP 47).below hfl (below_alloc w (.cells #[vfl, vfr] 29))
  have ofr := (goodP 47).below hfr (below_alloc w (.cells #[vfl, vfr] 29))
  have hT : Turned [] w (w.alloc (.cells #[vfl, vfr] 29)) := Turned.alloc w _
  clear hfl hfr
  clear hnd'
  have HH := Lib.hid (show _ ∧ _ ∧ _ ∧ _ ∧ _ ∧ _ ∧ _ ∧ _ ∧ _ from ⟨hR, hT, hnd, ofl, ofr, ltfl, ltfr, ap01, ap10⟩)
  have gg := hR.two
  obtain ⟨⟨c0, c1⟩, -⟩ := gg
  clear hR hT hnd ofl ofr ltfl ltfr ap01 ap10
  go_enter Try.func16, Try.ntmps16
  go_wp2_with fail
  have HG0 := HH.out
  obtain ⟨hR, hT, hnd, ofl, ofr, ltfl, ltfr, ap01, ap10⟩ := HG0
  refine (markExitS_own vfl r.fl bfl lo (k) _ ofl (by omega) (by omega)).mono ?_
  generalize (w.alloc (.cells #[vfl, vfr] 29)) = W0 at *
  rintro e w1 ⟨rfl, nfl, hO⟩
  have nfr := hO.keep (goodP 47) ofr ap10
  have nR := hR.same (hO.block w.heap.size (fun hm => absurd (ltfl _ hm) (by omega)))
  have nT := hT.only hO
  clear hO hR hT ofl ofr HH
  have ofl := nfl; clear nfl
  have ofr := nfr; clear nfr
  have hR := nR; clear nR
  have hT := nT; clear nT
  have HH1 := Lib.hid (show _ ∧ _ ∧ _ ∧ _ ∧ _ ∧ _ ∧ _ ∧ _ ∧ _ from ⟨hR, hT, hnd, ofl, ofr, ltfl, ltfr, ap01, ap10⟩)
  clear c0 c1
  have gg := hR.two
  obtain ⟨⟨c0, c1⟩, -⟩ := gg
  clear hR hT hnd ofl ofr ltfl ltfr ap01 ap10
  go_wp2_with fail
  have HG1 := HH1.out
  obtain ⟨hR, hT, hnd, ofl, ofr, ltfl, ltfr, ap01, ap10⟩ := HG1
  refine (markExitS_own vfr r.fr bfr lo (k + (((2 * r.fl.length) : Nat) : Int)) _ ofr (by omega) (by omega)).mono ?_
  rintro e w2 ⟨rfl, nfr, hO⟩
  have nfl := hO.keep (goodP 47) ofl ap01
  have nR := hR.same (hO.block w.heap.size (fun hm => absurd (ltfr _ hm) (by omega)))
  have nT := hT.only hO
  clear hO hR hT ofl ofr HH1
  have ofl := nfl; clear nfl
  have ofr := nfr; clear nfr
  have hR := nR; clear nR
  have hT := nT; clear nT
  have HH2 := Lib.hid (show _ ∧ _ ∧ _ ∧ _ ∧ _ ∧ _ ∧ _ ∧ _ ∧ _ from ⟨hR, hT, hnd, ofl, ofr, ltfl, ltfr, ap01, ap10⟩)
  clear c0 c1
  have gg := hR.two
  obtain ⟨⟨c0, c1⟩, -⟩ := gg
  clear hR hT hnd ofl ofr ltfl ltfr ap01 ap10
  go_wp2
  go_ret
  obtain ⟨hR, hT, hnd, ofl, ofr, ltfl, ltfr, ap01, ap10⟩ := HH2.out
  refine ⟨ret_int (by unfold numX; omega), ⟨_, _, _, _, rfl, ofl, ofr, rfl, hnd⟩, hT.mono (by intro x hx; simpa using hx)⟩


set_option maxHeartbeats 1600000 in
theorem heldX_any (v : Value) (r : XData) (k : Int) (w : World) (h : RdX w v (mkX k r)) (hk0 : 0 ≤ k) (hk : k + (numX r : Int) ≤ 4611686018427387904) :
    Calls Try.prog 17 #[v, .int .i64 k] w fun e w' => e = .returned (.int .i64 (k + (numX r : Int))) ∧ Below w.heap.size w w' := by
  obtain ⟨vfl, vfr, hv, hfl, hfr⟩ := h
  subst hv
  unfold numX at hk
  have Hfl := Lib.hid (fun o m => heldExitS_any vfl r.fl (k) ((w.alloc o).drewN m) (keepsP _ _ _ _ hfl (below_drewN (below_alloc w o) m)) (by omega) (by omega))
  have ifl : (0 : Int) ≤ k + (((2 * r.fl.length) : Nat) : Int) := by omega
  have Hfr := Lib.hid (fun o m => heldExitS_any vfr r.fr (k + (((2 * r.fl.length) : Nat) : Int)) ((w.alloc o).drewN m) (keepsP _ _ _ _ hfr (below_drewN (below_alloc w o) m)) (by omega) (by omega))
  have ifr : (0 : Int) ≤ k + (((2 * r.fl.length) : Nat) : Int) + (((2 * r.fr.length) : Nat) : Int) := by omega
  clear hfl hfr
  go_enter Try.func17, Try.ntmps17
  go_wp2_with fail
  refine (Hfl.out _ 0).mono ?_
  rintro e w' ⟨rfl, m0, rfl⟩
  go_wp2_with fail
  refine (Hfr.out _ _).mono ?_
  rintro e w' ⟨rfl, m1, rfl⟩
  go_wp2
  go_ret
  exact ⟨ret_int (by unfold numX; omega), below_drewN (below_alloc w _) _⟩

end Go.Proofs.Ytnpbfafcfghmcab
