/-
  The run, as the model makes it: its places, and a list of the numbers of those it has been in.
-/
import Derived.Test.YtdkalefepdlccaaRu1
import Derived.Test.YtdkalefepdlccaaQPlace
import Derived.Test.YtdkalefepdlccaaApp
import Derived.Test.YtdkalefepdlccaaCl
import Derived.Test.YtdkalefepdlccaaSt2
import Derived.Deep.AppendLies
import Derived.BigQuiet
import Derived.WalkMore
import Derived.Deep.LoopGhost
namespace Go.Proofs.Ytdkalefepdlccaa
open Go.RowKit

theorem infoIntR : (Try.prog.info? 3).map (fun i => (i.zero, i.size, i.bytes)) = some (some (.int .i64 0), 1, 8) := by kernel_rfl

theorem ints_set (xs : List Int) (i : Nat) (v : Int) : (ints xs).set i (.int .i64 v) = ints (xs.set i v) := by simp [ints, List.map_set]
theorem ints_get {xs : List Int} {i : Nat} {v : Int} (h : xs[i]? = some v) : (ints xs)[i]? = some (.int .i64 v) := by simp [ints, h]

/-- The list knows just the places so far, each by its number, counted from one. -/
def TabOk (n z : Nat) (F : List Int) (ps : List (Nat × Nat)) : Prop :=
  F.length = n * (z + 2) ∧ ∀ p, OkP n z p → F[keyN z p]? = some (if p ∈ ps then ((ps.idxOf p : Nat) : Int) + 1 else 0)
theorem tabOk_start (n z : Nat) : TabOk n z (List.replicate (n * (z + 2)) 0) [] :=
  ⟨by simp, fun p hp => by simp [keyN_lt hp]⟩
theorem tabOk_snoc {n z : Nat} {F : List Int} {ps : List (Nat × Nat)} {p : Nat × Nat} (h : TabOk n z F ps) (hp : OkP n z p) (hm : p ∉ ps) : TabOk n z (F.set (keyN z p) ((ps.length : Int) + 1)) (ps ++ [p]) := by
  refine ⟨by simp [h.1], fun q hq => ?_⟩
  by_cases e : q = p
  · subst e
    rw [List.getElem?_set_self (by rw [h.1]; exact keyN_lt hp), if_pos (by simp), List.idxOf_append, if_neg hm]
    simp
  · have hne : keyN z p ≠ keyN z q := fun e' => e (keyN_inj hq hp e'.symm)
    rw [List.getElem?_set_ne hne, h.2 q hq]
    by_cases hq' : q ∈ ps
    · rw [if_pos hq', if_pos (by simp [hq']), List.idxOf_append, if_pos hq']
    · rw [if_neg hq', if_neg (by simp [hq', e])]

/-- The memory of the model's call while the run is made. -/
structure MoI (w wr : World) (n z : Nat) (ps : List (Nat × Nat)) (p : Nat × Nat) (Bn : Option Addr) (kn : Nat) (F : List Int) : Prop where
  bel : Below w.heap.size w wr
  tab : Row wr w.heap.size 3 (ints F)
  tabOk : TabOk n z F ps
  own : wr.ownsRow (w.heap.size + 1) 70 2 (.slice Bn ps.length kn) ps.length (pcells (ps.map pI))
  off : w.heap.size + 2 ∉ blks (.slice Bn ps.length kn)
  box : Row wr (w.heap.size + 2) 70 [.int .i64 (p.1 : Int), .int .i64 (p.2 : Int)]
theorem MoI.below {w wr w1 : World} {n z : Nat} {ps : List (Nat × Nat)} {p : Nat × Nat} {Bn : Option Addr} {kn : Nat} {F : List Int} (h : MoI w wr n z ps p Bn kn F) (hb : Below wr.heap.size wr w1) : MoI w w1 n z ps p Bn kn F where
  bel := below_step h.bel hb
  tab := h.tab.below hb h.tab.lt
  tabOk := h.tabOk
  own := rows_below h.own hb
  off := h.off
  box := h.box.below hb h.box.lt
theorem MoI.ownP {w wr : World} {n z : Nat} {ps : List (Nat × Nat)} {p : Nat × Nat} {Bn : Option Addr} {kn : Nat} {F : List Int} (h : MoI w wr n z ps p Bn kn F) : OwP 70 wr (w.heap.size + 1) (.slice Bn ps.length kn) (ps.map pI) (blks (.slice Bn ps.length kn)) :=
  ⟨by rw [List.length_map]; exact h.own, rfl⟩
theorem MoI.ownP' {w wr : World} {n z l : Nat} {ps : List (Nat × Nat)} {p : Nat × Nat} {Bn : Option Addr} {kn : Nat} {F : List Int} (h : MoI w wr n z ps p Bn kn F) (hl : ps.length = l := by simp) : OwP 70 wr (w.heap.size + 1) (.slice Bn l kn) (ps.map pI) (blks (.slice Bn l kn)) := by
  subst hl; exact h.ownP
theorem MoI.appended {w wr w3 : World} {n z : Nat} {ps : List (Nat × Nat)} {p : Nat × Nat} {Bn : Option Addr} {kn : Nat} {F : List Int} {g cap : Nat} {o : Obj} (h : MoI w wr n z ps p Bn kn F) (hp : OkP n z p) (hm : p ∉ ps)
    (hg : (wr.alloc o).grownBy w3 (Value.slice Bn ps.length kn).ownBlock)
    (ho : w3.ownsRow (w.heap.size + 1) 70 2 (.slice (some ⟨g, 0, none⟩) (ps.length + 1) cap) (ps.length + 1) (pcells (ps.map pI) ++ [.int .i64 (p.1 : Int), .int .i64 (p.2 : Int)]))
    (hat : (Value.slice Bn ps.length kn).ownBlock = some g ∨ g = wr.heap.size + 1) :
    Row w3 w.heap.size 3 (ints F) ∧ Row w3 (w.heap.size + 2) 70 [.int .i64 (p.1 : Int), .int .i64 (p.2 : Int)] ∧
      MoI w (w3.setCell ⟨w.heap.size, keyN z p, none⟩ (.int .i64 ((ps.length : Int) + 1))) n z (ps ++ [p]) p (some ⟨g, 0, none⟩) cap (F.set (keyN z p) ((ps.length : Int) + 1)) := by
  have hnb : ∀ b, b < w.heap.size + 1 → b ∉ blks (.slice Bn ps.length kn) := fun b hb hm => by have := (World.ownsRow.lt h.own b (mem_blks.1 hm)).1; omega
  have k1 := grown_row hg (h.tab.alloc o) (hnb _ (by omega))
  have k2 := grown_row hg (h.box.alloc o) h.off
  have kb := (below_step h.bel (below_alloc wr o)).trans (grown_below hg (B := w.heap.size) (by have := h.bel.size; simp; omega) (fun b hb => by have := (World.ownsRow.lt h.own b (mem_blks.1 hb)).1; omega))
  have e1 : pcells (ps.map pI) ++ [.int .i64 (p.1 : Int), .int .i64 (p.2 : Int)] = pcells ((ps ++ [p]).map pI) := by rw [List.map_append, List.map_singleton, pcells_snoc]; rfl
  rw [e1] at ho
  have el : (ps ++ [p]).length = ps.length + 1 := by simp
  have hgn : g ≠ w.heap.size + 2 := by
    intro e
    rcases hat with h1 | h1
    · exact h.off (mem_blks.2 (e ▸ h1))
    · have := h.box.lt; omega
  have hou : OwP 70 w3 (w.heap.size + 1) (.slice (some ⟨g, 0, none⟩) (ps.length + 1) cap) ((ps ++ [p]).map pI) (blks (.slice (some ⟨g, 0, none⟩) (ps.length + 1) cap)) := ⟨by rw [List.length_map, el]; exact ho, rfl⟩
  have hou2 := (goodP _).under (a := ⟨w.heap.size, keyN z p, none⟩) hou (by show w.heap.size < _; omega) (.int .i64 ((ps.length : Int) + 1))
  refine ⟨k1, k2, kb.setCell (Nat.le_refl _) _, ?_, tabOk_snoc h.tabOk hp hm, ?_, ?_, k2.other (by show w.heap.size ≠ w.heap.size + 2; omega) _⟩
  · have := k1.stored (keyN z p) (.int .i64 ((ps.length : Int) + 1))
    rwa [ints_set] at this
  · have := hou2.1
    rw [List.length_map] at this
    rwa [el] at this ⊢
  · intro hm2
    simp [blks, Value.ownBlock] at hm2
    omega
theorem MoI.moved {w wr : World} {n z : Nat} {ps : List (Nat × Nat)} {p p' : Nat × Nat} {Bn : Option Addr} {kn : Nat} {F : List Int} (h : MoI w wr n z ps p Bn kn F) (o : Obj) :
    MoI w (((wr.setCell ⟨w.heap.size + 1 + 1, 0, none⟩ (.int .i64 (pI p').1)).setCell ⟨w.heap.size + 1 + 1, 1, none⟩ (.int .i64 (pI p').2)).alloc o) n z ps p' Bn kn F := by
  have hgn : ∀ b ∈ blks (.slice Bn ps.length kn), b ≠ w.heap.size + 1 + 1 := fun b hb e => h.off (e ▸ hb)
  have k : MoI w ((wr.setCell ⟨w.heap.size + 1 + 1, 0, none⟩ (.int .i64 (pI p').1)).setCell ⟨w.heap.size + 1 + 1, 1, none⟩ (.int .i64 (pI p').2)) n z ps p' Bn kn F := by
    refine ⟨(h.bel.setCell (by show w.heap.size ≤ w.heap.size + 1 + 1; omega) _).setCell (by show w.heap.size ≤ w.heap.size + 1 + 1; omega) _, (h.tab.other (by show w.heap.size + 1 + 1 ≠ w.heap.size; omega) _).other (by show w.heap.size + 1 + 1 ≠ w.heap.size; omega) _, h.tabOk, ?_, h.off, (h.box.stored 0 (.int .i64 (pI p').1)).stored 1 (.int .i64 (pI p').2)⟩
    exact rows_same h.own (fun b hb => (Below.heap_setCell _ _ _ _ (by show b ≠ w.heap.size + 1 + 1; exact hgn b hb)).trans (Below.heap_setCell _ _ _ _ (by show b ≠ w.heap.size + 1 + 1; exact hgn b hb)))
  exact k.below (below_alloc _ _)
theorem MoI.start (w : World) (n z : Nat) (q : Nat) :
    MoI w (((w.alloc (.cells (madeCells #[.int .i64 0] (n * (z + 2))) 3)).alloc (.cells #[] 70)).alloc (.cells #[.int .i64 (q : Int), .int .i64 0] 70)) n z [] (q, 0) (some ⟨w.heap.size + 1, 0, none⟩) 0 (List.replicate (n * (z + 2)) 0) where
  bel := ((below_alloc w _).alloc (by simp) _).alloc (by simp; omega) _
  tab := by
    have := ((Row.made w (.int .i64 0) (n * (z + 2)) 3).alloc (.cells #[] 70)).alloc (.cells #[.int .i64 (q : Int), .int .i64 0] 70)
    unfold ints
    rw [List.map_replicate]
    exact this
  tabOk := tabOk_start _ _
  own := by
    have := (World.ownsRow_lit (base := w.heap.size + 1) (e := 70) (size := 2) (w.alloc (.cells (madeCells #[.int .i64 0] (n * (z + 2))) 3)) #[] 0 (by simp) (by unfold maxLen; omega) rfl).alloc (.cells #[.int .i64 (q : Int), .int .i64 0] 70)
    rw [show (w.alloc (.cells (madeCells #[.int .i64 0] (n * (z + 2))) 3)).heap.size = w.heap.size + 1 by simp] at this
    exact this
  off := by simp [blks, Value.ownBlock]
  box := by
    have := Row.new ((w.alloc (.cells (madeCells #[.int .i64 0] (n * (z + 2))) 3)).alloc (.cells #[] 70)) [.int .i64 (q : Int), .int .i64 0] 70
    simpa using this

set_option maxRecDepth 100000 in
set_option maxHeartbeats 6400000 in
theorem l02Run_own (b : Nat) (t : TData) (s : ByteArray) (w : World) (h : AtT w b t) (ok : OkT t) (hl : lettersOk t.L s = true) (hs : s.size ≤ 60) :
    Calls Try.prog 61 #[.pointer (some ⟨b, 0, none⟩), .string s] w fun e w' => ∃ u bs, e = .returned (.tuple #[u, .int .i64 (runN t s).verdict, .int .i64 (((runN t s).loop : Nat) : Int)]) ∧ OwP 70 w' w.heap.size u ((runN t s).places.map pI) bs ∧ Below w.heap.size w w' := by
  obtain ⟨im, him, hzm0, hzm1, hzm2⟩ := info_parts infoPlace
  have HA := Lib.hid h
  obtain ⟨vm, c0, c1, c2, hm⟩ := h
  obtain ⟨A, ca, rfl⟩ := RdL.shape hm
  have HOK := Lib.hid ok
  have HL := Lib.hid hl
  have HST := Lib.hid (RunAt.start s ok)
  have n2 := ok.n2
  have hroom := room_le n2 hs
  obtain ⟨q, hq⟩ : ∃ q : Nat, t.S = (q : Int) := ⟨t.S.toNat, by have := ok.s1; omega⟩
  rw [hq] at c1
  have HQ := Lib.hid hq
  have hlt := World.block_lt_of_cell? _ _ c0
  obtain ⟨N, hN⟩ : ∃ N, N = t.mv.length * (s.size + 2) := ⟨_, rfl⟩
  have hNN : N ≤ 744 := by unfold roomP at hroom; omega
  have hwN : IntKind.i64.wrap ((t.mv.length : Int) * ((s.size : Int) + 2)) = (N : Int) := by
    rw [show (t.mv.length : Int) * ((s.size : Int) + 2) = (N : Int) by rw [hN]; push_cast; rfl]
    exact IntWalk.i64_in _ (by omega)
  have hmk := run_make_row' (P := Try.prog) 131 3 (.int .i64 0) 8 Try.underlying131 infoIntR rfl .i64 .i64 N (by omega) (by omega)
  have HN := Lib.hid hN
  clear hm ok hl hq hN hroom
  go_enter Try.func61, Try.ntmps61
  go_wp2
  have HS0 := Lib.hid (show MoI w (((w.alloc (.cells (madeCells #[.int .i64 0] N) 3)).alloc (.cells #[] 70)).alloc (.cells #[.int .i64 (q : Int), .int .i64 0] 70)) t.mv.length s.size [] (q, 0) (some ⟨w.heap.size + 1, 0, none⟩) 0 (List.replicate (t.mv.length * (s.size + 2)) 0) from HN.out ▸ MoI.start w t.mv.length s.size q)
  generalize ((w.alloc (.cells (madeCells #[.int .i64 0] N) 3)).alloc (.cells #[] 70)).alloc (.cells #[.int .i64 (q : Int), .int .i64 0] 70) = W0 at *
  clear hmk c0 c1 c2 hlt hwN
  go_loopg [8] (roomP t s + 1) (fun k u wr => ∃ (ps : List (Nat × Nat)) (Bn : Option Addr) (kn : Nat) (F : List Int) (p : Nat × Nat), k + ps.length = roomP t s + 1 ∧ RunAt t s ps p ∧ u = .slice Bn ps.length kn ∧ MoI w wr t.mv.length s.size ps p Bn kn F)
  case atStart => exact ⟨[], _, 0, _, (t.S.toNat, 0), by simp, HST.out, rfl, by rw [show t.S.toNat = q by have := HQ.out; omega]; exact HS0.out⟩
  case round =>
    clear HS0 HST
    obtain ⟨ps, Bn, kn, F, p, hk, hR, rfl, hI⟩ := hrel
    have HI := Lib.hid hI
    have HR := Lib.hid hR
    have HKK := Lib.hid hk
    have hp1 := hR.here.1
    have hp2 := hR.here.2
    have hroom := hR.room
    have hr744 := room_le n2 hs
    have hmo2 := move_on HOK.out HL.out hR.here
    have HAT := Lib.hid (fun W (hb : Below w.heap.size w W) => l02At_any b t s p.1 p.2 W (HA.out.below hb) HOK.out HL.out hs hp1 hp2)
    obtain ⟨m, hm⟩ : ∃ m, m = p.1 * (s.size + 2) := ⟨_, rfl⟩
    have hkN : keyN s.size p = m + p.2 := by rw [hm]; rfl
    have hkl := keyN_lt hR.here
    rw [hkN, ← HN.out] at hkl
    have hwm : IntKind.i64.wrap ((p.1 : Int) * ((s.size : Int) + 2)) = (m : Int) := by
      rw [show (p.1 : Int) * ((s.size : Int) + 2) = (m : Int) by rw [hm]; push_cast; rfl]
      exact IntWalk.i64_in _ (by omega)
    have f1 : (0 : Int) ≤ (m : Int) + (p.2 : Int) := by omega
    have f2 : (m : Int) + (p.2 : Int) < (N : Int) := by omega
    have f3 : ((m : Int) + (p.2 : Int)).toNat = m + p.2 := by omega
    have HKN := Lib.hid hkN
    have hF := hI.tabOk.2 p hR.here
    rw [hkN] at hF
    obtain ⟨⟨y0, y1⟩, -⟩ := (show Row wr (w.heap.size + 1 + 1) 70 [.int .i64 (p.1 : Int), .int .i64 (p.2 : Int)] from hI.box).two
    have lB := (show Row wr (w.heap.size + 1 + 1) 70 [.int .i64 (p.1 : Int), .int .i64 (p.2 : Int)] from hI.box).lt
    have lT := hI.tab.lt
    clear hI hR hk hm hkN
    by_cases hmem : p ∈ ps
    · rw [if_pos hmem] at hF
      have HRES := Lib.hid (HR.out.again hmem)
      have hil := List.idxOf_lt_length_of_mem hmem
      have gF := (HI.out.tab.cell (m + p.2)).trans (ints_get hF)
      generalize ps.idxOf p = ix at *
      have d1 : decide (0 < (ix : Int) + 1) = true := decide_eq_true (by omega)
      clear hmem hF hmo2 HAT
      go_wp2
      go_quiet (fail)
      go_wp2
      refine bodyPost_ret (v := .tuple #[.slice Bn ps.length kn, .int .i64 3, .int .i64 (ix : Int)]) (by simp [results, Try.results61, go_sem]) rfl ?_
      rw [HRES.out]
      exact ⟨.slice Bn ps.length kn, _, by first | rfl | (simp; done) | (congr; omega), (goodP _).mono (HI.out.below (by first | exact Below.refl _ _ | exact below_drew _ | exact below_drewN' _ _)).ownP' (by omega), (HI.out.below (by first | exact Below.refl _ _ | exact below_drew _ | exact below_drewN' _ _)).bel⟩
    · rw [if_neg hmem] at hF
      have HMEM := Lib.hid hmem
      have gF := (HI.out.tab.cell (m + p.2)).trans (ints_get hF)
      have HGF := Lib.hid (ints_get hF)
      clear hmem hF
      rcases hmo2 with ⟨h0 | h0, h9⟩ | ⟨h0, h5, h6, h7, h8, h9⟩
      · have HRES := Lib.hid (HR.out.takes HMEM.out h0)
        have e : moveOn t s p.1 p.2 = (-1, 0) := Prod.ext h0 h9
        rw [e] at HAT
        clear h0 h9 e
        go_wp2_with (at_builtin; refine wpList_append_lies _ rfl _ _ 26 rfl (w.heap.size + 1) 70 im _ 2 16 Try.underlying26 him hzm0 hzm1 hzm2 rfl (by decide) (.slice Bn ps.length kn) ps.length _ rfl (HI.out.own.alloc _) ⟨wr.heap.size, 0, none⟩ 1 1 [.int .i64 (p.1 : Int), .int .i64 (p.2 : Int)] rfl rfl (World.news_of_block (cs := #[.int .i64 (p.1 : Int), .int .i64 (p.2 : Int)]) (t := 70) (fr := (0, 0)) (heap_alloc_new wr _)) (by simp [Value.oneCell']) (by omega) (by unfold maxLen; omega) (by omega) (by have := HI.out.box.lt; simp; omega) (wr.heap.size + 1) (by simp) ?_; intro g cap w3 hown3 hgrow3 hat3 hlt3; have ha3 := HI.out.appended HR.out.here HMEM.out hgrow3 hown3 hat3; rw [HKN.out] at ha3; have HA3 := Lib.hid ha3; clear ha3; have hT3 := HA3.out.1; have gF := hT3.cell (m + p.2); rw [HGF.out] at gF; have fF := hT3.free (m + p.2); have lT := hT3.lt; obtain ⟨⟨y0, y1⟩, -⟩ := (show Row w3 (w.heap.size + 1 + 1) 70 [.int .i64 (p.1 : Int), .int .i64 (p.2 : Int)] from HA3.out.2.1).two; have lB := (show Row w3 (w.heap.size + 1 + 1) 70 [.int .i64 (p.1 : Int), .int .i64 (p.2 : Int)] from HA3.out.2.1).lt; clear hT3 hown3 hgrow3 hat3)
        refine (HAT.out _ HA3.out.2.2.bel).mono ?_
        rintro e w5 ⟨rfl, hb5⟩
        have HI5 := Lib.hid (HA3.out.2.2.below hb5)
        clear hb5 gF fF lT y0 y1 lB
        go_wp2
        refine bodyPost_ret (v := .tuple #[.slice (some ⟨g, 0, none⟩) (ps.length + 1) cap, .int .i64 1, .int .i64 0]) (by simp [results, Try.results61, go_sem]) rfl ?_
        rw [HRES.out]
        refine ⟨.slice (some ⟨g, 0, none⟩) (ps.length + 1) cap, _, rfl, (goodP _).mono (HI5.out.below (below_alloc _ _)).ownP' (by omega), (HI5.out.below (below_alloc _ _)).bel⟩
      · have HRES := Lib.hid (HR.out.refuses HMEM.out h0)
        have e : moveOn t s p.1 p.2 = (-2, 0) := Prod.ext h0 h9
        rw [e] at HAT
        clear h0 h9 e
        go_wp2_with (at_builtin; refine wpList_append_lies _ rfl _ _ 26 rfl (w.heap.size + 1) 70 im _ 2 16 Try.underlying26 him hzm0 hzm1 hzm2 rfl (by decide) (.slice Bn ps.length kn) ps.length _ rfl (HI.out.own.alloc _) ⟨wr.heap.size, 0, none⟩ 1 1 [.int .i64 (p.1 : Int), .int .i64 (p.2 : Int)] rfl rfl (World.news_of_block (cs := #[.int .i64 (p.1 : Int), .int .i64 (p.2 : Int)]) (t := 70) (fr := (0, 0)) (heap_alloc_new wr _)) (by simp [Value.oneCell']) (by omega) (by unfold maxLen; omega) (by omega) (by have := HI.out.box.lt; simp; omega) (wr.heap.size + 1) (by simp) ?_; intro g cap w3 hown3 hgrow3 hat3 hlt3; have ha3 := HI.out.appended HR.out.here HMEM.out hgrow3 hown3 hat3; rw [HKN.out] at ha3; have HA3 := Lib.hid ha3; clear ha3; have hT3 := HA3.out.1; have gF := hT3.cell (m + p.2); rw [HGF.out] at gF; have fF := hT3.free (m + p.2); have lT := hT3.lt; obtain ⟨⟨y0, y1⟩, -⟩ := (show Row w3 (w.heap.size + 1 + 1) 70 [.int .i64 (p.1 : Int), .int .i64 (p.2 : Int)] from HA3.out.2.1).two; have lB := (show Row w3 (w.heap.size + 1 + 1) 70 [.int .i64 (p.1 : Int), .int .i64 (p.2 : Int)] from HA3.out.2.1).lt; clear hT3 hown3 hgrow3 hat3)
        refine (HAT.out _ HA3.out.2.2.bel).mono ?_
        rintro e w5 ⟨rfl, hb5⟩
        have HI5 := Lib.hid (HA3.out.2.2.below hb5)
        clear hb5 gF fF lT y0 y1 lB
        go_wp2
        refine bodyPost_ret (v := .tuple #[.slice (some ⟨g, 0, none⟩) (ps.length + 1) cap, .int .i64 2, .int .i64 0]) (by simp [results, Try.results61, go_sem]) rfl ?_
        rw [HRES.out]
        refine ⟨.slice (some ⟨g, 0, none⟩) (ps.length + 1) cap, _, rfl, (goodP _).mono (HI5.out.below (below_alloc _ _)).ownP' (by omega), (HI5.out.below (below_alloc _ _)).bel⟩
      · have HNX := Lib.hid (HR.out.next HOK.out HL.out HMEM.out (by omega) (by omega))
        have HPI := Lib.hid (next_ok HOK.out HL.out HR.out.here (by omega) (by omega)).2
        generalize moveOn t s p.1 p.2 = mv at *
        obtain ⟨mx, my⟩ := mv
        simp only at *
        have d1 : (mx == -1) = false := by simp; omega
        have d2 : (mx == -2) = false := by simp; omega
        have HB9 := Lib.hid (show 0 ≤ (p.2 : Int) + my ∧ (p.2 : Int) + my ≤ s.size + 1 from ⟨h8, h9⟩)
        clear h0 h5
        go_wp2_with (at_builtin; refine wpList_append_lies _ rfl _ _ 26 rfl (w.heap.size + 1) 70 im _ 2 16 Try.underlying26 him hzm0 hzm1 hzm2 rfl (by decide) (.slice Bn ps.length kn) ps.length _ rfl (HI.out.own.alloc _) ⟨wr.heap.size, 0, none⟩ 1 1 [.int .i64 (p.1 : Int), .int .i64 (p.2 : Int)] rfl rfl (World.news_of_block (cs := #[.int .i64 (p.1 : Int), .int .i64 (p.2 : Int)]) (t := 70) (fr := (0, 0)) (heap_alloc_new wr _)) (by simp [Value.oneCell']) (by omega) (by unfold maxLen; omega) (by omega) (by have := HI.out.box.lt; simp; omega) (wr.heap.size + 1) (by simp) ?_; intro g cap w3 hown3 hgrow3 hat3 hlt3; have ha3 := HI.out.appended HR.out.here HMEM.out hgrow3 hown3 hat3; rw [HKN.out] at ha3; have HA3 := Lib.hid ha3; clear ha3; have hT3 := HA3.out.1; have gF := hT3.cell (m + p.2); rw [HGF.out] at gF; have fF := hT3.free (m + p.2); have lT := hT3.lt; obtain ⟨⟨y0, y1⟩, -⟩ := (show Row w3 (w.heap.size + 1 + 1) 70 [.int .i64 (p.1 : Int), .int .i64 (p.2 : Int)] from HA3.out.2.1).two; have lB := (show Row w3 (w.heap.size + 1 + 1) 70 [.int .i64 (p.1 : Int), .int .i64 (p.2 : Int)] from HA3.out.2.1).lt; clear hT3 hown3 hgrow3 hat3)
        refine (HAT.out _ HA3.out.2.2.bel).mono ?_
        rintro e w5 ⟨rfl, hb5⟩
        have HI5 := Lib.hid (HA3.out.2.2.below hb5)
        clear hb5 gF fF lT y0 y1 lB
        have hx5 := (show Row w5 (w.heap.size + 1 + 1) 70 [.int .i64 (p.1 : Int), .int .i64 (p.2 : Int)] from HI5.out.box)
        obtain ⟨⟨y0, y1⟩, yf⟩ := hx5.two
        have lB := hx5.lt
        clear hx5
        have HE := Lib.hid (HI5.out.moved (p' := nextP t s p) (.cells #[.int .i64 mx, .int .i64 my] 96))
        rw [HPI.out] at HE
        go_wp2
        go_roundg (gk - 1)
        case measure => have := HKK.out; omega
        case rel => exact ⟨ps ++ [p], some ⟨g, 0, none⟩, cap, F.set (m + p.2) ((ps.length : Int) + 1), nextP t s p, by have := HKK.out; simp; omega, HNX.out, by simp, HE.out⟩
end Go.Proofs.Ytdkalefepdlccaa
