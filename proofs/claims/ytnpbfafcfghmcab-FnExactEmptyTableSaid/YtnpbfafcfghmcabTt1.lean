/-
  Exits with left and right exchanged: what the program and the model make of a list.
-/
import Derived.Test.YtnpbfafcfghmcabVx2
import Derived.Test.YtnpbfafcfghmcabApp
import Derived.Test.YtnpbfafcfghmcabCl
import Derived.Deep.AppendLies
import Derived.BigRegion
namespace Go.Proofs.Ytnpbfafcfghmcab
open Go.RowKit

def turnE (m : Int × Int) : Int × Int := (-m.1, m.2)
def turnX (x : XData) : XData := ⟨x.fr.map turnE, x.fl.map turnE⟩

/-- An append that the walk does not take apart: its outcome is laid ahead of the walk, as an equation. -/
def heldAppendE (ats : Array TypeId) (ty : TypeId) (args : Array Value) : Sem Value := Builtin.append_ ats ty args
theorem builtin_append_heldE (ats : Array TypeId) (ty : TypeId) (cs : Array Bool) (args : Array Value) : builtin .append ats ty cs args = (do pure (.value (← heldAppendE ats ty args))) := rfl

theorem undrewE {w w' : World} {r : Option Nat} (h : w.drew.grownBy w' r) : w.grownBy w' r := ⟨h.os, h.tape, h.output, h.size, h.block⟩
theorem okE_side {n : Int} {m : Int × Int} (h : okE n m = true) : -1 ≤ m.1 ∧ m.1 ≤ 1 := by
  have := of_decide_eq_true h
  omega
theorem turn_succ {xs : List (Int × Int)} {k : Nat} {m : Int × Int} (h : xs[k]? = some m) : (xs.map turnE).take (k + 1) = (xs.map turnE).take k ++ [turnE m] := by
  exact take_succ_of (by rw [List.getElem?_map, h]; rfl)

set_option maxHeartbeats 1600000 in
theorem turnedExits_own (v : Value) (xs : List (Int × Int)) (w : World) (h : RdP w v xs) (hn : xs.length ≤ 12) (hs : ∀ m ∈ xs, -1 ≤ m.1 ∧ m.1 ≤ 1) :
    Calls Try.prog 34 #[v] w fun e w' => ∃ u bs, e = .returned u ∧ OwP 47 w' w.heap.size u (xs.map turnE) bs ∧ Below w.heap.size w w' := by
  obtain ⟨im, him, hzm0, hzm1, hzm2⟩ := info_parts infoExit
  obtain ⟨A, cap, rfl, h1, h2, h3⟩ := h.open
  unfold maxLen at h2
  have HS := Lib.hid hs
  clear hs
  go_enter Try.func34, Try.ntmps34
  go_wp2
  go_loopw [3, 8] (fun u i wr => ∃ (k kn : Nat) (Bn : Option Addr), k ≤ xs.length ∧ i = .int .i64 k ∧ u = .slice Bn k kn ∧ Below w.heap.size w wr ∧ wr.ownsRow w.heap.size 47 2 (.slice Bn k kn) k (pcells ((xs.map turnE).take k))) (fun _ i _ => xs.length - (intOf i).toNat)
  case atStart => exact ⟨0, 0, none, Nat.zero_le _, rfl, rfl, Below.refl _ _, World.ownsRow_nil w _ _ 2⟩
  case round =>
    obtain ⟨k, kn, Bn, hk, rfl, rfl, hb, how⟩ := hrel
    have HI2 := Lib.hid (show _ ∧ _ from ⟨hb, how⟩)
    by_cases hlt : k < xs.length
    · obtain ⟨b, off, x, y, rfl, hx, hc0, hc1⟩ := h3 k hlt
      have gc0 := below_keep hb hc0
      have gc1 := below_keep hb hc1
      have hxx := HS.out _ (List.mem_of_getElem? hx)
      have m1 : -1 ≤ x := hxx.1
      have m2 : x ≤ 1 := hxx.2
      have HT := Lib.hid (turn_succ hx)
      clear hc0 hc1 h3 hb hx how hxx
      have i1 : (0 : Int) ≤ k := by omega
      have i2 : (k : Int) < xs.length := by omega
      go_wp2_with (at_builtin; refine wpList_append_lies _ rfl _ _ 27 rfl w.heap.size 47 im _ 2 16 Try.underlying27 him hzm0 hzm1 hzm2 rfl (by decide) (.slice Bn k kn) k _ rfl ((HI2.out.2.alloc (.cells #[.int .i64 x, .int .i64 y] 47)).alloc _) ⟨wr.heap.size + 1, 0, none⟩ 1 1 [.int .i64 (-x), .int .i64 y] rfl rfl (World.news_of_block (cs := #[.int .i64 (-x), .int .i64 y]) (t := 47) (fr := (0, 0)) (by simpa using heap_alloc_new (wr.alloc (.cells #[.int .i64 x, .int .i64 y] 47)) (.cells #[.int .i64 (-x), .int .i64 y] 47))) (by simp [Value.oneCell']) (by omega) (by unfold maxLen; omega) (by omega) (by have := HI2.out.1.size; simp; omega) (wr.heap.size + 1 + 1) (by simp) ?_; intro g cap w2 hown1 hgrow hat hlt2)
      have hb := HI2.out.1
      have hres : Below w.heap.size w w2 := (below_step (below_step hb (below_alloc wr _)) (below_alloc _ _)).trans (grown_below hgrow (by have := hb.size; simp; omega) (fun b hm => (World.ownsRow.lt HI2.out.2 b (mem_blks.1 hm)).1))
      rw [show pcells ((xs.map turnE).take k) ++ [Value.int .i64 (-x), .int .i64 y] = pcells ((xs.map turnE).take (k + 1)) by rw [HT.out, pcells_snoc]; rfl] at hown1
      have HN := Lib.hid (show _ ∧ _ from ⟨hres, hown1⟩)
      clear hb hres hown1 hgrow hat
      go_roundw
      case rel => exact ⟨k + 1, cap, _, by omega, by go_num, rfl, HN.out.1, HN.out.2⟩
      case measure => simp [intOf]; omega
    · obtain rfl : k = xs.length := by omega
      clear hb how h3
      go_wp2
      go_ret
      refine ⟨_, _, rfl, ⟨?_, rfl⟩, HI2.out.1⟩
      have := HI2.out.2
      rw [List.take_of_length_le (by simp)] at this
      simpa using this

section
attribute [local go_sem ↓ high] builtin_append_heldE
set_option maxRecDepth 100000 in
set_option maxHeartbeats 3200000 in
theorem l03Turned_own (v : Value) (xs : List (Int × Int)) (w : World) (h : RdP w v xs) (hn : xs.length ≤ 12) (hs : ∀ m ∈ xs, -1 ≤ m.1 ∧ m.1 ≤ 1) :
    Calls Try.prog 33 #[v] w fun e w' => ∃ u bs, e = .returned u ∧ OwP 47 w' w.heap.size u (xs.map turnE) bs ∧ Below w.heap.size w w' := by
  obtain ⟨im, him, hzm0, hzm1, hzm2⟩ := info_parts infoExit
  obtain ⟨A, cap, rfl, h1, h2, h3⟩ := h.open
  unfold maxLen at h2
  have HS := Lib.hid hs
  have ow0 := World.ownsRow_lit (base := w.heap.size) (e := 47) (size := 2) w #[] 0 (Nat.le_refl _) (by unfold maxLen; omega) rfl
  have HO := Lib.hid ow0
  clear hs ow0
  go_enter Try.func33, Try.ntmps33
  go_wp2
  go_loopw [3, 4] (fun u i wr => ∃ (k kn : Nat) (Bn : Option Addr), k ≤ xs.length ∧ i = .int .i64 k ∧ u = .slice Bn k kn ∧ Below w.heap.size w wr ∧ wr.ownsRow w.heap.size 47 2 (.slice Bn k kn) k (pcells ((xs.map turnE).take k))) (fun _ i _ => xs.length - (intOf i).toNat)
  case atStart => exact ⟨0, 0, _, Nat.zero_le _, rfl, rfl, below_alloc _ _, HO.out⟩
  case round =>
    obtain ⟨k, kn, Bn, hk, rfl, rfl, hb, how⟩ := hrel
    have HI2 := Lib.hid (show _ ∧ _ from ⟨hb, how⟩)
    by_cases hlt : k < xs.length
    · obtain ⟨b, off, x, y, rfl, hx, hc0, hc1⟩ := h3 k hlt
      have gc0 := below_keep hb hc0
      have gc1 := below_keep hb hc1
      have hxx := HS.out _ (List.mem_of_getElem? hx)
      have m1 : -1 ≤ x := hxx.1
      have m2 : x ≤ 1 := hxx.2
      have HT := Lib.hid (turn_succ hx)
      have hsz := hb.size
      clear hc0 hc1 h3 hb hx how hxx
      have i1 : (0 : Int) ≤ k := by omega
      have i2 : (k : Int) < xs.length := by omega
      go_wp2_with fail
      obtain ⟨g1, cap1, w4, hrun1, hownA, hgA, hatA, hltA⟩ := run_append_lies (P := Try.prog) (w := (wr.alloc (.cells #[.int .i64 (-x), .int .i64 y] 47)).drew) 27 27 w.heap.size 47 im _ 2 16 Try.underlying27 him hzm0 hzm1 hzm2 rfl (by decide) (.slice Bn k kn) k _ (HI2.out.2.alloc _).drew ⟨wr.heap.size, 0, none⟩ 1 1 [.int .i64 (-x), .int .i64 y] rfl (World.news_of_block (cs := #[.int .i64 (-x), .int .i64 y]) (t := 47) (fr := (0, 0)) (heap_alloc_new wr _)) (by simp [Value.oneCell']) (by omega) (by unfold maxLen; omega) (by omega) (by simp; omega) (wr.heap.size + 1) (by simp)
      have hrun1 : (heldAppendE _ _ _).run _ _ = _ := hrun1
      have hgA := undrewE hgA
      have hb := HI2.out.1
      have hres : Below w.heap.size w w4 := (below_step hb (below_alloc wr _)).trans (grown_below hgA (by have := hb.size; simp; omega) (fun b hm => (World.ownsRow.lt HI2.out.2 b (mem_blks.1 hm)).1))
      rw [show pcells ((xs.map turnE).take k) ++ [Value.int .i64 (-x), .int .i64 y] = pcells ((xs.map turnE).take (k + 1)) by rw [HT.out, pcells_snoc]; rfl] at hownA
      have HN := Lib.hid (show _ ∧ _ from ⟨hres, hownA⟩)
      clear hb hres hownA hgA hatA
      go_region
      clear hrun1
      all_goals
        go_wp2
        go_roundw
        case rel => exact ⟨k + 1, cap1, _, by omega, by go_num, rfl, HN.out.1, HN.out.2⟩
        case measure => simp [intOf]; omega
    · obtain rfl : k = xs.length := by omega
      clear hb how h3
      go_wp2
      go_ret
      refine ⟨_, _, rfl, ⟨?_, rfl⟩, HI2.out.1⟩
      have := HI2.out.2
      rw [List.take_of_length_le (by simp)] at this
      simpa using this
end
end Go.Proofs.Ytnpbfafcfghmcab
