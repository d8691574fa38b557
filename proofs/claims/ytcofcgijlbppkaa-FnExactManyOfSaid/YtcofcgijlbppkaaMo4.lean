/-
  ManyOf: the model's answer.
-/
import Derived.Test.YtcofcgijlbppkaaMo3
import Derived.Test.YtcofcgijlbppkaaT8
import Derived.Test.YtcofcgijlbppkaaZM
namespace Go.Proofs.Ytcofcgijlbppkaa
open Go.RowKit

theorem stored4Mo {w wr : World} {z lo : Nat} {L : Int} {A0 A1 A2 : Option Addr} {n0 n1 n2 k0 k1 k2 : Nat} {r : MData} {bs : List Nat} {z0 z1 z2 z3 : Value}
    (hz : Row wr z 30 [z0, z1, z2, z3]) (hO : OwM wr lo (.agg #[.int .i64 L, .slice A0 n0 k0, .slice A1 n1 k1, .slice A2 n2 k2]) r bs) (hlo : z < lo) (hw : w.heap.size ≤ z) (hb : Below w.heap.size w wr) :
    ∃ W2, W2 = ((((wr.setCell ⟨z, 0, none⟩ (.int .i64 L)).setCell ⟨z, 1, none⟩ (.slice A0 n0 k0)).setCell ⟨z, 2, none⟩ (.slice A1 n1 k1)).setCell ⟨z, 3, none⟩ (.slice A2 n2 k2)) ∧
      (W2.cell? ⟨z, 0, none⟩ = some (.int .i64 L) ∧ W2.cell? ⟨z, 1, none⟩ = some (.slice A0 n0 k0) ∧ W2.cell? ⟨z, 2, none⟩ = some (.slice A1 n1 k1) ∧ W2.cell? ⟨z, 3, none⟩ = some (.slice A2 n2 k2)) ∧
      OwM W2 w.heap.size (.agg #[.int .i64 L, .slice A0 n0 k0, .slice A1 n1 k1, .slice A2 n2 k2]) r bs ∧ Below w.heap.size w W2 := by
  have rF := ((((hz.stored 0 (.int .i64 L)).stored 1 (.slice A0 n0 k0)).stored 2 (.slice A1 n1 k1)).stored 3 (.slice A2 n2 k2))
  have eO := (goodM.under (a := ⟨z, 3, none⟩) (goodM.under (a := ⟨z, 2, none⟩) (goodM.under (a := ⟨z, 1, none⟩) (goodM.under (a := ⟨z, 0, none⟩) hO hlo (.int .i64 L)) hlo (.slice A0 n0 k0)) hlo (.slice A1 n1 k1)) hlo (.slice A2 n2 k2))
  have eB := ((((hb.setCell (p := ⟨z, 0, none⟩) hw (.int .i64 L)).setCell (p := ⟨z, 1, none⟩) hw (.slice A0 n0 k0)).setCell (p := ⟨z, 2, none⟩) hw (.slice A1 n1 k1)).setCell (p := ⟨z, 3, none⟩) hw (.slice A2 n2 k2))
  obtain ⟨⟨y0, y1, y2, y3⟩, -⟩ := Row.four (a := .int .i64 L) (b := .slice A0 n0 k0) (c := .slice A1 n1 k1) (d := .slice A2 n2 k2) rF
  exact ⟨_, rfl, ⟨y0, y1, y2, y3⟩, goodM.mono eO (by omega), eB⟩
theorem owM_none (w : World) (lo : Nat) : OwM w lo (.agg #[.int .i64 0, .slice none 0 0, .slice none 0 0, .slice none 0 0]) ⟨0, [], [], []⟩ [] :=
  ⟨_, _, _, [], [], [], rfl, owV_nil ints [] rfl _ _ _, owV_nil bools [] rfl _ _ _, owL_nil _ _ _ _, rfl, by simp⟩

theorem numL_top {α : Type} {f : α → Nat} {B : Nat} (xs : List α) (h : ∀ x ∈ xs, f x ≤ B) : numL f xs ≤ xs.length * B := by
  induction xs with
  | nil => simp [numL]
  | cons x r ih =>
    have h1 := ih (fun y hy => h y (by simp [hy]))
    have h2 := h x (by simp)
    simp only [numL, List.map_cons, List.sum_cons, List.length_cons] at h1 ⊢
    rw [Nat.succ_mul]; omega
theorem manyOf_num (r : RData) : (numM (manyOfRes r).1 : Int) ≤ 2305843009213693952 := by
  unfold manyOfRes
  split
  · rename_i h
    have k := okR_out h
    split
    · rename_i h2
      have k1 := k.nl
      have k2 := k.l2
      have h3 : ∀ x ∈ r.next.map wideR, numL (fun x : List Int => x.length) x ≤ 5 := by
        intro x hx
        obtain ⟨y, hy, rfl⟩ := List.mem_map.1 hx
        obtain ⟨s, hs⟩ := List.mem_iff_getElem?.1 hy
        have h4 := k.len s y hs
        have h5 := numL_top (f := fun x : List Int => x.length) (B := 1) (wideR y) (fun z hz => by obtain ⟨t, _, rfl⟩ := List.mem_map.1 hz; simp)
        rw [wideR_len] at h5
        omega
      have h6 : numL (fun x : List (List Int) => numL (fun x : List Int => x.length) x) (r.next.map wideR) ≤ (r.next.map wideR).length * 5 := numL_top _ h3
      rw [List.length_map] at h6
      show ((([r.S].length + r.acc.length + numL (fun x : List (List Int) => numL (fun x : List Int => x.length) x) (r.next.map wideR) : Nat)) : Int) ≤ 2305843009213693952
      rw [List.length_singleton]
      omega
    · simp [numM, numL]
  · simp [numM, numL]

set_option maxRecDepth 100000 in
set_option maxHeartbeats 3200000 in
theorem specMo_rd (v : Value) (r : RData) (w : World) (h : RdR w v r) :
    Calls Try.prog 6 #[v] w fun e w' => ∃ u, e = .returned (.tuple #[u, .int .i64 (manyOfRes r).2]) ∧ RdM w' u (manyOfRes r).1 ∧ Below w.heap.size w w' := by
  obtain ⟨va, vn, rfl, ha, hn⟩ := h
  obtain ⟨A, ca, rfl, a1, a2, -⟩ := ha.open
  obtain ⟨B, cb, rfl, b1, b2, -⟩ := RdL.open hn
  unfold maxLen at a2 b2
  have hx := (Row.new w [.int .i64 r.L, .int .i64 r.S, .slice A r.acc.length ca, .slice B r.next.length cb] 33).alloc (.cells #[.int .i64 0, .slice none 0 0, .slice none 0 0, .slice none 0 0] 30)
  have hb0 := (below_alloc w (.cells #[.int .i64 r.L, .int .i64 r.S, .slice A r.acc.length ca, .slice B r.next.length cb] 33)).alloc (by simp) (.cells #[.int .i64 0, .slice none 0 0, .slice none 0 0, .slice none 0 0] 30)
  obtain ⟨⟨q0, q1, q2, q3⟩, -⟩ := hx.four
  have hA : AtR ((w.alloc (.cells #[.int .i64 r.L, .int .i64 r.S, .slice A r.acc.length ca, .slice B r.next.length cb] 33)).alloc (.cells #[.int .i64 0, .slice none 0 0, .slice none 0 0, .slice none 0 0] 30)) w.heap.size r := ⟨_, _, q0, q1, q2, q3, keepsB _ _ _ _ ha hb0, keepsII _ _ _ _ hn hb0⟩
  have hz : Row ((w.alloc (.cells #[.int .i64 r.L, .int .i64 r.S, .slice A r.acc.length ca, .slice B r.next.length cb] 33)).alloc (.cells #[.int .i64 0, .slice none 0 0, .slice none 0 0, .slice none 0 0] 30)) (w.heap.size + 1) 30 [.int .i64 0, .slice none 0 0, .slice none 0 0, .slice none 0 0] := by
    simpa using Row.new (w.alloc (.cells #[.int .i64 r.L, .int .i64 r.S, .slice A r.acc.length ca, .slice B r.next.length cb] 33)) [.int .i64 0, .slice none 0 0, .slice none 0 0, .slice none 0 0] 30
  have HV := Lib.hid (l01Ok_any _ _ _ hA)
  have HA := Lib.hid hA
  have HX := Lib.hid hx
  have HZ := Lib.hid hz
  have HB := Lib.hid hb0
  clear q0 q1 q2 q3 hA hx hz hb0 ha hn
  go_enter Try.func6, Try.ntmps6
  go_wp2_with fail
  refine HV.out.mono ?_
  generalize (w.alloc (.cells #[.int .i64 r.L, .int .i64 r.S, .slice A r.acc.length ca, .slice B r.next.length cb] 33)).alloc (.cells #[.int .i64 0, .slice none 0 0, .slice none 0 0, .slice none 0 0] 30) = W0 at *
  rintro e w1 ⟨rfl, hq⟩
  have HB1 := Lib.hid (below_step HB.out hq.below)
  have HZ1 := Lib.hid (HZ.out.below hq.below HZ.out.lt)
  have HX1 := Lib.hid (HX.out.below hq.below HX.out.lt)
  have HA1 := Lib.hid (atR_keep HA.out hq.below)
  clear hq
  by_cases hok : okR r = true
  · obtain ⟨⟨t0, t1, t2, t3⟩, -⟩ := HX1.out.four
    by_cases hn : r.acc.length ≤ 10
    · have d1 : decide (10 < (r.acc.length : Int)) = false := by simp; omega
      have HRES := Lib.hid (show manyOfRes r = (manyR r, 0) by unfold manyOfRes; rw [if_pos hok, if_pos hn])
      have HC := Lib.hid (l01Wide_own _ _ w1 HA1.out (okR_out hok) hn)
      go_wp2_with fail
      clear t0 t1 t2 t3 hok d1
      refine HC.out.mono ?_
      rintro e w2 ⟨u, bu, rfl, hu, hb⟩
      obtain ⟨A0, k0, A1, k1, A2, k2, rfl⟩ := hu.rd.shape
      have hu1 : OwM w2 w1.heap.size (.agg #[.int .i64 r.L, .slice A0 1 k0, .slice A1 r.acc.length k1, .slice A2 r.next.length k2]) (manyR r) bu := by
        simpa only [manyR, List.length_singleton, List.length_map] using hu
      have HU := Lib.hid hu1
      have HZ2 := Lib.hid (HZ1.out.below hb HZ1.out.lt)
      have HB2 := Lib.hid (below_step HB1.out hb)
      have hlz := HZ1.out.lt
      obtain ⟨⟨z0, z1, z2, z3⟩, zf⟩ := HZ2.out.four
      have lz := HZ2.out.lt
      have HLZ := Lib.hid hlz
      clear hb hu hu1 hlz
      simp only [manyR, List.length_singleton, List.length_map]
      go_wp2
      obtain ⟨W2, hW2, ⟨y0, y1, y2, y3⟩, eO, eB⟩ := stored4Mo HZ2.out HU.out HLZ.out (Nat.le_succ _) HB2.out
      rw [← hW2]
      clear hW2
      refine bodyPost_ret (v := .tuple #[.agg #[.int .i64 r.L, .slice A0 1 k0, .slice A1 r.acc.length k1, .slice A2 r.next.length k2], .int .i64 0]) (by simp [results, Try.results6, go_sem, y0, y1, y2, y3]) rfl ?_
      rw [HRES.out]
      exact ⟨_, rfl, eO.rd, eB⟩
    · have d1 : decide (10 < (r.acc.length : Int)) = true := by simp; omega
      have HRES := Lib.hid (show manyOfRes r = (⟨0, [], [], []⟩, 3) by unfold manyOfRes; rw [if_pos hok, if_neg hn])
      obtain ⟨⟨z0, z1, z2, z3⟩, zf⟩ := HZ1.out.four
      have lz := HZ1.out.lt
      go_wp2
      obtain ⟨W2, hW2, ⟨y0, y1, y2, y3⟩, eO, eB⟩ := stored4Mo HZ1.out (owM_none w1 (w.heap.size + 2)) (by omega) (Nat.le_succ _) HB1.out
      rw [← hW2]
      clear hW2
      refine bodyPost_ret (v := .tuple #[.agg #[.int .i64 0, .slice none 0 0, .slice none 0 0, .slice none 0 0], .int .i64 3]) (by simp [results, Try.results6, go_sem, y0, y1, y2, y3]) rfl ?_
      rw [HRES.out]
      exact ⟨_, rfl, eO.rd, eB⟩
  · have hok' : okR r = false := by simpa using hok
    have HRES := Lib.hid (show manyOfRes r = (⟨0, [], [], []⟩, 1) by unfold manyOfRes; rw [if_neg hok])
    clear hok
    obtain ⟨⟨z0, z1, z2, z3⟩, zf⟩ := HZ1.out.four
    have lz := HZ1.out.lt
    go_wp2
    obtain ⟨W2, hW2, ⟨y0, y1, y2, y3⟩, eO, eB⟩ := stored4Mo HZ1.out (owM_none w1 (w.heap.size + 2)) (by omega) (Nat.le_succ _) HB1.out
    rw [← hW2]
    clear hW2
    refine bodyPost_ret (v := .tuple #[.agg #[.int .i64 0, .slice none 0 0, .slice none 0 0, .slice none 0 0], .int .i64 1]) (by simp [results, Try.results6, go_sem, y0, y1, y2, y3]) rfl ?_
    rw [HRES.out]
    exact ⟨_, rfl, eO.rd, eB⟩
end Go.Proofs.Ytcofcgijlbppkaa
