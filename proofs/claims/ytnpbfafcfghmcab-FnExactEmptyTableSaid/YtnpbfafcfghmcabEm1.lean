/-
  Sheets: a table as an array; that of the empty word.
-/
import Derived.Test.YtnpbfafcfghmcabVx2
import Derived.Test.YtnpbfafcfghmcabApp
import Derived.Test.YtnpbfafcfghmcabZ
import Derived.Deep.WholeRow
import Derived.Laws.Tables
namespace Go.Proofs.Ytnpbfafcfghmcab
open Go.RowKit

theorem infoSheet : (Try.prog.info? 52).map (·.size) = some 48 := by kernel_rfl

/-- The first k exits from the left and from the right laid. -/
def thr (k : Nat) : List (Int × Int) := (List.range 24).map fun i => if i < k then (1, (i : Int)) else if 12 ≤ i ∧ i < 12 + k then (-1, (i : Int) - 12) else (0, 0)
theorem thr_len (k : Nat) : (thr k).length = 24 := by simp [thr]
theorem thr_zero : thr 0 = List.replicate 24 (0, 0) := by decide
theorem thr_succ : ∀ k, k < 12 → ((thr k).set k (1, (k : Int))).set (12 + k) (-1, (k : Int)) = thr (k + 1) := by decide

theorem thr0_cells : pcells (thr 0) = [.int .i64 0, .int .i64 0, .int .i64 0, .int .i64 0, .int .i64 0, .int .i64 0, .int .i64 0, .int .i64 0, .int .i64 0, .int .i64 0, .int .i64 0, .int .i64 0, .int .i64 0, .int .i64 0, .int .i64 0, .int .i64 0, .int .i64 0, .int .i64 0, .int .i64 0, .int .i64 0, .int .i64 0, .int .i64 0, .int .i64 0, .int .i64 0, .int .i64 0, .int .i64 0, .int .i64 0, .int .i64 0, .int .i64 0, .int .i64 0, .int .i64 0, .int .i64 0, .int .i64 0, .int .i64 0, .int .i64 0, .int .i64 0, .int .i64 0, .int .i64 0, .int .i64 0, .int .i64 0, .int .i64 0, .int .i64 0, .int .i64 0, .int .i64 0, .int .i64 0, .int .i64 0, .int .i64 0, .int .i64 0] := by rw [thr_zero]; rfl
theorem row0 (w : World) : Row (w.alloc (.cells #[.int .i64 0, .int .i64 0, .int .i64 0, .int .i64 0, .int .i64 0, .int .i64 0, .int .i64 0, .int .i64 0, .int .i64 0, .int .i64 0, .int .i64 0, .int .i64 0, .int .i64 0, .int .i64 0, .int .i64 0, .int .i64 0, .int .i64 0, .int .i64 0, .int .i64 0, .int .i64 0, .int .i64 0, .int .i64 0, .int .i64 0, .int .i64 0, .int .i64 0, .int .i64 0, .int .i64 0, .int .i64 0, .int .i64 0, .int .i64 0, .int .i64 0, .int .i64 0, .int .i64 0, .int .i64 0, .int .i64 0, .int .i64 0, .int .i64 0, .int .i64 0, .int .i64 0, .int .i64 0, .int .i64 0, .int .i64 0, .int .i64 0, .int .i64 0, .int .i64 0, .int .i64 0, .int .i64 0, .int .i64 0] 52)) w.heap.size 52 (pcells (thr 0)) := by
  rw [thr0_cells]
  exact Row.new w _ _
theorem slotL_any (k : Nat) (w : World) : Calls Try.prog 40 #[.int .i64 (-1), .int .i64 (k : Int)] w fun e w' => e = .returned (.int .i64 (k : Int)) ∧ w = w' := by
  go_enter Try.func40, Try.ntmps40
  go_wp2
  go_ret
  exact ⟨rfl, rfl⟩
theorem slotR_any (k : Nat) (w : World) (hk : k ≤ 12) : Calls Try.prog 40 #[.int .i64 1, .int .i64 (k : Int)] w fun e w' => e = .returned (.int .i64 ((12 + k : Nat) : Int)) ∧ w = w' := by
  go_enter Try.func40, Try.ntmps40
  go_wp2
  go_ret
  exact ⟨by first | rfl | (congr; omega), rfl⟩

/-- A whole array out of its block, and into one. -/
theorem load_sheet {W : World} {g : Nat} {xs : List (Int × Int)} (h : Row W g 52 (pcells xs)) (hl : xs.length = 24) : (loadVar 52 ⟨g, 0, none⟩).run Try.prog W = .ok (.agg (pcells xs).toArray) W :=
  run_loadVar_row W g _ _ _ (0, 0) _ h Try.underlying52 rfl (by rw [infoSheet]; simp [pcells_len, hl])
theorem pcells_oneS (xs : List (Int × Int)) : (pcells xs).toArray.all (·.oneCell') = true := by
  rw [Array.all_eq_true_iff_forall_mem]
  intro x hx
  simp only [List.mem_toArray, pcells, List.mem_flatMap] at hx
  obtain ⟨m, -, hm⟩ := hx
  simp only [pcell, List.mem_cons, List.not_mem_nil, or_false] at hm
  rcases hm with rfl | rfl <;> rfl
theorem store_sheet {W : World} {g : Nat} {xs ys : List (Int × Int)} (h : Row W g 52 (pcells xs)) (hl : xs.length = 24) (hm : ys.length = 24) : (storeVar 52 ⟨g, 0, none⟩ (.agg (pcells ys).toArray)).run Try.prog W = .ok () (W.setRow g (pcells ys).toArray) :=
  run_storeVar_row W g _ _ _ _ h (by rw [infoSheet]; simp [pcells_len, hm]) (by simp [pcells_len, hl, hm]) (pcells_oneS ys)
theorem setRow_block (W : World) (g k : Nat) (cs : Array Value) (h : k ≠ g) : (W.setRow g cs).heap[k]? = W.heap[k]? := by
  simp only [World.setRow, Array.getElem?_modify]
  rw [if_neg (fun e => h e.symm)]
theorem setRow_row {W : World} {g : Nat} {e : TypeId} {xs ys : List Value} (h : Row W g e xs) : Row (W.setRow g ys.toArray) g e ys := by
  unfold Row at h ⊢
  simp only [World.setRow, Array.getElem?_modify, if_true, h, Option.map_some]
theorem setRow_below {w W : World} {g : Nat} (hb : Below w.heap.size w W) (hg : w.heap.size ≤ g) (cs : Array Value) : Below w.heap.size w (W.setRow g cs) :=
  ⟨hb.os, hb.tape, hb.output, by simpa [World.setRow] using hb.size, fun k hk => (setRow_block W g k cs (by omega)).trans (hb.block k hk)⟩
theorem wpList_loadS {P : Program} {w : World} {ops : Array Oper} {rest : List Oper} {o : Oper} {a : Act} {Q : Exit → Act → World → Prop} (hg : o.guard = none) (p : Operand) (t : TypeId) (hop : o.op = Op.load t p) (ad : Addr) (v : Value)
    (hp : a.eval p = .pointer (some ad)) (hrun : (loadVar t ad).run P w = .ok v w) (hK : wpList P ops Q rest (a.put o.dst v) w) : wpList P ops Q (o :: rest) a w := by
  refine wpList_plain hg fun K' hK' => ?_
  unfold Oper.wp
  simp [execOp, hop, hp, Instr.loadAt, Instr.sureAddr, hrun, Result.andThen]
  exact hK' _ _ hK
theorem wpList_storeS {P : Program} {w w' : World} {ops : Array Oper} {rest : List Oper} {o : Oper} {a : Act} {Q : Exit → Act → World → Prop} (hg : o.guard = none) (p x : Operand) (t : TypeId) (hop : o.op = Op.store t p x) (ad : Addr) (v : Value)
    (hp : a.eval p = .pointer (some ad)) (hx : a.eval x = v) (hrun : (storeVar t ad v).run P w = .ok () w') (hK : wpList P ops Q rest (a.put o.dst undef) w') : wpList P ops Q (o :: rest) a w := by
  refine wpList_plain hg fun K' hK' => ?_
  unfold Oper.wp
  simp [execOp, hop, hp, hx, Instr.storeAt, Instr.sureAddr, hrun, Result.andThen]
  exact hK' _ _ hK

set_option maxRecDepth 100000 in
set_option maxHeartbeats 3200000 in
theorem through_any (n : Nat) (w : World) (hn : n ≤ 12) :
    Calls Try.prog 29 #[.int .i64 (n : Int)] w fun e w' => e = .returned (.agg (pcells (thr n)).toArray) ∧ Below w.heap.size w w' := by
  go_enter Try.func29, Try.ntmps29
  go_wp2
  go_loopw [6] (fun i wr => ∃ k : Nat, k ≤ n ∧ i = .int .i64 (k : Int) ∧ Below w.heap.size w wr ∧ Row wr w.heap.size 52 (pcells (thr 0)) ∧ Row wr (w.heap.size + 1) 52 (pcells (thr k))) (fun i _ => n - (intOf i).toNat)
  case atStart =>
    refine ⟨0, Nat.zero_le _, rfl, (below_alloc _ _).alloc (by simp) _, ?_, ?_⟩
    · exact (row0 w).alloc _
    · have := row0 (w.alloc (.cells #[.int .i64 0, .int .i64 0, .int .i64 0, .int .i64 0, .int .i64 0, .int .i64 0, .int .i64 0, .int .i64 0, .int .i64 0, .int .i64 0, .int .i64 0, .int .i64 0, .int .i64 0, .int .i64 0, .int .i64 0, .int .i64 0, .int .i64 0, .int .i64 0, .int .i64 0, .int .i64 0, .int .i64 0, .int .i64 0, .int .i64 0, .int .i64 0, .int .i64 0, .int .i64 0, .int .i64 0, .int .i64 0, .int .i64 0, .int .i64 0, .int .i64 0, .int .i64 0, .int .i64 0, .int .i64 0, .int .i64 0, .int .i64 0, .int .i64 0, .int .i64 0, .int .i64 0, .int .i64 0, .int .i64 0, .int .i64 0, .int .i64 0, .int .i64 0, .int .i64 0, .int .i64 0, .int .i64 0, .int .i64 0] 52))
      rw [show (w.alloc (.cells #[.int .i64 0, .int .i64 0, .int .i64 0, .int .i64 0, .int .i64 0, .int .i64 0, .int .i64 0, .int .i64 0, .int .i64 0, .int .i64 0, .int .i64 0, .int .i64 0, .int .i64 0, .int .i64 0, .int .i64 0, .int .i64 0, .int .i64 0, .int .i64 0, .int .i64 0, .int .i64 0, .int .i64 0, .int .i64 0, .int .i64 0, .int .i64 0, .int .i64 0, .int .i64 0, .int .i64 0, .int .i64 0, .int .i64 0, .int .i64 0, .int .i64 0, .int .i64 0, .int .i64 0, .int .i64 0, .int .i64 0, .int .i64 0, .int .i64 0, .int .i64 0, .int .i64 0, .int .i64 0, .int .i64 0, .int .i64 0, .int .i64 0, .int .i64 0, .int .i64 0, .int .i64 0, .int .i64 0, .int .i64 0] 52)).heap.size = w.heap.size + 1 by simp] at this
      exact this
  case round =>
    obtain ⟨k, hk, rfl, hb, hz, hr⟩ := hrel
    have HI := Lib.hid (show _ ∧ _ ∧ _ from ⟨hb, hz, hr⟩)
    by_cases hlt : k < n
    · have hl1 := thr_len k
      obtain ⟨⟨x0, y0⟩, hx⟩ : ∃ m, (thr k)[k]? = some m := ⟨_, List.getElem?_eq_getElem (by omega)⟩
      obtain ⟨⟨x1, y1⟩, hy⟩ : ∃ m, ((thr k).set k (1, (k : Int)))[12 + k]? = some m := ⟨_, List.getElem?_eq_getElem (by rw [List.length_set]; omega)⟩
      have c0 := (hr.cell (k * 2)).trans (pcells_get hx).1
      have c1 := (hr.cell (k * 2 + 1)).trans (pcells_get hx).2
      have hr2 := hr.pairStored (i := k) (by omega) (1, (k : Int))
      have HR2 := Lib.hid hr2
      have HY := Lib.hid hy
      have f0 := hr.free (k * 2)
      have f1 := hr.free (k * 2 + 1)
      have i1 : (0 : Int) ≤ k := by omega
      have i2 : (k : Int) < 24 := by omega
      have i3 : (k : Int) < n := by omega
      clear hb hz hr hx hy hr2 hl1
      go_wp2_with (go_at_call 40; with_reducible refine (slotL_any _ _).mono ?_; rintro e w' ⟨rfl, rfl⟩)
      have hb2 := (HI.out.1.setCell (p := ⟨w.heap.size + 1, k * 2, none⟩) (by show w.heap.size ≤ w.heap.size + 1; omega) (.int .i64 1)).setCell (p := ⟨w.heap.size + 1, k * 2 + 1, none⟩) (by show w.heap.size ≤ w.heap.size + 1; omega) (.int .i64 (k : Int))
      have hz2 := (HI.out.2.1.other (a := ⟨w.heap.size + 1, k * 2, none⟩) (by show w.heap.size + 1 ≠ w.heap.size; omega) (.int .i64 1)).other (a := ⟨w.heap.size + 1, k * 2 + 1, none⟩) (by show w.heap.size + 1 ≠ w.heap.size; omega) (.int .i64 (k : Int))
      have HB2 := Lib.hid (show _ ∧ _ from ⟨hb2, hz2⟩)
      clear hb2 hz2 c0 c1 f0 f1
      generalize (wr.setCell ⟨w.heap.size + 1, k * 2, none⟩ (.int .i64 1)).setCell ⟨w.heap.size + 1, k * 2 + 1, none⟩ (.int .i64 (k : Int)) = w2 at *
      have hr2 := HR2.out
      have c0 := (hr2.cell ((12 + k) * 2)).trans (pcells_get HY.out).1
      have c1 := (hr2.cell ((12 + k) * 2 + 1)).trans (pcells_get HY.out).2
      have f0 := hr2.free ((12 + k) * 2)
      have f1 := hr2.free ((12 + k) * 2 + 1)
      have hS := hr2.pairStored (i := 12 + k) (by rw [List.length_set, thr_len]; omega) (-1, (k : Int))
      rw [thr_succ k (by omega)] at hS
      have HS := Lib.hid hS
      clear hr2 hS
      have i4 : (0 : Int) ≤ ((12 + k : Nat) : Int) := by omega
      have i5 : ((12 + k : Nat) : Int) < 24 := by omega
      refine (slotR_any _ _ (by omega)).mono ?_
      rintro e w' ⟨rfl, rfl⟩
      go_wp2
      go_roundw
      case rel => exact ⟨k + 1, by omega, by go_num, (HB2.out.1.setCell (p := ⟨w.heap.size + 1, (12 + k) * 2, none⟩) (by show w.heap.size ≤ w.heap.size + 1; omega) _).setCell (p := ⟨w.heap.size + 1, (12 + k) * 2 + 1, none⟩) (by show w.heap.size ≤ w.heap.size + 1; omega) _, (HB2.out.2.other (a := ⟨w.heap.size + 1, (12 + k) * 2, none⟩) (by show w.heap.size + 1 ≠ w.heap.size; omega) _).other (a := ⟨w.heap.size + 1, (12 + k) * 2 + 1, none⟩) (by show w.heap.size + 1 ≠ w.heap.size; omega) _, HS.out⟩
      case measure => simp [intOf]; omega
    · obtain rfl : k = n := by omega
      clear hb hz hr
      go_wp2_with (first | (refine wpList_loadS rfl _ 52 rfl ⟨w.heap.size + 1, 0, none⟩ _ rfl (load_sheet HI.out.2.2 (thr_len _)) ?_) | (refine wpList_storeS rfl _ _ 52 rfl ⟨w.heap.size, 0, none⟩ _ rfl rfl (store_sheet HI.out.2.1 (thr_len _) (thr_len _)) ?_))
      have hload := load_sheet (setRow_row (ys := pcells (thr k)) HI.out.2.1) (thr_len k)
      refine bodyPost_ret (v := .agg (pcells (thr k)).toArray) ?_ rfl ⟨rfl, setRow_below HI.out.1 (Nat.le_refl _) _⟩
      simp [results, Try.results29, Act.put, asAddr, hload, Result.andThen]
end Go.Proofs.Ytnpbfafcfghmcab
