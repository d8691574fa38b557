/-
  The run, as the program makes it: its places one after the other, and a map of those it has been in.
-/
import Derived.Test.YtdkalefepdlccaaRu3
import Derived.Test.YtdkalefepdlccaaSv
import Derived.Test.YtdkalefepdlccaaQPlace
import Derived.Test.YtdkalefepdlccaaApp
import Derived.Test.YtdkalefepdlccaaCl
import Derived.Deep.AppendLies
import Derived.WalkMore
import Derived.Deep.LoopGhost
namespace Go.Proofs.Ytdkalefepdlccaa
open Go.RowKit
open Go.Maps (Keyed)

/-- The memory of the call while the run is made. -/
structure CoI (w wr : World) (t : TData) (vm : Value) (s : ByteArray) (ps : List (Nat × Nat)) (Bn : Option Addr) (kn : Nat) (D : DataW Nat) (pw : Int × Int) : Prop where
  bel : Below w.heap.size w wr
  ret : Row wr (w.heap.size + 1) 89 [.slice none 0 0, .int .i64 0, .int .i64 0]
  box : Row wr (w.heap.size + 2) 89 [.slice Bn ps.length kn, .int .i64 0, .int .i64 0]
  own : wr.ownsRow (w.heap.size + 5) 70 2 (.slice Bn ps.length kn) ps.length (pcells (ps.map pI))
  map : wr.ownsMap Try.prog 70 (plainElem Try.prog 3) (w.heap.size + 3) ps.length D
  mapOk : MapOk t.mv.length s.size D ps
  wk : Row wr (w.heap.size + 4) 139 (wkr t vm s pw)

theorem CoI.turned {w wr w1 : World} {t : TData} {vm : Value} {s : ByteArray} {ps : List (Nat × Nat)} {Bn : Option Addr} {kn : Nat} {D : DataW Nat} {pw pw' : Int × Int} (h : CoI w wr t vm s ps Bn kn D pw) (hT : Turned [w.heap.size + 4] wr w1) (hk : Row w1 (w.heap.size + 4) 139 (wkr t vm s pw')) : CoI w w1 t vm s ps Bn kn D pw' where
  bel := h.bel.trans (hT.below h.bel.size (fun b hb => by simp only [List.mem_singleton] at hb; omega))
  ret := hT.row h.ret (by simp)
  box := hT.row h.box (by simp)
  own := rows_same h.own (fun b hb => hT.block b ((World.ownsRow.lt h.own b (mem_blks.1 hb)).2) (by have := (World.ownsRow.lt h.own b (mem_blks.1 hb)).1; simp; omega))
  map := ownsMap_same h.map (hT.block _ h.map.lt (by simp))
  mapOk := h.mapOk
  wk := hk

theorem CoI.below {w wr w1 : World} {t : TData} {vm : Value} {s : ByteArray} {ps : List (Nat × Nat)} {Bn : Option Addr} {kn : Nat} {D : DataW Nat} {pw : Int × Int} (h : CoI w wr t vm s ps Bn kn D pw) (hb : Below wr.heap.size wr w1) : CoI w w1 t vm s ps Bn kn D pw where
  bel := below_step h.bel hb
  ret := h.ret.below hb h.ret.lt
  box := h.box.below hb h.box.lt
  own := rows_below h.own hb
  map := ownsMap_same h.map (hb.block _ h.map.lt)
  mapOk := h.mapOk
  wk := h.wk.below hb h.wk.lt

theorem CoI.ownP {w wr : World} {t : TData} {vm : Value} {s : ByteArray} {ps : List (Nat × Nat)} {Bn : Option Addr} {kn : Nat} {D : DataW Nat} {pw : Int × Int} (h : CoI w wr t vm s ps Bn kn D pw) : OwP 70 wr (w.heap.size + 5) (.slice Bn ps.length kn) (ps.map pI) (blks (.slice Bn ps.length kn)) :=
  ⟨by rw [List.length_map]; exact h.own, rfl⟩

/-- The answer stored into its box. -/
theorem co_out {w W : World} {u v l z0 z1 z2 : Value} {xs : List (Int × Int)} {bs : List Nat} (hb : Below w.heap.size w W) (hr : Row W (w.heap.size + 1) 89 [z0, z1, z2]) (hO : OwP 70 W (w.heap.size + 5) u xs bs) :
    let W2 := ((W.setCell ⟨w.heap.size + 1, 0, none⟩ u).setCell ⟨w.heap.size + 1, 1, none⟩ v).setCell ⟨w.heap.size + 1, 2, none⟩ l
    Row W2 (w.heap.size + 1) 89 [u, v, l] ∧ OwP 70 W2 w.heap.size u xs bs ∧ Below w.heap.size w W2 := by
  intro W2
  refine ⟨((hr.stored 0 u).stored 1 v).stored 2 l, ?_, ?_⟩
  · exact (goodP _).mono ((goodP _).under (a := ⟨w.heap.size + 1, 2, none⟩) ((goodP _).under (a := ⟨w.heap.size + 1, 1, none⟩) ((goodP _).under (a := ⟨w.heap.size + 1, 0, none⟩) hO (by show w.heap.size + 1 < _; omega) u) (by show w.heap.size + 1 < _; omega) v) (by show w.heap.size + 1 < _; omega) l) (by omega)
  · exact ((hb.setCell (p := ⟨w.heap.size + 1, 0, none⟩) (by show w.heap.size ≤ w.heap.size + 1; omega) u).setCell (p := ⟨w.heap.size + 1, 1, none⟩) (by show w.heap.size ≤ w.heap.size + 1; omega) v).setCell (p := ⟨w.heap.size + 1, 2, none⟩) (by show w.heap.size ≤ w.heap.size + 1; omega) l
theorem CoI.again {w wr : World} {t : TData} {vm : Value} {s : ByteArray} {ps : List (Nat × Nat)} {Bn : Option Addr} {kn : Nat} {D : DataW Nat} {pw : Int × Int} (h : CoI w wr t vm s ps Bn kn D pw) (c : Int) (o : Obj) :
    let W2 := (((((wr.setCell ⟨w.heap.size + 1 + 1, 1, none⟩ (.int .i64 3)).setCell ⟨w.heap.size + 1 + 1, 2, none⟩ (.int .i64 c)).setCell ⟨w.heap.size + 1, 0, none⟩ (.slice Bn ps.length kn)).setCell ⟨w.heap.size + 1, 1, none⟩ (.int .i64 3)).setCell ⟨w.heap.size + 1, 2, none⟩ (.int .i64 c)).alloc o
    (W2.cell? ⟨w.heap.size + 1, 0, none⟩ = some (.slice Bn ps.length kn) ∧ W2.cell? ⟨w.heap.size + 1, 1, none⟩ = some (.int .i64 3) ∧ W2.cell? ⟨w.heap.size + 1, 2, none⟩ = some (.int .i64 c)) ∧ OwP 70 W2 w.heap.size (.slice Bn ps.length kn) (ps.map pI) (blks (.slice Bn ps.length kn)) ∧ Below w.heap.size w W2 := by
  intro W2
  have hb := (h.bel.setCell (p := ⟨w.heap.size + 1 + 1, 1, none⟩) (by show w.heap.size ≤ w.heap.size + 1 + 1; omega) (.int .i64 3)).setCell (p := ⟨w.heap.size + 1 + 1, 2, none⟩) (by show w.heap.size ≤ w.heap.size + 1 + 1; omega) (.int .i64 c)
  have hr := (h.ret.other (a := ⟨w.heap.size + 1 + 1, 1, none⟩) (by show w.heap.size + 1 + 1 ≠ w.heap.size + 1; omega) (.int .i64 3)).other (a := ⟨w.heap.size + 1 + 1, 2, none⟩) (by show w.heap.size + 1 + 1 ≠ w.heap.size + 1; omega) (.int .i64 c)
  have hO := (goodP _).under (a := ⟨w.heap.size + 1 + 1, 2, none⟩) ((goodP _).under (a := ⟨w.heap.size + 1 + 1, 1, none⟩) h.ownP (by show w.heap.size + 1 + 1 < _; omega) (.int .i64 3)) (by show w.heap.size + 1 + 1 < _; omega) (.int .i64 c)
  obtain ⟨r1, r2, r3⟩ := co_out (v := .int .i64 3) (l := .int .i64 c) hb hr hO
  have e := below_alloc (((((wr.setCell ⟨w.heap.size + 1 + 1, 1, none⟩ (.int .i64 3)).setCell ⟨w.heap.size + 1 + 1, 2, none⟩ (.int .i64 c)).setCell ⟨w.heap.size + 1, 0, none⟩ (.slice Bn ps.length kn)).setCell ⟨w.heap.size + 1, 1, none⟩ (.int .i64 3)).setCell ⟨w.heap.size + 1, 2, none⟩ (.int .i64 c)) o
  exact ⟨(Row.three (r1.alloc o)).1, (goodP _).below r2 e, below_step r3 e⟩
theorem CoI.stops {w wr : World} {t : TData} {vm : Value} {s : ByteArray} {ps : List (Nat × Nat)} {p : Nat × Nat} {Bn : Option Addr} {kn : Nat} {D : DataW Nat} {pw : Int × Int} (h : CoI w wr t vm s (ps ++ [p]) Bn kn D pw) (c : Value) :
    let W2 := (((wr.setCell ⟨w.heap.size + 1 + 1, 1, none⟩ c).setCell ⟨w.heap.size + 1, 0, none⟩ (.slice Bn (ps.length + 1) kn)).setCell ⟨w.heap.size + 1, 1, none⟩ c).setCell ⟨w.heap.size + 1, 2, none⟩ (.int .i64 0)
    (W2.cell? ⟨w.heap.size + 1, 0, none⟩ = some (.slice Bn (ps.length + 1) kn) ∧ W2.cell? ⟨w.heap.size + 1, 1, none⟩ = some c ∧ W2.cell? ⟨w.heap.size + 1, 2, none⟩ = some (.int .i64 0)) ∧ OwP 70 W2 w.heap.size (.slice Bn (ps.length + 1) kn) ((ps ++ [p]).map pI) (blks (.slice Bn (ps.length + 1) kn)) ∧ Below w.heap.size w W2 := by
  intro W2
  have hb := h.bel.setCell (p := ⟨w.heap.size + 1 + 1, 1, none⟩) (by show w.heap.size ≤ w.heap.size + 1 + 1; omega) c
  have hr := h.ret.other (a := ⟨w.heap.size + 1 + 1, 1, none⟩) (by show w.heap.size + 1 + 1 ≠ w.heap.size + 1; omega) c
  have hO0 := h.ownP
  rw [show (ps ++ [p]).length = ps.length + 1 by simp] at hO0
  have hO := (goodP _).under (a := ⟨w.heap.size + 1 + 1, 1, none⟩) hO0 (by show w.heap.size + 1 + 1 < _; omega) c
  obtain ⟨r1, r2, r3⟩ := co_out (v := c) (l := .int .i64 0) hb hr hO
  exact ⟨(Row.three r1).1, r2, r3⟩
/-- Behind the map's store. -/
theorem CoI.mapped {w wr w2 : World} {t : TData} {vm : Value} {s : ByteArray} {ps : List (Nat × Nat)} {Bn : Option Addr} {kn : Nat} {D : DataW Nat} {pw : Int × Int} {x0 x1 : Value} (h : CoI w wr t vm s ps Bn kn D pw) (hg : (wr.alloc (.cells #[x0, x1] 70)).grownBy w2 (some (w.heap.size + 1 + 1 + 1))) :
    Below w.heap.size w w2 ∧ Row w2 (w.heap.size + 1) 89 [.slice none 0 0, .int .i64 0, .int .i64 0] ∧ Row w2 (w.heap.size + 2) 89 [.slice Bn ps.length kn, .int .i64 0, .int .i64 0] ∧ w2.ownsRow (w.heap.size + 5) 70 2 (.slice Bn ps.length kn) ps.length (pcells (ps.map pI)) ∧ Row w2 (w.heap.size + 4) 139 (wkr t vm s pw) ∧ Row w2 wr.heap.size 70 [x0, x1] := by
  have hx := Row.new wr [x0, x1] 70
  have hml := h.map.lt
  have hbl : ∀ {g : Nat} {e : TypeId} {xs : List Value}, Row (wr.alloc (.cells #[x0, x1] 70)) g e xs → g ≠ w.heap.size + 3 → Row w2 g e xs := fun {g e xs} hr hn => (hg.block g hr.lt (fun e => hn (by have := Option.some.inj e; omega))).trans hr
  have ho := h.own.alloc (.cells #[x0, x1] 70)
  refine ⟨?_, hbl (h.ret.alloc _) (by omega), hbl (h.box.alloc _) (by omega), ?_, hbl (h.wk.alloc _) (by omega), hbl hx (by omega)⟩
  · have hb0 := below_step h.bel (below_alloc wr (.cells #[x0, x1] 70))
    exact ⟨hg.os.trans hb0.os, hg.tape.trans hb0.tape, hg.output.trans hb0.output, Nat.le_trans hb0.size hg.size, fun k hk => (hg.block k (Nat.lt_of_lt_of_le hk hb0.size) (fun e => by have := Option.some.inj e; omega)).trans (hb0.block k hk)⟩
  · exact rows_same ho (fun b hb => hg.block b (World.ownsRow.lt ho b (mem_blks.1 hb)).2 (fun e => by have := Option.some.inj e; have := (World.ownsRow.lt ho b (mem_blks.1 hb)).1; omega))
/-- Behind the place's append. -/
theorem CoI.appended {w w2 w3 : World} {t : TData} {vm : Value} {s : ByteArray} {ps : List (Nat × Nat)} {p : Nat × Nat} {Bn : Option Addr} {kn : Nat} {D' : DataW Nat} {pw : Int × Int} {yb : Nat} {y0 y1 : Value} {g cap : Nat} {o : Obj}
    (h : Below w.heap.size w w2 ∧ Row w2 (w.heap.size + 1) 89 [.slice none 0 0, .int .i64 0, .int .i64 0] ∧ Row w2 (w.heap.size + 2) 89 [.slice Bn ps.length kn, .int .i64 0, .int .i64 0] ∧ w2.ownsRow (w.heap.size + 5) 70 2 (.slice Bn ps.length kn) ps.length (pcells (ps.map pI)) ∧ Row w2 (w.heap.size + 4) 139 (wkr t vm s pw) ∧ Row w2 yb 70 [y0, y1])
    (hmap : w2.ownsMap Try.prog 70 (plainElem Try.prog 3) (w.heap.size + 1 + 1 + 1) (ps.length + 1) D') (hg : (w2.alloc o).grownBy w3 (Value.slice Bn ps.length kn).ownBlock)
    (ho : w3.ownsRow (w.heap.size + 5) 70 2 (.slice (some ⟨g, 0, none⟩) (ps.length + 1) cap) (ps.length + 1) (pcells (ps.map pI) ++ [.int .i64 (p.1 : Int), .int .i64 (p.2 : Int)])) (hm : MapOk t.mv.length s.size D' (ps ++ [p])) :
    Row w3 (w.heap.size + 1 + 1) 89 [.slice Bn ps.length kn, .int .i64 0, .int .i64 0] ∧ CoI w (w3.setCell ⟨w.heap.size + 1 + 1, 0, none⟩ (.slice (some ⟨g, 0, none⟩) (ps.length + 1) cap)) t vm s (ps ++ [p]) (some ⟨g, 0, none⟩) cap D' pw := by
  obtain ⟨h1, h2, h3, h4, h5, -⟩ := h
  have hnb : ∀ b, b < w.heap.size + 5 → b ∉ blks (.slice Bn ps.length kn) := fun b hb hm => by have := (World.ownsRow.lt h4 b (mem_blks.1 hm)).1; omega
  have k2 := grown_row hg (h2.alloc o) (hnb _ (by omega))
  have k3 := grown_row hg (h3.alloc o) (hnb _ (by omega))
  have k5 := grown_row hg (h5.alloc o) (hnb _ (by omega))
  have kb := (below_step h1 (below_alloc w2 o)).trans (grown_below hg (B := w.heap.size) (by have := h1.size; simp; omega) (fun b hb => by have := (World.ownsRow.lt h4 b (mem_blks.1 hb)).1; omega))
  have km := ownsMap_same (hmap.alloc o) (hg.block _ (hmap.alloc o).lt (fun e => hnb _ (by omega) (mem_blks.2 e.symm)))
  have e1 : pcells (ps.map pI) ++ [.int .i64 (p.1 : Int), .int .i64 (p.2 : Int)] = pcells ((ps ++ [p]).map pI) := by rw [List.map_append, List.map_singleton, pcells_snoc]; rfl
  rw [e1] at ho
  refine ⟨k3, ?_⟩
  have el : (ps ++ [p]).length = ps.length + 1 := by simp
  have hou : OwP 70 w3 (w.heap.size + 5) (.slice (some ⟨g, 0, none⟩) (ps.length + 1) cap) ((ps ++ [p]).map pI) (blks (.slice (some ⟨g, 0, none⟩) (ps.length + 1) cap)) := ⟨by rw [List.length_map, el]; exact ho, rfl⟩
  have hou2 := (goodP _).under (a := ⟨w.heap.size + 1 + 1, 0, none⟩) hou (by show w.heap.size + 1 + 1 < _; omega) (.slice (some ⟨g, 0, none⟩) (ps.length + 1) cap)
  refine ⟨kb.setCell (by show w.heap.size ≤ w.heap.size + 1 + 1; omega) _, k2.other (by show w.heap.size + 1 + 1 ≠ w.heap.size + 1; omega) _, ?_, ?_, ?_, hm, k5.other (by show w.heap.size + 1 + 1 ≠ w.heap.size + 4; omega) _⟩
  · rw [el]; exact k3.stored 0 (.slice (some ⟨g, 0, none⟩) (ps.length + 1) cap)
  · have := hou2.1
    rw [List.length_map] at this
    rwa [el] at this ⊢
  · rw [el]
    exact ownsMap_same km (Below.heap_setCell _ _ _ _ (by show w.heap.size + 3 ≠ w.heap.size + 1 + 1; omega))

theorem CoI.start (w : World) (t : TData) (vm : Value) (s : ByteArray) (hS : ((t.S.toNat : Nat) : Int) = t.S) :
    CoI w (((((w.alloc (.cells #[.int .i64 t.L, .int .i64 t.S, vm] 31)).alloc (.cells #[.slice none 0 0, .int .i64 0, .int .i64 0] 89)).alloc (.cells #[.slice none 0 0, .int .i64 0, .int .i64 0] 89)).alloc (.map #[] 0)).alloc (.cells #[.int .i64 t.L, .int .i64 t.S, vm, .string s, .int .i64 t.S, .int .i64 0] 139)) t vm s [] none 0 (.map []) (pI (t.S.toNat, 0)) where
  bel := ((((below_alloc w _).alloc (by simp) _).alloc (by simp; omega) _).alloc (by simp; omega) _).alloc (by simp; omega) _
  ret := by
    have := (((Row.new (w.alloc (.cells #[.int .i64 t.L, .int .i64 t.S, vm] 31)) [.slice none 0 0, .int .i64 0, .int .i64 0] 89).alloc (.cells #[.slice none 0 0, .int .i64 0, .int .i64 0] 89)).alloc (.map #[] 0)).alloc (.cells #[.int .i64 t.L, .int .i64 t.S, vm, .string s, .int .i64 t.S, .int .i64 0] 139)
    simpa using this
  box := by
    have := ((Row.new ((w.alloc (.cells #[.int .i64 t.L, .int .i64 t.S, vm] 31)).alloc (.cells #[.slice none 0 0, .int .i64 0, .int .i64 0] 89)) [.slice none 0 0, .int .i64 0, .int .i64 0] 89).alloc (.map #[] 0)).alloc (.cells #[.int .i64 t.L, .int .i64 t.S, vm, .string s, .int .i64 t.S, .int .i64 0] 139)
    simpa using this
  own := World.ownsRow_nil _ _ _ 2
  map := by
    have := (World.ownsMap_made (H := Nat) (((w.alloc (.cells #[.int .i64 t.L, .int .i64 t.S, vm] 31)).alloc (.cells #[.slice none 0 0, .int .i64 0, .int .i64 0] 89)).alloc (.cells #[.slice none 0 0, .int .i64 0, .int .i64 0] 89)) Try.prog 70 (plainElem Try.prog 3)).alloc (.cells #[.int .i64 t.L, .int .i64 t.S, vm, .string s, .int .i64 t.S, .int .i64 0] 139)
    simpa using this
  mapOk := mapOk_start _ _
  wk := by
    have := Row.new ((((w.alloc (.cells #[.int .i64 t.L, .int .i64 t.S, vm] 31)).alloc (.cells #[.slice none 0 0, .int .i64 0, .int .i64 0] 89)).alloc (.cells #[.slice none 0 0, .int .i64 0, .int .i64 0] 89)).alloc (.map #[] 0)) [.int .i64 t.L, .int .i64 t.S, vm, .string s, .int .i64 t.S, .int .i64 0] 139
    unfold wkr pI
    simp only [hS]
    simpa using this

set_option maxRecDepth 100000 in
set_option maxHeartbeats 6400000 in
theorem courseOn_own (v : Value) (t : TData) (s : ByteArray) (w : World) (h : RdT w v t) (ok : OkT t) (hl : lettersOk t.L s = true) (hs : s.size ≤ 60) :
    Calls Try.prog 64 #[v, .string s] w fun e w' => ∃ u bs, e = .returned (.agg #[u, .int .i64 (runN t s).verdict, .int .i64 (((runN t s).loop : Nat) : Int)]) ∧ OwP 70 w' w.heap.size u ((runN t s).places.map pI) bs ∧ Below w.heap.size w w' := by
  obtain ⟨im, him, hzm0, hzm1, hzm2⟩ := info_parts infoPlace
  obtain ⟨vm, rfl, hm⟩ := h
  obtain ⟨A, ca, rfl⟩ := RdL.shape hm
  have HM := Lib.hid hm
  have HOK := Lib.hid ok
  have HL := Lib.hid hl
  have hstart := RunAt.start s ok
  have HST := Lib.hid hstart
  have hS : (t.S.toNat : Int) = t.S := by have := ok.s1; omega
  have n2 := ok.n2
  clear hm ok hl hstart
  have hmm := @run_makeMap Try.prog
  go_enter Try.func64, Try.ntmps64
  go_wp2
  go_step3
  go_wp2
  go_step3
  go_wp2
  have HS0 := Lib.hid (CoI.start w t (.slice A t.mv.length ca) s hS)
  generalize ((((w.alloc (.cells #[.int .i64 t.L, .int .i64 t.S, .slice A t.mv.length ca] 31)).alloc (.cells #[.slice none 0 0, .int .i64 0, .int .i64 0] 89)).alloc (.cells #[.slice none 0 0, .int .i64 0, .int .i64 0] 89)).alloc (.map #[] 0)).alloc (.cells #[.int .i64 t.L, .int .i64 t.S, .slice A t.mv.length ca, .string s, .int .i64 t.S, .int .i64 0] 139) = W0 at *
  clear hmm
  go_loopg [] (roomP t s + 1) (fun k wr => ∃ (ps : List (Nat × Nat)) (Bn : Option Addr) (kn : Nat) (D : DataW Nat) (p : Nat × Nat), k + ps.length = roomP t s + 1 ∧ RunAt t s ps p ∧ CoI w wr t (.slice A t.mv.length ca) s ps Bn kn D (pI p))
  case atStart => exact ⟨[], none, 0, .map [], (t.S.toNat, 0), by simp, HST.out, HS0.out⟩
  case round =>
    clear HS0 HST
    obtain ⟨ps, Bn, kn, D, p, hk, hR, hI⟩ := hrel
    have HI := Lib.hid hI
    have HR := Lib.hid hR
    have HKK := Lib.hid hk
    have HSTEP := Lib.hid (step_any _ t (.slice A t.mv.length ca) s p wr hI.wk (keepsPP _ _ _ _ HM.out hI.bel) HOK.out HL.out hs hR.here)
    have hp1 := hR.here.1
    have hp2 := hR.here.2
    have hroom := hR.room
    have hr744 := room_le n2 hs
    clear hI hR hk hS
    go_wp2_with fail
    refine HSTEP.out.mono ?_
    rintro e w1 ⟨rfl, hk1, hT⟩
    have HI1 := Lib.hid (HI.out.turned hT hk1)
    clear HI HSTEP hk1 hT
    have hkey := keyP (p := p) (by omega) (by omega)
    obtain ⟨⟨r0, r1, r2⟩, rf⟩ := HI1.out.ret.three
    obtain ⟨⟨x0, x1, x2⟩, xf⟩ := (show Row w1 (w.heap.size + 1 + 1) 89 [.slice Bn ps.length kn, .int .i64 0, .int .i64 0] from HI1.out.box).three
    have lr := HI1.out.ret.lt
    have lx := (show Row w1 (w.heap.size + 1 + 1) 89 [.slice Bn ps.length kn, .int .i64 0, .int .i64 0] from HI1.out.box).lt
    have hmo := HI1.out.mapOk p HR.out.here
    by_cases hmem : p ∈ ps
    · have hh : Maps.has D (klP p) = true := by rw [hmo.1]; simpa using hmem
      have HAT := Lib.hid (hmo.2 hmem)
      have HRES := Lib.hid (HR.out.again hmem)
      clear hmo hmem
      go_wp2_with (at_lookup; refine wpList_lookup_own_ok_int _ rfl _ _ 135 rfl 70 3 .i64 lawPlace Try.underlying135 Try.underlying3 (zeroIntR _) _ ps.length D rfl (HI1.out.map.alloc _) _ (klP p) rfl hkey ?_; intro c hat hwc)
      have hc : ((ps.idxOf p : Nat) : Int) = c := by
        have := HAT.out.symm.trans hat
        simpa using this
      have HE := HI1.out.again c (.cells #[.int .i64 (p.1 : Int), .int .i64 (p.2 : Int)] 70)
      obtain ⟨⟨e0, e1, e2⟩, eO, eB⟩ := HE
      rw [Exit.noGoto_ret]
      generalize (((((w1.setCell ⟨w.heap.size + 1 + 1, 1, none⟩ (.int .i64 3)).setCell ⟨w.heap.size + 1 + 1, 2, none⟩ (.int .i64 c)).setCell ⟨w.heap.size + 1, 0, none⟩ (.slice Bn ps.length kn)).setCell ⟨w.heap.size + 1, 1, none⟩ (.int .i64 3)).setCell ⟨w.heap.size + 1, 2, none⟩ (.int .i64 c)).alloc (.cells #[.int .i64 (p.1 : Int), .int .i64 (p.2 : Int)] 70) = W2 at *
      refine bodyPost_ret (v := .agg #[.slice Bn ps.length kn, .int .i64 3, .int .i64 c]) (by simp [results, Try.results64, go_sem, e0, e1, e2]) rfl ?_
      rw [HRES.out]
      exact ⟨.slice Bn ps.length kn, _, by simp only [hc], eO, eB⟩
    · have hh : Maps.has D (klP p) = false := by rw [hmo.1]; simpa using hmem
      have HMEM := Lib.hid hmem
      have hmok := mapOk_snoc (by omega) hs HI1.out.mapOk HI1.out.map.isMap HR.out.here hmem
      have hmo2 := move_on HOK.out HL.out HR.out.here
      clear hmo hmem
      rcases hmo2 with ⟨h0 | h0, h9⟩ | ⟨h0, h5, h6, h7, h8, h9⟩
      · have e : moveOn t s p.1 p.2 = (-1, 0) := Prod.ext h0 h9
        have HRES := Lib.hid (HR.out.takes HMEM.out h0)
        rw [e, deedV_stopT]
        clear h0 h9 e
        have ta := fun W => taStopYes W (.agg #[.bool true])
        go_wp2_with (first | (at_lookup; refine wpList_lookup_own_ok_int _ rfl _ _ 135 rfl 70 3 .i64 lawPlace Try.underlying135 Try.underlying3 (zeroIntR _) _ ps.length D rfl (HI1.out.map.alloc _) _ (klP p) rfl hkey ?_; intro c hat hwc) | (at_mapUpdate; refine wpList_mapUpdate_own _ rfl _ _ _ 135 rfl 70 3 lawPlace Try.underlying135 _ _ ps.length D rfl (HI1.out.map.alloc _) (by unfold maxLen; omega) _ _ (klP p) rfl rfl hkey (.lit (.int .i64 (ps.length : Int))) [] (plainElem_int Try.underlying3 (WalkArith.wf_i64 (by omega))) ?_; intro w2 hown2 hgrow2; have HM2 := Lib.hid (show _ ∧ _ from ⟨HI1.out.mapped (x0 := .int .i64 (p.1 : Int)) (x1 := .int .i64 (p.2 : Int)) hgrow2, hown2⟩); have hy2 := HM2.out.1.2.2.2.2.2; have ly2 := hy2.lt; obtain ⟨⟨y0, y1⟩, -⟩ := hy2.two; obtain ⟨⟨z0, z1, z2⟩, -⟩ := (show Row w2 (w.heap.size + 1 + 1) 89 [.slice Bn ps.length kn, .int .i64 0, .int .i64 0] from HM2.out.1.2.2.1).three; clear hy2 hown2 hgrow2 x0 x1 x2 xf r0 r1 r2 rf) | (at_builtin; refine wpList_append_lies _ rfl _ _ 26 rfl (w.heap.size + 5) 70 im _ 2 16 Try.underlying26 him hzm0 hzm1 hzm2 rfl (by decide) (.slice Bn ps.length kn) ps.length _ rfl (HM2.out.1.2.2.2.1.alloc _) ⟨w2.heap.size, 0, none⟩ 1 1 [.int .i64 (p.1 : Int), .int .i64 (p.2 : Int)] rfl rfl (World.news_of_block (cs := #[.int .i64 (p.1 : Int), .int .i64 (p.2 : Int)]) (t := 70) (fr := (0, 0)) (heap_alloc_new w2 _)) (by simp [Value.oneCell']) (by omega) (by unfold maxLen; omega) (by omega) (by have := HM2.out.1.2.2.1.lt; have := HM2.out.1.2.2.2.2.1.lt; simp; omega) (w2.heap.size + 1) (by simp) ?_; intro g cap w3 hown3 hgrow3 hat3 hlt3; have HA3 := Lib.hid (CoI.appended HM2.out.1 HM2.out.2 hgrow3 hown3 hmok); obtain ⟨⟨v0, v1, v2⟩, vf⟩ := HA3.out.1.three; have lv := HA3.out.1.lt; clear hown3 hgrow3 hat3 y0 y1 z0 z1 z2 ly2))
        refine (stopVerdict_any true _).mono ?_
        rintro e w5 ⟨rfl, hb5⟩
        have HI5 := Lib.hid (HA3.out.2.below (below_step (below_alloc _ _) hb5))
        clear hb5 v0 v1 v2 vf lv ta
        obtain ⟨⟨r0, r1, r2⟩, rf⟩ := HI5.out.ret.three
        have hx5 : Row w5 (w.heap.size + 1 + 1) 89 [.slice (some ⟨g, 0, none⟩) (ps.length + 1) cap, .int .i64 0, .int .i64 0] := by have := HI5.out.box; rwa [show (ps ++ [p]).length = ps.length + 1 by simp] at this
        obtain ⟨⟨x0, x1, x2⟩, xf⟩ := hx5.three
        have lr := HI5.out.ret.lt
        have lx := hx5.lt
        clear hx5
        have HE := Lib.hid (HI5.out.stops (.int .i64 1))
        go_wp2_with fail
        obtain ⟨⟨e0, e1, e2⟩, eO, eB⟩ := HE.out
        rw [Exit.noGoto_ret]
        generalize (((w5.setCell ⟨w.heap.size + 1 + 1, 1, none⟩ (.int .i64 1)).setCell ⟨w.heap.size + 1, 0, none⟩ (.slice (some ⟨g, 0, none⟩) (ps.length + 1) cap)).setCell ⟨w.heap.size + 1, 1, none⟩ (.int .i64 1)).setCell ⟨w.heap.size + 1, 2, none⟩ (.int .i64 0) = W2 at *
        refine bodyPost_ret (v := .agg #[.slice (some ⟨g, 0, none⟩) (ps.length + 1) cap, .int .i64 1, .int .i64 0]) (by simp [results, Try.results64, go_sem, e0, e1, e2]) rfl ?_
        rw [HRES.out]
        exact ⟨_, _, rfl, eO, eB⟩
      · have e : moveOn t s p.1 p.2 = (-2, 0) := Prod.ext h0 h9
        have HRES := Lib.hid (HR.out.refuses HMEM.out h0)
        rw [e, deedV_stopF]
        clear h0 h9 e
        have ta := fun W => taStopYes W (.agg #[.bool false])
        go_wp2_with (first | (at_lookup; refine wpList_lookup_own_ok_int _ rfl _ _ 135 rfl 70 3 .i64 lawPlace Try.underlying135 Try.underlying3 (zeroIntR _) _ ps.length D rfl (HI1.out.map.alloc _) _ (klP p) rfl hkey ?_; intro c hat hwc) | (at_mapUpdate; refine wpList_mapUpdate_own _ rfl _ _ _ 135 rfl 70 3 lawPlace Try.underlying135 _ _ ps.length D rfl (HI1.out.map.alloc _) (by unfold maxLen; omega) _ _ (klP p) rfl rfl hkey (.lit (.int .i64 (ps.length : Int))) [] (plainElem_int Try.underlying3 (WalkArith.wf_i64 (by omega))) ?_; intro w2 hown2 hgrow2; have HM2 := Lib.hid (show _ ∧ _ from ⟨HI1.out.mapped (x0 := .int .i64 (p.1 : Int)) (x1 := .int .i64 (p.2 : Int)) hgrow2, hown2⟩); have hy2 := HM2.out.1.2.2.2.2.2; have ly2 := hy2.lt; obtain ⟨⟨y0, y1⟩, -⟩ := hy2.two; obtain ⟨⟨z0, z1, z2⟩, -⟩ := (show Row w2 (w.heap.size + 1 + 1) 89 [.slice Bn ps.length kn, .int .i64 0, .int .i64 0] from HM2.out.1.2.2.1).three; clear hy2 hown2 hgrow2 x0 x1 x2 xf r0 r1 r2 rf) | (at_builtin; refine wpList_append_lies _ rfl _ _ 26 rfl (w.heap.size + 5) 70 im _ 2 16 Try.underlying26 him hzm0 hzm1 hzm2 rfl (by decide) (.slice Bn ps.length kn) ps.length _ rfl (HM2.out.1.2.2.2.1.alloc _) ⟨w2.heap.size, 0, none⟩ 1 1 [.int .i64 (p.1 : Int), .int .i64 (p.2 : Int)] rfl rfl (World.news_of_block (cs := #[.int .i64 (p.1 : Int), .int .i64 (p.2 : Int)]) (t := 70) (fr := (0, 0)) (heap_alloc_new w2 _)) (by simp [Value.oneCell']) (by omega) (by unfold maxLen; omega) (by omega) (by have := HM2.out.1.2.2.1.lt; have := HM2.out.1.2.2.2.2.1.lt; simp; omega) (w2.heap.size + 1) (by simp) ?_; intro g cap w3 hown3 hgrow3 hat3 hlt3; have HA3 := Lib.hid (CoI.appended HM2.out.1 HM2.out.2 hgrow3 hown3 hmok); obtain ⟨⟨v0, v1, v2⟩, vf⟩ := HA3.out.1.three; have lv := HA3.out.1.lt; clear hown3 hgrow3 hat3 y0 y1 z0 z1 z2 ly2))
        refine (stopVerdict_any false _).mono ?_
        rintro e w5 ⟨rfl, hb5⟩
        have HI5 := Lib.hid (HA3.out.2.below (below_step (below_alloc _ _) hb5))
        clear hb5 v0 v1 v2 vf lv ta
        obtain ⟨⟨r0, r1, r2⟩, rf⟩ := HI5.out.ret.three
        have hx5 : Row w5 (w.heap.size + 1 + 1) 89 [.slice (some ⟨g, 0, none⟩) (ps.length + 1) cap, .int .i64 0, .int .i64 0] := by have := HI5.out.box; rwa [show (ps ++ [p]).length = ps.length + 1 by simp] at this
        obtain ⟨⟨x0, x1, x2⟩, xf⟩ := hx5.three
        have lr := HI5.out.ret.lt
        have lx := hx5.lt
        clear hx5
        have HE := Lib.hid (HI5.out.stops (.int .i64 2))
        go_wp2_with fail
        obtain ⟨⟨e0, e1, e2⟩, eO, eB⟩ := HE.out
        rw [Exit.noGoto_ret]
        generalize (((w5.setCell ⟨w.heap.size + 1 + 1, 1, none⟩ (.int .i64 2)).setCell ⟨w.heap.size + 1, 0, none⟩ (.slice (some ⟨g, 0, none⟩) (ps.length + 1) cap)).setCell ⟨w.heap.size + 1, 1, none⟩ (.int .i64 2)).setCell ⟨w.heap.size + 1, 2, none⟩ (.int .i64 0) = W2 at *
        refine bodyPost_ret (v := .agg #[.slice (some ⟨g, 0, none⟩) (ps.length + 1) cap, .int .i64 2, .int .i64 0]) (by simp [results, Try.results64, go_sem, e0, e1, e2]) rfl ?_
        rw [HRES.out]
        exact ⟨_, _, rfl, eO, eB⟩
      · have HNX := Lib.hid (HR.out.next HOK.out HL.out HMEM.out (by omega) (by omega))
        have HPI := Lib.hid (next_ok HOK.out HL.out HR.out.here (by omega) (by omega)).2
        have HON := Lib.hid (show onP t s p = pI (nextP t s p) by rw [HPI.out]; unfold onP; rw [if_neg (by omega)])
        have e : deedV (moveOn t s p.1 p.2) = .iface 99 (.agg #[.int .i64 (moveOn t s p.1 p.2).1, .int .i64 (moveOn t s p.1 p.2).2]) := deedV_go _ _ h0
        rw [e]
        clear h0 h5 h6 h7 h8 h9 e
        generalize moveOn t s p.1 p.2 = mv at *
        have ta := fun W => taStopNo W (.agg #[.int .i64 mv.1, .int .i64 mv.2])
        go_wp2_with (first | (at_lookup; refine wpList_lookup_own_ok_int _ rfl _ _ 135 rfl 70 3 .i64 lawPlace Try.underlying135 Try.underlying3 (zeroIntR _) _ ps.length D rfl (HI1.out.map.alloc _) _ (klP p) rfl hkey ?_; intro c hat hwc) | (at_mapUpdate; refine wpList_mapUpdate_own _ rfl _ _ _ 135 rfl 70 3 lawPlace Try.underlying135 _ _ ps.length D rfl (HI1.out.map.alloc _) (by unfold maxLen; omega) _ _ (klP p) rfl rfl hkey (.lit (.int .i64 (ps.length : Int))) [] (plainElem_int Try.underlying3 (WalkArith.wf_i64 (by omega))) ?_; intro w2 hown2 hgrow2; have HM2 := Lib.hid (show _ ∧ _ from ⟨HI1.out.mapped (x0 := .int .i64 (p.1 : Int)) (x1 := .int .i64 (p.2 : Int)) hgrow2, hown2⟩); have hy2 := HM2.out.1.2.2.2.2.2; have ly2 := hy2.lt; obtain ⟨⟨y0, y1⟩, -⟩ := hy2.two; obtain ⟨⟨z0, z1, z2⟩, -⟩ := (show Row w2 (w.heap.size + 1 + 1) 89 [.slice Bn ps.length kn, .int .i64 0, .int .i64 0] from HM2.out.1.2.2.1).three; clear hy2 hown2 hgrow2 x0 x1 x2 xf r0 r1 r2 rf) | (at_builtin; refine wpList_append_lies _ rfl _ _ 26 rfl (w.heap.size + 5) 70 im _ 2 16 Try.underlying26 him hzm0 hzm1 hzm2 rfl (by decide) (.slice Bn ps.length kn) ps.length _ rfl (HM2.out.1.2.2.2.1.alloc _) ⟨w2.heap.size, 0, none⟩ 1 1 [.int .i64 (p.1 : Int), .int .i64 (p.2 : Int)] rfl rfl (World.news_of_block (cs := #[.int .i64 (p.1 : Int), .int .i64 (p.2 : Int)]) (t := 70) (fr := (0, 0)) (heap_alloc_new w2 _)) (by simp [Value.oneCell']) (by omega) (by unfold maxLen; omega) (by omega) (by have := HM2.out.1.2.2.1.lt; have := HM2.out.1.2.2.2.2.1.lt; simp; omega) (w2.heap.size + 1) (by simp) ?_; intro g cap w3 hown3 hgrow3 hat3 hlt3; have HA3 := Lib.hid (CoI.appended HM2.out.1 HM2.out.2 hgrow3 hown3 hmok); obtain ⟨⟨v0, v1, v2⟩, vf⟩ := HA3.out.1.three; have lv := HA3.out.1.lt; clear hown3 hgrow3 hat3 y0 y1 z0 z1 z2 ly2))
        clear v0 v1 v2 vf lv ta
        go_roundg (gk - 1)
        case measure => have := HKK.out; omega
        case rel =>
          have hI := HA3.out.2
          rw [HON.out] at hI
          exact ⟨ps ++ [p], some ⟨g, 0, none⟩, cap, D.put (klP p) (.lit (.int .i64 (ps.length : Int))), nextP t s p, by have := HKK.out; simp; omega, HNX.out, hI⟩
end Go.Proofs.Ytdkalefepdlccaa
