/-
  The mirrored turner: the model's answer.
-/
import Derived.Test.YtfkicedhjipfmaaMi2
import Derived.Test.YtfkicedhjipfmaaCl
import Derived.Deep.RegionLaw
import Derived.Deep.AppendLies
namespace Go.Proofs.Ytfkicedhjipfmaa
open Go.RowKit

/-- The boxes of the model's call: the turner, the answer, and the turner that is being made. -/
def MirI (w : World) (lo : Nat) (rc : List Value) (t : TData) (wr : World) : Prop :=
  Below w.heap.size w wr ∧ Row wr w.heap.size 29 rc ∧ Row wr (w.heap.size + 1) 29 [.int .i64 0, .int .i64 0, .slice none 0 0] ∧ w.heap.size + 2 ≤ lo ∧ BoxT wr lo lo t
theorem MirI.below {w w' wr : World} {lo : Nat} {rc : List Value} {t : TData} (h : MirI w lo rc t wr) (hb : Below wr.heap.size wr w') : MirI w lo rc t w' :=
  ⟨below_step h.1 hb, h.2.1.below hb h.2.1.lt, h.2.2.1.below hb h.2.2.1.lt, h.2.2.2.1, h.2.2.2.2.below hb⟩
theorem MirI.drew {w wr : World} {lo : Nat} {rc : List Value} {t : TData} (h : MirI w lo rc t wr) : MirI w lo rc t wr.drew := h.below (below_drew _)

def mirPart (G : Nat → Nat → Int × Int) (q k : Nat) : List (Int × Int) := (List.range k).map (G q)
theorem mirPart_len (G : Nat → Nat → Int × Int) (q k : Nat) : (mirPart G q k).length = k := by simp [mirPart]
theorem mirPart_succ (G : Nat → Nat → Int × Int) (q k : Nat) : mirPart G q (k + 1) = mirPart G q k ++ [G q k] := by simp [mirPart, List.range_succ]
theorem mirPart_full (G : Nat → Nat → Int × Int) (q c : Nat) : mirPart G q c = rowOf G c q := rfl

theorem rdP_cell {w : World} {b off n c : Nat} {ms : List (Int × Int)} (h : RdP w (.slice (some ⟨b, off, none⟩) n c) ms) {i : Nat} {m : Int × Int} (hm : ms[i]? = some m) : w.cell? ⟨b, off + i * 2, none⟩ = some (.int .i64 m.1) ∧ w.cell? ⟨b, off + i * 2 + 1, none⟩ = some (.int .i64 m.2) := by
  obtain ⟨A, cap, hv, _, _, h3⟩ := h
  simp only [Value.slice.injEq] at hv
  obtain ⟨b', off', hA, h4⟩ := h3 i m hm
  rw [← hv.1, Option.some.injEq, Addr.mk.injEq] at hA
  obtain ⟨rfl, rfl, -⟩ := hA
  exact h4

theorem okT_tableM {L S : Int} {G : Nat → Nat → Int × Int} {n c : Nat} (l1 : 1 ≤ L) (l2 : L ≤ 3) (n1 : 1 ≤ n) (n2 : n ≤ 12) (s1 : 0 ≤ S) (s2 : S ≤ (n : Int) - 1) (hc : (c : Int) = L + 2) (hG : ∀ q k, q < n → k < c → okMove n L k (G q k) = true) : okT ⟨L, S, tableOf G c n⟩ = true := by
  apply okT_all
  · simp; omega
  · simp [tableOf_len]; omega
  · simp only [tableOf_len, decide_eq_true_eq]; omega
  · simp only [tableOf_len]
    rw [List.all_eq_true]
    intro x hx
    obtain ⟨q, hq, rfl⟩ := List.mem_map.1 hx
    have hq' : q < n := by simpa using hq
    apply okRow_of
    · rw [rowOf_len]; exact hc
    · unfold okMsTo
      rw [List.all_eq_true]
      intro k hk
      have hk' : k < c := by simpa [rowOf_len] using hk
      simp only [List.getD, rowOf_get G hk', Option.getD_some]
      exact hG q k hq' hk'


theorem told_mir {t : TData} (ok : OkT t) (hok : okT t = true) {c : Nat} (hc : (c : Int) = t.L + 2) :
    (okT ⟨t.L, t.mv.length, tableOf (mirG t) c (t.mv.length + 1)⟩ = true ∧ mirRes t = (⟨t.L, t.mv.length, tableOf (mirG t) c (t.mv.length + 1)⟩, 0)) ∨ (okT ⟨t.L, t.mv.length, tableOf (mirG t) c (t.mv.length + 1)⟩ = false ∧ mirRes t = (⟨0, 0, []⟩, 3)) := by
  have e : (t.L + 2).toNat = c := by omega
  by_cases hn : t.mv.length + 1 ≤ 12
  · left
    have n1 := ok.n1
    have := okT_tableM (S := (t.mv.length : Int)) ok.l1 ok.l2 (n := t.mv.length + 1) (by omega) hn (by omega) (by omega) hc (fun q k hq hk => by have := mirG_ok ok (q := q) (k := k) (by omega); rwa [show ((t.mv.length + 1 : Nat) : Int) = (t.mv.length : Int) + 1 by omega])
    exact ⟨this, by simp only [mirRes, hok, if_true, if_pos hn, e]⟩
  · right
    refine ⟨?_, by simp only [mirRes, hok, if_true, if_neg hn]⟩
    simp only [okT, tableOf_len]
    rw [show decide (1 ≤ ((t.mv.length + 1 : Nat) : Int) ∧ ((t.mv.length + 1 : Nat) : Int) ≤ 12) = false from decide_eq_false (by omega)]
    simp

def toldResM (t : TData) : TData × Int := if okT t then (t, 0) else (⟨0, 0, []⟩, 3)
set_option maxRecDepth 100000 in
set_option maxHeartbeats 1600000 in
theorem l02Told_anyM (v : Value) (t : TData) (w : World) (h : RdT w v t) :
    Calls Try.prog 40 #[v] w fun e w' => e = .returned (.tuple #[if okT t then v else .agg #[.int .i64 0, .int .i64 0, .slice none 0 0], .int .i64 (toldResM t).2]) ∧ Below w.heap.size w w' := by
  obtain ⟨m, rfl, hA⟩ := atT_box h 29
  obtain ⟨A, k, rfl⟩ := RdL.shape (show RdPP _ m t.mv from by obtain ⟨_, e, hm⟩ := h; cases e; exact hm)
  have hA0 := hA.below (below_alloc _ (.cells #[.int .i64 0, .int .i64 0, .slice none 0 0] 29))
  have HV := Lib.hid (l02Ok_any _ _ _ hA0)
  have HT := Lib.hid h
  have hr := (Row.new w [.int .i64 t.L, .int .i64 t.S, .slice A t.mv.length k] 29).alloc (.cells #[.int .i64 0, .int .i64 0, .slice none 0 0] 29)
  have hz := Row.new (w.alloc (.cells #[.int .i64 t.L, .int .i64 t.S, .slice A t.mv.length k] 29)) [.int .i64 0, .int .i64 0, .slice none 0 0] 29
  have HZ := Lib.hid (show Row _ (w.heap.size + 1) _ _ by simpa using hz)
  have HR := Lib.hid hr
  have HB := Lib.hid ((below_alloc w (.cells #[.int .i64 t.L, .int .i64 t.S, .slice A t.mv.length k] 29)).alloc (by simp) (.cells #[.int .i64 0, .int .i64 0, .slice none 0 0] 29))
  clear h hA hA0 hr hz
  by_cases hok : okT t = true
  · rw [if_pos hok]
    have HOK := Lib.hid hok
    go_enter Try.func40, Try.ntmps40
    go_wp2_with fail
    refine HV.out.mono ?_
    generalize (w.alloc (.cells #[.int .i64 t.L, .int .i64 t.S, .slice A t.mv.length k] 29)).alloc (.cells #[.int .i64 0, .int .i64 0, .slice none 0 0] 29) = W0 at *
    rintro e w1 ⟨rfl, hb1⟩
    have hz1 := HZ.out.below hb1 HZ.out.lt
    have hr1 := HR.out.below hb1 HR.out.lt
    have hbw := below_step HB.out hb1
    obtain ⟨⟨b0, b1, b2⟩, -⟩ := hr1.three
    obtain ⟨⟨z0, z1, z2⟩, zf⟩ := hz1.three
    have lz := hz1.lt
    have rF := (((hz1.stored 0 (.int .i64 t.L)).stored 1 (.int .i64 t.S)).stored 2 (.slice A t.mv.length k))
    have eB := (((hbw.setCell (p := ⟨w.heap.size + 1, 0, none⟩) (by show w.heap.size ≤ w.heap.size + 1; omega) (.int .i64 t.L)).setCell (p := ⟨w.heap.size + 1, 1, none⟩) (by show w.heap.size ≤ w.heap.size + 1; omega) (.int .i64 t.S)).setCell (p := ⟨w.heap.size + 1, 2, none⟩) (by show w.heap.size ≤ w.heap.size + 1; omega) (.slice A t.mv.length k))
    have HH := Lib.hid (show _ ∧ _ from ⟨rF, eB⟩)
    clear hb1 hz1 hr1 hbw rF eB
    go_wp2
    obtain ⟨rF, eB⟩ := HH.out
    generalize (((w1.setCell ⟨w.heap.size + 1, 0, none⟩ (.int .i64 t.L)).setCell ⟨w.heap.size + 1, 1, none⟩ (.int .i64 t.S)).setCell ⟨w.heap.size + 1, 2, none⟩ (.slice A t.mv.length k)) = W2 at *
    obtain ⟨⟨y0, y1, y2⟩, -⟩ := Row.three (a := .int .i64 t.L) (b := .int .i64 t.S) (c := .slice A t.mv.length k) rF
    have hres : toldResM t = (t, 0) := by simp [toldResM, HOK.out]
    rw [hres]
    refine bodyPost_ret (v := .tuple #[.agg #[.int .i64 t.L, .int .i64 t.S, .slice A t.mv.length k], .int .i64 0]) (by simp [results, Try.results40, go_sem, y0, y1, y2]) rfl ?_
    exact ⟨rfl, eB⟩
  · rw [if_neg hok]
    have hok' : okT t = false := by simpa using hok
    clear hok
    have HOK := Lib.hid hok'
    go_enter Try.func40, Try.ntmps40
    go_wp2_with fail
    refine HV.out.mono ?_
    generalize (w.alloc (.cells #[.int .i64 t.L, .int .i64 t.S, .slice A t.mv.length k] 29)).alloc (.cells #[.int .i64 0, .int .i64 0, .slice none 0 0] 29) = W0 at *
    rintro e w1 ⟨rfl, hb1⟩
    have hz1 := HZ.out.below hb1 HZ.out.lt
    have HH := Lib.hid (own_storedM (w := w) (A := none) (n := 0) (k := 0) (L := 0) (S := 0) hz1 (below_step HB.out hb1) (by omega) hz1.lt (t := ⟨0, 0, []⟩) ⟨_, [], rfl, owL_nil _ _ _ _, rfl, by simp⟩)
    obtain ⟨⟨z0, z1, z2⟩, zf⟩ := hz1.three
    have lz := hz1.lt
    clear hb1 hz1
    go_wp2
    obtain ⟨⟨y0, y1, y2⟩, eO, eB⟩ := HH.out
    have hres : toldResM t = (⟨0, 0, []⟩, 3) := by simp [toldResM, HOK.out]
    rw [hres]
    generalize (((w1.setCell ⟨w.heap.size + 1, 0, none⟩ (.int .i64 0)).setCell ⟨w.heap.size + 1, 1, none⟩ (.int .i64 0)).setCell ⟨w.heap.size + 1, 2, none⟩ (.slice none 0 0)) = W2 at *
    refine bodyPost_ret (v := .tuple #[.agg #[.int .i64 0, .int .i64 0, .slice none 0 0], .int .i64 3]) (by simp [results, Try.results40, go_sem, y0, y1, y2]) rfl ?_
    exact ⟨rfl, eB⟩
end Go.Proofs.Ytfkicedhjipfmaa
