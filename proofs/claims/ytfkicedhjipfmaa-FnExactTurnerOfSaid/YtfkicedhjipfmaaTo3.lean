/-
  The turner of a reader: the model's answer.
-/
import Derived.Test.YtfkicedhjipfmaaTo2
namespace Go.Proofs.Ytfkicedhjipfmaa
open Go.RowKit

/-- The row of a state that the model makes, letter by letter. -/
def tofPart (x : List Int) (k : Nat) : List (Int × Int) := (x.take k).map fun t => (t, 1)
theorem tofPart_len {x : List Int} {k : Nat} (h : k ≤ x.length) : (tofPart x k).length = k := by simp [tofPart]; omega
theorem tofPart_succ {x : List Int} {k : Nat} {t : Int} (h : x[k]? = some t) : tofPart x (k + 1) = tofPart x k ++ [(t, 1)] := by
  rw [tofPart, take_succ_of h, List.map_append]; rfl
theorem tof_row {r : RData} {q c : Nat} {x : List Int} {z : Bool} (hx : r.next[q]? = some x) (hz : r.acc[q]? = some z) (hl : (x.length : Int) = r.L) (hc : (c : Int) = r.L + 2) :
    tofPart x x.length ++ [((q : Int), 1), (if z then -1 else -2, 0)] = rowOf (tofG r) c q := by
  have h1 : (tofPart x x.length).length = x.length := tofPart_len (Nat.le_refl _)
  apply List.ext_getElem?
  intro i
  by_cases hi : i < c
  · rw [rowOf_get _ hi]
    by_cases h2 : i < x.length
    · have ht : x[i]? = some x[i] := List.getElem?_eq_getElem h2
      rw [List.getElem?_append_left (by omega)]
      unfold tofG
      rw [if_neg (show ¬ (i : Int) = r.L by omega), if_neg (show ¬ (i : Int) = r.L + 1 by omega)]
      simp [tofPart, List.getD, hx, ht]
    · rw [List.getElem?_append_right (by omega), h1]
      by_cases h3 : i = x.length
      · subst h3
        unfold tofG
        rw [if_pos (show ((x.length : Nat) : Int) = r.L by omega)]
        simp
      · have h4 : i = x.length + 1 := by omega
        subst h4
        unfold tofG
        rw [if_neg (show ¬ ((x.length + 1 : Nat) : Int) = r.L by omega), if_pos (show ((x.length + 1 : Nat) : Int) = r.L + 1 by omega), show x.length + 1 - x.length = 1 by omega]
        simp [List.getD, hz]
  · rw [List.getElem?_eq_none (by simp [h1]; omega), List.getElem?_eq_none (by rw [rowOf_len]; omega)]

theorem okT_table {L S : Int} {G : Nat → Nat → Int × Int} {n c : Nat} (l1 : 1 ≤ L) (l2 : L ≤ 3) (n1 : 1 ≤ n) (n2 : n ≤ 12) (s1 : 0 ≤ S) (s2 : S ≤ (n : Int) - 1) (hc : (c : Int) = L + 2) (hG : ∀ q k, q < n → k < c → okMove n L k (G q k) = true) : okT ⟨L, S, tableOf G c n⟩ = true := by
  apply okT_all
  · simp; omega
  · simp [tableOf_len]; omega
  · simp only [tableOf_len, decide_eq_true_eq]; omega
  · simp only [tableOf_len]
    rw [List.all_eq_true]
    intro x hx
    obtain ⟨q, hq, rfl⟩ := List.mem_map.1 hx
    have hq' : q < n := by simpa using hq
    apply okRow_of
    · rw [rowOf_len]; exact hc
    · unfold okMsTo
      rw [List.all_eq_true]
      intro k hk
      have hk' : k < c := by simpa [rowOf_len] using hk
      simp only [List.getD, rowOf_get G hk', Option.getD_some]
      exact hG q k hq' hk'

theorem tofG_ok {r : RData} (ok : OkR r) {q k : Nat} (hq : q < r.acc.length) (hk : (k : Int) < r.L + 2) : okMove r.acc.length r.L k (tofG r q k) = true := by
  unfold tofG okMove
  rw [decide_eq_true_iff]
  have n1 := ok.n1
  by_cases h1 : (k : Int) = r.L
  · rw [if_pos h1]; right; simp only; omega
  · by_cases h2 : (k : Int) = r.L + 1
    · rw [if_neg h1, if_pos h2]
      left
      cases r.acc.getD q false <;> simp
    · rw [if_neg h1, if_neg h2]
      right
      have hq2 : q < r.next.length := by have := ok.nl; omega
      have hx : r.next[q]? = some r.next[q] := List.getElem?_eq_getElem hq2
      have hl := ok.len q _ hx
      have hk2 : k < r.next[q].length := by omega
      have ht : r.next[q][k]? = some r.next[q][k] := List.getElem?_eq_getElem hk2
      have := ok.dest q _ k _ hx ht
      simp only [List.getD, hx, ht, Option.getD_some]
      omega

def toldRes (t : TData) : TData × Int := if okT t then (t, 0) else (⟨0, 0, []⟩, 3)
theorem tofRes_told {r : RData} (ok : OkR r) (hok : okR r = true) {c : Nat} (hc : (c : Int) = r.L + 2) : tofRes r = toldRes ⟨r.L, r.S, tableOf (tofG r) c r.acc.length⟩ := by
  have e : (r.L + 2).toNat = c := by omega
  obtain ⟨n1, s1, s2⟩ := (show _ ∧ _ ∧ _ from ⟨ok.n1, ok.s1, ok.s2⟩)
  by_cases hn : r.acc.length ≤ 12
  · have := okT_table (S := r.S) ok.l1 ok.l2 (by omega) hn s1 s2 hc (fun q k hq hk => tofG_ok ok hq (by omega))
    simp only [tofRes, toldRes, hok, if_true, if_pos hn, this, e]
  · have : okT ⟨r.L, r.S, tableOf (tofG r) c r.acc.length⟩ = false := by
      simp only [okT, tableOf_len]
      rw [show decide (1 ≤ (r.acc.length : Int) ∧ (r.acc.length : Int) ≤ 12) = false from decide_eq_false (by omega)]
      simp
    simp [tofRes, toldRes, hok, if_neg hn, this]

set_option maxRecDepth 100000 in
set_option maxHeartbeats 1600000 in
theorem l02Told_any (v : Value) (t : TData) (w : World) (h : RdT w v t) :
    Calls Try.prog 40 #[v] w fun e w' => e = .returned (.tuple #[if okT t then v else .agg #[.int .i64 0, .int .i64 0, .slice none 0 0], .int .i64 (toldRes t).2]) ∧ Below w.heap.size w w' := by
  obtain ⟨m, rfl, hA⟩ := atT_box h 29
  obtain ⟨A, k, rfl⟩ := RdL.shape (show RdPP _ m t.mv from by obtain ⟨_, e, hm⟩ := h; cases e; exact hm)
  have hA0 := hA.below (below_alloc _ (.cells #[.int .i64 0, .int .i64 0, .slice none 0 0] 29))
  have HV := Lib.hid (l02Ok_any _ _ _ hA0)
  have HT := Lib.hid h
  have hr := (Row.new w [.int .i64 t.L, .int .i64 t.S, .slice A t.mv.length k] 29).alloc (.cells #[.int .i64 0, .int .i64 0, .slice none 0 0] 29)
  have hz := Row.new (w.alloc (.cells #[.int .i64 t.L, .int .i64 t.S, .slice A t.mv.length k] 29)) [.int .i64 0, .int .i64 0, .slice none 0 0] 29
  have HZ := Lib.hid (show Row _ (w.heap.size + 1) _ _ by simpa using hz)
  have HR := Lib.hid hr
  have HB := Lib.hid ((below_alloc w (.cells #[.int .i64 t.L, .int .i64 t.S, .slice A t.mv.length k] 29)).alloc (by simp) (.cells #[.int .i64 0, .int .i64 0, .slice none 0 0] 29))
  clear h hA hA0 hr hz
  by_cases hok : okT t = true
  · rw [if_pos hok]
    have HOK := Lib.hid hok
    go_enter Try.func40, Try.ntmps40
    go_wp2_with fail
    refine HV.out.mono ?_
    generalize (w.alloc (.cells #[.int .i64 t.L, .int .i64 t.S, .slice A t.mv.length k] 29)).alloc (.cells #[.int .i64 0, .int .i64 0, .slice none 0 0] 29) = W0 at *
    rintro e w1 ⟨rfl, hb1⟩
    have hz1 := HZ.out.below hb1 HZ.out.lt
    have hr1 := HR.out.below hb1 HR.out.lt
    have hbw := below_step HB.out hb1
    obtain ⟨⟨b0, b1, b2⟩, -⟩ := hr1.three
    obtain ⟨⟨z0, z1, z2⟩, zf⟩ := hz1.three
    have lz := hz1.lt
    have rF := (((hz1.stored 0 (.int .i64 t.L)).stored 1 (.int .i64 t.S)).stored 2 (.slice A t.mv.length k))
    have eB := (((hbw.setCell (p := ⟨w.heap.size + 1, 0, none⟩) (by show w.heap.size ≤ w.heap.size + 1; omega) (.int .i64 t.L)).setCell (p := ⟨w.heap.size + 1, 1, none⟩) (by show w.heap.size ≤ w.heap.size + 1; omega) (.int .i64 t.S)).setCell (p := ⟨w.heap.size + 1, 2, none⟩) (by show w.heap.size ≤ w.heap.size + 1; omega) (.slice A t.mv.length k))
    have HH := Lib.hid (show _ ∧ _ from ⟨rF, eB⟩)
    clear hb1 hz1 hr1 hbw rF eB
    go_wp2
    obtain ⟨rF, eB⟩ := HH.out
    generalize (((w1.setCell ⟨w.heap.size + 1, 0, none⟩ (.int .i64 t.L)).setCell ⟨w.heap.size + 1, 1, none⟩ (.int .i64 t.S)).setCell ⟨w.heap.size + 1, 2, none⟩ (.slice A t.mv.length k)) = W2 at *
    obtain ⟨⟨y0, y1, y2⟩, -⟩ := Row.three (a := .int .i64 t.L) (b := .int .i64 t.S) (c := .slice A t.mv.length k) rF
    have hres : toldRes t = (t, 0) := by simp [toldRes, HOK.out]
    rw [hres]
    refine bodyPost_ret (v := .tuple #[.agg #[.int .i64 t.L, .int .i64 t.S, .slice A t.mv.length k], .int .i64 0]) (by simp [results, Try.results40, go_sem, y0, y1, y2]) rfl ?_
    exact ⟨rfl, eB⟩
  · rw [if_neg hok]
    have hok' : okT t = false := by simpa using hok
    clear hok
    have HOK := Lib.hid hok'
    go_enter Try.func40, Try.ntmps40
    go_wp2_with fail
    refine HV.out.mono ?_
    generalize (w.alloc (.cells #[.int .i64 t.L, .int .i64 t.S, .slice A t.mv.length k] 29)).alloc (.cells #[.int .i64 0, .int .i64 0, .slice none 0 0] 29) = W0 at *
    rintro e w1 ⟨rfl, hb1⟩
    have hz1 := HZ.out.below hb1 HZ.out.lt
    have HH := Lib.hid (own_stored (w := w) (A := none) (n := 0) (k := 0) (L := 0) (S := 0) hz1 (below_step HB.out hb1) (by omega) hz1.lt (t := ⟨0, 0, []⟩) ⟨_, [], rfl, owL_nil _ _ _ _, rfl, by simp⟩)
    obtain ⟨⟨z0, z1, z2⟩, zf⟩ := hz1.three
    have lz := hz1.lt
    clear hb1 hz1
    go_wp2
    obtain ⟨⟨y0, y1, y2⟩, eO, eB⟩ := HH.out
    have hres : toldRes t = (⟨0, 0, []⟩, 3) := by simp [toldRes, HOK.out]
    rw [hres]
    generalize (((w1.setCell ⟨w.heap.size + 1, 0, none⟩ (.int .i64 0)).setCell ⟨w.heap.size + 1, 1, none⟩ (.int .i64 0)).setCell ⟨w.heap.size + 1, 2, none⟩ (.slice none 0 0)) = W2 at *
    refine bodyPost_ret (v := .tuple #[.agg #[.int .i64 0, .int .i64 0, .slice none 0 0], .int .i64 3]) (by simp [results, Try.results40, go_sem, y0, y1, y2]) rfl ?_
    exact ⟨rfl, eB⟩
end Go.Proofs.Ytfkicedhjipfmaa
