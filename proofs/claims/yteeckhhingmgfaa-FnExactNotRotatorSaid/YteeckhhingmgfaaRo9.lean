/-
  The rotator with the opposite verdicts: the model's answer and the program's.
-/
import Derived.Test.YteeckhhingmgfaaRo8
import Derived.Deep.RegionHeld3
namespace Go.Proofs.Yteeckhhingmgfaa
open Go.RowKit

def flipEnd (e : Int) : Int := if e = -1 then -2 else if e = -2 then -1 else e
def notRes (r : OData) : OData × Int := if okO r = true then (chgO 0 flipEnd r, 0) else (⟨0, 0, [], []⟩, 1)
theorem numRows_le (by0 : Int) (xs : List (List Int)) : numL (fun x : List Int => x.length) (addRows by0 xs) = numL (fun x : List Int => x.length) xs := by
  simp only [numL, addRows, List.map_map]
  congr 1
  exact List.map_congr_left (fun x _ => by simp [addRow])
theorem okO_cnt {r : OData} (h : okO r = true) : numL (fun x : List Int => x.length) r.next ≤ 18 ∧ r.fin.length ≤ 6 := by
  obtain ⟨l, n, s, m, rows, -⟩ := okO_parts h
  have hsum : ∀ l : List (List Int), (∀ x ∈ l, x.length ≤ 3) → numL (fun x : List Int => x.length) l ≤ 3 * l.length := by
    intro l
    induction l with
    | nil => intro _; simp [numL]
    | cons x r ih => intro h; simp only [numL, List.map_cons, List.sum_cons, List.length_cons] at ih ⊢; have := ih (fun y hy => h y (by simp [hy])); have := h x (by simp); omega
  have h3 := hsum r.next (fun x hx => by
    have := List.all_eq_true.1 rows x hx
    simp only [okRow, Bool.and_eq_true, decide_eq_true_eq] at this
    omega)
  omega
theorem not_num (r : OData) : (numO (notRes r).1 : Int) ≤ 2305843009213693952 := by
  unfold notRes
  split
  · rename_i h
    have := okO_cnt h
    simp only [numO, chgO, numRows_le, List.length_map]; omega
  · simp [numO, numL]

theorem keep_reallocO {w : World} {o o' : Obj} {b i : Nat} {v : Value} (hp : b < w.heap.size) (h : (w.alloc o).cell? ⟨b, i, none⟩ = some v) : (w.alloc o').cell? ⟨b, i, none⟩ = some v := by
  have e1 := (below_alloc w o).cell (p := ⟨b, i, none⟩) hp
  have e2 := (below_alloc w o').cell (p := ⟨b, i, none⟩) hp
  rw [e2, ← e1]; exact h
theorem keep4O {w : World} {q p i : Nat} {a b c d v : Value} (hq : p < q) (h : w.cell? ⟨p, i, none⟩ = some v) : ((((w.setCell ⟨q, 0, none⟩ a).setCell ⟨q, 1, none⟩ b).setCell ⟨q, 2, none⟩ c).setCell ⟨q, 3, none⟩ d).cell? ⟨p, i, none⟩ = some v := by
  rw [World.cell?_of_block (w := w) (w' := ((((w.setCell ⟨q, 0, none⟩ a).setCell ⟨q, 1, none⟩ b).setCell ⟨q, 2, none⟩ c).setCell ⟨q, 3, none⟩ d)) (a := ⟨p, i, none⟩) ?_]
  · exact h
  · have e : ∀ (W : World) (j : Nat) (u : Value), (W.setCell ⟨q, j, none⟩ u).heap[p]? = W.heap[p]? := fun W j u => Below.heap_setCell W ⟨q, j, none⟩ u p (fun e => by subst e; simp at hq)
    show ((((w.setCell ⟨q, 0, none⟩ a).setCell ⟨q, 1, none⟩ b).setCell ⟨q, 2, none⟩ c).setCell ⟨q, 3, none⟩ d).heap[p]? = w.heap[p]?
    rw [e, e, e, e]
theorem drew_cell (W : World) (a : Addr) : W.drew.cell? a = W.cell? a := rfl
theorem keep4O_drew {w : World} {q p i : Nat} {a b c d v : Value} (hq : p < q) (h : w.cell? ⟨p, i, none⟩ = some v) : ((((w.setCell ⟨q, 0, none⟩ a).setCell ⟨q, 1, none⟩ b).setCell ⟨q, 2, none⟩ c).setCell ⟨q, 3, none⟩ d).drew.cell? ⟨p, i, none⟩ = some v := (drew_cell _ _).trans (keep4O hq h)

/-- A rotator in a box that a region has made. -/
def AtBoxO (W : World) (r : OData) (s : Value) (wx : World) : Prop := ∃ po, s = .pointer (some ⟨po, 0, none⟩) ∧ W.heap.size ≤ po ∧ Below W.heap.size W wx ∧ BoxO wx W.heap.size po r
theorem AtBoxO.drew {W : World} {r : OData} {s : Value} {wx : World} (k : AtBoxO W r s wx) : AtBoxO W r s wx.drew := by
  obtain ⟨po, a, b, c, d⟩ := k
  exact ⟨po, a, b, c.drew, d.below (below_drew _)⟩
theorem atBoxO_new {W wb : World} {L S : Int} {u : Value} {rows : List (List Int)} {bs : List Nat} (hb : Below W.heap.size W wb) (hu : OwII wb W.heap.size u rows bs ∧ ∀ b ∈ bs, W.heap.size ≤ b) :
    AtBoxO W ⟨L, S, rows, []⟩ (.pointer (some ⟨wb.heap.size, 0, none⟩)) (wb.alloc (.cells #[.int .i64 L, .int .i64 S, u, .slice none 0 0] 28)) :=
  ⟨_, rfl, hb.size, below_step hb (below_alloc _ _), u, _, bs, [], Row.new wb [.int .i64 L, .int .i64 S, u, .slice none 0 0] _, goodII.below hu.1 (below_alloc _ _), owV_nil ints [] rfl _ _ _, by simpa using goodII.nodup hu.1, by
    intro hm
    simp only [List.append_nil] at hm
    have := (goodII.lt hu.1 hm).2
    omega⟩
theorem atBoxO_old {W wb : World} {po : Nat} {L S : Int} {u z0 z1 z2 z3 : Value} {rows : List (List Int)} {bs : List Nat} (hz : Row wb po 28 [z0, z1, z2, z3] ∧ ∀ b ∈ bs, po < b) (hp : W.heap.size ≤ po) (hb : Below W.heap.size W wb) (hu : OwII wb W.heap.size u rows bs ∧ ∀ b ∈ bs, W.heap.size ≤ b) :
    AtBoxO W ⟨L, S, rows, []⟩ (.pointer (some ⟨po, 0, none⟩)) ((((wb.setCell ⟨po, 0, none⟩ (.int .i64 L)).setCell ⟨po, 1, none⟩ (.int .i64 S)).setCell ⟨po, 2, none⟩ u).setCell ⟨po, 3, none⟩ (.slice none 0 0)) := by
  have hn : po ∉ bs := fun hm => by have := hz.2 _ hm; omega
  refine ⟨_, rfl, hp, (((hb.setCell (p := ⟨po, 0, none⟩) hp _).setCell (p := ⟨po, 1, none⟩) hp _).setCell (p := ⟨po, 2, none⟩) hp _).setCell (p := ⟨po, 3, none⟩) hp _, u, _, bs, [], (((hz.1.stored 0 (.int .i64 L)).stored 1 (.int .i64 S)).stored 2 u).stored 3 (.slice none 0 0), ?_, owV_nil ints [] rfl _ _ _, by simpa using goodII.nodup hu.1, by simpa using hn⟩
  exact goodII.other (a := ⟨po, 3, none⟩) _ (goodII.other (a := ⟨po, 2, none⟩) _ (goodII.other (a := ⟨po, 1, none⟩) _ (goodII.other (a := ⟨po, 0, none⟩) _ hu.1 hn) hn) hn) hn

/-- What stands while the model makes a rotator: the argument's box, the result's, and the one in which it is made. -/
def NoI (w : World) (po : Nat) (cR : List Value) (r : OData) (wr : World) : Prop :=
  Below w.heap.size w wr ∧ Row wr w.heap.size 28 cR ∧ Row wr (w.heap.size + 1) 28 [.int .i64 0, .int .i64 0, .slice none 0 0, .slice none 0 0] ∧ w.heap.size + 2 ≤ po ∧ BoxO wr (w.heap.size + 2) po r
theorem NoI.below {w : World} {po : Nat} {cR : List Value} {r : OData} {wr w' : World} (h : NoI w po cR r wr) (hb : Below wr.heap.size wr w') : NoI w po cR r w' :=
  ⟨below_step h.1 hb, h.2.1.below hb h.2.1.lt, h.2.2.1.below hb h.2.2.1.lt, h.2.2.2.1, h.2.2.2.2.below hb⟩
theorem NoI.stored {w : World} {po : Nat} {cR : List Value} {r : OData} {wr w2 : World} {r' : OData} {v u : Value} {i : Nat} {w1 : World} (h : NoI w po cR r wr) (hb1 : Below wr.heap.size wr w1) (hg : w1.grownBy w2 v.ownBlock) (hv : ∀ b ∈ blks v, w.heap.size + 2 ≤ b) (hbox : BoxO (w2.setCell ⟨po, i, none⟩ u) (w.heap.size + 2) po r') :
    NoI w po cR r' (w2.setCell ⟨po, i, none⟩ u) := by
  have h1 := below_step h.1 hb1
  have hpo := h.2.2.2.1
  refine ⟨(h1.trans (grown_below hg h1.size (fun b hb => by have := hv b hb; omega))).setCell (p := ⟨po, i, none⟩) (by show w.heap.size ≤ po; omega) _, (grown_row hg (h.2.1.below hb1 h.2.1.lt) (fun hm => by have := hv _ hm; omega)).other (by show po ≠ w.heap.size; omega) _, (grown_row hg (h.2.2.1.below hb1 h.2.2.1.lt) (fun hm => by have := hv _ hm; omega)).other (by show po ≠ w.heap.size + 1; omega) _, hpo, hbox⟩

theorem undrewB {w w' : World} (h : Below w.drew.heap.size w.drew w') : Below w.heap.size w w' := below_step (below_drew w) h
/-- A box of zeros that was made ahead of a call. -/
theorem oldZ {w wb : World} {o : TypeId} {z0 z1 z2 z3 u : Value} {lo : Nat} {rows : List (List Int)} {bs : List Nat} (h : Below (w.alloc (.cells #[z0, z1, z2, z3] o)).heap.size (w.alloc (.cells #[z0, z1, z2, z3] o)) wb) (hu : OwII wb lo u rows bs) (hlo : w.heap.size < lo := by simp) : Row wb w.heap.size o [z0, z1, z2, z3] ∧ ∀ b ∈ bs, w.heap.size < b :=
  ⟨(Row.new w [z0, z1, z2, z3] o).below h (Row.new w _ _).lt, fun b hb => Nat.lt_of_lt_of_le hlo (goodII.lt hu hb).1⟩
theorem rowsShape {P : Program} {f : FuncId} {args : Array Value} {W : World} {by0 : Int} {next : List (List Int)} (h : Calls P f args W fun e w' => ∃ u bs, e = .returned u ∧ OwL (OwV ints 2) 23 w' W.heap.size u (addRows by0 next) bs ∧ Below W.heap.size W w') :
    Calls P f args W fun e w' => ∃ Bu ku bs, e = .returned (.slice Bu next.length ku) ∧ OwII w' W.heap.size (.slice Bu next.length ku) (addRows by0 next) bs ∧ Below W.heap.size W w' :=
  h.mono fun e w' ⟨u, bs, he, hu, hb⟩ => by
    obtain ⟨Bu, ku, rfl⟩ := OwL.shape hu
    rw [addRows_len] at he hu
    exact ⟨Bu, ku, bs, he, hu, hb⟩
theorem notEnd_any (x : Int) (w : World) : Calls Try.prog 56 #[.int .i64 x] w fun e w' => e = .returned (.int .i64 (flipEnd x)) ∧ w = w' := by
  by_cases h1 : x = -1
  · subst h1
    go_enter Try.func56, Try.ntmps56
    go_wp2
    go_ret
    exact ⟨rfl, rfl⟩
  · have e1 : (x == -1) = false := by simpa using h1
    by_cases h2 : x = -2
    · subst h2
      clear h1
      go_enter Try.func56, Try.ntmps56
      go_wp2
      go_ret
      exact ⟨rfl, rfl⟩
    · have e2 : (x == -2) = false := by simpa using h2
      have HE := Lib.hid (show flipEnd x = x by rw [flipEnd, if_neg h1, if_neg h2])
      clear h1 h2
      go_enter Try.func56, Try.ntmps56
      go_wp2
      go_ret
      exact ⟨ret_int HE.out.symm, rfl⟩

set_option maxHeartbeats 1600000 in
theorem implNot_own (v : Value) (r : OData) (w : World) (h : RdO w v r) :
    Calls Try.prog 19 #[v] w fun e w' => ∃ u bs, e = .returned (.tuple #[u, .int .i64 (notRes r).2]) ∧ OwO w' w.heap.size u (notRes r).1 bs ∧ Below w.heap.size w w' := by
  have HRD := Lib.hid h
  obtain ⟨A, ka, B, kb, rfl⟩ := h.shape
  have HB := Lib.hid (below_step (below_alloc w (.cells #[.int .i64 r.L, .int .i64 r.S, .slice A r.next.length ka, .slice B r.fin.length kb] 28)) (below_alloc _ (.cells #[.int .i64 0, .int .i64 0, .slice none 0 0, .slice none 0 0] 28)))
  have HR := Lib.hid ((Row.new w [.int .i64 r.L, .int .i64 r.S, .slice A r.next.length ka, .slice B r.fin.length kb] 28).alloc (.cells #[.int .i64 0, .int .i64 0, .slice none 0 0, .slice none 0 0] 28))
  have hz := Row.new (w.alloc (.cells #[.int .i64 r.L, .int .i64 r.S, .slice A r.next.length ka, .slice B r.fin.length kb] 28)) [.int .i64 0, .int .i64 0, .slice none 0 0, .slice none 0 0] 28
  have HZ := Lib.hid (show Row _ (w.heap.size + 1) _ _ by simpa using hz)
  have HV := Lib.hid (fun W (hb : Below w.heap.size w W) => ValidRotator_any _ r W (keepsO _ _ _ _ h hb))
  clear h hz
  by_cases hok : okO r = true
  · have HOK := Lib.hid hok
    have HE := Lib.hid (show notRes r = (chgO 0 flipEnd r, 0) by rw [notRes, if_pos hok])
    rw [hok] at HV
    clear hok
    go_enter Try.func19, Try.ntmps19
    go_wp2_with fail
    refine (HV.out _ HB.out).mono ?_
    rintro e w1 ⟨rfl, hb1⟩
    have HR1 := Lib.hid (HR.out.below hb1 HR.out.lt)
    have HZ1 := Lib.hid (HZ.out.below hb1 HZ.out.lt)
    have HB1 := Lib.hid (below_step HB.out hb1)
    obtain ⟨⟨c0, c1, c2, c3⟩, -⟩ := HR1.out.four
    have lt1 := HR1.out.lt
    clear hb1 HR HZ HB
    go_wp2_with fail
    refine (changedNr_own _ r 0 flipEnd w1 (keepsO _ _ _ _ HRD.out HB1.out) HOK.out (by omega) (by omega) (fun W _ x _ => notEnd_any x W)).mono ?_
    rintro e w2 ⟨u, bs, rfl, hu, hb2⟩
    obtain ⟨A0, k0, A1, k1, rfl⟩ := hu.rd.shape
    have HZ2 := Lib.hid (HZ1.out.below hb2 HZ1.out.lt)
    have HB2 := Lib.hid (below_step HB1.out hb2)
    have HU := Lib.hid hu
    have lz := HZ1.out.lt
    obtain ⟨⟨z0, z1, z2, z3⟩, zf⟩ := HZ2.out.four
    have lz2 := HZ2.out.lt
    clear c0 c1 c2 c3 hb2 hu
    go_wp2
    obtain ⟨W2, hW2, ⟨y0, y1, y2, y3⟩, eO, eB⟩ := stored4O HZ2.out HU.out lz (by omega) HB2.out
    rw [← hW2]
    clear hW2
    refine bodyPost_ret (v := .tuple #[.agg #[.int .i64 (chgO 0 flipEnd r).L, .int .i64 (chgO 0 flipEnd r).S, .slice A0 (chgO 0 flipEnd r).next.length k0, .slice A1 (chgO 0 flipEnd r).fin.length k1], .int .i64 0]) (by simp [results, Try.results19, go_sem, y0, y1, y2, y3]) rfl ?_
    rw [HE.out]
    first | exact ⟨_, rfl, ⟨_, eO⟩, eB⟩ | exact ⟨_, _, rfl, eO, eB⟩
  · have hok' : okO r = false := by simpa using hok
    have HE := Lib.hid (show notRes r = (⟨0, 0, [], []⟩, 1) by rw [notRes, if_neg hok])
    rw [hok'] at HV
    clear hok hok'
    go_enter Try.func19, Try.ntmps19
    go_wp2_with fail
    refine (HV.out _ HB.out).mono ?_
    rintro e w1 ⟨rfl, hb1⟩
    have HZ1 := Lib.hid (HZ.out.below hb1 HZ.out.lt)
    have HB1 := Lib.hid (below_step HB.out hb1)
    obtain ⟨⟨z0, z1, z2, z3⟩, zf⟩ := HZ1.out.four
    have lz := HZ1.out.lt
    clear hb1 HR HZ HB
    go_wp2
    obtain ⟨W2, hW2, ⟨y0, y1, y2, y3⟩, eO, eB⟩ := stored4O HZ1.out (owO_zero w1 (w.heap.size + 2)) (Nat.lt_succ_self _) (Nat.le_succ _) HB1.out
    rw [← hW2]
    clear hW2
    refine bodyPost_ret (v := .tuple #[.agg #[.int .i64 0, .int .i64 0, .slice none 0 0, .slice none 0 0], .int .i64 1]) (by simp [results, Try.results19, go_sem, y0, y1, y2, y3]) rfl ?_
    rw [HE.out]
    first | exact ⟨_, rfl, ⟨_, eO⟩, eB⟩ | exact ⟨_, _, rfl, eO, eB⟩

end Go.Proofs.Yteeckhhingmgfaa
