/-
  A writer that is being made in a box: one list of texts more; the lists by what is written in each state above each sign.
-/
import Derived.Test.YtahgekjpnmmooaaGWr
import Derived.Test.YtahgekjpnmmooaaBxT
namespace Go.Proofs.Ytahgekjpnmmooaa
open Go.RowKit

abbrev OwSO : World → Nat → Value → List (List ByteArray) → List Nat → Prop := OwL (OwV strs 9) 44
theorem goodSO : Good OwSO := goodL (goodV strs 9) 44

def BoxWr (w : World) (lo po : Nat) (L S : Int) (vm : Value) (out : List (List ByteArray)) : Prop :=
  ∃ vo bo, Row w po 27 [.int .i64 L, .int .i64 S, vm, vo] ∧ OwSO w lo vo out bo ∧ po ∉ bo
theorem BoxWr.below {w w' : World} {lo po : Nat} {L S : Int} {vm : Value} {out : List (List ByteArray)} (h : BoxWr w lo po L S vm out) (hb : Below w.heap.size w w') : BoxWr w' lo po L S vm out := by
  obtain ⟨vo, bo, ho, hm, hp⟩ := h
  exact ⟨vo, bo, ho.below hb ho.lt, goodSO.below hm hb, hp⟩
theorem BoxWr.start {w : World} {po : Nat} {L S : Int} {vm : Value} (lo : Nat) (h : Row w po 27 [.int .i64 L, .int .i64 S, vm, .slice none 0 0]) : BoxWr w lo po L S vm [] :=
  ⟨_, [], h, owL_nil _ _ _ _, by simp⟩
theorem BoxWr.lt {w : World} {lo po : Nat} {L S : Int} {vm : Value} {out : List (List ByteArray)} (h : BoxWr w lo po L S vm out) : po < w.heap.size := by
  obtain ⟨vo, bo, ho, hm, hp⟩ := h
  exact ho.lt
theorem BoxWr.open {w : World} {lo po : Nat} {L S : Int} {vm : Value} {out : List (List ByteArray)} (h : BoxWr w lo po L S vm out) :
    ∃ Bm km vs, Row w po 27 [.int .i64 L, .int .i64 S, vm, .slice Bm out.length km] ∧ w.ownsRow lo 44 1 (.slice Bm out.length km) out.length vs ∧ po ∉ blks (.slice Bm out.length km) ∧ (∀ b ∈ blks (.slice Bm out.length km), lo ≤ b) ∧
      (∀ (w1 : World) (u0 : Value) (x0 : List ByteArray) (b0 : List Nat), Below w.heap.size w w1 → OwV strs 9 w1 lo u0 x0 b0 → (∀ c ∈ b0, w.heap.size ≤ c) → ∀ (o : Obj) (w2 : World) (g cap : Nat), (w1.alloc o).grownBy w2 (Value.slice Bm out.length km).ownBlock →
        w2.ownsRow lo 44 1 (.slice (some ⟨g, 0, none⟩) (out.length + 1) cap) (out.length + 1) (vs ++ [u0]) → ((Value.slice Bm out.length km).ownBlock = some g ∨ g = w1.heap.size + 1) → BoxWr (w2.setCell ⟨po, 3, none⟩ (.slice (some ⟨g, 0, none⟩) (out.length + 1) cap)) lo po L S vm (out ++ [x0])) := by
  obtain ⟨vo, bo, ho, hm, hp⟩ := h
  obtain ⟨Bm, km, rfl⟩ := OwL.shape hm
  obtain ⟨vs, how, hbv, hnext⟩ := OwL.growS (goodV strs 9) hm
  have lpo := ho.lt
  refine ⟨Bm, km, vs, ho, how, fun h => hp (hbv _ h).1, fun b hb => (hbv b hb).2.1, ?_⟩
  intro w1 u0 x0 b0 hb hu hd0 o w2 g cap hg hown hat
  obtain ⟨bs', hO', hs⟩ := hnext w1 u0 x0 b0 hb hu hd0 o w2 g _ cap hg hown hat
  have hpn : po ∉ bs' := fun h => by
    rcases hs po h with h | h
    · exact hp h
    · omega
  exact ⟨_, bs', (grown_row hg ((ho.below hb lpo).alloc o) (fun h => hp (hbv _ h).1)).stored 3 _, goodSO.other (a := ⟨po, 3, none⟩) _ hO' hpn, hpn⟩
theorem BoxWr.own {w : World} {lo po : Nat} {L S : Int} {vm : Value} {out : List (List ByteArray)} (h : BoxWr w lo po L S vm out) : ∃ Bm km bs, Row w po 27 [.int .i64 L, .int .i64 S, vm, .slice Bm out.length km] ∧ OwSO w lo (.slice Bm out.length km) out bs ∧ po ∉ bs := by
  obtain ⟨vo, bo, ho, hm, hp⟩ := h
  obtain ⟨Bm, km, rfl⟩ := OwL.shape hm
  exact ⟨Bm, km, bo, ho, hm, hp⟩

theorem part_done_get {xs : List Value} {k : Nat} {z x : Value} (h : xs[k]? = some x) : (part xs (k + 1) z)[k]? = some x := by
  rw [← part_set (z := z) h, List.getElem?_set_self]
  have := (List.getElem?_eq_some_iff.1 h).1
  simp [part]; omega
/-- The texts of a writer that writes G. -/
def rowS (G : Nat → Nat → ByteArray) (c q : Nat) : List ByteArray := (List.range c).map (G q)
def outTable (G : Nat → Nat → ByteArray) (c n : Nat) : List (List ByteArray) := (List.range n).map (rowS G c)
theorem rowS_len (G : Nat → Nat → ByteArray) (c q : Nat) : (rowS G c q).length = c := by simp [rowS]
theorem outTable_len (G : Nat → Nat → ByteArray) (c n : Nat) : (outTable G c n).length = n := by simp [outTable]
theorem rowS_get (G : Nat → Nat → ByteArray) {c q k : Nat} (h : k < c) : (rowS G c q)[k]? = some (G q k) := by simp [rowS, h]
theorem outTable_succ (G : Nat → Nat → ByteArray) (c n : Nat) : outTable G c (n + 1) = outTable G c n ++ [rowS G c n] := by simp [outTable, List.range_succ]
/-- Whether all texts are short enough. -/
def outsFit (G : Nat → Nat → ByteArray) (c n : Nat) : Bool := (List.range n).all fun q => (List.range c).all fun k => decide ((G q k).size ≤ 3)
theorem outsFit_true {G : Nat → Nat → ByteArray} {c n : Nat} (h : ∀ q, q < n → ∀ k, k < c → (G q k).size ≤ 3) : outsFit G c n = true := by
  simp only [outsFit, List.all_eq_true, List.mem_range, decide_eq_true_eq]
  exact h
theorem outsFit_false {G : Nat → Nat → ByteArray} {c n q k : Nat} (hq : q < n) (hk : k < c) (h : ¬ (G q k).size ≤ 3) : outsFit G c n = false := by
  cases he : outsFit G c n
  · rfl
  · simp only [outsFit, List.all_eq_true, List.mem_range, decide_eq_true_eq] at he
    exact absurd (he q hq k hk) h
def wdRes (t : TData) (G : Nat → Nat → ByteArray) (c n : Nat) : WrData × Int := if outsFit G c n = true then (⟨t.L, t.S, t.mv, outTable G c n⟩, 0) else (⟨0, 0, [], []⟩, 3)
theorem owWr_zero (w : World) (lo : Nat) : OwWr w lo (.agg #[.int .i64 0, .int .i64 0, .slice none 0 0, .slice none 0 0]) ⟨0, 0, [], []⟩ [] := ⟨_, _, [], [], rfl, owL_nil _ _ _ _, owL_nil _ _ _ _, rfl, by simp⟩
theorem stored4Wr {w wr : World} {z lo : Nat} {L S : Int} {A0 A1 : Option Addr} {n0 k0 n1 k1 : Nat} {t : WrData} {bs : List Nat} {z0 z1 z2 z3 : Value}
    (hz : Row wr z 27 [z0, z1, z2, z3]) (hO : OwWr wr lo (.agg #[.int .i64 L, .int .i64 S, .slice A0 n0 k0, .slice A1 n1 k1]) t bs) (hp : z ∉ bs) (hw : w.heap.size ≤ z) (hb : Below w.heap.size w wr) :
    ∃ W2, W2 = ((((wr.setCell ⟨z, 0, none⟩ (.int .i64 L)).setCell ⟨z, 1, none⟩ (.int .i64 S)).setCell ⟨z, 2, none⟩ (.slice A0 n0 k0)).setCell ⟨z, 3, none⟩ (.slice A1 n1 k1)) ∧
      (W2.cell? ⟨z, 0, none⟩ = some (.int .i64 L) ∧ W2.cell? ⟨z, 1, none⟩ = some (.int .i64 S) ∧ W2.cell? ⟨z, 2, none⟩ = some (.slice A0 n0 k0) ∧ W2.cell? ⟨z, 3, none⟩ = some (.slice A1 n1 k1)) ∧ OwWr W2 lo (.agg #[.int .i64 L, .int .i64 S, .slice A0 n0 k0, .slice A1 n1 k1]) t bs ∧ Below w.heap.size w W2 := by
  have rF := ((((hz.stored 0 (.int .i64 L)).stored 1 (.int .i64 S)).stored 2 (.slice A0 n0 k0)).stored 3 (.slice A1 n1 k1))
  have eO := goodWr.other (a := ⟨z, 3, none⟩) (.slice A1 n1 k1) (goodWr.other (a := ⟨z, 2, none⟩) (.slice A0 n0 k0) (goodWr.other (a := ⟨z, 1, none⟩) (.int .i64 S) (goodWr.other (a := ⟨z, 0, none⟩) (.int .i64 L) hO hp) hp) hp) hp
  have eB := ((((hb.setCell (p := ⟨z, 0, none⟩) hw (.int .i64 L)).setCell (p := ⟨z, 1, none⟩) hw (.int .i64 S)).setCell (p := ⟨z, 2, none⟩) hw (.slice A0 n0 k0)).setCell (p := ⟨z, 3, none⟩) hw (.slice A1 n1 k1))
  obtain ⟨⟨y0, y1, y2, y3⟩, -⟩ := Row.four (a := .int .i64 L) (b := .int .i64 S) (c := .slice A0 n0 k0) (d := .slice A1 n1 k1) rF
  exact ⟨_, rfl, ⟨y0, y1, y2, y3⟩, eO, eB⟩
theorem infoSo : (Try.prog.info? 44).map (fun i => (i.zero, i.size, i.bytes)) = some (some (.slice none 0 0), 1, 24) := by kernel_rfl

/-- What writerDoing has made so far. -/
structure WdI (w : World) (t : TData) (vm : Value) (G : Nat → Nat → ByteArray) (c q : Nat) (wr : World) : Prop where
  bel : Below w.heap.size w wr
  rt : Row wr w.heap.size 24 [.int .i64 t.L, .int .i64 t.S, vm]
  rz : Row wr (w.heap.size + 1) 27 [.int .i64 0, .int .i64 0, .slice none 0 0, .slice none 0 0]
  box : BoxWr wr (w.heap.size + 2) (w.heap.size + 2) t.L t.S vm (outTable G c q)
  fit : ∀ q', q' < q → ∀ k, k < c → (G q' k).size ≤ 3
theorem WdI.below {w : World} {t : TData} {vm : Value} {G : Nat → Nat → ByteArray} {c q : Nat} {wr w' : World} (h : WdI w t vm G c q wr) (hb : Below wr.heap.size wr w') : WdI w t vm G c q w' :=
  ⟨below_step h.bel hb, h.rt.below hb h.rt.lt, h.rz.below hb h.rz.lt, h.box.below hb, h.fit⟩
end Go.Proofs.Ytahgekjpnmmooaa
