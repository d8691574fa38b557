/-
  A turner in a box: one row more, whatever owns it; its values stored into a result; moves appended to a list that a call owns.
  A writer that is being made in a box: one list of texts more; the lists by what is written in each state above each sign.
  Two lists that grow together, of moves and of texts; the model's passes through a word.
  The writers that copy and that turn words: what their closures do and write; the letters of signs.
  The writer that copies words: what its closures do and write.
  A writer in a box whose moves and texts grow together; the writer that copies words: the model's answer.
-/
import Derived.Test.YtahgekjpnmmooaaTd1
import Derived.Test.YtahgekjpnmmooaaBox2
import Derived.Test.YtahgekjpnmmooaaGWr
import Derived.Test.YtahgekjpnmmooaaT6
import Derived.Laws.BytesArg
import Derived.Test.YtahgekjpnmmooaaV5
import Derived.Laws.Runes
import Derived.Test.YtahgekjpnmmooaaZWr
import Derived.Test.YtahgekjpnmmooaaWr3
namespace Go.Proofs.Ytahgekjpnmmooaa
open Go.RowKit

def OwPP : World → Nat → Value → List (List (Int × Int)) → List Nat → Prop := OwL (OwP 55) 51
theorem goodPP : Good OwPP := goodL (goodP _) _

theorem BoxT.open {w : World} {lo po : Nat} {L S : Int} {mv : List (List (Int × Int))} (h : BoxT w lo po ⟨L, S, mv⟩) :
    ∃ Bm km vs, Row w po 24 [.int .i64 L, .int .i64 S, .slice Bm mv.length km] ∧ w.ownsRow lo 51 1 (.slice Bm mv.length km) mv.length vs ∧ po ∉ blks (.slice Bm mv.length km) ∧ (∀ b ∈ blks (.slice Bm mv.length km), lo ≤ b) ∧
      (∀ (w1 : World) (u0 : Value) (x0 : List (Int × Int)) (b0 : List Nat), Below w.heap.size w w1 → OwP 55 w1 lo u0 x0 b0 → (∀ c ∈ b0, w.heap.size ≤ c) → ∀ (o : Obj) (w2 : World) (g cap : Nat), (w1.alloc o).grownBy w2 (Value.slice Bm mv.length km).ownBlock →
        w2.ownsRow lo 51 1 (.slice (some ⟨g, 0, none⟩) (mv.length + 1) cap) (mv.length + 1) (vs ++ [u0]) → ((Value.slice Bm mv.length km).ownBlock = some g ∨ g = w1.heap.size + 1) → BoxT (w2.setCell ⟨po, 2, none⟩ (.slice (some ⟨g, 0, none⟩) (mv.length + 1) cap)) lo po ⟨L, S, mv ++ [x0]⟩) := by
  obtain ⟨vm, bm, ho, hm, hp⟩ := h
  simp only at ho hm
  obtain ⟨Bm, km, rfl⟩ := OwL.shape hm
  obtain ⟨vs, how, hbv, hnext⟩ := OwL.growS (goodP 55) hm
  have lpo := ho.lt
  refine ⟨Bm, km, vs, ho, how, fun h => hp (hbv _ h).1, fun b hb => (hbv b hb).2.1, ?_⟩
  intro w1 u0 x0 b0 hb hu hd0 o w2 g cap hg hown hat
  obtain ⟨bs', hO', hs⟩ := hnext w1 u0 x0 b0 hb hu hd0 o w2 g _ cap hg hown hat
  have hpn : po ∉ bs' := fun h => by
    rcases hs po h with h | h
    · exact hp h
    · omega
  exact ⟨_, bs', (grown_row hg ((ho.below hb lpo).alloc o) (fun h => hp (hbv _ h).1)).stored 2 _, goodPP.other (a := ⟨po, 2, none⟩) _ hO' hpn, hpn⟩
theorem BoxT.own {w : World} {lo po : Nat} {t : TData} (h : BoxT w lo po t) : ∃ Bm km bs, Row w po 24 [.int .i64 t.L, .int .i64 t.S, .slice Bm t.mv.length km] ∧ OwT w lo (.agg #[.int .i64 t.L, .int .i64 t.S, .slice Bm t.mv.length km]) t bs := by
  obtain ⟨vm, bm, ho, hm, hp⟩ := h
  obtain ⟨Bm, km, rfl⟩ := OwL.shape hm
  exact ⟨Bm, km, bm, ho, _, bm, rfl, hm, rfl, goodPP.nodup hm⟩
theorem stored3T {w wr : World} {z lo : Nat} {L S : Int} {A0 : Option Addr} {n0 k0 : Nat} {t : TData} {bs : List Nat} {z0 z1 z2 : Value}
    (hz : Row wr z 24 [z0, z1, z2]) (hO : OwT wr lo (.agg #[.int .i64 L, .int .i64 S, .slice A0 n0 k0]) t bs) (hlo : z < lo) (hw : w.heap.size ≤ z) (hb : Below w.heap.size w wr) :
    ∃ W2, W2 = (((wr.setCell ⟨z, 0, none⟩ (.int .i64 L)).setCell ⟨z, 1, none⟩ (.int .i64 S)).setCell ⟨z, 2, none⟩ (.slice A0 n0 k0)) ∧
      (W2.cell? ⟨z, 0, none⟩ = some (.int .i64 L) ∧ W2.cell? ⟨z, 1, none⟩ = some (.int .i64 S) ∧ W2.cell? ⟨z, 2, none⟩ = some (.slice A0 n0 k0)) ∧ OwT W2 w.heap.size (.agg #[.int .i64 L, .int .i64 S, .slice A0 n0 k0]) t bs ∧ Below w.heap.size w W2 := by
  have rF := (((hz.stored 0 (.int .i64 L)).stored 1 (.int .i64 S)).stored 2 (.slice A0 n0 k0))
  have eO := (goodT.under (a := ⟨z, 2, none⟩) (goodT.under (a := ⟨z, 1, none⟩) (goodT.under (a := ⟨z, 0, none⟩) hO hlo (.int .i64 L)) hlo (.int .i64 S)) hlo (.slice A0 n0 k0))
  have eB := (((hb.setCell (p := ⟨z, 0, none⟩) hw (.int .i64 L)).setCell (p := ⟨z, 1, none⟩) hw (.int .i64 S)).setCell (p := ⟨z, 2, none⟩) hw (.slice A0 n0 k0))
  obtain ⟨⟨y0, y1, y2⟩, -⟩ := Row.three (a := .int .i64 L) (b := .int .i64 S) (c := .slice A0 n0 k0) rF
  exact ⟨_, rfl, ⟨y0, y1, y2⟩, goodT.mono eO (by omega), eB⟩
theorem owT_zero (w : World) (lo : Nat) : OwT w lo (.agg #[.int .i64 0, .int .i64 0, .slice none 0 0]) ⟨0, 0, []⟩ [] := ⟨_, [], rfl, owL_nil _ _ _ _, rfl, by simp⟩

/-- Moves more in a list that a call owns. -/
theorem addMoves {wo wr W : World} {Bl : Option Addr} {c cl : Nat} {xs : List (Int × Int)} {bs : List Nat} (hb : Below wo.heap.size wo wr) (hO : OwP 55 wr wo.heap.size (.slice Bl c cl) xs bs) (hlen : xs.length = c) (hW : Below wr.heap.size wr W) :
    W.ownsRow wo.heap.size 55 2 (.slice Bl c cl) c (pcells xs) ∧ ∀ (w5 : World) (g cap n : Nat) (ms : List (Int × Int)), n = c + ms.length → W.grownBy w5 (Value.slice Bl c cl).ownBlock → w5.ownsRow wo.heap.size 55 2 (.slice (some ⟨g, 0, none⟩) n cap) n (pcells xs ++ pcells ms) →
      Below wo.heap.size wo w5 ∧ ∃ bs', OwP 55 w5 wo.heap.size (.slice (some ⟨g, 0, none⟩) n cap) (xs ++ ms) bs' := by
  have hlt := fun b hb => ((goodP 55).lt hO (b := b) hb).1
  obtain ⟨how, rfl⟩ := hO
  rw [hlen] at how
  refine ⟨rows_below how hW, fun w5 g cap n ms hn hg hown => ⟨?_, _, OwP.snoc hown (show pcells xs ++ pcells ms = pcells (xs ++ ms) by simp [pcells]) (by simp [hlen, hn]) rfl⟩⟩
  have h1 := below_step hb hW
  exact h1.trans (grown_below hg h1.size hlt)
theorem movesI0 (w : World) : OwP 55 (w.alloc (.cells #[] 55)) w.heap.size (.slice (some ⟨w.heap.size, 0, none⟩) 0 0) [] [w.heap.size] :=
  ⟨World.ownsRow_lit (base := w.heap.size) (e := 55) (size := 2) w #[] 0 (Nat.le_refl _) (by unfold maxLen; omega) rfl, rfl⟩
theorem infoMsT : (Try.prog.info? 51).map (fun i => (i.zero, i.size, i.bytes)) = some (some (.slice none 0 0), 1, 24) := by kernel_rfl
end Go.Proofs.Ytahgekjpnmmooaa
namespace Go.Proofs.Ytahgekjpnmmooaa
open Go.RowKit

abbrev OwSO : World → Nat → Value → List (List ByteArray) → List Nat → Prop := OwL (OwV strs 9) 44
theorem goodSO : Good OwSO := goodL (goodV strs 9) 44

def BoxWr (w : World) (lo po : Nat) (L S : Int) (vm : Value) (out : List (List ByteArray)) : Prop :=
  ∃ vo bo, Row w po 27 [.int .i64 L, .int .i64 S, vm, vo] ∧ OwSO w lo vo out bo ∧ po ∉ bo
theorem BoxWr.below {w w' : World} {lo po : Nat} {L S : Int} {vm : Value} {out : List (List ByteArray)} (h : BoxWr w lo po L S vm out) (hb : Below w.heap.size w w') : BoxWr w' lo po L S vm out := by
  obtain ⟨vo, bo, ho, hm, hp⟩ := h
  exact ⟨vo, bo, ho.below hb ho.lt, goodSO.below hm hb, hp⟩
theorem BoxWr.start {w : World} {po : Nat} {L S : Int} {vm : Value} (lo : Nat) (h : Row w po 27 [.int .i64 L, .int .i64 S, vm, .slice none 0 0]) : BoxWr w lo po L S vm [] :=
  ⟨_, [], h, owL_nil _ _ _ _, by simp⟩
theorem BoxWr.lt {w : World} {lo po : Nat} {L S : Int} {vm : Value} {out : List (List ByteArray)} (h : BoxWr w lo po L S vm out) : po < w.heap.size := by
  obtain ⟨vo, bo, ho, hm, hp⟩ := h
  exact ho.lt
theorem BoxWr.open {w : World} {lo po : Nat} {L S : Int} {vm : Value} {out : List (List ByteArray)} (h : BoxWr w lo po L S vm out) :
    ∃ Bm km vs, Row w po 27 [.int .i64 L, .int .i64 S, vm, .slice Bm out.length km] ∧ w.ownsRow lo 44 1 (.slice Bm out.length km) out.length vs ∧ po ∉ blks (.slice Bm out.length km) ∧ (∀ b ∈ blks (.slice Bm out.length km), lo ≤ b) ∧
      (∀ (w1 : World) (u0 : Value) (x0 : List ByteArray) (b0 : List Nat), Below w.heap.size w w1 → OwV strs 9 w1 lo u0 x0 b0 → (∀ c ∈ b0, w.heap.size ≤ c) → ∀ (o : Obj) (w2 : World) (g cap : Nat), (w1.alloc o).grownBy w2 (Value.slice Bm out.length km).ownBlock →
        w2.ownsRow lo 44 1 (.slice (some ⟨g, 0, none⟩) (out.length + 1) cap) (out.length + 1) (vs ++ [u0]) → ((Value.slice Bm out.length km).ownBlock = some g ∨ g = w1.heap.size + 1) → BoxWr (w2.setCell ⟨po, 3, none⟩ (.slice (some ⟨g, 0, none⟩) (out.length + 1) cap)) lo po L S vm (out ++ [x0])) := by
  obtain ⟨vo, bo, ho, hm, hp⟩ := h
  obtain ⟨Bm, km, rfl⟩ := OwL.shape hm
  obtain ⟨vs, how, hbv, hnext⟩ := OwL.growS (goodV strs 9) hm
  have lpo := ho.lt
  refine ⟨Bm, km, vs, ho, how, fun h => hp (hbv _ h).1, fun b hb => (hbv b hb).2.1, ?_⟩
  intro w1 u0 x0 b0 hb hu hd0 o w2 g cap hg hown hat
  obtain ⟨bs', hO', hs⟩ := hnext w1 u0 x0 b0 hb hu hd0 o w2 g _ cap hg hown hat
  have hpn : po ∉ bs' := fun h => by
    rcases hs po h with h | h
    · exact hp h
    · omega
  exact ⟨_, bs', (grown_row hg ((ho.below hb lpo).alloc o) (fun h => hp (hbv _ h).1)).stored 3 _, goodSO.other (a := ⟨po, 3, none⟩) _ hO' hpn, hpn⟩
theorem BoxWr.own {w : World} {lo po : Nat} {L S : Int} {vm : Value} {out : List (List ByteArray)} (h : BoxWr w lo po L S vm out) : ∃ Bm km bs, Row w po 27 [.int .i64 L, .int .i64 S, vm, .slice Bm out.length km] ∧ OwSO w lo (.slice Bm out.length km) out bs ∧ po ∉ bs := by
  obtain ⟨vo, bo, ho, hm, hp⟩ := h
  obtain ⟨Bm, km, rfl⟩ := OwL.shape hm
  exact ⟨Bm, km, bo, ho, hm, hp⟩

theorem part_done_get {xs : List Value} {k : Nat} {z x : Value} (h : xs[k]? = some x) : (part xs (k + 1) z)[k]? = some x := by
  rw [← part_set (z := z) h, List.getElem?_set_self]
  have := (List.getElem?_eq_some_iff.1 h).1
  simp [part]; omega
/-- The texts of a writer that writes G. -/
def rowS (G : Nat → Nat → ByteArray) (c q : Nat) : List ByteArray := (List.range c).map (G q)
def outTable (G : Nat → Nat → ByteArray) (c n : Nat) : List (List ByteArray) := (List.range n).map (rowS G c)
theorem rowS_len (G : Nat → Nat → ByteArray) (c q : Nat) : (rowS G c q).length = c := by simp [rowS]
theorem outTable_len (G : Nat → Nat → ByteArray) (c n : Nat) : (outTable G c n).length = n := by simp [outTable]
theorem rowS_get (G : Nat → Nat → ByteArray) {c q k : Nat} (h : k < c) : (rowS G c q)[k]? = some (G q k) := by simp [rowS, h]
theorem outTable_succ (G : Nat → Nat → ByteArray) (c n : Nat) : outTable G c (n + 1) = outTable G c n ++ [rowS G c n] := by simp [outTable, List.range_succ]
/-- Whether all texts are short enough. -/
def outsFit (G : Nat → Nat → ByteArray) (c n : Nat) : Bool := (List.range n).all fun q => (List.range c).all fun k => decide ((G q k).size ≤ 3)
theorem outsFit_true {G : Nat → Nat → ByteArray} {c n : Nat} (h : ∀ q, q < n → ∀ k, k < c → (G q k).size ≤ 3) : outsFit G c n = true := by
  simp only [outsFit, List.all_eq_true, List.mem_range, decide_eq_true_eq]
  exact h
theorem outsFit_false {G : Nat → Nat → ByteArray} {c n q k : Nat} (hq : q < n) (hk : k < c) (h : ¬ (G q k).size ≤ 3) : outsFit G c n = false := by
  cases he : outsFit G c n
  · rfl
  · simp only [outsFit, List.all_eq_true, List.mem_range, decide_eq_true_eq] at he
    exact absurd (he q hq k hk) h
def wdRes (t : TData) (G : Nat → Nat → ByteArray) (c n : Nat) : WrData × Int := if outsFit G c n = true then (⟨t.L, t.S, t.mv, outTable G c n⟩, 0) else (⟨0, 0, [], []⟩, 3)
theorem owWr_zero (w : World) (lo : Nat) : OwWr w lo (.agg #[.int .i64 0, .int .i64 0, .slice none 0 0, .slice none 0 0]) ⟨0, 0, [], []⟩ [] := ⟨_, _, [], [], rfl, owL_nil _ _ _ _, owL_nil _ _ _ _, rfl, by simp⟩
theorem stored4Wr {w wr : World} {z lo : Nat} {L S : Int} {A0 A1 : Option Addr} {n0 k0 n1 k1 : Nat} {t : WrData} {bs : List Nat} {z0 z1 z2 z3 : Value}
    (hz : Row wr z 27 [z0, z1, z2, z3]) (hO : OwWr wr lo (.agg #[.int .i64 L, .int .i64 S, .slice A0 n0 k0, .slice A1 n1 k1]) t bs) (hp : z ∉ bs) (hw : w.heap.size ≤ z) (hb : Below w.heap.size w wr) :
    ∃ W2, W2 = ((((wr.setCell ⟨z, 0, none⟩ (.int .i64 L)).setCell ⟨z, 1, none⟩ (.int .i64 S)).setCell ⟨z, 2, none⟩ (.slice A0 n0 k0)).setCell ⟨z, 3, none⟩ (.slice A1 n1 k1)) ∧
      (W2.cell? ⟨z, 0, none⟩ = some (.int .i64 L) ∧ W2.cell? ⟨z, 1, none⟩ = some (.int .i64 S) ∧ W2.cell? ⟨z, 2, none⟩ = some (.slice A0 n0 k0) ∧ W2.cell? ⟨z, 3, none⟩ = some (.slice A1 n1 k1)) ∧ OwWr W2 lo (.agg #[.int .i64 L, .int .i64 S, .slice A0 n0 k0, .slice A1 n1 k1]) t bs ∧ Below w.heap.size w W2 := by
  have rF := ((((hz.stored 0 (.int .i64 L)).stored 1 (.int .i64 S)).stored 2 (.slice A0 n0 k0)).stored 3 (.slice A1 n1 k1))
  have eO := goodWr.other (a := ⟨z, 3, none⟩) (.slice A1 n1 k1) (goodWr.other (a := ⟨z, 2, none⟩) (.slice A0 n0 k0) (goodWr.other (a := ⟨z, 1, none⟩) (.int .i64 S) (goodWr.other (a := ⟨z, 0, none⟩) (.int .i64 L) hO hp) hp) hp) hp
  have eB := ((((hb.setCell (p := ⟨z, 0, none⟩) hw (.int .i64 L)).setCell (p := ⟨z, 1, none⟩) hw (.int .i64 S)).setCell (p := ⟨z, 2, none⟩) hw (.slice A0 n0 k0)).setCell (p := ⟨z, 3, none⟩) hw (.slice A1 n1 k1))
  obtain ⟨⟨y0, y1, y2, y3⟩, -⟩ := Row.four (a := .int .i64 L) (b := .int .i64 S) (c := .slice A0 n0 k0) (d := .slice A1 n1 k1) rF
  exact ⟨_, rfl, ⟨y0, y1, y2, y3⟩, eO, eB⟩
theorem infoSo : (Try.prog.info? 44).map (fun i => (i.zero, i.size, i.bytes)) = some (some (.slice none 0 0), 1, 24) := by kernel_rfl

/-- What writerDoing has made so far. -/
structure WdI (w : World) (t : TData) (vm : Value) (G : Nat → Nat → ByteArray) (c q : Nat) (wr : World) : Prop where
  bel : Below w.heap.size w wr
  rt : Row wr w.heap.size 24 [.int .i64 t.L, .int .i64 t.S, vm]
  rz : Row wr (w.heap.size + 1) 27 [.int .i64 0, .int .i64 0, .slice none 0 0, .slice none 0 0]
  box : BoxWr wr (w.heap.size + 2) (w.heap.size + 2) t.L t.S vm (outTable G c q)
  fit : ∀ q', q' < q → ∀ k, k < c → (G q' k).size ≤ 3
theorem WdI.below {w : World} {t : TData} {vm : Value} {G : Nat → Nat → ByteArray} {c q : Nat} {wr w' : World} (h : WdI w t vm G c q wr) (hb : Below wr.heap.size wr w') : WdI w t vm G c q w' :=
  ⟨below_step h.bel hb, h.rt.below hb h.rt.lt, h.rz.below hb h.rz.lt, h.box.below hb, h.fit⟩
end Go.Proofs.Ytahgekjpnmmooaa
namespace Go.Proofs.Ytahgekjpnmmooaa
open Go.RowKit

structure PsI (w : World) (pe po : Nat) (e o : Int × Int) (vm vs : Value) (ms : List (Int × Int)) (xs : List ByteArray) (wr : World) : Prop where
  bel : Below w.heap.size w wr
  re : Row wr pe 55 [.int .i64 e.1, .int .i64 e.2]
  ro : Row wr po 55 [.int .i64 o.1, .int .i64 o.2]
  m : OwP 55 wr w.heap.size vm ms (blks vm)
  s : OwV strs 9 wr w.heap.size vs xs (blks vs)
  ne : pe ∉ blks vm ∧ po ∉ blks vm ∧ pe ∉ blks vs ∧ po ∉ blks vs ∧ (∀ b ∈ blks vm, b ∉ blks vs)
theorem PsI.below {w : World} {pe po : Nat} {e o : Int × Int} {vm vs : Value} {ms : List (Int × Int)} {xs : List ByteArray} {wr w' : World} (h : PsI w pe po e o vm vs ms xs wr) (hb : Below wr.heap.size wr w') : PsI w pe po e o vm vs ms xs w' :=
  ⟨below_step h.bel hb, h.re.below hb h.re.lt, h.ro.below hb h.ro.lt, (goodP _).below h.m hb, (goodV strs _).below h.s hb, h.ne⟩
theorem ne_grown {v : Value} {g n cap p N : Nat} (hp : p ∉ blks v) (hl : p < N) (hat : v.ownBlock = some g ∨ g = N) : p ∉ blks (.slice (some ⟨g, 0, none⟩) n cap) := by
  rw [blks_some, List.mem_singleton]
  rintro rfl
  rcases hat with h | h
  · exact hp (mem_blks.2 h)
  · omega
theorem PsI.growM {w : World} {pe po : Nat} {e o : Int × Int} {Bm : Option Addr} {cm km : Nat} {vs : Value} {ms : List (Int × Int)} {xs : List ByteArray} {wr : World} (h : PsI w pe po e o (.slice Bm cm km) vs ms xs wr) (hl : ms.length = cm) (ob : Obj) :
    (wr.alloc ob).ownsRow w.heap.size 55 2 (.slice Bm cm km) cm (pcells ms) ∧ ∀ (w5 : World) (g cap n : Nat) (ns : List (Int × Int)), n = cm + ns.length → (wr.alloc ob).grownBy w5 (Value.slice Bm cm km).ownBlock → w5.ownsRow w.heap.size 55 2 (.slice (some ⟨g, 0, none⟩) n cap) n (pcells ms ++ pcells ns) → ((Value.slice Bm cm km).ownBlock = some g ∨ g = wr.heap.size + 1) →
      PsI w pe po e o (.slice (some ⟨g, 0, none⟩) n cap) vs (ms ++ ns) xs w5 := by
  have hI := h.below (below_alloc wr ob)
  have hs5 : ∀ b ∈ blks vs, b < wr.heap.size := fun b hb => ((goodV strs _).lt h.s hb).2
  refine ⟨by have := hI.m.1; rwa [hl] at this, fun w5 g cap n ns hn hg hown hat => ?_⟩
  have hlt : ∀ b ∈ blks (.slice Bm cm km), w.heap.size ≤ b := fun b hb => ((goodP _).lt h.m hb).1
  have l1 := h.re.lt
  have l2 := h.ro.lt
  refine ⟨hI.bel.trans (grown_below hg hI.bel.size hlt), grown_row hg hI.re h.ne.1, grown_row hg hI.ro h.ne.2.1, ?_, grown_keep (goodV strs _) hg hI.s (fun c hc hm => h.ne.2.2.2.2 c hm hc), ?_⟩
  · rw [blks_some]; exact OwP.snoc hown (show pcells ms ++ pcells ns = pcells (ms ++ ns) by simp [pcells]) (by simp [hl, hn]) rfl
  · refine ⟨ne_grown h.ne.1 (by omega) hat, ne_grown h.ne.2.1 (by omega) hat, h.ne.2.2.1, h.ne.2.2.2.1, fun b hb hm => ?_⟩
    have := hs5 b hm
    exact ne_grown (n := n) (cap := cap) (p := b) (v := .slice Bm cm km) (fun hx => h.ne.2.2.2.2 b hx hm) (by omega) hat hb
theorem PsI.growS {w : World} {pe po : Nat} {e o : Int × Int} {Bs : Option Addr} {cs ks : Nat} {vm : Value} {ms : List (Int × Int)} {xs : List ByteArray} {wr W : World} (h : PsI w pe po e o vm (.slice Bs cs ks) ms xs wr) (hl : xs.length = cs) (hW : Below wr.heap.size wr W) :
    W.ownsRow w.heap.size 9 1 (.slice Bs cs ks) cs (strs xs) ∧ ∀ (w5 : World) (g cap n : Nat) (ns : List ByteArray), n = cs + ns.length → W.grownBy w5 (Value.slice Bs cs ks).ownBlock → w5.ownsRow w.heap.size 9 1 (.slice (some ⟨g, 0, none⟩) n cap) n (strs xs ++ strs ns) → ((Value.slice Bs cs ks).ownBlock = some g ∨ g = W.heap.size) →
      PsI w pe po e o vm (.slice (some ⟨g, 0, none⟩) n cap) ms (xs ++ ns) w5 := by
  have hI := h.below hW
  have hs5 : ∀ b ∈ blks vm, b < W.heap.size := fun b hb => ((goodP _).lt hI.m hb).2
  refine ⟨by have := hI.s.1; unfold Own at this; rwa [strs_len, hl] at this, fun w5 g cap n ns hn hg hown hat => ?_⟩
  have hlt : ∀ b ∈ blks (.slice Bs cs ks), w.heap.size ≤ b := fun b hb => ((goodV strs _).lt h.s hb).1
  have l1 := hI.re.lt
  have l2 := hI.ro.lt
  refine ⟨hI.bel.trans (grown_below hg hI.bel.size hlt), grown_row hg hI.re h.ne.2.2.1, grown_row hg hI.ro h.ne.2.2.2.1, grown_keep (goodP _) hg hI.m (fun c hc => h.ne.2.2.2.2 c hc), ?_, ?_⟩
  · rw [blks_some]; exact OwV.snoc hown (show strs xs ++ strs ns = strs (xs ++ ns) by simp [strs]) (by simp [strs, hl, hn]) rfl
  · exact ⟨h.ne.1, h.ne.2.1, ne_grown h.ne.2.2.1 (by omega) hat, ne_grown h.ne.2.2.2.1 (by omega) hat, fun b hb => ne_grown (h.ne.2.2.2.2 b hb) (hs5 b hb) hat⟩

/-- The letter a as a text. -/
def letterT (a : Nat) : ByteArray := strOfNums [97 + (a : Int)]
abbrev noT : ByteArray := ByteArray.mk #[]
def passO (L : Nat) (copies : Bool) : List ByteArray := (List.range L).map (fun a => if copies then letterT a else noT)
def passM (L : Nat) (s dir : Int) : List (Int × Int) := List.replicate L (s, dir)
theorem passO_succ (L : Nat) (c : Bool) : passO (L + 1) c = passO L c ++ [if c then letterT L else noT] := by simp [passO, List.range_succ]
theorem passM_succ (L : Nat) (s d : Int) : passM (L + 1) s d = passM L s d ++ [(s, d)] := by simp [passM, List.replicate_succ']
theorem passO_len (L : Nat) (c : Bool) : (passO L c).length = L := by simp [passO]
theorem passM_len (L : Nat) (s d : Int) : (passM L s d).length = L := by simp [passM]
def passRow (L : Nat) (s dir : Int) (e : Int × Int) : List (Int × Int) := passM L s dir ++ (if dir = 1 then [(s, dir), e] else [e, (s, dir)])
def passOut (L : Nat) (c : Bool) : List ByteArray := passO L c ++ [noT, noT]
theorem infoMs7 : (Try.prog.info? 55).map (fun i => (i.zero, i.size, i.bytes)) = some (some (.agg #[.int .i64 0, .int .i64 0]), 2, 16) := by kernel_rfl

set_option maxRecDepth 100000 in
set_option maxHeartbeats 6400000 in
theorem l07Pass_own (L : Nat) (s dir : Int) (c : Bool) (e : Int × Int) (w : World) (h2 : L ≤ 3) :
    Calls Try.prog 25 #[.int .i64 (L : Int), .int .i64 s, .int .i64 dir, .bool c, .agg #[.int .i64 e.1, .int .i64 e.2]] w fun z w' =>
      ∃ u v, z = .returned (.tuple #[u, v]) ∧ OwP 55 w' w.heap.size u (passRow L s dir e) (blks u) ∧ OwV strs 9 w' w.heap.size v (passOut L c) (blks v) ∧ (∀ b ∈ blks u, b ∉ blks v) ∧ Below w.heap.size w w' := by
  obtain ⟨x, y⟩ := e
  obtain ⟨im, him, hzm0, hzm1, hzm2⟩ := info_parts infoMs7
  obtain ⟨is, his, hzs0, hzs1, hzs2⟩ := info_parts infoStr
  have hI0 : PsI w w.heap.size (w.heap.size + 3) (x, y) (s, dir) (.slice (some ⟨w.heap.size + 1, 0, none⟩) 0 0) (.slice (some ⟨w.heap.size + 2, 0, none⟩) 0 0) [] [] ((((w.alloc (.cells #[.int .i64 x, .int .i64 y] 55)).alloc (.cells #[] 55)).alloc (.cells #[] 9)).alloc (.cells #[.int .i64 s, .int .i64 dir] 55)) := by
    have b1 := below_alloc w (.cells #[.int .i64 x, .int .i64 y] 55)
    have b2 := below_alloc (w.alloc (.cells #[.int .i64 x, .int .i64 y] 55)) (.cells #[] 55)
    have b3 := below_alloc ((w.alloc (.cells #[.int .i64 x, .int .i64 y] 55)).alloc (.cells #[] 55)) (.cells #[] 9)
    have b4 := below_alloc (((w.alloc (.cells #[.int .i64 x, .int .i64 y] 55)).alloc (.cells #[] 55)).alloc (.cells #[] 9)) (.cells #[.int .i64 s, .int .i64 dir] 55)
    have hm := movesI0 (w.alloc (.cells #[.int .i64 x, .int .i64 y] 55))
    have hs : OwV strs 9 (((w.alloc (.cells #[.int .i64 x, .int .i64 y] 55)).alloc (.cells #[] 55)).alloc (.cells #[] 9)) ((w.alloc (.cells #[.int .i64 x, .int .i64 y] 55)).alloc (.cells #[] 55)).heap.size (.slice (some ⟨((w.alloc (.cells #[.int .i64 x, .int .i64 y] 55)).alloc (.cells #[] 55)).heap.size, 0, none⟩) 0 0) [] [((w.alloc (.cells #[.int .i64 x, .int .i64 y] 55)).alloc (.cells #[] 55)).heap.size] :=
      ⟨World.ownsRow_lit (base := ((w.alloc (.cells #[.int .i64 x, .int .i64 y] 55)).alloc (.cells #[] 55)).heap.size) (e := 9) (size := 1) _ #[] 0 (Nat.le_refl _) (by unfold maxLen; omega) rfl, rfl⟩
    have e1 : (w.alloc (.cells #[.int .i64 x, .int .i64 y] 55)).heap.size = w.heap.size + 1 := by simp
    have e2 : ((w.alloc (.cells #[.int .i64 x, .int .i64 y] 55)).alloc (.cells #[] 55)).heap.size = w.heap.size + 2 := by simp
    have e3 : (((w.alloc (.cells #[.int .i64 x, .int .i64 y] 55)).alloc (.cells #[] 55)).alloc (.cells #[] 9)).heap.size = w.heap.size + 3 := by simp
    have hr := Row.new (((w.alloc (.cells #[.int .i64 x, .int .i64 y] 55)).alloc (.cells #[] 55)).alloc (.cells #[] 9)) [.int .i64 s, .int .i64 dir] 55
    rw [e3] at hr
    have hm2 := (goodP 55).mono ((goodP 55).below ((goodP 55).below hm b3) b4) (show w.heap.size ≤ _ by rw [e1]; omega)
    have hs2 := (goodV strs 9).mono ((goodV strs 9).below hs b4) (show w.heap.size ≤ _ by rw [e2]; omega)
    rw [e1] at hm2
    rw [e2] at hs2
    refine ⟨below_step (below_step (below_step b1 b2) b3) b4, ((((Row.new w _ _).alloc _).alloc _).alloc _), hr, by rw [blks_some]; exact hm2, by rw [blks_some]; exact hs2, ?_⟩
    simp only [blks_some, List.mem_singleton]
    refine ⟨by omega, by omega, by omega, by omega, fun b hb hm => by omega⟩
  have HI := Lib.hid hI0
  clear hI0
  go_enter Try.func25, Try.ntmps25
  go_wp2
  generalize (((w.alloc (.cells #[.int .i64 x, .int .i64 y] 55)).alloc (.cells #[] 55)).alloc (.cells #[] 9)).alloc (.cells #[.int .i64 s, .int .i64 dir] 55) = W0 at *
  go_loopw [12, 13, 15] (fun vm vs i wr => ∃ (a : Nat) (Bm Bs : Option Addr) (km ks : Nat), a ≤ L ∧ i = .int .i64 a ∧ vm = .slice Bm a km ∧ vs = .slice Bs a ks ∧ PsI w w.heap.size (w.heap.size + 3) (x, y) (s, dir) (.slice Bm a km) (.slice Bs a ks) (passM a s dir) (passO a c) wr) (fun _ _ i _ => L - (intOf i).toNat)
  case atStart => exact ⟨0, _, _, _, _, Nat.zero_le _, rfl, rfl, rfl, HI.out⟩
  case round =>
    clear HI
    obtain ⟨a, Bm, Bs, km, ks, ha, rfl, rfl, rfl, hI⟩ := hrel
    have HI := Lib.hid hI
    obtain ⟨⟨o0, o1⟩, -⟩ := hI.ro.two
    obtain ⟨⟨p0, p1⟩, -⟩ := hI.re.two
    simp only at o0 o1 p0 p1
    have i1 : (0 : Int) ≤ a := by omega
    by_cases hlt : a < L
    · have i2 : (a : Int) < L := by omega
      have HGM := Lib.hid (hI.growM (passM_len a s dir) (.cells #[.int .i64 s, .int .i64 dir] 55))
      have hs := hI.bel.size
      have i3 : (a : Int) ≤ 2 := by omega
      clear hI p0 p1
      cases c
      · go_wp2_with (at_builtin; first | (refine wpList_append_lies _ rfl _ _ 51 rfl w.heap.size 55 im _ 2 16 Try.underlying51 him hzm0 hzm1 hzm2 rfl (by decide) (.slice Bm a km) a _ rfl HGM.out.1 ⟨wr.heap.size, 0, none⟩ 1 1 [.int .i64 s, .int .i64 dir] rfl rfl (World.news_of_block (cs := #[.int .i64 s, .int .i64 dir]) (t := 55) (fr := (0, 0)) (heap_alloc_new wr _)) (by simp [Value.oneCell']) (by omega) (by unfold maxLen; omega) (by omega) (by simp; omega) (wr.heap.size + 1) (by simp) ?_; intro g5 cap5 w5 hown5 hgrow5 hat5 hlt5; have HE := Lib.hid (HGM.out.2 w5 g5 cap5 (a + 1) [(s, dir)] (by simp) hgrow5 (by simpa [pcells, pcell] using hown5) hat5); have hs5 := HE.out.bel.size; clear hown5 hgrow5 hat5 hlt5) | (refine wpList_append_lies _ rfl _ _ 44 rfl w.heap.size 9 is _ 1 16 Try.underlying44 his hzs0 hzs1 hzs2 rfl (by decide) (.slice Bs a ks) a _ rfl (HE.out.growS (passO_len a false) (below_alloc w5 (.cells #[.string noT] 9))).1 ⟨w5.heap.size, 0, none⟩ 1 1 [.string noT] rfl rfl (World.news_of_block (cs := #[.string noT]) (t := 9) (fr := (0, 0)) (heap_alloc_new w5 _)) (by simp [Value.oneCell']) (by omega) (by unfold maxLen; omega) (by omega) (by simp; omega) (w5.heap.size + 1) (by simp) ?_; intro g6 cap6 w6 hown6 hgrow6 hat6 hlt6; have HE2 := Lib.hid ((HE.out.growS (passO_len a false) (below_alloc w5 (.cells #[.string noT] 9))).2 w6 g6 cap6 (a + 1) [noT] (by simp) hgrow6 (by simpa [strs] using hown6) (hat6.imp id (fun h => h.trans (by simp)))); clear hown6 hgrow6 hat6 hlt6))
        go_roundw
        case rel => exact ⟨a + 1, _, _, _, _, by omega, by go_num, rfl, rfl, by rw [passM_succ, passO_succ]; exact HE2.out⟩
        case measure => simp [intOf]; omega
      · go_wp2_with (at_builtin; first | (refine wpList_append_lies _ rfl _ _ 51 rfl w.heap.size 55 im _ 2 16 Try.underlying51 him hzm0 hzm1 hzm2 rfl (by decide) (.slice Bm a km) a _ rfl HGM.out.1 ⟨wr.heap.size, 0, none⟩ 1 1 [.int .i64 s, .int .i64 dir] rfl rfl (World.news_of_block (cs := #[.int .i64 s, .int .i64 dir]) (t := 55) (fr := (0, 0)) (heap_alloc_new wr _)) (by simp [Value.oneCell']) (by omega) (by unfold maxLen; omega) (by omega) (by simp; omega) (wr.heap.size + 1) (by simp) ?_; intro g5 cap5 w5 hown5 hgrow5 hat5 hlt5; have HE := Lib.hid (HGM.out.2 w5 g5 cap5 (a + 1) [(s, dir)] (by simp) hgrow5 (by simpa [pcells, pcell] using hown5) hat5); have hs5 := HE.out.bel.size; clear hown5 hgrow5 hat5 hlt5))
        have hcv := run_convert_bytes_arg (P := Try.prog) (w5.alloc (.cells #[.int .u8 (97 + (a : Int))] 5)) 90 5 Try.underlying90 Try.underlying5 w5.heap.size 0 1 1 [97 + (a : Int)] rfl (fun i hi => by
          obtain rfl : i = 0 := by omega
          simp [(Row.new w5 [.int .u8 (97 + (a : Int))] 5).cell 0]) 9 Try.underlying9
        rw [show strOfNums [97 + (a : Int)] = letterT a from rfl] at hcv
        obtain ⟨lt, hlt2⟩ : ∃ lt, letterT a = lt := ⟨_, rfl⟩
        rw [hlt2] at hcv
        have HLT := Lib.hid hlt2
        clear hlt2
        have hsz6 : (w5.alloc (.cells #[.int .u8 (97 + (a : Int))] 5)).heap.size = w5.heap.size + 1 := by simp
        go_wp2_with fail
        rw [hcv]
        clear hcv
        go_wp2_with (at_builtin; first | (refine wpList_append_lies _ rfl _ _ 44 rfl w.heap.size 9 is _ 1 16 Try.underlying44 his hzs0 hzs1 hzs2 rfl (by decide) (.slice Bs a ks) a _ rfl (HE.out.growS (passO_len a true) (below_step (below_alloc w5 (.cells #[.int .u8 (97 + (a : Int))] 5)) (below_alloc _ (.cells #[.string lt] 9)))).1 ⟨w5.heap.size + 1, 0, none⟩ 1 1 [.string lt] rfl rfl (World.news_of_block (cs := #[.string lt]) (t := 9) (fr := (0, 0)) (by simpa using heap_alloc_new (w5.alloc (.cells #[.int .u8 (97 + (a : Int))] 5)) (.cells #[.string lt] 9))) (by simp [Value.oneCell']) (by omega) (by unfold maxLen; omega) (by omega) (by simp; omega) (w5.heap.size + 1 + 1) (by simp) ?_; intro g6 cap6 w6 hown6 hgrow6 hat6 hlt6; have HE2 := Lib.hid ((HE.out.growS (passO_len a true) (below_step (below_alloc w5 (.cells #[.int .u8 (97 + (a : Int))] 5)) (below_alloc _ (.cells #[.string lt] 9)))).2 w6 g6 cap6 (a + 1) [lt] (by simp) hgrow6 (by simpa [strs] using hown6) (hat6.imp id (fun h => h.trans (by simp)))); clear hown6 hgrow6 hat6 hlt6))
        go_roundw
        case rel => exact ⟨a + 1, _, _, _, _, by omega, by go_num, rfl, rfl, by rw [passM_succ, passO_succ]; have := HE2.out; rw [← HLT.out] at this; exact this⟩
        case measure => simp [intOf]; omega
    · obtain rfl : a = L := by omega
      have hs := hI.bel.size
      have i2 : ¬ (a : Int) < a := by omega
      by_cases hd : dir = 1
      · subst hd
        have hd1 : ((1 : Int) == 1) = true := by simp
        have HGM := Lib.hid (hI.growM (passM_len a s 1) (.cells #[.int .i64 s, .int .i64 1, .int .i64 x, .int .i64 y] 55))
        clear hI
        go_wp2_with (at_builtin; first | (refine wpList_append_lies _ rfl _ _ 51 rfl w.heap.size 55 im _ 2 16 Try.underlying51 him hzm0 hzm1 hzm2 rfl (by decide) (.slice Bm a km) a _ rfl HGM.out.1 ⟨wr.heap.size, 0, none⟩ 2 2 [.int .i64 s, .int .i64 1, .int .i64 x, .int .i64 y] rfl rfl (World.news_of_block (cs := #[.int .i64 s, .int .i64 1, .int .i64 x, .int .i64 y]) (t := 55) (fr := (0, 0)) (heap_alloc_new wr _)) (by simp [Value.oneCell']) (by omega) (by unfold maxLen; omega) (by omega) (by simp; omega) (wr.heap.size + 1) (by simp) ?_; intro g5 cap5 w5 hown5 hgrow5 hat5 hlt5; have HE := Lib.hid (HGM.out.2 w5 g5 cap5 (a + 2) [(s, 1), (x, y)] (by simp) hgrow5 (by simpa [pcells, pcell] using hown5) hat5); have hs5 := HE.out.bel.size; clear hown5 hgrow5 hat5 hlt5) | (refine wpList_append_lies _ rfl _ _ 44 rfl w.heap.size 9 is _ 1 16 Try.underlying44 his hzs0 hzs1 hzs2 rfl (by decide) (.slice Bs a ks) a _ rfl (HE.out.growS (passO_len a c) (below_alloc w5 (.cells #[.string noT, .string noT] 9))).1 ⟨w5.heap.size, 0, none⟩ 2 2 [.string noT, .string noT] rfl rfl (World.news_of_block (cs := #[.string noT, .string noT]) (t := 9) (fr := (0, 0)) (heap_alloc_new w5 _)) (by simp [Value.oneCell']) (by omega) (by unfold maxLen; omega) (by omega) (by simp; omega) (w5.heap.size + 1) (by simp) ?_; intro g6 cap6 w6 hown6 hgrow6 hat6 hlt6; have HE2 := Lib.hid ((HE.out.growS (passO_len a c) (below_alloc w5 (.cells #[.string noT, .string noT] 9))).2 w6 g6 cap6 (a + 2) [noT, noT] (by simp) hgrow6 (by simpa [strs] using hown6) (hat6.imp id (fun h => h.trans (by simp)))); clear hown6 hgrow6 hat6 hlt6))
        refine bodyPost_ret (v := .tuple #[.slice (some ⟨g5, 0, none⟩) (a + 2) cap5, .slice (some ⟨g6, 0, none⟩) (a + 2) cap6]) (by simp [results, Try.results25, go_sem]) rfl ?_
        exact ⟨_, _, rfl, HE2.out.m, HE2.out.s, HE2.out.ne.2.2.2.2, HE2.out.bel⟩
      · have hd1 : (dir == 1) = false := by simpa using hd
        have HGM := Lib.hid (hI.growM (passM_len a s dir) (.cells #[.int .i64 x, .int .i64 y, .int .i64 s, .int .i64 dir] 55))
        clear hI
        have HD := Lib.hid hd
        clear hd
        go_wp2_with (at_builtin; first | (refine wpList_append_lies _ rfl _ _ 51 rfl w.heap.size 55 im _ 2 16 Try.underlying51 him hzm0 hzm1 hzm2 rfl (by decide) (.slice Bm a km) a _ rfl HGM.out.1 ⟨wr.heap.size, 0, none⟩ 2 2 [.int .i64 x, .int .i64 y, .int .i64 s, .int .i64 dir] rfl rfl (World.news_of_block (cs := #[.int .i64 x, .int .i64 y, .int .i64 s, .int .i64 dir]) (t := 55) (fr := (0, 0)) (heap_alloc_new wr _)) (by simp [Value.oneCell']) (by omega) (by unfold maxLen; omega) (by omega) (by simp; omega) (wr.heap.size + 1) (by simp) ?_; intro g5 cap5 w5 hown5 hgrow5 hat5 hlt5; have HE := Lib.hid (HGM.out.2 w5 g5 cap5 (a + 2) [(x, y), (s, dir)] (by simp) hgrow5 (by simpa [pcells, pcell] using hown5) hat5); have hs5 := HE.out.bel.size; clear hown5 hgrow5 hat5 hlt5) | (refine wpList_append_lies _ rfl _ _ 44 rfl w.heap.size 9 is _ 1 16 Try.underlying44 his hzs0 hzs1 hzs2 rfl (by decide) (.slice Bs a ks) a _ rfl (HE.out.growS (passO_len a c) (below_alloc w5 (.cells #[.string noT, .string noT] 9))).1 ⟨w5.heap.size, 0, none⟩ 2 2 [.string noT, .string noT] rfl rfl (World.news_of_block (cs := #[.string noT, .string noT]) (t := 9) (fr := (0, 0)) (heap_alloc_new w5 _)) (by simp [Value.oneCell']) (by omega) (by unfold maxLen; omega) (by omega) (by simp; omega) (w5.heap.size + 1) (by simp) ?_; intro g6 cap6 w6 hown6 hgrow6 hat6 hlt6; have HE2 := Lib.hid ((HE.out.growS (passO_len a c) (below_alloc w5 (.cells #[.string noT, .string noT] 9))).2 w6 g6 cap6 (a + 2) [noT, noT] (by simp) hgrow6 (by simpa [strs] using hown6) (hat6.imp id (fun h => h.trans (by simp)))); clear hown6 hgrow6 hat6 hlt6))
        refine bodyPost_ret (v := .tuple #[.slice (some ⟨g5, 0, none⟩) (a + 2) cap5, .slice (some ⟨g6, 0, none⟩) (a + 2) cap6]) (by simp [results, Try.results25, go_sem]) rfl ?_
        exact ⟨_, _, rfl, by rw [passRow, if_neg HD.out]; exact HE2.out.m, HE2.out.s, HE2.out.ne.2.2.2.2, HE2.out.bel⟩
end Go.Proofs.Ytahgekjpnmmooaa
namespace Go.Proofs.Ytahgekjpnmmooaa
open Go.RowKit

theorem isMarkW_any (L k : Int) (w : World) : Calls Try.prog 68 #[.int .i64 L, .int .i64 k] w fun e w' => e = .returned (.bool (decide (L ≤ k))) ∧ w = w' := by
  go_enter Try.func68, Try.ntmps68
  go_wp2
  go_ret
  exact ⟨rfl, rfl⟩

/-- The text of a sign: its letter, or nothing for a mark. -/
def signT (L k : Nat) : ByteArray := if L ≤ k then noT else letterT k
theorem encode_letter (k : Nat) (h : k ≤ 2) : Utf8.encode (97 + (k : Int)) = letterT k := by
  rcases k with _ | _ | _ | k
  · rfl
  · rfl
  · rfl
  · omega
theorem letterT_size (k : Nat) : (letterT k).size = 1 := by simp [letterT, strOfNums_size]
theorem signT_size (L k : Nat) : (signT L k).size ≤ 3 := by
  unfold signT
  split
  · decide
  · rw [letterT_size]; omega
theorem letterOf_any (L k : Nat) (w : World) (h : L ≤ 3) :
    Calls Try.prog 33 #[.int .i64 (L : Int), .int .i64 (k : Int)] w fun e w' => e = .returned (.string (signT L k)) ∧ w = w' := by
  have HM := Lib.hid (fun W => isMarkW_any (L : Int) (k : Int) W)
  by_cases h1 : L ≤ k
  · rw [decide_eq_true (show (L : Int) ≤ k by omega)] at HM
    have HE := Lib.hid (show signT L k = noT by rw [signT, if_pos h1])
    clear h1
    go_enter Try.func33, Try.ntmps33
    go_wp2_with (go_at_call 68; refine (HM.out _).mono ?_; rintro e w' ⟨rfl, rfl⟩)
    go_ret
    exact ⟨by rw [HE.out]; rfl, rfl⟩
  · rw [decide_eq_false (show ¬ (L : Int) ≤ k by omega)] at HM
    have HE := Lib.hid (show signT L k = Utf8.encode (97 + (k : Int)) by rw [signT, if_neg h1, encode_letter k (by omega)])
    have k0 : (0 : Int) ≤ k := by omega
    have k1 : (k : Int) ≤ 2 := by omega
    clear h1
    go_enter Try.func33, Try.ntmps33
    go_wp2_with (go_at_call 68; refine (HM.out _).mono ?_; rintro e w' ⟨rfl, rfl⟩)
    go_ret
    exact ⟨by rw [HE.out]; rfl, rfl⟩

/-- What the writer that turns words does and writes. -/
def backG (L q k : Nat) : Int × Int := if q = 0 then (if k = L + 1 then (1, -1) else (0, 1)) else if k = L then (-1, 0) else (1, -1)
def backO (L q k : Nat) : ByteArray := if q = 0 then noT else signT L k
theorem backG_deeded (L q k : Nat) : Deeded (backG L q k) := by
  unfold backG Deeded
  repeat' split
  all_goals simp
theorem backO_size (L q k : Nat) : (backO L q k).size ≤ 3 := by
  unfold backO
  split
  · decide
  · exact signT_size L k
theorem deedV_stopB : deedV (-1, 0) = .iface 63 (.agg #[.bool true]) := by simp [deedV, stopV]
theorem deedV_goB (x y : Int) (h : 0 ≤ x) : deedV (x, y) = .iface 61 (.agg #[.int .i64 x, .int .i64 y]) := by
  simp only [deedV, walkV]; rw [if_neg (by omega), if_neg (by omega)]

set_option maxHeartbeats 1600000 in
theorem backClosure_any (L q k p : Nat) (w : World) (hl : w.cell? ⟨p, 0, none⟩ = some (.int .i64 (L : Int))) (hL : L ≤ 3) (hq : q ≤ 1) :
    Calls Try.prog 28 #[.int .i64 (q : Int), .int .i64 (k : Int), .pointer (some ⟨p, 0, none⟩)] w fun e w' => e = .returned (deedV (backG L q k)) ∧ Below w.heap.size w w' := by
  have HR := Lib.hid (fun W => rightMark_any (L : Int) W (by omega) (by omega))
  have HM := Lib.hid (fun W => leftMark_any (L : Int) W)
  by_cases h0 : q = 0
  · subst h0
    by_cases h1 : k = L + 1
    · have e1 : ((k : Int) == (L : Int) + 1) = true := by rw [beq_iff_eq]; omega
      have HE := Lib.hid (show deedV (backG L 0 k) = .iface 61 (.agg #[.int .i64 1, .int .i64 (-1)]) by rw [backG, if_pos rfl, if_pos h1, deedV_goB _ _ (by omega)])
      clear h1
      go_enter Try.func28, Try.ntmps28
      go_wp2_with (go_at_call 29; refine (HR.out _).mono ?_; rintro e w' ⟨rfl, rfl⟩)
      go_ret
      exact ⟨by rw [HE.out]; rfl, Below.refl _ _⟩
    · have e1 : ((k : Int) == (L : Int) + 1) = false := by rw [beq_eq_false_iff_ne]; omega
      have HE := Lib.hid (show deedV (backG L 0 k) = .iface 61 (.agg #[.int .i64 0, .int .i64 1]) by rw [backG, if_pos rfl, if_neg h1, deedV_goB _ _ (by omega)])
      clear h1
      go_enter Try.func28, Try.ntmps28
      go_wp2_with (go_at_call 29; refine (HR.out _).mono ?_; rintro e w' ⟨rfl, rfl⟩)
      go_ret
      exact ⟨by rw [HE.out]; rfl, Below.refl _ _⟩
  · have e0 : ((q : Int) == 0) = false := by rw [beq_eq_false_iff_ne]; omega
    by_cases h1 : k = L
    · have e1 : ((k : Int) == (L : Int)) = true := by rw [beq_iff_eq]; omega
      have HE := Lib.hid (show deedV (backG L q k) = .iface 63 (.agg #[.bool true]) by rw [backG, if_neg h0, if_pos h1, deedV_stopB])
      clear h1 h0
      go_enter Try.func28, Try.ntmps28
      go_wp2_with (go_at_call 30; refine (HM.out _).mono ?_; rintro e w' ⟨rfl, rfl⟩)
      go_ret
      exact ⟨by rw [HE.out]; rfl, Below.refl _ _⟩
    · have e1 : ((k : Int) == (L : Int)) = false := by rw [beq_eq_false_iff_ne]; omega
      have HE := Lib.hid (show deedV (backG L q k) = .iface 61 (.agg #[.int .i64 1, .int .i64 (-1)]) by rw [backG, if_neg h0, if_neg h1, deedV_goB _ _ (by omega)])
      clear h1 h0
      go_enter Try.func28, Try.ntmps28
      go_wp2_with (go_at_call 30; refine (HM.out _).mono ?_; rintro e w' ⟨rfl, rfl⟩)
      go_ret
      exact ⟨by rw [HE.out]; rfl, Below.refl _ _⟩

set_option maxHeartbeats 1600000 in
theorem backText_any (L q k p : Nat) (w : World) (hl : w.cell? ⟨p, 0, none⟩ = some (.int .i64 (L : Int))) (hL : L ≤ 3) (hq : q ≤ 1) :
    Calls Try.prog 32 #[.int .i64 (q : Int), .int .i64 (k : Int), .pointer (some ⟨p, 0, none⟩)] w fun e w' => e = .returned (.string (backO L q k)) ∧ Below w.heap.size w w' := by
  have HL := Lib.hid (fun W => letterOf_any L k W hL)
  by_cases h0 : q = 0
  · subst h0
    have HE := Lib.hid (show backO L 0 k = noT by rw [backO, if_pos rfl])
    go_enter Try.func32, Try.ntmps32
    go_wp2
    go_ret
    exact ⟨by rw [HE.out]; rfl, Below.refl _ _⟩
  · have e0 : ((q : Int) == 0) = false := by rw [beq_eq_false_iff_ne]; omega
    have HE := Lib.hid (show backO L q k = signT L k by rw [backO, if_neg h0])
    clear h0
    go_enter Try.func32, Try.ntmps32
    go_wp2_with (go_at_call 33; refine (HL.out _).mono ?_; rintro e w' ⟨rfl, rfl⟩)
    go_ret
    exact ⟨by rw [HE.out]; rfl, Below.refl _ _⟩

theorem numT_table (L S : Int) (G : Nat → Nat → Int × Int) (c n : Nat) : numT ⟨L, S, tableOf G c n⟩ = n * (2 * c) := by
  unfold numT
  induction n with
  | zero => simp [numL, tableOf]
  | succ k ih => rw [tableOf_succ]; simp only [numL, List.map_append, List.sum_append] at ih ⊢; rw [ih]; simp [rowOf_len, Nat.add_mul]
theorem numSS_table (G : Nat → Nat → ByteArray) (c n : Nat) : numSS (outTable G c n) = n * c := by
  unfold numSS
  induction n with
  | zero => simp [numL, outTable]
  | succ k ih => rw [outTable_succ]; simp only [numL, List.map_append, List.sum_append] at ih ⊢; rw [ih]; simp [rowS_len, Nat.add_mul]

/-- The writer that turns words. -/
def backW (L : Nat) : WrData := ⟨(L : Int), 0, tableOf (backG L) (L + 2) 2, outTable (backO L) (L + 2) 2⟩
def backRes (L : Int) : WrData × Int := if 1 ≤ L ∧ L ≤ 3 then (backW L.toNat, 0) else (⟨0, 0, [], []⟩, 2)
theorem back_num (L : Int) : (numWr (backRes L).1 : Int) ≤ 2305843009213693952 := by
  unfold backRes
  split
  · rename_i h
    simp only [numWr, WrData.t, backW, numT_table, numSS_table]
    omega
  · simp [numWr, WrData.t, numT, numSS, numL]
end Go.Proofs.Ytahgekjpnmmooaa
namespace Go.Proofs.Ytahgekjpnmmooaa
open Go.RowKit

/-- What the writer that copies words does in the state q of S states, and what it writes. -/
def copyG (L S q k : Nat) : Int × Int :=
  if q % 2 = 0 ∧ k ≠ L + 1 then ((q : Int), 1) else if q + 1 = S then (-1, 0) else if q % 2 = 0 then ((q : Int) + 1, -1) else if k = L then ((q : Int) + 1, 1) else ((q : Int), -1)
def copyO (L q k : Nat) : ByteArray := if q % 2 = 0 then signT L k else noT
theorem copyG_deeded (L S q k : Nat) : Deeded (copyG L S q k) := by
  unfold copyG Deeded
  repeat' split
  all_goals simp
  all_goals omega
theorem copyO_size (L q k : Nat) : (copyO L q k).size ≤ 3 := by
  unfold copyO
  split
  · exact signT_size L k
  · decide

theorem copyEven_any (q : Nat) (w : World) (hq : q ≤ 12) :
    Calls Try.prog 41 #[.int .i64 (q : Int)] w fun e w' => e = .returned (.bool (decide (q % 2 = 0))) ∧ w = w' := by
  by_cases h : q % 2 = 0
  · have hb : ((q : Int) % 2 == 0) = true := by rw [beq_iff_eq]; omega
    have HD := Lib.hid (decide_eq_true h)
    have q0 : (0 : Int) ≤ q := by omega
    have q1 : (q : Int) ≤ 12 := by omega
    clear h
    go_enter Try.func41, Try.ntmps41
    go_wp2
    go_ret
    exact ⟨ret_bool HD.out.symm, rfl⟩
  · have hb : ((q : Int) % 2 == 0) = false := by rw [beq_eq_false_iff_ne]; omega
    have HD := Lib.hid (decide_eq_false h)
    have q0 : (0 : Int) ≤ q := by omega
    have q1 : (q : Int) ≤ 12 := by omega
    clear h
    go_enter Try.func41, Try.ntmps41
    go_wp2
    go_ret
    exact ⟨ret_bool HD.out.symm, rfl⟩

set_option maxHeartbeats 3200000 in
theorem copyClosure_any (L S q k pg pl ps : Nat) (w : World) (hg : w.cell? ⟨pg, 0, none⟩ = some (.func (.func 41) #[] #[])) (hl : w.cell? ⟨pl, 0, none⟩ = some (.int .i64 (L : Int))) (hs : w.cell? ⟨ps, 0, none⟩ = some (.int .i64 (S : Int))) (hL : L ≤ 3) (hq : q ≤ 12) (hS : S ≤ 12) (hS1 : 1 ≤ S) :
    Calls Try.prog 42 #[.int .i64 (q : Int), .int .i64 (k : Int), .pointer (some ⟨pg, 0, none⟩), .pointer (some ⟨pl, 0, none⟩), .pointer (some ⟨ps, 0, none⟩)] w fun e w' => e = .returned (deedV (copyG L S q k)) ∧ Below w.heap.size w w' := by
  have HR := Lib.hid (fun W => rightMark_any (L : Int) W (by omega) (by omega))
  have HM := Lib.hid (fun W => leftMark_any (L : Int) W)
  have HE := Lib.hid (fun W => copyEven_any q W hq)
  have q0 : (0 : Int) ≤ q := by omega
  have q1 : (q : Int) ≤ 12 := by omega
  have s0 : (1 : Int) ≤ S := by omega
  have s1 : (S : Int) ≤ 12 := by omega
  by_cases h0 : q % 2 = 0
  · rw [decide_eq_true h0] at HE
    by_cases h1 : k = L + 1
    · have e1 : ((k : Int) != (L : Int) + 1) = false := by rw [bne_eq_false_iff_eq]; omega
      by_cases h2 : q + 1 = S
      · have e2 : ((q : Int) == (S : Int) - 1) = true := by rw [beq_iff_eq]; omega
        have HV := Lib.hid (show deedV (copyG L S q k) = .iface 63 (.agg #[.bool true]) by rw [copyG, if_neg (by omega), if_pos h2, deedV_stopB])
        clear h0 h1 h2
        go_enter Try.func42, Try.ntmps42
        go_wp2_with (first | (go_at_call 41; refine (HE.out _).mono ?_; rintro e w' ⟨rfl, rfl⟩) | (go_at_call 29; refine (HR.out _).mono ?_; rintro e w' ⟨rfl, rfl⟩))
        go_ret
        exact ⟨by rw [HV.out]; rfl, Below.refl _ _⟩
      · have e2 : ((q : Int) == (S : Int) - 1) = false := by rw [beq_eq_false_iff_ne]; omega
        have HV := Lib.hid (show deedV (copyG L S q k) = .iface 61 (.agg #[.int .i64 ((q : Int) + 1), .int .i64 (-1)]) by rw [copyG, if_neg (by omega), if_neg h2, if_pos h0, deedV_goB _ _ (by omega)])
        clear h0 h1 h2
        go_enter Try.func42, Try.ntmps42
        go_wp2_with (first | (go_at_call 41; refine (HE.out _).mono ?_; rintro e w' ⟨rfl, rfl⟩) | (go_at_call 29; refine (HR.out _).mono ?_; rintro e w' ⟨rfl, rfl⟩))
        go_ret
        exact ⟨by rw [HV.out]; rfl, Below.refl _ _⟩
    · have e1 : ((k : Int) != (L : Int) + 1) = true := by rw [bne_iff_ne]; omega
      have HV := Lib.hid (show deedV (copyG L S q k) = .iface 61 (.agg #[.int .i64 (q : Int), .int .i64 1]) by rw [copyG, if_pos ⟨h0, h1⟩, deedV_goB _ _ (by omega)])
      clear h0 h1
      go_enter Try.func42, Try.ntmps42
      go_wp2_with (first | (go_at_call 41; refine (HE.out _).mono ?_; rintro e w' ⟨rfl, rfl⟩) | (go_at_call 29; refine (HR.out _).mono ?_; rintro e w' ⟨rfl, rfl⟩))
      go_ret
      exact ⟨by rw [HV.out]; rfl, Below.refl _ _⟩
  · rw [decide_eq_false h0] at HE
    by_cases h2 : q + 1 = S
    · have e2 : ((q : Int) == (S : Int) - 1) = true := by rw [beq_iff_eq]; omega
      have HV := Lib.hid (show deedV (copyG L S q k) = .iface 63 (.agg #[.bool true]) by rw [copyG, if_neg (by omega), if_pos h2, deedV_stopB])
      clear h0 h2
      go_enter Try.func42, Try.ntmps42
      go_wp2_with (go_at_call 41; refine (HE.out _).mono ?_; rintro e w' ⟨rfl, rfl⟩)
      go_ret
      exact ⟨by rw [HV.out]; rfl, Below.refl _ _⟩
    · have e2 : ((q : Int) == (S : Int) - 1) = false := by rw [beq_eq_false_iff_ne]; omega
      by_cases h1 : k = L
      · have e1 : ((k : Int) == (L : Int)) = true := by rw [beq_iff_eq]; omega
        have HV := Lib.hid (show deedV (copyG L S q k) = .iface 61 (.agg #[.int .i64 ((q : Int) + 1), .int .i64 1]) by rw [copyG, if_neg (by omega), if_neg h2, if_neg h0, if_pos h1, deedV_goB _ _ (by omega)])
        clear h0 h1 h2
        go_enter Try.func42, Try.ntmps42
        go_wp2_with (first | (go_at_call 41; refine (HE.out _).mono ?_; rintro e w' ⟨rfl, rfl⟩) | (go_at_call 30; refine (HM.out _).mono ?_; rintro e w' ⟨rfl, rfl⟩))
        go_ret
        exact ⟨by rw [HV.out]; rfl, Below.refl _ _⟩
      · have e1 : ((k : Int) == (L : Int)) = false := by rw [beq_eq_false_iff_ne]; omega
        have HV := Lib.hid (show deedV (copyG L S q k) = .iface 61 (.agg #[.int .i64 (q : Int), .int .i64 (-1)]) by rw [copyG, if_neg (by omega), if_neg h2, if_neg h0, if_neg h1, deedV_goB _ _ (by omega)])
        clear h0 h1 h2
        go_enter Try.func42, Try.ntmps42
        go_wp2_with (first | (go_at_call 41; refine (HE.out _).mono ?_; rintro e w' ⟨rfl, rfl⟩) | (go_at_call 30; refine (HM.out _).mono ?_; rintro e w' ⟨rfl, rfl⟩))
        go_ret
        exact ⟨by rw [HV.out]; rfl, Below.refl _ _⟩

set_option maxHeartbeats 1600000 in
theorem copyText_any (L q k pg pl : Nat) (w : World) (hg : w.cell? ⟨pg, 0, none⟩ = some (.func (.func 41) #[] #[])) (hl : w.cell? ⟨pl, 0, none⟩ = some (.int .i64 (L : Int))) (hL : L ≤ 3) (hq : q ≤ 12) :
    Calls Try.prog 43 #[.int .i64 (q : Int), .int .i64 (k : Int), .pointer (some ⟨pg, 0, none⟩), .pointer (some ⟨pl, 0, none⟩)] w fun e w' => e = .returned (.string (copyO L q k)) ∧ Below w.heap.size w w' := by
  have HL := Lib.hid (fun W => letterOf_any L k W hL)
  have HE := Lib.hid (fun W => copyEven_any q W hq)
  by_cases h0 : q % 2 = 0
  · rw [decide_eq_true h0] at HE
    have HV := Lib.hid (show copyO L q k = signT L k by rw [copyO, if_pos h0])
    clear h0
    go_enter Try.func43, Try.ntmps43
    go_wp2_with (first | (go_at_call 41; refine (HE.out _).mono ?_; rintro e w' ⟨rfl, rfl⟩) | (go_at_call 33; refine (HL.out _).mono ?_; rintro e w' ⟨rfl, rfl⟩))
    go_ret
    exact ⟨by rw [HV.out]; rfl, Below.refl _ _⟩
  · rw [decide_eq_false h0] at HE
    have HV := Lib.hid (show copyO L q k = noT by rw [copyO, if_neg h0])
    clear h0
    go_enter Try.func43, Try.ntmps43
    go_wp2_with (go_at_call 41; refine (HE.out _).mono ?_; rintro e w' ⟨rfl, rfl⟩)
    go_ret
    exact ⟨by rw [HV.out]; rfl, Below.refl _ _⟩

/-- The writer that copies words, with S states. -/
def copyW (L S : Nat) : WrData := ⟨(L : Int), 0, tableOf (copyG L S) (L + 2) S, outTable (copyO L) (L + 2) S⟩
def copyRes (L t : Int) : WrData × Int := if (1 ≤ L ∧ L ≤ 3) ∧ 1 ≤ t then (if t ≤ 6 then (copyW L.toNat (2 * t - 1).toNat, 0) else (⟨0, 0, [], []⟩, 3)) else (⟨0, 0, [], []⟩, 2)
theorem copy_num (L t : Int) : (numWr (copyRes L t).1 : Int) ≤ 2305843009213693952 := by
  unfold copyRes
  split
  · rename_i h
    split
    · simp only [numWr, WrData.t, copyW, numT_table, numSS_table]
      have h1 : (2 * t - 1).toNat * (2 * (L.toNat + 2)) ≤ 11 * 10 := Nat.mul_le_mul (by omega) (by omega)
      have h2 : (2 * t - 1).toNat * (L.toNat + 2) ≤ 11 * 5 := Nat.mul_le_mul (by omega) (by omega)
      omega
    · simp [numWr, WrData.t, numT, numSS, numL]
  · simp [numWr, WrData.t, numT, numSS, numL]
end Go.Proofs.Ytahgekjpnmmooaa
namespace Go.Proofs.Ytahgekjpnmmooaa
open Go.RowKit

theorem OwL.growP {α : Type} {R : World → Nat → Value → α → List Nat → Prop} (gd : Good R) {e : TypeId} {w : World} {lo : Nat} {v : Value} {xs : List α} {bs : List Nat} (h : OwL R e w lo v xs bs) :
    ∃ vs, w.ownsRow lo e 1 v xs.length vs ∧ (∀ b ∈ blks v, b ∈ bs ∧ lo ≤ b ∧ b < w.heap.size) ∧ ∀ (w1 : World) (u0 : Value) (x0 : α) (b0 : List Nat), Below w.heap.size w w1 → R w1 lo u0 x0 b0 → (∀ c ∈ b0, c ∉ bs) →
      ∀ (o : Obj) (w2 : World) (g m cap : Nat), (w1.alloc o).grownBy w2 v.ownBlock → w2.ownsRow lo e 1 (.slice (some ⟨g, 0, none⟩) m cap) (xs.length + 1) (vs ++ [u0]) → (v.ownBlock = some g ∨ g = w1.heap.size + 1) →
        ∃ bs', OwL R e w2 lo (.slice (some ⟨g, 0, none⟩) m cap) (xs ++ [x0]) bs' ∧ ∀ c ∈ bs', c ∈ bs ∨ c ∈ b0 ∨ w1.heap.size ≤ c := by
  obtain ⟨vs, bss, hO, e1, e2, e3, e4, e5⟩ := h
  subst e4
  refine ⟨vs, by have := hO; unfold Own at this; rwa [e1] at this, fun b hb => ⟨List.mem_append_left _ hb, hO.lt hb⟩, ?_⟩
  intro w1 u0 x0 b0 hb hu hd o w2 g m cap hg hown hat
  have hb' : Below w.heap.size w (w1.alloc o) := below_step hb (below_alloc w1 o)
  refine ⟨_, OwL.snoc gd (hO.below hb') e1 e2 (fun i u x b h1 h2 h3 => gd.below (e3 i u x b h1 h2 h3) hb') e5 (gd.below hu (below_alloc w1 o)) hd hg hown hat (by simp), fun c hc => ?_⟩
  rw [List.flatten_append] at hc
  simp only [List.mem_append, List.mem_singleton] at hc
  rcases hc with hc | hc | hc
  · subst hc
    rcases hat with hat | hat
    · exact .inl (List.mem_append_left _ (mem_blks.2 hat))
    · right; right; omega
  · exact .inl (List.mem_append_right _ hc)
  · right; left; simpa using hc

abbrev OwMM : World → Nat → Value → List (List (Int × Int)) → List Nat → Prop := OwL (OwP 55) 51
theorem goodMM : Good OwMM := goodL (goodP 55) 51

structure CwI (w : World) (L : Int) (mv : List (List (Int × Int))) (out : List (List ByteArray)) (wr : World) : Prop where
  bel : Below w.heap.size w wr
  rz : Row wr w.heap.size 27 [.int .i64 0, .int .i64 0, .slice none 0 0, .slice none 0 0]
  box : ∃ vm vo bm bo, Row wr (w.heap.size + 1) 27 [.int .i64 L, .int .i64 0, vm, vo] ∧ OwMM wr (w.heap.size + 2) vm mv bm ∧ OwSO wr (w.heap.size + 2) vo out bo ∧ (∀ b ∈ bm, b ∉ bo)
theorem CwI.below {w : World} {L : Int} {mv : List (List (Int × Int))} {out : List (List ByteArray)} {wr w' : World} (h : CwI w L mv out wr) (hb : Below wr.heap.size wr w') : CwI w L mv out w' := by
  obtain ⟨vm, vo, bm, bo, ho, hm, hO, hd⟩ := h.box
  exact ⟨below_step h.bel hb, h.rz.below hb h.rz.lt, vm, vo, bm, bo, ho.below hb ho.lt, goodMM.below hm hb, goodSO.below hO hb, hd⟩

theorem CwI.both {w : World} {L : Int} {mv : List (List (Int × Int))} {out : List (List ByteArray)} {wr w1 : World} {u v : Value} {row : List (Int × Int)} {texts : List ByteArray} {bu bv : List Nat} (h : CwI w L mv out wr) (hb : Below wr.heap.size wr w1) (hu : OwP 55 w1 wr.heap.size u row bu) (hv : OwV strs 9 w1 wr.heap.size v texts bv) (hd : ∀ b ∈ bu, b ∉ bv) :
    ∃ Bm km Bo ko, Row w1 (w.heap.size + 1) 27 [.int .i64 L, .int .i64 0, .slice Bm mv.length km, .slice Bo out.length ko] ∧ w.heap.size + 1 ∉ blks (.slice Bm mv.length km) ∧ w.heap.size + 1 ∉ blks (.slice Bo out.length ko) ∧
      ∃ vs, (w1.alloc (.cells #[u] 51)).ownsRow (w.heap.size + 2) 51 1 (.slice Bm mv.length km) mv.length vs ∧
        ∀ (w2 : World) (g cap : Nat), (w1.alloc (.cells #[u] 51)).grownBy w2 (Value.slice Bm mv.length km).ownBlock → w2.ownsRow (w.heap.size + 2) 51 1 (.slice (some ⟨g, 0, none⟩) (mv.length + 1) cap) (mv.length + 1) (vs ++ [u]) → ((Value.slice Bm mv.length km).ownBlock = some g ∨ g = w1.heap.size + 1) →
          ∃ W3, W3 = w2.setCell ⟨w.heap.size + 1, 2, none⟩ (.slice (some ⟨g, 0, none⟩) (mv.length + 1) cap) ∧ w.heap.size + 2 ≤ W3.heap.size ∧ Row W3 (w.heap.size + 1) 27 [.int .i64 L, .int .i64 0, .slice (some ⟨g, 0, none⟩) (mv.length + 1) cap, .slice Bo out.length ko] ∧
            ∃ vs2, (W3.alloc (.cells #[v] 44)).ownsRow (w.heap.size + 2) 44 1 (.slice Bo out.length ko) out.length vs2 ∧
              ∀ (w5 : World) (g5 cap5 : Nat), (W3.alloc (.cells #[v] 44)).grownBy w5 (Value.slice Bo out.length ko).ownBlock → w5.ownsRow (w.heap.size + 2) 44 1 (.slice (some ⟨g5, 0, none⟩) (out.length + 1) cap5) (out.length + 1) (vs2 ++ [v]) → ((Value.slice Bo out.length ko).ownBlock = some g5 ∨ g5 = W3.heap.size + 1) →
                CwI w L (mv ++ [row]) (out ++ [texts]) (w5.setCell ⟨w.heap.size + 1, 3, none⟩ (.slice (some ⟨g5, 0, none⟩) (out.length + 1) cap5)) := by
  obtain ⟨bel, rz, vm, vo, bm, bo, ho, hm, hO, hdis⟩ := h
  obtain ⟨Bm, km, rfl⟩ := OwL.shape hm
  obtain ⟨Bo, ko, rfl⟩ := OwL.shape hO
  obtain ⟨vs, how, hbv, hnext⟩ := OwL.growP (goodP 55) hm
  have lpo := ho.lt
  have lbm : ∀ b ∈ bm, w.heap.size + 2 ≤ b ∧ b < wr.heap.size := fun b hb => goodMM.lt hm hb
  have lbo : ∀ b ∈ bo, w.heap.size + 2 ≤ b ∧ b < wr.heap.size := fun b hb => goodSO.lt hO hb
  have lbu : ∀ b ∈ bu, wr.heap.size ≤ b ∧ b < w1.heap.size := fun b hb => (goodP _).lt hu hb
  have lbv : ∀ b ∈ bv, wr.heap.size ≤ b ∧ b < w1.heap.size := fun b hb => (goodV strs _).lt hv hb
  have sw := hb.size
  have hkO : ∀ b ∈ blks (.slice Bo out.length ko), b ∈ bo := by
    obtain ⟨_, _, hk, _⟩ := OwL.growP (goodV strs 9) hO
    exact fun b hb => (hk b hb).1
  have n1 : w.heap.size + 1 ∉ blks (.slice Bm mv.length km) := fun hm => by have := (hbv _ hm).2.1; omega
  have n2 : w.heap.size + 1 ∉ blks (.slice Bo out.length ko) := fun hm => by have := (lbo _ (hkO _ hm)).1; omega
  refine ⟨Bm, km, Bo, ko, ho.below hb lpo, n1, n2, vs, rows_below how (below_step hb (below_alloc w1 _)), ?_⟩
  intro w2 g cap hg hown hat
  obtain ⟨bm', hm2, hs⟩ := hnext w1 u row bu hb ((goodP _).mono hu (by omega)) (fun c hc hm => by have := (lbm c hm).2; have := (lbu c hc).1; omega) _ w2 g _ cap hg hown hat
  have ba : Below w1.heap.size w1 (w1.alloc (.cells #[u] 51)) := below_alloc _ _
  have sa := ba.size
  have sg := hg.size
  have ro2 := grown_row hg ((ho.below hb lpo).below ba (by omega)) n1
  have rz2 := grown_row hg ((rz.below hb rz.lt).below ba (by have := rz.lt; omega)) (fun hm => by have := (hbv _ hm).2.1; omega)
  have hO2 := grown_keep goodSO hg (goodSO.below (goodSO.below hO hb) ba) (fun c hc hm' => hdis c (hbv c hm').1 hc)
  have hv2 := grown_keep (goodV strs 9) hg ((goodV strs 9).below hv ba) (fun c hc hm' => by have := (hbv c hm').2.2; have := (lbv c hc).1; omega)
  have bel1 : Below w.heap.size w (w1.alloc (.cells #[u] 51)) := below_step (below_step bel hb) ba
  have bel2 := bel1.trans (grown_below hg bel1.size (fun b hb => by have := (hbv b hb).2.1; omega))
  have hm3 := goodMM.under (a := ⟨w.heap.size + 1, 2, none⟩) hm2 (by show w.heap.size + 1 < _; omega) (.slice (some ⟨g, 0, none⟩) (mv.length + 1) cap)
  have hO3 := goodSO.under (a := ⟨w.heap.size + 1, 2, none⟩) hO2 (by show w.heap.size + 1 < _; omega) (.slice (some ⟨g, 0, none⟩) (mv.length + 1) cap)
  have hv3 := (goodV strs 9).under (a := ⟨w.heap.size + 1, 2, none⟩) hv2 (by show w.heap.size + 1 < _; omega) (.slice (some ⟨g, 0, none⟩) (mv.length + 1) cap)
  have ro3 := ro2.stored 2 (.slice (some ⟨g, 0, none⟩) (mv.length + 1) cap)
  have rz3 := rz2.other (a := ⟨w.heap.size + 1, 2, none⟩) (by show w.heap.size + 1 ≠ _; omega) (.slice (some ⟨g, 0, none⟩) (mv.length + 1) cap)
  have bel3 := bel2.setCell (p := ⟨w.heap.size + 1, 2, none⟩) (by show w.heap.size ≤ w.heap.size + 1; omega) (.slice (some ⟨g, 0, none⟩) (mv.length + 1) cap)
  obtain ⟨W3, hW3⟩ : ∃ W3, W3 = w2.setCell ⟨w.heap.size + 1, 2, none⟩ (.slice (some ⟨g, 0, none⟩) (mv.length + 1) cap) := ⟨_, rfl⟩
  have s3 : W3.heap.size = w2.heap.size := by rw [hW3]; simp
  rw [← hW3] at hm3 hO3 hv3 ro3 rz3 bel3
  have lm3 : ∀ b ∈ bm', b < W3.heap.size := fun b hb => (goodMM.lt hm3 hb).2
  obtain ⟨vs2, how2, hbv2, hnext2⟩ := OwL.growP (goodV strs 9) hO3
  have b4 : Below W3.heap.size W3 (W3.alloc (.cells #[v] 44)) := below_alloc _ _
  refine ⟨W3, hW3, by omega, ro3, vs2, rows_below how2 b4, ?_⟩
  intro w5 g5 cap5 hg5 hown5 hat5
  obtain ⟨bo', hO5, hs5⟩ := hnext2 W3 v texts bv (Below.refl _ _) ((goodV strs _).mono hv3 (by omega)) (fun c hc hm => by have := (lbo c hm).2; have := (lbv c hc).1; omega) _ w5 g5 _ cap5 hg5 hown5 hat5
  have lro := ro3.lt
  have ro5 := grown_row hg5 (ro3.below b4 lro) n2
  have rz5 := grown_row hg5 (rz3.below b4 rz3.lt) (fun hm => by have := (hbv2 _ hm).2.1; omega)
  have hm5 := grown_keep goodMM hg5 (goodMM.below hm3 b4) (fun c hc hm' => by
    have h1 := hkO c hm'
    rcases hs c hc with h | h | h
    · exact hdis c h h1
    · have := (lbu c h).1; have := (lbo c h1).2; omega
    · have := (lbo c h1).2; omega)
  have bel4 := below_step bel3 b4
  have bel5 := bel4.trans (grown_below hg5 bel4.size (fun b hb => by have := (hbv2 b hb).2.1; omega))
  refine ⟨bel5.setCell (p := ⟨w.heap.size + 1, 3, none⟩) (by show w.heap.size ≤ w.heap.size + 1; omega) _, rz5.other (a := ⟨w.heap.size + 1, 3, none⟩) (by show w.heap.size + 1 ≠ _; omega) _, _, _, bm', bo', ro5.stored 3 _, goodMM.under (a := ⟨w.heap.size + 1, 3, none⟩) hm5 (by show w.heap.size + 1 < _; omega) _, goodSO.under (a := ⟨w.heap.size + 1, 3, none⟩) hO5 (by show w.heap.size + 1 < _; omega) _, ?_⟩
  intro c hc hc2
  have l3 := lm3 c hc
  rcases hs c hc with h | h | h
  · rcases hs5 c hc2 with k | k | k
    · exact hdis c h k
    · have := (lbm c h).2; have := (lbv c k).1; omega
    · omega
  · rcases hs5 c hc2 with k | k | k
    · have := (lbu c h).1; have := (lbo c k).2; omega
    · exact hd c h k
    · omega
  · rcases hs5 c hc2 with k | k | k
    · have := (lbo c k).2; omega
    · have := (lbv c k).2; omega
    · omega

def dirOf (q : Nat) : Int := if q % 2 = 0 then 1 else -1
def endOf (S q : Nat) : Int × Int := if q + 1 = S then (-1, 0) else ((q : Int) + 1, -dirOf q)
theorem copy_row (l S q : Nat) (h1 : 1 ≤ l) (h2 : l ≤ 3) (hS : S % 2 = 1) : rowOf (copyG l S) (l + 2) q = passRow l q (dirOf q) (endOf S q) := by
  have hl : l = 1 ∨ l = 2 ∨ l = 3 := by omega
  rcases hl with rfl | rfl | rfl <;> by_cases hq : q % 2 = 0 <;> by_cases hs : q + 1 = S
  all_goals first
    | (exfalso; omega)
    | (have hq' : q % 2 = 1 := by omega
       simp [rowOf, List.range_succ, copyG, passRow, passM, dirOf, endOf, List.replicate, hq', hs])
    | simp [rowOf, List.range_succ, copyG, passRow, passM, dirOf, endOf, List.replicate, hq, hs]
theorem copy_texts (l q : Nat) (h1 : 1 ≤ l) (h2 : l ≤ 3) : rowS (copyO l) (l + 2) q = passOut l (decide (q % 2 = 0)) := by
  have hl : l = 1 ∨ l = 2 ∨ l = 3 := by omega
  rcases hl with rfl | rfl | rfl <;> by_cases hq : q % 2 = 0
  all_goals simp [rowS, List.range_succ, copyO, signT, passOut, passO, hq]
theorem okWr_copy (l s : Nat) (h1 : 1 ≤ l) (h2 : l ≤ 3) (h3 : s ≤ 11) (h4 : s % 2 = 1) : okWr (copyW l s) = true := by
  have hl : l = 1 ∨ l = 2 ∨ l = 3 := by omega
  have hs : s = 1 ∨ s = 3 ∨ s = 5 ∨ s = 7 ∨ s = 9 ∨ s = 11 := by omega
  rcases hl with rfl | rfl | rfl <;> rcases hs with rfl | rfl | rfl | rfl | rfl | rfl
  all_goals (clear h1 h2 h3 h4; first | kernel_rfl | rfl | decide)
theorem okWr_big (l s : Nat) (h : 12 < s) : okWr (copyW l s) = false := by
  have : ¬ ((tableOf (copyG l s) (l + 2) s).length : Int) ≤ 12 := by rw [tableOf_len]; omega
  simp [okWr, okT, WrData.t, copyW, this]

def toldWr (r : WrData) : WrData × Int := if okWr r = true then (r, 0) else (⟨0, 0, [], []⟩, 3)
def toldV (v : Value) (r : WrData) : Value := if okWr r = true then v else .agg #[.int .i64 0, .int .i64 0, .slice none 0 0, .slice none 0 0]
set_option maxHeartbeats 1600000 in
theorem l07Told_any (v : Value) (r : WrData) (w : World) (h : RdWr w v r) :
    Calls Try.prog 40 #[v] w fun e w' => e = .returned (.tuple #[toldV v r, .int .i64 (toldWr r).2]) ∧ Below w.heap.size w w' := by
  obtain ⟨A0, k0, A1, k1, rfl⟩ := h.shape
  have hx := (Row.new w [.int .i64 r.L, .int .i64 r.S, .slice A0 r.mv.length k0, .slice A1 r.out.length k1] 27).alloc (.cells #[.int .i64 0, .int .i64 0, .slice none 0 0, .slice none 0 0] 27)
  have hz := Row.new (w.alloc (.cells #[.int .i64 r.L, .int .i64 r.S, .slice A0 r.mv.length k0, .slice A1 r.out.length k1] 27)) [.int .i64 0, .int .i64 0, .slice none 0 0, .slice none 0 0] 27
  have HZ := Lib.hid (show Row _ (w.heap.size + 1) _ _ by simpa using hz)
  have HX := Lib.hid hx
  have HB := Lib.hid (below_step (below_alloc w (.cells #[.int .i64 r.L, .int .i64 r.S, .slice A0 r.mv.length k0, .slice A1 r.out.length k1] 27)) (below_alloc _ (.cells #[.int .i64 0, .int .i64 0, .slice none 0 0, .slice none 0 0] 27)))
  obtain ⟨vm, vo, hv, hm, ho⟩ := h
  have e1 : Value.slice A0 r.mv.length k0 = vm := by
    have := congrArg (fun x => match x with | .agg a => a[2]? | _ => none) hv
    simpa using this
  have e2 : Value.slice A1 r.out.length k1 = vo := by
    have := congrArg (fun x => match x with | .agg a => a[3]? | _ => none) hv
    simpa using this
  subst e1
  subst e2
  have HM := Lib.hid (fun W (hb : Below w.heap.size w W) => (show RdWr W (.agg #[.int .i64 r.L, .int .i64 r.S, .slice A0 r.mv.length k0, .slice A1 r.out.length k1]) r from ⟨_, _, rfl, keepsPP _ _ _ _ hm hb, keepsSS _ _ _ _ ho hb⟩))
  have HO := Lib.hid (fun W (hx : Row W w.heap.size 27 [.int .i64 r.L, .int .i64 r.S, .slice A0 r.mv.length k0, .slice A1 r.out.length k1]) (hb : Below w.heap.size w W) => l07Ok_any w.heap.size r W ⟨_, _, hx.four.1.1, hx.four.1.2.1, hx.four.1.2.2.1, hx.four.1.2.2.2, keepsPP _ _ _ _ hm hb, keepsSS _ _ _ _ ho hb⟩)
  clear hx hz hm ho hv
  cases hok : okWr r
  · rw [hok] at HO
    have HRES := Lib.hid (show toldWr r = (⟨0, 0, [], []⟩, 3) ∧ ∀ v, toldV v r = .agg #[.int .i64 0, .int .i64 0, .slice none 0 0, .slice none 0 0] from ⟨by rw [toldWr, hok]; rfl, fun v => by rw [toldV, hok]; rfl⟩)
    clear hok
    go_enter Try.func40, Try.ntmps40
    go_wp2_with fail
    refine (HO.out _ HX.out HB.out).mono ?_
    rintro e w1 ⟨rfl, hb1⟩
    have HB1 := Lib.hid (below_step HB.out hb1)
    have hz1 := HZ.out.below hb1 HZ.out.lt
    have HZ1 := Lib.hid hz1
    obtain ⟨⟨z0, z1, z2, z3⟩, zf⟩ := hz1.four
    have lz := hz1.lt
    clear hb1 hz1
    go_wp2
    obtain ⟨W2, hW2, ⟨y0, y1, y2, y3⟩, eO, eB⟩ := stored4Wr (w := w) HZ1.out (owWr_zero _ w.heap.size) (by simp) (by omega) HB1.out
    rw [← hW2]
    clear hW2
    refine bodyPost_ret (v := .tuple #[.agg #[.int .i64 0, .int .i64 0, .slice none 0 0, .slice none 0 0], .int .i64 3]) (by simp [results, Try.results40, go_sem, y0, y1, y2, y3]) rfl ?_
    rw [HRES.out.1, HRES.out.2]
    exact ⟨rfl, eB⟩
  · rw [hok] at HO
    have HRES := Lib.hid (show toldWr r = (r, 0) ∧ ∀ v, toldV v r = v from ⟨by rw [toldWr, hok]; rfl, fun v => by rw [toldV, hok]; rfl⟩)
    clear hok
    go_enter Try.func40, Try.ntmps40
    go_wp2_with fail
    refine (HO.out _ HX.out HB.out).mono ?_
    rintro e w1 ⟨rfl, hb1⟩
    have HB1 := Lib.hid (below_step HB.out hb1)
    have hz1 := HZ.out.below hb1 HZ.out.lt
    have HZ1 := Lib.hid hz1
    obtain ⟨⟨z0, z1, z2, z3⟩, zf⟩ := hz1.four
    obtain ⟨⟨x0, x1, x2, x3⟩, -⟩ := (HX.out.below hb1 HX.out.lt).four
    have lz := hz1.lt
    clear hb1 hz1
    go_wp2
    have rF := ((((HZ1.out.stored 0 (.int .i64 r.L)).stored 1 (.int .i64 r.S)).stored 2 (.slice A0 r.mv.length k0)).stored 3 (.slice A1 r.out.length k1))
    have eB := ((((HB1.out.setCell (p := ⟨w.heap.size + 1, 0, none⟩) (by show w.heap.size ≤ w.heap.size + 1; omega) (.int .i64 r.L)).setCell (p := ⟨w.heap.size + 1, 1, none⟩) (by show w.heap.size ≤ w.heap.size + 1; omega) (.int .i64 r.S)).setCell (p := ⟨w.heap.size + 1, 2, none⟩) (by show w.heap.size ≤ w.heap.size + 1; omega) (.slice A0 r.mv.length k0)).setCell (p := ⟨w.heap.size + 1, 3, none⟩) (by show w.heap.size ≤ w.heap.size + 1; omega) (.slice A1 r.out.length k1))
    generalize (((w1.setCell ⟨w.heap.size + 1, 0, none⟩ (.int .i64 r.L)).setCell ⟨w.heap.size + 1, 1, none⟩ (.int .i64 r.S)).setCell ⟨w.heap.size + 1, 2, none⟩ (.slice A0 r.mv.length k0)).setCell ⟨w.heap.size + 1, 3, none⟩ (.slice A1 r.out.length k1) = W2 at *
    obtain ⟨⟨y0, y1, y2, y3⟩, -⟩ := Row.four (a := .int .i64 r.L) (b := .int .i64 r.S) (c := .slice A0 r.mv.length k0) (d := .slice A1 r.out.length k1) rF
    refine bodyPost_ret (v := .tuple #[.agg #[.int .i64 r.L, .int .i64 r.S, .slice A0 r.mv.length k0, .slice A1 r.out.length k1], .int .i64 0]) (by simp [results, Try.results40, go_sem, y0, y1, y2, y3]) rfl ?_
    rw [HRES.out.1, HRES.out.2]
    exact ⟨rfl, eB⟩

theorem infoMs75 : (Try.prog.info? 51).map (fun i => (i.zero, i.size, i.bytes)) = some (some (.slice none 0 0), 1, 24) := by kernel_rfl
theorem copy_told (l s : Nat) (h1 : 1 ≤ l) (h2 : l ≤ 3) (h4 : s % 2 = 1) : toldWr (copyW l s) = if s ≤ 11 then (copyW l s, 0) else (⟨0, 0, [], []⟩, 3) := by
  by_cases h : s ≤ 11
  · rw [toldWr, okWr_copy l s h1 h2 h h4, if_pos rfl, if_pos h]
  · rw [toldWr, okWr_big l s (by omega), if_neg (by decide), if_neg h]

set_option maxRecDepth 100000 in
set_option maxHeartbeats 6400000 in
theorem specCopy_rd (L t : Int) (w : World) :
    Calls Try.prog 12 #[.int .i64 L, .int .i64 t] w fun e w' => ∃ u, e = .returned (.tuple #[u, .int .i64 (copyRes L t).2]) ∧ RdWr w' u (copyRes L t).1 ∧ Below w.heap.size w w' := by
  have HB0 := Lib.hid (below_alloc w (.cells #[.int .i64 0, .int .i64 0, .slice none 0 0, .slice none 0 0] 27))
  have HZ0 := Lib.hid (Row.new w [.int .i64 0, .int .i64 0, .slice none 0 0, .slice none 0 0] 27)
  have HV := Lib.hid (fun W => l00In_any L 1 3 W)
  by_cases hok : 1 ≤ L ∧ L ≤ 3
  · rw [decide_eq_true hok] at HV
    by_cases ht : 1 ≤ t
    · have ht' : decide (t < 1) = false := decide_eq_false (by omega)
      by_cases ht12 : t ≤ 12
      · have ht12' : ¬ 12 < t := by omega
        obtain ⟨isl, his, hzs0, hzs1, hzs2⟩ := info_parts infoMs75
        obtain ⟨iso, hio, hzo0, hzo1, hzo2⟩ := info_parts infoSo
        obtain ⟨l, rfl⟩ : ∃ l : Nat, L = l := ⟨L.toNat, by omega⟩
        obtain ⟨s, hs⟩ : ∃ s : Nat, 2 * t - 1 = (s : Int) := ⟨(2 * t - 1).toNat, by omega⟩
        have hs2 : 2 * t - 2 = (s : Int) - 1 := by omega
        have l1 : 1 ≤ (l : Int) := hok.1
        have l2 : (l : Int) ≤ 3 := hok.2
        have s1 : 1 ≤ s := by omega
        have s23 : s ≤ 23 := by omega
        have hoddS : s % 2 = 1 := by omega
        have HODD := Lib.hid hoddS
        have HRES := Lib.hid (show copyRes (l : Int) t = toldWr (copyW l s) by
          rw [copy_told l s (by omega) (by omega) hoddS, copyRes, if_pos ⟨hok, ht⟩, hs]
          by_cases h6 : t ≤ 6
          · rw [if_pos h6, if_pos (by omega)]; simp
          · rw [if_neg h6, if_neg (by omega)])
        have hI0 : CwI w (l : Int) [] [] ((w.alloc (.cells #[.int .i64 0, .int .i64 0, .slice none 0 0, .slice none 0 0] 27)).alloc (.cells #[.int .i64 (l : Int), .int .i64 0, .slice none 0 0, .slice none 0 0] 27)) := by
          have hx := Row.new (w.alloc (.cells #[.int .i64 0, .int .i64 0, .slice none 0 0, .slice none 0 0] 27)) [.int .i64 (l : Int), .int .i64 0, .slice none 0 0, .slice none 0 0] 27
          exact ⟨below_step HB0.out (below_alloc _ _), HZ0.out.alloc _, _, _, [], [], (show Row _ (w.heap.size + 1) _ _ by simpa using hx), owL_nil _ _ _ _, owL_nil _ _ _ _, by simp⟩
        have HI0 := Lib.hid hI0
        have HT2 := Lib.hid hs
        clear hI0 hok ht ht12 hoddS
        go_enter Try.func12, Try.ntmps12
        go_wp2_with (go_at_call 24; refine (HV.out _).mono ?_; rintro e w' ⟨rfl, rfl⟩)
        generalize (w.alloc (.cells #[.int .i64 0, .int .i64 0, .slice none 0 0, .slice none 0 0] 27)).alloc (.cells #[.int .i64 (l : Int), .int .i64 0, .slice none 0 0, .slice none 0 0] 27) = W0 at *
        go_loopw [7] (fun i wr => ∃ q : Nat, q ≤ s ∧ i = .int .i64 q ∧ CwI w (l : Int) (tableOf (copyG l s) (l + 2) q) (outTable (copyO l) (l + 2) q) wr) (fun i _ => s - (intOf i).toNat)
        case atStart => exact ⟨0, Nat.zero_le _, rfl, HI0.out⟩
        case round =>
          clear HI0
          obtain ⟨q, hq, rfl, hI⟩ := hrel
          have HI := Lib.hid hI
          clear hI
          have q0 : (0 : Int) ≤ q := by omega
          by_cases hlt : q < s
          · have q1 : (q : Int) < s := by omega
            have q23 : (q : Int) ≤ 22 := by omega
            have hodd := HODD.out
            by_cases hq2 : q % 2 = 0
            · have b1 : ((q : Int) % 2 == 1) = false := by rw [beq_eq_false_iff_ne]; omega
              have b0 : ((q : Int) % 2 == 0) = true := by rw [beq_iff_eq]; omega
              by_cases hqs : q + 1 = s
              · have be : ((q : Int) == (s : Int) - 1) = true := by rw [beq_iff_eq]; omega
                have HP := Lib.hid (l07Pass_own l q 1 true (-1, 0) (wr.alloc (.cells #[.int .i64 (-1), .int .i64 0] 55)) (by omega))
                have HROW := Lib.hid (show rowOf (copyG l s) (l + 2) q = passRow l q 1 (-1, 0) by rw [copy_row l s q (by omega) (by omega) hodd]; simp [dirOf, endOf, hq2, hqs])
                have HTXT := Lib.hid (show rowS (copyO l) (l + 2) q = passOut l true by rw [copy_texts l q (by omega) (by omega)]; simp [hq2])
                clear hq2 hqs hodd
                go_wp2_with fail
                refine HP.out.mono ?_
                rintro e w1 ⟨u, v, rfl, hu, hv, hd, hb1⟩
                have hba := below_alloc wr (.cells #[.int .i64 (-1), .int .i64 0] 55)
                have hsa : wr.heap.size ≤ (wr.alloc (.cells #[.int .i64 (-1), .int .i64 0] 55)).heap.size := hba.size
                have HC := Lib.hid (HI.out.both (below_step hba hb1) ((goodP 55).mono hu hsa) ((goodV strs 9).mono hv hsa) hd)
                obtain ⟨M, m, rfl⟩ := RdP.shape hu.rd
                obtain ⟨O, o, rfl⟩ := owS_shape hv
                have hsw : w.heap.size + 2 ≤ w1.heap.size := by
                  obtain ⟨_, _, _, _, hx, _⟩ := HI.out.box
                  have := hx.lt; have := hb1.size; omega
                clear hu hv hd hb1 hba
                obtain ⟨Bm, km, Bo, ko, hrow, n1, n2, vs, hown, hnext⟩ := HC.out
                rw [tableOf_len, outTable_len] at hrow
                rw [tableOf_len] at n1 hown hnext
                rw [outTable_len] at n2
                have HN := Lib.hid hnext
                have HOW := Lib.hid hown
                have HN2 := Lib.hid n2
                have lpo := hrow.lt
                have hf2 := hrow.free 2
                have hf3 := hrow.free 3
                obtain ⟨⟨o0, o1, o2, o3⟩, -⟩ := hrow.four
                clear hnext hown hrow HC n2
                go_wp2_with (at_builtin; first
                    | (refine wpList_append_lies _ rfl _ _ 22 rfl (w.heap.size + 2) 51 isl (.slice none 0 0) 1 24 Try.underlying22 his hzs0 hzs1 hzs2 rfl (by decide) (.slice Bm q km) q _ rfl HOW.out ⟨w1.heap.size, 0, none⟩ 1 1 [.slice M (passRow l q 1 (-1, 0)).length m] rfl rfl (World.news_of_block (cs := #[.slice M (passRow l q 1 (-1, 0)).length m]) (t := 51) (fr := (0, 0)) (heap_alloc_new w1 _)) (by simp [Value.oneCell']) (by omega) (by unfold maxLen; omega) (by omega) (by simp; omega) (w1.heap.size + 1) (by simp) ?_; intro g cap w2 hown1 hgrow hat hlt2; have p1 := grown_cell hgrow n1 (below_keep (below_alloc _ _) o2); have p2 := grown_free hgrow n1 (by simp; omega) (below_keepf (below_alloc _ _) lpo hf2); have p3 := grown_cell hgrow n1 (below_keep (below_alloc _ _) o3); have p4 := grown_free hgrow n1 (by simp; omega) (below_keepf (below_alloc _ _) lpo hf3); obtain ⟨W3, hW3, hs3, hrow3, vs2, hown2, hnext2⟩ := HN.out w2 g cap hgrow hown1 hat; subst hW3; rw [outTable_len] at hrow3 hown2 hnext2; have HOW2 := Lib.hid hown2; have HNX := Lib.hid hnext2; have HR3 := Lib.hid hrow3; have hs3' : w.heap.size + 2 ≤ w2.heap.size := by simpa using hs3)
                    | (refine wpList_append_lies _ rfl _ _ 25 rfl (w.heap.size + 2) 44 iso (.slice none 0 0) 1 24 Try.underlying25 hio hzo0 hzo1 hzo2 rfl (by decide) (.slice Bo q ko) q _ rfl HOW2.out ⟨w2.heap.size, 0, none⟩ 1 1 [.slice O (passOut l true).length o] rfl rfl (World.news_of_block (cs := #[.slice O (passOut l true).length o]) (t := 44) (fr := (0, 0)) (by simpa using heap_alloc_new (w2.setCell ⟨w.heap.size + 1, 2, none⟩ (.slice (some ⟨g, 0, none⟩) (q + 1) cap)) (.cells #[.slice O (passOut l true).length o] 44))) (by simp [Value.oneCell']) (by omega) (by unfold maxLen; omega) (by omega) (by simp; omega) (w2.heap.size + 1) (by simp) ?_; intro g5 cap5 w5 hown5 hgrow5 hat5 hlt5; have p5 := grown_cell hgrow5 HN2.out (below_keep (below_alloc _ _) HR3.out.four.1.2.2.2); have p6 := grown_free hgrow5 HN2.out (by simp; omega) (below_keepf (below_alloc _ _) HR3.out.lt (HR3.out.free 3)); have HR := Lib.hid (HNX.out w5 g5 cap5 hgrow5 hown5 (by simpa using hat5)); clear hown5 hgrow5 hat5))
                go_roundw
                case rel => exact ⟨q + 1, by omega, by go_num, by rw [tableOf_succ, outTable_succ, HROW.out, HTXT.out]; exact HR.out⟩
                case measure => simp [intOf]; omega
              · have be : ((q : Int) == (s : Int) - 1) = false := by rw [beq_eq_false_iff_ne]; omega
                have HP := Lib.hid (l07Pass_own l q 1 true ((q : Int) + 1, -1) (wr.alloc (.cells #[.int .i64 ((q : Int) + 1), .int .i64 (-1)] 55)) (by omega))
                have HROW := Lib.hid (show rowOf (copyG l s) (l + 2) q = passRow l q 1 ((q : Int) + 1, -1) by rw [copy_row l s q (by omega) (by omega) hodd]; simp [dirOf, endOf, hq2, hqs])
                have HTXT := Lib.hid (show rowS (copyO l) (l + 2) q = passOut l true by rw [copy_texts l q (by omega) (by omega)]; simp [hq2])
                clear hq2 hqs hodd
                go_wp2_with fail
                refine HP.out.mono ?_
                rintro e w1 ⟨u, v, rfl, hu, hv, hd, hb1⟩
                have hba := below_alloc wr (.cells #[.int .i64 ((q : Int) + 1), .int .i64 (-1)] 55)
                have hsa : wr.heap.size ≤ (wr.alloc (.cells #[.int .i64 ((q : Int) + 1), .int .i64 (-1)] 55)).heap.size := hba.size
                have HC := Lib.hid (HI.out.both (below_step hba hb1) ((goodP 55).mono hu hsa) ((goodV strs 9).mono hv hsa) hd)
                obtain ⟨M, m, rfl⟩ := RdP.shape hu.rd
                obtain ⟨O, o, rfl⟩ := owS_shape hv
                have hsw : w.heap.size + 2 ≤ w1.heap.size := by
                  obtain ⟨_, _, _, _, hx, _⟩ := HI.out.box
                  have := hx.lt; have := hb1.size; omega
                clear hu hv hd hb1 hba
                obtain ⟨Bm, km, Bo, ko, hrow, n1, n2, vs, hown, hnext⟩ := HC.out
                rw [tableOf_len, outTable_len] at hrow
                rw [tableOf_len] at n1 hown hnext
                rw [outTable_len] at n2
                have HN := Lib.hid hnext
                have HOW := Lib.hid hown
                have HN2 := Lib.hid n2
                have lpo := hrow.lt
                have hf2 := hrow.free 2
                have hf3 := hrow.free 3
                obtain ⟨⟨o0, o1, o2, o3⟩, -⟩ := hrow.four
                clear hnext hown hrow HC n2
                go_wp2_with (at_builtin; first
                    | (refine wpList_append_lies _ rfl _ _ 22 rfl (w.heap.size + 2) 51 isl (.slice none 0 0) 1 24 Try.underlying22 his hzs0 hzs1 hzs2 rfl (by decide) (.slice Bm q km) q _ rfl HOW.out ⟨w1.heap.size, 0, none⟩ 1 1 [.slice M (passRow l q 1 ((q : Int) + 1, -1)).length m] rfl rfl (World.news_of_block (cs := #[.slice M (passRow l q 1 ((q : Int) + 1, -1)).length m]) (t := 51) (fr := (0, 0)) (heap_alloc_new w1 _)) (by simp [Value.oneCell']) (by omega) (by unfold maxLen; omega) (by omega) (by simp; omega) (w1.heap.size + 1) (by simp) ?_; intro g cap w2 hown1 hgrow hat hlt2; have p1 := grown_cell hgrow n1 (below_keep (below_alloc _ _) o2); have p2 := grown_free hgrow n1 (by simp; omega) (below_keepf (below_alloc _ _) lpo hf2); have p3 := grown_cell hgrow n1 (below_keep (below_alloc _ _) o3); have p4 := grown_free hgrow n1 (by simp; omega) (below_keepf (below_alloc _ _) lpo hf3); obtain ⟨W3, hW3, hs3, hrow3, vs2, hown2, hnext2⟩ := HN.out w2 g cap hgrow hown1 hat; subst hW3; rw [outTable_len] at hrow3 hown2 hnext2; have HOW2 := Lib.hid hown2; have HNX := Lib.hid hnext2; have HR3 := Lib.hid hrow3; have hs3' : w.heap.size + 2 ≤ w2.heap.size := by simpa using hs3)
                    | (refine wpList_append_lies _ rfl _ _ 25 rfl (w.heap.size + 2) 44 iso (.slice none 0 0) 1 24 Try.underlying25 hio hzo0 hzo1 hzo2 rfl (by decide) (.slice Bo q ko) q _ rfl HOW2.out ⟨w2.heap.size, 0, none⟩ 1 1 [.slice O (passOut l true).length o] rfl rfl (World.news_of_block (cs := #[.slice O (passOut l true).length o]) (t := 44) (fr := (0, 0)) (by simpa using heap_alloc_new (w2.setCell ⟨w.heap.size + 1, 2, none⟩ (.slice (some ⟨g, 0, none⟩) (q + 1) cap)) (.cells #[.slice O (passOut l true).length o] 44))) (by simp [Value.oneCell']) (by omega) (by unfold maxLen; omega) (by omega) (by simp; omega) (w2.heap.size + 1) (by simp) ?_; intro g5 cap5 w5 hown5 hgrow5 hat5 hlt5; have p5 := grown_cell hgrow5 HN2.out (below_keep (below_alloc _ _) HR3.out.four.1.2.2.2); have p6 := grown_free hgrow5 HN2.out (by simp; omega) (below_keepf (below_alloc _ _) HR3.out.lt (HR3.out.free 3)); have HR := Lib.hid (HNX.out w5 g5 cap5 hgrow5 hown5 (by simpa using hat5)); clear hown5 hgrow5 hat5))
                go_roundw
                case rel => exact ⟨q + 1, by omega, by go_num, by rw [tableOf_succ, outTable_succ, HROW.out, HTXT.out]; exact HR.out⟩
                case measure => simp [intOf]; omega
            · have b1 : ((q : Int) % 2 == 1) = true := by rw [beq_iff_eq]; omega
              have b0 : ((q : Int) % 2 == 0) = false := by rw [beq_eq_false_iff_ne]; omega
              have hqs : ¬ q + 1 = s := by omega
              have be : ((q : Int) == (s : Int) - 1) = false := by rw [beq_eq_false_iff_ne]; omega
              have HP := Lib.hid (l07Pass_own l q (-1) false ((q : Int) + 1, 1) (wr.alloc (.cells #[.int .i64 ((q : Int) + 1), .int .i64 1] 55)) (by omega))
              have HROW := Lib.hid (show rowOf (copyG l s) (l + 2) q = passRow l q (-1) ((q : Int) + 1, 1) by rw [copy_row l s q (by omega) (by omega) hodd]; simp [dirOf, endOf, hq2, hqs])
              have HTXT := Lib.hid (show rowS (copyO l) (l + 2) q = passOut l false by rw [copy_texts l q (by omega) (by omega)]; simp [hq2])
              clear hq2 hqs hodd
              go_wp2_with fail
              refine HP.out.mono ?_
              rintro e w1 ⟨u, v, rfl, hu, hv, hd, hb1⟩
              have hba := below_alloc wr (.cells #[.int .i64 ((q : Int) + 1), .int .i64 1] 55)
              have hsa : wr.heap.size ≤ (wr.alloc (.cells #[.int .i64 ((q : Int) + 1), .int .i64 1] 55)).heap.size := hba.size
              have HC := Lib.hid (HI.out.both (below_step hba hb1) ((goodP 55).mono hu hsa) ((goodV strs 9).mono hv hsa) hd)
              obtain ⟨M, m, rfl⟩ := RdP.shape hu.rd
              obtain ⟨O, o, rfl⟩ := owS_shape hv
              have hsw : w.heap.size + 2 ≤ w1.heap.size := by
                obtain ⟨_, _, _, _, hx, _⟩ := HI.out.box
                have := hx.lt; have := hb1.size; omega
              clear hu hv hd hb1 hba
              obtain ⟨Bm, km, Bo, ko, hrow, n1, n2, vs, hown, hnext⟩ := HC.out
              rw [tableOf_len, outTable_len] at hrow
              rw [tableOf_len] at n1 hown hnext
              rw [outTable_len] at n2
              have HN := Lib.hid hnext
              have HOW := Lib.hid hown
              have HN2 := Lib.hid n2
              have lpo := hrow.lt
              have hf2 := hrow.free 2
              have hf3 := hrow.free 3
              obtain ⟨⟨o0, o1, o2, o3⟩, -⟩ := hrow.four
              clear hnext hown hrow HC n2
              go_wp2_with (at_builtin; first
                  | (refine wpList_append_lies _ rfl _ _ 22 rfl (w.heap.size + 2) 51 isl (.slice none 0 0) 1 24 Try.underlying22 his hzs0 hzs1 hzs2 rfl (by decide) (.slice Bm q km) q _ rfl HOW.out ⟨w1.heap.size, 0, none⟩ 1 1 [.slice M (passRow l q (-1) ((q : Int) + 1, 1)).length m] rfl rfl (World.news_of_block (cs := #[.slice M (passRow l q (-1) ((q : Int) + 1, 1)).length m]) (t := 51) (fr := (0, 0)) (heap_alloc_new w1 _)) (by simp [Value.oneCell']) (by omega) (by unfold maxLen; omega) (by omega) (by simp; omega) (w1.heap.size + 1) (by simp) ?_; intro g cap w2 hown1 hgrow hat hlt2; have p1 := grown_cell hgrow n1 (below_keep (below_alloc _ _) o2); have p2 := grown_free hgrow n1 (by simp; omega) (below_keepf (below_alloc _ _) lpo hf2); have p3 := grown_cell hgrow n1 (below_keep (below_alloc _ _) o3); have p4 := grown_free hgrow n1 (by simp; omega) (below_keepf (below_alloc _ _) lpo hf3); obtain ⟨W3, hW3, hs3, hrow3, vs2, hown2, hnext2⟩ := HN.out w2 g cap hgrow hown1 hat; subst hW3; rw [outTable_len] at hrow3 hown2 hnext2; have HOW2 := Lib.hid hown2; have HNX := Lib.hid hnext2; have HR3 := Lib.hid hrow3; have hs3' : w.heap.size + 2 ≤ w2.heap.size := by simpa using hs3)
                  | (refine wpList_append_lies _ rfl _ _ 25 rfl (w.heap.size + 2) 44 iso (.slice none 0 0) 1 24 Try.underlying25 hio hzo0 hzo1 hzo2 rfl (by decide) (.slice Bo q ko) q _ rfl HOW2.out ⟨w2.heap.size, 0, none⟩ 1 1 [.slice O (passOut l false).length o] rfl rfl (World.news_of_block (cs := #[.slice O (passOut l false).length o]) (t := 44) (fr := (0, 0)) (by simpa using heap_alloc_new (w2.setCell ⟨w.heap.size + 1, 2, none⟩ (.slice (some ⟨g, 0, none⟩) (q + 1) cap)) (.cells #[.slice O (passOut l false).length o] 44))) (by simp [Value.oneCell']) (by omega) (by unfold maxLen; omega) (by omega) (by simp; omega) (w2.heap.size + 1) (by simp) ?_; intro g5 cap5 w5 hown5 hgrow5 hat5 hlt5; have p5 := grown_cell hgrow5 HN2.out (below_keep (below_alloc _ _) HR3.out.four.1.2.2.2); have p6 := grown_free hgrow5 HN2.out (by simp; omega) (below_keepf (below_alloc _ _) HR3.out.lt (HR3.out.free 3)); have HR := Lib.hid (HNX.out w5 g5 cap5 hgrow5 hown5 (by simpa using hat5)); clear hown5 hgrow5 hat5))
              go_roundw
              case rel => exact ⟨q + 1, by omega, by go_num, by rw [tableOf_succ, outTable_succ, HROW.out, HTXT.out]; exact HR.out⟩
              case measure => simp [intOf]; omega
          · obtain rfl : q = s := by omega
            have q1 : ¬ (q : Int) < (q : Int) := by omega
            obtain ⟨vm, vo, bm, bo, hbx, hm, ho, -⟩ := HI.out.box
            obtain ⟨Am, km, rfl⟩ := OwL.shape hm
            obtain ⟨Ao, ko, rfl⟩ := OwL.shape ho
            have HRW := Lib.hid (show RdWr wr (.agg #[.int .i64 (l : Int), .int .i64 0, .slice Am (tableOf (copyG l q) (l + 2) q).length km, .slice Ao (outTable (copyO l) (l + 2) q).length ko]) (copyW l q) from ⟨_, _, rfl, OwL.rd (fun h => h.rd) hm, OwL.rd (fun h => h.1.rd) ho⟩)
            have HT := Lib.hid (l07Told_any _ _ _ HRW.out)
            have HMO := Lib.hid (show _ ∧ _ from ⟨hm, ho⟩)
            obtain ⟨⟨x0, x1, x2, x3⟩, -⟩ := hbx.four
            have hlw := HI.out.rz.lt
            clear hm ho hbx
            by_cases h11 : q ≤ 11
            · have hok := okWr_copy l q (by omega) (by omega) h11 HODD.out
              have ev : ∀ v, toldV v (copyW l q) = v := fun v => by rw [toldV, hok, if_pos rfl]
              have ec : toldWr (copyW l q) = (copyW l q, 0) := by rw [toldWr, hok, if_pos rfl]
              rw [ev, ec] at HT
              rw [ec] at HRES
              clear ev ec hok h11
              go_wp2_with fail
              refine HT.out.mono ?_
              rintro e w1 ⟨rfl, hb1⟩
              have HB1 := Lib.hid (below_step HI.out.bel hb1)
              have hz1 := HI.out.rz.below hb1 HI.out.rz.lt
              have HZ1 := Lib.hid hz1
              have HMO1 := Lib.hid (show _ ∧ _ from ⟨goodMM.below HMO.out.1 hb1, goodSO.below HMO.out.2 hb1⟩)
              obtain ⟨⟨z0, z1, z2, z3⟩, zf⟩ := hz1.four
              have lz := hz1.lt
              clear hb1 hz1
              go_wp2
              have rF := ((((HZ1.out.stored 0 (.int .i64 (l : Int))).stored 1 (.int .i64 0)).stored 2 (.slice Am (tableOf (copyG l q) (l + 2) q).length km)).stored 3 (.slice Ao (outTable (copyO l) (l + 2) q).length ko))
              have eB := ((((HB1.out.setCell (p := ⟨w.heap.size, 0, none⟩) (Nat.le_refl _) (.int .i64 (l : Int))).setCell (p := ⟨w.heap.size, 1, none⟩) (Nat.le_refl _) (.int .i64 0)).setCell (p := ⟨w.heap.size, 2, none⟩) (Nat.le_refl _) (.slice Am (tableOf (copyG l q) (l + 2) q).length km)).setCell (p := ⟨w.heap.size, 3, none⟩) (Nat.le_refl _) (.slice Ao (outTable (copyO l) (l + 2) q).length ko))
              have eM := goodMM.under (a := ⟨w.heap.size, 3, none⟩) (goodMM.under (a := ⟨w.heap.size, 2, none⟩) (goodMM.under (a := ⟨w.heap.size, 1, none⟩) (goodMM.under (a := ⟨w.heap.size, 0, none⟩) HMO1.out.1 (by show w.heap.size < _; omega) (.int .i64 (l : Int))) (by show w.heap.size < _; omega) (.int .i64 0)) (by show w.heap.size < _; omega) (.slice Am (tableOf (copyG l q) (l + 2) q).length km)) (by show w.heap.size < _; omega) (.slice Ao (outTable (copyO l) (l + 2) q).length ko)
              have eS := goodSO.under (a := ⟨w.heap.size, 3, none⟩) (goodSO.under (a := ⟨w.heap.size, 2, none⟩) (goodSO.under (a := ⟨w.heap.size, 1, none⟩) (goodSO.under (a := ⟨w.heap.size, 0, none⟩) HMO1.out.2 (by show w.heap.size < _; omega) (.int .i64 (l : Int))) (by show w.heap.size < _; omega) (.int .i64 0)) (by show w.heap.size < _; omega) (.slice Am (tableOf (copyG l q) (l + 2) q).length km)) (by show w.heap.size < _; omega) (.slice Ao (outTable (copyO l) (l + 2) q).length ko)
              generalize (((w1.setCell ⟨w.heap.size, 0, none⟩ (.int .i64 (l : Int))).setCell ⟨w.heap.size, 1, none⟩ (.int .i64 0)).setCell ⟨w.heap.size, 2, none⟩ (.slice Am (tableOf (copyG l q) (l + 2) q).length km)).setCell ⟨w.heap.size, 3, none⟩ (.slice Ao (outTable (copyO l) (l + 2) q).length ko) = W2 at *
              obtain ⟨⟨y0, y1, y2, y3⟩, -⟩ := Row.four (a := .int .i64 (l : Int)) (b := .int .i64 0) (c := .slice Am (tableOf (copyG l q) (l + 2) q).length km) (d := .slice Ao (outTable (copyO l) (l + 2) q).length ko) rF
              refine bodyPost_ret (v := .tuple #[.agg #[.int .i64 (l : Int), .int .i64 0, .slice Am (tableOf (copyG l q) (l + 2) q).length km, .slice Ao (outTable (copyO l) (l + 2) q).length ko], .int .i64 0]) (by simp [results, Try.results12, go_sem, y0, y1, y2, y3]) rfl ?_
              rw [HRES.out]
              exact ⟨_, rfl, ⟨_, _, rfl, OwL.rd (fun h => h.rd) eM, OwL.rd (fun h => h.1.rd) eS⟩, eB⟩
            · have hok := okWr_big l q (by have := HODD.out; omega)
              have ev : ∀ v, toldV v (copyW l q) = .agg #[.int .i64 0, .int .i64 0, .slice none 0 0, .slice none 0 0] := fun v => by rw [toldV, hok, if_neg (by decide)]
              have ec : toldWr (copyW l q) = (⟨0, 0, [], []⟩, 3) := by rw [toldWr, hok, if_neg (by decide)]
              rw [ev, ec] at HT
              rw [ec] at HRES
              clear ev ec hok h11
              go_wp2_with fail
              refine HT.out.mono ?_
              rintro e w1 ⟨rfl, hb1⟩
              have HB1 := Lib.hid (below_step HI.out.bel hb1)
              have hz1 := HI.out.rz.below hb1 HI.out.rz.lt
              have HZ1 := Lib.hid hz1
              obtain ⟨⟨z0, z1, z2, z3⟩, zf⟩ := hz1.four
              have lz := hz1.lt
              clear hb1 hz1
              go_wp2
              obtain ⟨W2, hW2, ⟨y0, y1, y2, y3⟩, eO, eB⟩ := stored4Wr (w := w) HZ1.out (owWr_zero _ w.heap.size) (by simp) (by omega) HB1.out
              rw [← hW2]
              clear hW2
              refine bodyPost_ret (v := .tuple #[.agg #[.int .i64 0, .int .i64 0, .slice none 0 0, .slice none 0 0], .int .i64 3]) (by simp [results, Try.results12, go_sem, y0, y1, y2, y3]) rfl ?_
              rw [HRES.out]
              exact ⟨_, rfl, eO.rd, eB⟩
      · have ht12' : 12 < t := by omega
        have HRES := Lib.hid (show copyRes L t = (⟨0, 0, [], []⟩, 3) by rw [copyRes, if_pos ⟨hok, ht⟩, if_neg (by omega)])
        clear hok ht12
        obtain ⟨⟨z0, z1, z2, z3⟩, zf⟩ := HZ0.out.four
        have lz := HZ0.out.lt
        go_enter Try.func12, Try.ntmps12
        go_wp2_with (go_at_call 24; refine (HV.out _).mono ?_; rintro e w' ⟨rfl, rfl⟩)
        refine bodyPost_ret (v := .tuple #[.agg #[.int .i64 0, .int .i64 0, .slice none 0 0, .slice none 0 0], .int .i64 3]) (by simp [results, Try.results12, go_sem, z0, z1, z2, z3]) rfl ?_
        rw [HRES.out]
        exact ⟨_, rfl, (owWr_zero _ 0).rd, HB0.out⟩
    · have ht' : decide (t < 1) = true := decide_eq_true (by omega)
      have HRES := Lib.hid (show copyRes L t = (⟨0, 0, [], []⟩, 2) by rw [copyRes, if_neg (fun h => ht h.2)])
      clear hok ht
      obtain ⟨⟨z0, z1, z2, z3⟩, zf⟩ := HZ0.out.four
      have lz := HZ0.out.lt
      go_enter Try.func12, Try.ntmps12
      go_wp2_with (go_at_call 24; refine (HV.out _).mono ?_; rintro e w' ⟨rfl, rfl⟩)
      refine bodyPost_ret (v := .tuple #[.agg #[.int .i64 0, .int .i64 0, .slice none 0 0, .slice none 0 0], .int .i64 2]) (by simp [results, Try.results12, go_sem, z0, z1, z2, z3]) rfl ?_
      rw [HRES.out]
      exact ⟨_, rfl, (owWr_zero _ 0).rd, HB0.out⟩
  · rw [decide_eq_false hok] at HV
    have HRES := Lib.hid (show copyRes L t = (⟨0, 0, [], []⟩, 2) by rw [copyRes, if_neg (fun h => hok h.1)])
    clear hok
    obtain ⟨⟨z0, z1, z2, z3⟩, zf⟩ := HZ0.out.four
    have lz := HZ0.out.lt
    go_enter Try.func12, Try.ntmps12
    go_wp2_with (go_at_call 24; refine (HV.out _).mono ?_; rintro e w' ⟨rfl, rfl⟩)
    refine bodyPost_ret (v := .tuple #[.agg #[.int .i64 0, .int .i64 0, .slice none 0 0, .slice none 0 0], .int .i64 2]) (by simp [results, Try.results12, go_sem, z0, z1, z2, z3]) rfl ?_
    rw [HRES.out]
    exact ⟨_, rfl, (owWr_zero _ 0).rd, HB0.out⟩
end Go.Proofs.Ytahgekjpnmmooaa
