/-
  ManyOf: what it is; an automaton that is being made in a box, with its starts and accepting states done; and what a drawn region has made so far.
-/
import Derived.Test.YtcofcgijlbppkaaBM
import Derived.Test.YtcofcgijlbppkaaMem1
import Derived.Test.YtcofcgijlbppkaaOpp
namespace Go.Proofs.Ytcofcgijlbppkaa
open Go.RowKit

def wideR (x : List Int) : List (List Int) := x.map fun t => [t]
def manyR (r : RData) : MData := ⟨r.L, [r.S], r.acc, r.next.map wideR⟩
def manyOfRes (r : RData) : MData × Int := if okR r = true then (if r.acc.length ≤ 10 then (manyR r, 0) else (⟨0, [], [], []⟩, 3)) else (⟨0, [], [], []⟩, 1)
theorem wideR_len (x : List Int) : (wideR x).length = x.length := by simp [wideR]

/-- An automaton that is being made in a box, and the result's box. -/
structure MofI (w wr : World) (pr po lo : Nat) (L : Int) (st : List Int) (acc : List Bool) (sv av vm : Value) (ys : List (List (List Int))) : Prop where
  bel : Below w.heap.size w wr
  rp : w.heap.size ≤ pr
  res : Row wr pr 30 [.int .i64 0, .slice none 0 0, .slice none 0 0, .slice none 0 0]
  box : Row wr po 30 [.int .i64 L, sv, av, vm]
  fx : ∃ bs ba, OwV ints 2 wr w.heap.size sv st bs ∧ OwV bools 4 wr w.heap.size av acc ba ∧ (bs ++ ba).Nodup ∧ (∀ b ∈ bs, b ≠ pr ∧ b ≠ po ∧ b < lo) ∧ (∀ b ∈ ba, b ≠ pr ∧ b ≠ po ∧ b < lo)
  nx : ∃ bn, OwLL wr lo vm ys bn
  ne : pr ≠ po
  lp : w.heap.size ≤ po
  lt1 : pr < lo
  lt2 : po < lo
  lt3 : lo ≤ wr.heap.size
theorem MofI.below {w wr w' : World} {pr po lo : Nat} {L : Int} {st : List Int} {acc : List Bool} {sv av vm : Value} {ys : List (List (List Int))} (h : MofI w wr pr po lo L st acc sv av vm ys) (hb : Below wr.heap.size wr w') : MofI w w' pr po lo L st acc sv av vm ys where
  bel := below_step h.bel hb
  rp := h.rp
  res := h.res.below hb h.res.lt
  box := h.box.below hb h.box.lt
  fx := by
    obtain ⟨bs, ba, h1, h2, h3, h4, h5⟩ := h.fx
    exact ⟨bs, ba, (goodV ints _).below h1 hb, (goodV bools _).below h2 hb, h3, h4, h5⟩
  nx := by
    obtain ⟨bn, h1⟩ := h.nx
    exact ⟨bn, goodLL.below h1 hb⟩
  ne := h.ne
  lp := h.lp
  lt1 := h.lt1
  lt2 := h.lt2
  lt3 := Nat.le_trans h.lt3 hb.size
/-- One row more. -/
theorem MofI.grow {w wr : World} {pr po lo : Nat} {L : Int} {st : List Int} {acc : List Bool} {sv av vm : Value} {ys : List (List (List Int))} (h : MofI w wr pr po lo L st acc sv av vm ys) :
    (∃ B c, vm = .slice B ys.length c) ∧ po ∉ blks vm ∧ ∃ vs, wr.ownsRow lo 23 1 vm ys.length vs ∧ (∀ b ∈ blks vm, lo ≤ b ∧ b < wr.heap.size) ∧ ∀ (w1 : World) (u0 : Value) (x0 : List (List Int)) (b0 : List Nat), Below wr.heap.size wr w1 → OwL (OwV ints 2) 27 w1 wr.heap.size u0 x0 b0 →
      ∀ (o : Obj) (w2 : World) (g m cap : Nat), (w1.alloc o).grownBy w2 vm.ownBlock → w2.ownsRow lo 23 1 (.slice (some ⟨g, 0, none⟩) m cap) (ys.length + 1) (vs ++ [u0]) → (vm.ownBlock = some g ∨ g = w1.heap.size + 1) →
        MofI w (w2.setCell ⟨po, 3, none⟩ (.slice (some ⟨g, 0, none⟩) m cap)) pr po lo L st acc sv av (.slice (some ⟨g, 0, none⟩) m cap) (ys ++ [x0]) := by
  obtain ⟨bn, hO⟩ := h.nx
  obtain ⟨B, c, hvm⟩ := OwL.shape hO
  have hG := goodL (goodV ints 2) 27
  obtain ⟨vs, how, hbv, hnext⟩ := OwL.grow hG hO
  refine ⟨⟨B, c, hvm⟩, fun hm => by have := (hbv _ hm).1; have := h.lt2; omega, vs, how, hbv, ?_⟩
  intro w1 u0 x0 b0 hb hu o w2 g m cap hg hown hat
  have hl3 := h.lt3
  have hlt1 := h.lt1
  have hlt2 := h.lt2
  have hlp := h.lp
  obtain ⟨bs', hO'⟩ := hnext w1 u0 x0 b0 hb (hG.mono hu hl3) (fun c hc => (hG.lt hu hc).1) o w2 g m cap hg hown hat
  have hI1 := (h.below hb).below (below_alloc w1 o)
  have hpo : po ∉ blks vm := fun hm => by have := (hbv _ hm).1; omega
  have hsz := hg.size
  have hszb := hb.size
  have hBw : Below w.heap.size w w2 := hI1.bel.trans (grown_below hg hI1.bel.size (fun b hb => by have := (hbv b hb).1; omega))
  obtain ⟨bs, ba, hst, hac, hnd, hg1, hg2⟩ := hI1.fx
  have hresn : pr ∉ blks vm := fun hm => by have := (hbv _ hm).1; omega
  refine ⟨hBw.setCell (p := ⟨po, 3, none⟩) (by show w.heap.size ≤ po; omega) _, h.rp, (grown_row hg hI1.res hresn).other (by show po ≠ _; exact fun e => h.ne e.symm) _, (grown_row hg hI1.box hpo).stored 3 _, ⟨bs, ba, ?_, ?_, hnd, hg1, hg2⟩, ⟨bs', ?_⟩, h.ne, hlp, hlt1, hlt2, by have := hI1.lt3; simp; omega⟩
  · exact (goodV ints _).other (a := ⟨po, 3, none⟩) _ (grown_keep (goodV ints 2) hg hst (fun c hc hm => by have := (hg1 c hc).2.2; have := (hbv _ hm).1; omega)) (fun hm => (hg1 _ hm).2.1 rfl)
  · exact (goodV bools _).other (a := ⟨po, 3, none⟩) _ (grown_keep (goodV bools 4) hg hac (fun c hc hm => by have := (hg2 c hc).2.2; have := (hbv _ hm).1; omega)) (fun hm => (hg2 _ hm).2.1 rfl)
  · exact goodLL.under (a := ⟨po, 3, none⟩) hO' hlt2 _

/-- The automaton stored into the result's box. -/
theorem MofI.stored {w wr : World} {pr po lo : Nat} {L : Int} {st : List Int} {acc : List Bool} {sv av vm : Value} {ys : List (List (List Int))} (h : MofI w wr pr po lo L st acc sv av vm ys) :
    ∃ W, W = (((wr.setCell ⟨pr, 0, none⟩ (.int .i64 L)).setCell ⟨pr, 1, none⟩ sv).setCell ⟨pr, 2, none⟩ av).setCell ⟨pr, 3, none⟩ vm ∧
    (W.cell? ⟨pr, 0, none⟩ = some (.int .i64 L) ∧ W.cell? ⟨pr, 1, none⟩ = some sv ∧ W.cell? ⟨pr, 2, none⟩ = some av ∧ W.cell? ⟨pr, 3, none⟩ = some vm) ∧ (∃ bs, OwM W w.heap.size (.agg #[.int .i64 L, sv, av, vm]) ⟨L, st, acc, ys⟩ bs) ∧ Below w.heap.size w W := by
  obtain ⟨bs, ba, hst, hac, hnd, hg1, hg2⟩ := h.fx
  obtain ⟨bn, hO⟩ := h.nx
  have hlt1 := h.lt1
  have hlp := h.lp
  have hrp := h.rp
  have hlt2 := h.lt2
  have hrow := (((h.res.stored 0 (.int .i64 L)).stored 1 sv).stored 2 av).stored 3 vm
  obtain ⟨hc, -⟩ := (show Row _ pr 30 [.int .i64 L, sv, av, vm] from hrow).four
  have n1 : pr ∉ bs := fun hm => (hg1 _ hm).1 rfl
  have n2 : pr ∉ ba := fun hm => (hg2 _ hm).1 rfl
  have hst' := (goodV ints _).other (a := ⟨pr, 3, none⟩) vm ((goodV ints _).other (a := ⟨pr, 2, none⟩) av ((goodV ints _).other (a := ⟨pr, 1, none⟩) sv ((goodV ints _).other (a := ⟨pr, 0, none⟩) (.int .i64 L) hst n1) n1) n1) n1
  have hac' := (goodV bools _).other (a := ⟨pr, 3, none⟩) vm ((goodV bools _).other (a := ⟨pr, 2, none⟩) av ((goodV bools _).other (a := ⟨pr, 1, none⟩) sv ((goodV bools _).other (a := ⟨pr, 0, none⟩) (.int .i64 L) hac n2) n2) n2) n2
  have hO' := goodLL.under (a := ⟨pr, 3, none⟩) (goodLL.under (a := ⟨pr, 2, none⟩) (goodLL.under (a := ⟨pr, 1, none⟩) (goodLL.under (a := ⟨pr, 0, none⟩) hO (by show pr < lo; omega) (.int .i64 L)) (by show pr < lo; omega) sv) (by show pr < lo; omega) av) (by show pr < lo; omega) vm
  refine ⟨_, rfl, hc, ⟨bs ++ ba ++ bn, sv, av, vm, bs, ba, bn, rfl, hst', hac', goodLL.mono hO' (by omega), rfl, ?_⟩, ?_⟩
  · exact nodup_two hnd (goodLL.nodup hO) (k := lo) (fun x hx => by
      rcases List.mem_append.1 hx with h | h
      · exact (hg1 _ h).2.2
      · exact (hg2 _ h).2.2) (fun x hx => (goodLL.lt hO hx).1)
  · exact (((h.bel.setCell (p := ⟨pr, 0, none⟩) h.rp _).setCell (p := ⟨pr, 1, none⟩) h.rp _).setCell (p := ⟨pr, 2, none⟩) h.rp _).setCell (p := ⟨pr, 3, none⟩) h.rp _

/-- What a drawn region has made so far: the starts at oa, an empty list at oe, the box at ox with the values xv, the accepting states oc. -/
structure Rg (W0 W : World) (S : Int) (acc : List Bool) (oa oe ox : Option Nat) (xv : List Value) (oc : Option (Value × List Nat)) : Prop where
  bel : Below W0.heap.size W0 W
  ra : ∀ a, oa = some a → W0.heap.size ≤ a ∧ Row W a 2 [.int .i64 S] ∧ (∀ e, oe = some e → a ≠ e) ∧ (∀ x, ox = some x → a ≠ x) ∧ (∀ u bs, oc = some (u, bs) → a ∉ bs)
  re : ∀ e, oe = some e → W0.heap.size ≤ e ∧ W.ownsRow W0.heap.size 4 1 (.slice (some ⟨e, 0, none⟩) 0 0) 0 [] ∧ e < W.heap.size
  rx : ∀ x, ox = some x → W0.heap.size ≤ x ∧ Row W x 30 xv ∧ (∀ e, oe = some e → x ≠ e) ∧ (∀ u bs, oc = some (u, bs) → x ∉ bs)
  rc : ∀ u bs, oc = some (u, bs) → OwV bools 4 W W0.heap.size u acc bs
section
variable {W0 W : World} {S : Int} {acc : List Bool} {oa oe ox : Option Nat} {xv : List Value} {oc : Option (Value × List Nat)}
theorem Rg.base : Rg W0 W0 S acc none none none [] none := ⟨Below.refl _ _, fun _ h => (by cases h), fun _ h => (by cases h), fun _ h => (by cases h), fun _ _ h => (by cases h)⟩
theorem Rg.later {W' : World} (h : Rg W0 W S acc oa oe ox xv oc) (hb : Below W.heap.size W W') (ho : ∀ e, oe = some e → W'.ownsRow W0.heap.size 4 1 (.slice (some ⟨e, 0, none⟩) 0 0) 0 []) : Rg W0 W' S acc oa oe ox xv oc where
  bel := below_step h.bel hb
  ra := fun a ha => ⟨(h.ra a ha).1, (h.ra a ha).2.1.below hb (h.ra a ha).2.1.lt, (h.ra a ha).2.2⟩
  re := fun e he => ⟨(h.re e he).1, ho e he, Nat.lt_of_lt_of_le (h.re e he).2.2 hb.size⟩
  rx := fun x hx => ⟨(h.rx x hx).1, (h.rx x hx).2.1.below hb (h.rx x hx).2.1.lt, (h.rx x hx).2.2⟩
  rc := fun u bs hc => (goodV bools _).below (h.rc u bs hc) hb
theorem Rg.drew (h : Rg W0 W S acc oa oe ox xv oc) : Rg W0 W.drew S acc oa oe ox xv oc := h.later (below_drew _) (fun e he => (h.re e he).2.1.drew)
theorem Rg.any (h : Rg W0 W S acc oa oe ox xv oc) (o : Obj) : Rg W0 (W.alloc o) S acc oa oe ox xv oc := h.later (below_alloc _ _) (fun e he => (h.re e he).2.1.alloc _)
theorem Rg.oldA (h : Rg W0 W S acc oa oe ox xv oc) {a : Nat} (e : oa = some a) : a < W.heap.size := (h.ra a e).2.1.lt
theorem Rg.oldX (h : Rg W0 W S acc oa oe ox xv oc) {a : Nat} (e : ox = some a) : a < W.heap.size := (h.rx a e).2.1.lt
theorem Rg.oldC (h : Rg W0 W S acc oa oe ox xv oc) {u : Value} {bs : List Nat} (e : oc = some (u, bs)) {b : Nat} (hb : b ∈ bs) : b < W.heap.size := ((goodV bools _).lt (h.rc u bs e) hb).2
theorem Rg.a (h : Rg W0 W S acc none oe ox xv oc) : Rg W0 (W.alloc (.cells #[.int .i64 S] 2)) S acc (some W.heap.size) oe ox xv oc := by
  have k := h.any (.cells #[.int .i64 S] 2)
  refine ⟨k.bel, fun a ha => ?_, k.re, fun x hx => ⟨(k.rx x hx).1, (k.rx x hx).2.1, (k.rx x hx).2.2.1, (k.rx x hx).2.2.2⟩, k.rc⟩
  cases ha
  exact ⟨h.bel.size, Row.new _ _ _, fun e he => by have := (h.re e he).2.2; omega, fun x hx => by have := h.oldX hx; omega, fun u bs hc hm => by have := h.oldC hc hm; omega⟩
theorem Rg.e (h : Rg W0 W S acc oa none ox xv oc) : Rg W0 (W.alloc (.cells #[] 4)) S acc oa (some W.heap.size) ox xv oc := by
  have k := h.any (.cells #[] 4)
  refine ⟨k.bel, fun a ha => ⟨(k.ra a ha).1, (k.ra a ha).2.1, fun e he => ?_, (k.ra a ha).2.2.2.1, (k.ra a ha).2.2.2.2⟩, fun e he => ?_, fun x hx => ⟨(k.rx x hx).1, (k.rx x hx).2.1, fun e he => ?_, (k.rx x hx).2.2.2⟩, k.rc⟩
  · cases he; have := h.oldA ha; omega
  · cases he
    exact ⟨h.bel.size, World.ownsRow_lit (base := W0.heap.size) (e := 4) (size := 1) W #[] 0 h.bel.size (by unfold maxLen; omega) rfl, by simp⟩
  · cases he; have := h.oldX hx; omega
theorem Rg.x (h : Rg W0 W S acc oa oe none xv oc) (y0 y1 y2 y3 : Value) : Rg W0 (W.alloc (.cells #[y0, y1, y2, y3] 30)) S acc oa oe (some W.heap.size) [y0, y1, y2, y3] oc := by
  have k := h.any (.cells #[y0, y1, y2, y3] 30)
  refine ⟨k.bel, fun a ha => ⟨(k.ra a ha).1, (k.ra a ha).2.1, (k.ra a ha).2.2.1, fun x hx => ?_, (k.ra a ha).2.2.2.2⟩, k.re, fun x hx => ?_, k.rc⟩
  · cases hx; have := h.oldA ha; omega
  · cases hx
    exact ⟨h.bel.size, Row.new _ _ _, fun e he => by have := (h.re e he).2.2; omega, fun u bs hc hm => by have := h.oldC hc hm; omega⟩
theorem Rg.set {x : Nat} (h : Rg W0 W S acc oa oe (some x) xv oc) (i : Nat) (v : Value) (hn : oe = none) : Rg W0 (W.setCell ⟨x, i, none⟩ v) S acc oa oe (some x) (xv.set i v) oc := by
  subst hn
  have hx := h.rx x rfl
  refine ⟨h.bel.setCell (p := ⟨x, i, none⟩) hx.1 _, fun a ha => ⟨(h.ra a ha).1, (h.ra a ha).2.1.other (by show x ≠ a; exact fun e => (h.ra a ha).2.2.2.1 x rfl e.symm) _, (h.ra a ha).2.2⟩, fun e he => (by cases he), fun y hy => ?_, fun u bs hc => (goodV bools _).other (a := ⟨x, i, none⟩) _ (h.rc u bs hc) (hx.2.2.2 u bs hc)⟩
  cases hy
  exact ⟨hx.1, hx.2.1.stored i v, hx.2.2⟩
theorem Rg.set4 {x : Nat} {y0 y1 y2 y3 : Value} (h : Rg W0 W S acc oa none (some x) [y0, y1, y2, y3] oc) (v0 v1 v2 v3 : Value) : Rg W0 ((((W.setCell ⟨x, 0, none⟩ v0).setCell ⟨x, 1, none⟩ v1).setCell ⟨x, 2, none⟩ v2).setCell ⟨x, 3, none⟩ v3) S acc oa none (some x) [v0, v1, v2, v3] oc :=
  (((h.set 0 v0 rfl).set 1 v1 rfl).set 2 v2 rfl).set 3 v3 rfl
/-- A call that makes the accepting states. -/
theorem Rg.c {W' : World} {u : Value} {bs : List Nat} (h : Rg W0 W S acc oa none ox xv none) (hb : Below W.heap.size W W') (hu : OwV bools 4 W' W.heap.size u acc bs) : Rg W0 W' S acc oa none ox xv (some (u, bs)) where
  bel := below_step h.bel hb
  ra := fun a ha => ⟨(h.ra a ha).1, (h.ra a ha).2.1.below hb (h.ra a ha).2.1.lt, (h.ra a ha).2.2.1, (h.ra a ha).2.2.2.1, fun u bs hc hm => by cases hc; have := ((goodV bools _).lt hu hm).1; have := h.oldA ha; omega⟩
  re := fun e he => by cases he
  rx := fun x hx => ⟨(h.rx x hx).1, (h.rx x hx).2.1.below hb (h.rx x hx).2.1.lt, (h.rx x hx).2.2.1, fun u bs hc hm => by cases hc; have := ((goodV bools _).lt hu hm).1; have := h.oldX hx; omega⟩
  rc := fun u bs hc => by cases hc; exact (goodV bools _).mono hu h.bel.size
/-- An append to the empty list that makes the accepting states. -/
theorem Rg.app {W' : World} {e g cap : Nat} (h : Rg W0 W S acc oa (some e) ox xv none) (hg : W.grownBy W' (Value.slice (some ⟨e, 0, none⟩) 0 0).ownBlock) (hown : W'.ownsRow W0.heap.size 4 1 (.slice (some ⟨g, 0, none⟩) acc.length cap) acc.length (bools acc)) (hat : (Value.slice (some ⟨e, 0, none⟩) 0 0).ownBlock = some g ∨ g = W.heap.size) :
    Rg W0 W' S acc oa none ox xv (some (.slice (some ⟨g, 0, none⟩) acc.length cap, [g])) := by
  have hblk : ∀ b ∈ blks (Value.slice (some ⟨e, 0, none⟩) 0 0), b = e := fun b hb => by have := mem_blks.1 hb; exact (Option.some.inj this).symm
  have hgo : g = e ∨ g = W.heap.size := by
    rcases hat with k | k
    · exact .inl (Option.some.inj k).symm
    · exact .inr k
  refine ⟨h.bel.trans (grown_below hg h.bel.size (fun b hb => by rw [hblk b hb]; exact (h.re e rfl).1)), fun a ha => ?_, fun _ he => (by cases he), fun x hx => ?_, fun u bs hc => ?_⟩
  · have hne := (h.ra a ha).2.2.1 e rfl
    refine ⟨(h.ra a ha).1, grown_row hg (h.ra a ha).2.1 (fun hm => hne (hblk a hm)), fun _ he => (by cases he), (h.ra a ha).2.2.2.1, fun u bs hc hm => ?_⟩
    cases hc
    simp only [List.mem_singleton] at hm
    rcases hgo with k | k
    · omega
    · have := h.oldA ha; omega
  · have hne := (h.rx x hx).2.2.1 e rfl
    refine ⟨(h.rx x hx).1, grown_row hg (h.rx x hx).2.1 (fun hm => hne (hblk x hm)), fun _ he => (by cases he), fun u bs hc hm => ?_⟩
    cases hc
    simp only [List.mem_singleton] at hm
    rcases hgo with k | k
    · omega
    · have := h.oldX hx; omega
  · cases hc
    exact ⟨by unfold Own; rw [bools_len]; exact hown, by simp [blks, Value.ownBlock]⟩
/-- All is made. -/
theorem Rg.fin {w : World} {pr a x : Nat} {L : Int} {u sv : Value} {bs : List Nat} (h : Rg W0 W S acc (some a) oe (some x) [.int .i64 L, sv, u, .slice none 0 0] (some (u, bs))) (hs : sv = .slice (some ⟨a, 0, none⟩) 1 1) (hb : Below w.heap.size w W0) (hr : Row W0 pr 30 [.int .i64 0, .slice none 0 0, .slice none 0 0, .slice none 0 0]) (hp : w.heap.size ≤ pr) :
    MofI w W pr x W.heap.size L [S] acc sv u (.slice none 0 0) [] := by
  subst hs
  have ha := h.ra a rfl
  have hx := h.rx x rfl
  have hc := h.rc u bs rfl
  have hlt := hr.lt
  have hsz := hb.size
  refine ⟨below_step hb h.bel, hp, hr.below h.bel hlt, hx.2.1, ⟨[a], bs, ?_, (goodV bools _).mono hc hsz, ?_, ?_, ?_⟩, ⟨[], owL_nil _ _ _ _⟩, by omega, by omega, by have := hx.2.1.lt; omega, hx.2.1.lt, Nat.le_refl _⟩
  · exact ⟨(show Row W a 2 (ints [S]) from ha.2.1).own (by omega) (by simp [ints, maxLen]), rfl⟩
  · exact List.nodup_append.2 ⟨by simp, (goodV bools _).nodup hc, fun x hx y hy e => by simp only [List.mem_singleton] at hx; subst hx; subst e; exact ha.2.2.2.2 u bs rfl hy⟩
  · intro b hb'
    simp only [List.mem_singleton] at hb'
    subst hb'
    exact ⟨by omega, ha.2.2.2.1 x rfl, ha.2.1.lt⟩
  · intro b hb'
    have h1 := (goodV bools _).lt hc hb'
    exact ⟨by omega, fun e => hx.2.2.2 u bs rfl (e ▸ hb'), h1.2⟩
theorem Rg.done {w : World} {pr : Nat} {L : Int} {p : Value} (h : Rg W0 W S acc oa oe ox xv oc) (e : ∃ a x u bs sv, oa = some a ∧ ox = some x ∧ xv = [.int .i64 L, sv, u, .slice none 0 0] ∧ oc = some (u, bs) ∧ sv = .slice (some ⟨a, 0, none⟩) 1 1 ∧ p = .pointer (some ⟨x, 0, none⟩)) (hb : Below w.heap.size w W0) (hr : Row W0 pr 30 [.int .i64 0, .slice none 0 0, .slice none 0 0, .slice none 0 0]) (hp : w.heap.size ≤ pr) :
    ∃ (po a : Nat) (cv : Nat) (av : Option Addr), p = .pointer (some ⟨po, 0, none⟩) ∧ MofI w W pr po W.heap.size L [S] acc (.slice (some ⟨a, 0, none⟩) 1 1) (.slice av acc.length cv) (.slice none 0 0) [] ∧ Below W0.heap.size W0 W := by
  obtain ⟨a, x, u, bs, sv, e1, e2, e3, e4, e5, e6⟩ := e
  subst e1; subst e2; subst e3; subst e4
  obtain ⟨C, c, hu⟩ := owB_shape (h.rc u bs rfl)
  subst hu
  subst e5
  exact ⟨x, a, c, C, e6, h.fin rfl hb hr hp, h.bel⟩
theorem Rg.made {w : World} {pr : Nat} {L : Int} {p : Value} (h : ∃ oa oe ox xv oc, Rg W0 W S acc oa oe ox xv oc ∧ ∃ a x u bs sv, oa = some a ∧ ox = some x ∧ xv = [.int .i64 L, sv, u, .slice none 0 0] ∧ oc = some (u, bs) ∧ sv = .slice (some ⟨a, 0, none⟩) 1 1 ∧ p = .pointer (some ⟨x, 0, none⟩)) (hb : Below w.heap.size w W0) (hr : Row W0 pr 30 [.int .i64 0, .slice none 0 0, .slice none 0 0, .slice none 0 0]) (hp : w.heap.size ≤ pr) :
    ∃ (po a : Nat) (cv : Nat) (av : Option Addr), p = .pointer (some ⟨po, 0, none⟩) ∧ MofI w W pr po W.heap.size L [S] acc (.slice (some ⟨a, 0, none⟩) 1 1) (.slice av acc.length cv) (.slice none 0 0) [] ∧ Below W0.heap.size W0 W := by
  obtain ⟨oa, oe, ox, xv, oc, h1, h2⟩ := h
  exact h1.done h2 hb hr hp
theorem MofI.drew {w wr : World} {pr po lo : Nat} {L : Int} {st : List Int} {acc : List Bool} {sv av vm : Value} {ys : List (List (List Int))} (h : MofI w wr pr po lo L st acc sv av vm ys) : MofI w wr.drew pr po lo L st acc sv av vm ys := h.below (below_drew _)
theorem Rg.cong {oa' ox' : Option Nat} {xv' : List Value} {oc' : Option (Value × List Nat)} (h : Rg W0 W S acc oa oe ox xv oc) (e1 : oa = oa') (e2 : ox = ox') (e3 : xv = xv') (e4 : oc = oc') : Rg W0 W S acc oa' oe ox' xv' oc' := by subst e1; subst e2; subst e3; subst e4; exact h
end
end Go.Proofs.Ytcofcgijlbppkaa
