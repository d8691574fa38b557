/-
  A table that is made in a box, one exit more on each side a round; the model's table of the empty word.
-/
import Derived.Test.YtnpbfafcfghmcabEm1
import Derived.Test.YtnpbfafcfghmcabCl
import Derived.Test.YtnpbfafcfghmcabTt2
import Derived.Deep.AppendLies
import Derived.Deep.RegionLaw
import Derived.Deep.CutRange
import Derived.BigRegion
namespace Go.Proofs.Ytnpbfafcfghmcab
open Go.RowKit

/-- The memory of a call that makes a table: its answer's box, the table's box, and its two lists. -/
structure EmI (w wr : World) (fl fr : List (Int × Int)) (Bl Br : Option Addr) (nl nr kl kr : Nat) : Prop where
  bel : Below w.heap.size w wr
  ret : Row wr w.heap.size 29 [.slice none 0 0, .slice none 0 0]
  box : Row wr (w.heap.size + 1) 29 [.slice Bl nl kl, .slice Br nr kr]
  ll : fl.length = nl
  lr : fr.length = nr
  ol : wr.ownsRow (w.heap.size + 2) 47 2 (.slice Bl nl kl) nl (pcells fl)
  or' : wr.ownsRow (w.heap.size + 2) 47 2 (.slice Br nr kr) nr (pcells fr)
  nd : ∀ b ∈ blks (.slice Bl nl kl), b ∉ blks (.slice Br nr kr)
theorem EmI.below {w wr w1 : World} {fl fr : List (Int × Int)} {Bl Br : Option Addr} {nl nr kl kr : Nat} (h : EmI w wr fl fr Bl Br nl nr kl kr) (hb : Below wr.heap.size wr w1) : EmI w w1 fl fr Bl Br nl nr kl kr :=
  ⟨below_step h.bel hb, h.ret.below hb h.ret.lt, h.box.below hb h.box.lt, h.ll, h.lr, rows_below h.ol hb, rows_below h.or' hb, h.nd⟩
theorem EmI.start (w : World) : EmI w ((w.alloc (.cells #[.slice none 0 0, .slice none 0 0] 29)).alloc (.cells #[.slice none 0 0, .slice none 0 0] 29)) [] [] none none 0 0 0 0 where
  bel := (below_alloc _ _).alloc (by simp) _
  ret := (Row.new w _ _).alloc _
  box := by
    have := Row.new (w.alloc (.cells #[.slice none 0 0, .slice none 0 0] 29)) [.slice none 0 0, .slice none 0 0] 29
    simpa using this
  ll := rfl
  lr := rfl
  ol := World.ownsRow_nil _ _ _ 2
  or' := World.ownsRow_nil _ _ _ 2
  nd := by simp [blks, Value.ownBlock]
theorem EmI.left {w wr w2 : World} {fl fr : List (Int × Int)} {Bl Br : Option Addr} {nl nr kl kr g cap : Nat} {m : Int × Int} {o : Obj} (h : EmI w wr fl fr Bl Br nl nr kl kr) (hg : (wr.alloc o).grownBy w2 (Value.slice Bl nl kl).ownBlock)
    (ho : w2.ownsRow (w.heap.size + 2) 47 2 (.slice (some ⟨g, 0, none⟩) (nl + 1) cap) (nl + 1) (pcells fl ++ [.int .i64 m.1, .int .i64 m.2])) (hat : (Value.slice Bl nl kl).ownBlock = some g ∨ g = wr.heap.size + 1) :
    Row w2 (w.heap.size + 1) 29 [.slice Bl nl kl, .slice Br nr kr] ∧ EmI w (w2.setCell ⟨w.heap.size + 1, 0, none⟩ (.slice (some ⟨g, 0, none⟩) (nl + 1) cap)) (fl ++ [m]) fr (some ⟨g, 0, none⟩) Br (nl + 1) nr cap kr := by
  have hlt : ∀ b ∈ blks (.slice Bl nl kl), w.heap.size + 2 ≤ b := fun b hm => (World.ownsRow.lt h.ol b (mem_blks.1 hm)).1
  have hrt : ∀ b ∈ blks (.slice Br nr kr), w.heap.size + 2 ≤ b ∧ b < wr.heap.size := fun b hm => World.ownsRow.lt h.or' b (mem_blks.1 hm)
  have k1 := grown_row hg (h.ret.alloc o) (fun hm => by have := hlt _ hm; omega)
  have k2 := grown_row hg (h.box.alloc o) (fun hm => by have := hlt _ hm; omega)
  have kb := (below_step h.bel (below_alloc wr o)).trans (grown_below hg (B := w.heap.size) (by have := h.bel.size; simp; omega) (fun b hb => by have := hlt b hb; omega))
  have kr' := rows_same (h.or'.alloc o) (fun b hb => hg.block b (by have := (hrt b hb).2; simp; omega) (fun e => h.nd b (mem_blks.2 e.symm) hb))
  refine ⟨k2, kb.setCell (by show w.heap.size ≤ w.heap.size + 1; omega) _, k1.other (by show w.heap.size + 1 ≠ w.heap.size; omega) _, k2.stored 0 _, by simp [h.ll], h.lr, ?_, ?_, ?_⟩
  · rw [pcells_snoc]
    have hu : OwP 47 w2 (w.heap.size + 2) (.slice (some ⟨g, 0, none⟩) (nl + 1) cap) (fl ++ [m]) _ := ⟨by rw [pcells_snoc, List.length_append, h.ll]; exact ho, rfl⟩
    have := ((goodP _).under (a := ⟨w.heap.size + 1, 0, none⟩) hu (by show w.heap.size + 1 < _; omega) (.slice (some ⟨g, 0, none⟩) (nl + 1) cap)).1
    rw [pcells_snoc, List.length_append, h.ll] at this
    exact this
  · exact rows_same kr' (fun b hb => Below.heap_setCell _ _ _ _ (by show b ≠ w.heap.size + 1; have := (hrt b hb).1; omega))
  · intro b hb
    simp only [blks, Value.ownBlock, Option.toList_some, List.mem_singleton] at hb
    subst hb
    rcases hat with h1 | h1
    · exact h.nd _ (mem_blks.2 h1)
    · intro hm; have := (hrt _ hm).2; omega
theorem EmI.right {w wr w2 : World} {fl fr : List (Int × Int)} {Bl Br : Option Addr} {nl nr kl kr g cap : Nat} {m : Int × Int} {o : Obj} (h : EmI w wr fl fr Bl Br nl nr kl kr) (hg : (wr.alloc o).grownBy w2 (Value.slice Br nr kr).ownBlock)
    (ho : w2.ownsRow (w.heap.size + 2) 47 2 (.slice (some ⟨g, 0, none⟩) (nr + 1) cap) (nr + 1) (pcells fr ++ [.int .i64 m.1, .int .i64 m.2])) (hat : (Value.slice Br nr kr).ownBlock = some g ∨ g = wr.heap.size + 1) :
    Row w2 (w.heap.size + 1) 29 [.slice Bl nl kl, .slice Br nr kr] ∧ EmI w (w2.setCell ⟨w.heap.size + 1, 1, none⟩ (.slice (some ⟨g, 0, none⟩) (nr + 1) cap)) fl (fr ++ [m]) Bl (some ⟨g, 0, none⟩) nl (nr + 1) kl cap := by
  have hlt : ∀ b ∈ blks (.slice Br nr kr), w.heap.size + 2 ≤ b := fun b hm => (World.ownsRow.lt h.or' b (mem_blks.1 hm)).1
  have hrt : ∀ b ∈ blks (.slice Bl nl kl), w.heap.size + 2 ≤ b ∧ b < wr.heap.size := fun b hm => World.ownsRow.lt h.ol b (mem_blks.1 hm)
  have k1 := grown_row hg (h.ret.alloc o) (fun hm => by have := hlt _ hm; omega)
  have k2 := grown_row hg (h.box.alloc o) (fun hm => by have := hlt _ hm; omega)
  have kb := (below_step h.bel (below_alloc wr o)).trans (grown_below hg (B := w.heap.size) (by have := h.bel.size; simp; omega) (fun b hb => by have := hlt b hb; omega))
  have kr' := rows_same (h.ol.alloc o) (fun b hb => hg.block b (by have := (hrt b hb).2; simp; omega) (fun e => h.nd b hb (mem_blks.2 e.symm)))
  refine ⟨k2, kb.setCell (by show w.heap.size ≤ w.heap.size + 1; omega) _, k1.other (by show w.heap.size + 1 ≠ w.heap.size; omega) _, k2.stored 1 _, h.ll, by simp [h.lr], ?_, ?_, ?_⟩
  · exact rows_same kr' (fun b hb => Below.heap_setCell _ _ _ _ (by show b ≠ w.heap.size + 1; have := (hrt b hb).1; omega))
  · rw [pcells_snoc]
    have hu : OwP 47 w2 (w.heap.size + 2) (.slice (some ⟨g, 0, none⟩) (nr + 1) cap) (fr ++ [m]) _ := ⟨by rw [pcells_snoc, List.length_append, h.lr]; exact ho, rfl⟩
    have := ((goodP _).under (a := ⟨w.heap.size + 1, 1, none⟩) hu (by show w.heap.size + 1 < _; omega) (.slice (some ⟨g, 0, none⟩) (nr + 1) cap)).1
    rw [pcells_snoc, List.length_append, h.lr] at this
    exact this
  · intro b hb hm
    simp only [blks, Value.ownBlock, Option.toList_some, List.mem_singleton] at hm
    subst hm
    rcases hat with h1 | h1
    · exact h.nd _ hb (mem_blks.2 h1)
    · have := (hrt _ hb).2; omega
/-- The table handed back. -/
theorem EmI.out {w wr : World} {fl fr : List (Int × Int)} {Bl Br : Option Addr} {nl nr kl kr : Nat} (h : EmI w wr fl fr Bl Br nl nr kl kr) :
    let W2 := (wr.setCell ⟨w.heap.size, 0, none⟩ (.slice Bl nl kl)).setCell ⟨w.heap.size, 1, none⟩ (.slice Br nr kr)
    (W2.cell? ⟨w.heap.size, 0, none⟩ = some (.slice Bl nl kl) ∧ W2.cell? ⟨w.heap.size, 1, none⟩ = some (.slice Br nr kr)) ∧ OwX W2 w.heap.size (.agg #[.slice Bl nl kl, .slice Br nr kr]) ⟨fl, fr⟩ (blks (.slice Bl nl kl) ++ blks (.slice Br nr kr)) ∧ Below w.heap.size w W2 := by
  have hL : OwP 47 wr (w.heap.size + 2) (.slice Bl nl kl) fl _ := ⟨by rw [h.ll]; exact h.ol, rfl⟩
  have hR : OwP 47 wr (w.heap.size + 2) (.slice Br nr kr) fr _ := ⟨by rw [h.lr]; exact h.or', rfl⟩
  exact own_storedX (w := w) h.ret h.bel (Nat.le_refl _) (lo := w.heap.size + 2) (by omega) ⟨_, _, _, _, rfl, hL, hR, rfl, by
    rw [List.nodup_append]
    exact ⟨(goodP _).nodup hL, (goodP _).nodup hR, fun a ha b hb e => h.nd a ha (e ▸ hb)⟩⟩

def emptyX (n : Nat) : XData := ⟨(List.range n).map fun (k : Nat) => (1, (k : Int)), (List.range n).map fun (k : Nat) => (-1, (k : Int))⟩
theorem emptyX_succ (k : Nat) : (emptyX (k + 1)).fl = (emptyX k).fl ++ [(1, (k : Int))] ∧ (emptyX (k + 1)).fr = (emptyX k).fr ++ [(-1, (k : Int))] := by simp [emptyX, List.range_succ]
def emptyXRes (n : Int) : XData × Int := if within n 1 12 then (emptyX n.toNat, 0) else (⟨[], []⟩, 2)

set_option maxRecDepth 100000 in
set_option maxHeartbeats 3200000 in
theorem l03Empty_own (n : Nat) (w : World) (hn : n ≤ 12) :
    Calls Try.prog 28 #[.int .i64 (n : Int)] w fun e w' => ∃ u bs, e = .returned u ∧ OwX w' w.heap.size u (emptyX n) bs ∧ Below w.heap.size w w' := by
  obtain ⟨im, him, hzm0, hzm1, hzm2⟩ := info_parts infoExit
  have HS0 := Lib.hid (EmI.start w)
  go_enter Try.func28, Try.ntmps28
  go_wp2
  generalize (w.alloc (.cells #[.slice none 0 0, .slice none 0 0] 29)).alloc (.cells #[.slice none 0 0, .slice none 0 0] 29) = W0 at *
  go_loopw [4] (fun i wr => ∃ (k : Nat) (Bl Br : Option Addr) (kl kr : Nat), k ≤ n ∧ i = .int .i64 (k : Int) ∧ EmI w wr (emptyX k).fl (emptyX k).fr Bl Br k k kl kr) (fun i _ => n - (intOf i).toNat)
  case atStart => exact ⟨0, none, none, 0, 0, Nat.zero_le _, rfl, HS0.out⟩
  case round =>
    clear HS0
    obtain ⟨k, Bl, Br, kl, kr, hk, rfl, hI⟩ := hrel
    have HI := Lib.hid hI
    obtain ⟨⟨x0, x1⟩, xf⟩ := hI.box.two
    have lx := hI.box.lt
    by_cases hlt : k < n
    · have i1 : (0 : Int) ≤ k := by omega
      have i2 : (k : Int) < n := by omega
      clear hI
      go_wp2_with (first
        | (at_builtin; refine wpList_append_lies _ rfl _ _ 27 rfl (w.heap.size + 2) 47 im _ 2 16 Try.underlying27 him hzm0 hzm1 hzm2 rfl (by decide) (.slice Bl k kl) k _ rfl (HI.out.ol.alloc _) ⟨wr.heap.size, 0, none⟩ 1 1 [.int .i64 1, .int .i64 (k : Int)] rfl rfl (World.news_of_block (cs := #[.int .i64 1, .int .i64 (k : Int)]) (t := 47) (fr := (0, 0)) (heap_alloc_new wr _)) (by simp [Value.oneCell']) (by omega) (by unfold maxLen; omega) (by omega) (by have := HI.out.box.lt; simp; omega) (wr.heap.size + 1) (by simp) ?_; intro g cap w2 hown2 hgrow2 hat2 hlt2; have HA := Lib.hid (HI.out.left (m := (1, (k : Int))) hgrow2 hown2 hat2); have hb2 := HA.out.1; obtain ⟨⟨y0, y1⟩, yf⟩ := hb2.two; have ly := hb2.lt; clear hb2 hown2 hgrow2 hat2 x0 x1 xf lx)
        | (at_builtin; refine wpList_append_lies _ rfl _ _ 27 rfl (w.heap.size + 2) 47 im _ 2 16 Try.underlying27 him hzm0 hzm1 hzm2 rfl (by decide) (.slice Br k kr) k _ rfl (HA.out.2.or'.alloc _) ⟨w2.heap.size, 0, none⟩ 1 1 [.int .i64 (-1), .int .i64 (k : Int)] rfl rfl (World.news_of_block (cs := #[.int .i64 (-1), .int .i64 (k : Int)]) (t := 47) (fr := (0, 0)) (by simpa using heap_alloc_new (w2.setCell ⟨w.heap.size + 1, 0, none⟩ (.slice (some ⟨g, 0, none⟩) (k + 1) cap)) (.cells #[.int .i64 (-1), .int .i64 (k : Int)] 47))) (by simp [Value.oneCell']) (by omega) (by unfold maxLen; omega) (by omega) (by have := HA.out.2.box.lt; simp at this; simp; omega) (w2.heap.size + 1) (by simp) ?_; intro g3 cap3 w3 hown3 hgrow3 hat3 hlt3; have HB := Lib.hid (HA.out.2.right (m := (-1, (k : Int))) hgrow3 hown3 (by simpa using hat3)); have hb3 := HB.out.1; obtain ⟨⟨z0, z1⟩, zf⟩ := hb3.two; have lz := hb3.lt; clear hb3 hown3 hgrow3 hat3 y0 y1 yf ly))
      go_roundw
      case rel => exact ⟨k + 1, _, _, _, _, by omega, by go_num, by rw [(emptyX_succ k).1, (emptyX_succ k).2]; exact HB.out.2⟩
      case measure => simp [intOf]; omega
    · obtain rfl : k = n := by omega
      obtain ⟨⟨r0, r1⟩, rf⟩ := hI.ret.two
      have lr := hI.ret.lt
      have HE := Lib.hid hI.out
      clear hI
      go_wp2
      obtain ⟨⟨e0, e1⟩, eO, eB⟩ := HE.out
      generalize (wr.setCell ⟨w.heap.size, 0, none⟩ (.slice Bl k kl)).setCell ⟨w.heap.size, 1, none⟩ (.slice Br k kr) = W2 at *
      refine bodyPost_ret (v := .agg #[.slice Bl k kl, .slice Br k kr]) (by simp [results, Try.results28, go_sem, e0, e1]) rfl ?_
      first | exact ⟨_, _, rfl, eO, eB⟩ | exact ⟨_, rfl, ⟨_, eO⟩, eB⟩

set_option maxRecDepth 100000 in
set_option maxHeartbeats 3200000 in
theorem table_own (b : Nat) (xs : List (Int × Int)) (n : Nat) (w : World) (h : Row w b 52 (pcells xs)) (hl : xs.length = 24) (hn : n ≤ 12) :
    Calls Try.prog 30 #[.pointer (some ⟨b, 0, none⟩), .int .i64 (n : Int)] w fun e w' => ∃ u bs, e = .returned u ∧ OwX w' w.heap.size u ⟨xs.take n, (xs.drop 12).take n⟩ bs ∧ Below w.heap.size w w' := by
  obtain ⟨im, him, hzm0, hzm1, hzm2⟩ := info_parts infoExit
  have HS0 := Lib.hid (EmI.start w)
  have HX := Lib.hid h
  clear h
  go_enter Try.func30, Try.ntmps30
  go_wp2
  generalize (w.alloc (.cells #[.slice none 0 0, .slice none 0 0] 29)).alloc (.cells #[.slice none 0 0, .slice none 0 0] 29) = W0 at *
  go_loopw [8] (fun i wr => ∃ (k : Nat) (Bl Br : Option Addr) (kl kr : Nat), k ≤ n ∧ i = .int .i64 (k : Int) ∧ EmI w wr (xs.take k) ((xs.drop 12).take k) Bl Br k k kl kr) (fun i _ => n - (intOf i).toNat)
  case atStart => exact ⟨0, none, none, 0, 0, Nat.zero_le _, rfl, HS0.out⟩
  case round =>
    clear HS0
    obtain ⟨k, Bl, Br, kl, kr, hk, rfl, hI⟩ := hrel
    have HI := Lib.hid hI
    obtain ⟨⟨x0, x1⟩, xf⟩ := hI.box.two
    have lx := hI.box.lt
    by_cases hlt : k < n
    · have i1 : (0 : Int) ≤ k := by omega
      have i2 : (k : Int) < n := by omega
      have i3 : (k : Int) < 24 := by omega
      obtain ⟨⟨u, v⟩, hm⟩ : ∃ m, xs[k]? = some m := ⟨_, List.getElem?_eq_getElem (by omega)⟩
      obtain ⟨⟨u', v'⟩, hm'⟩ : ∃ m, xs[12 + k]? = some m := ⟨_, List.getElem?_eq_getElem (by omega)⟩
      have hR := HX.out.below hI.bel HX.out.lt
      have c0 := (hR.cell (k * 2)).trans (pcells_get hm).1
      have c1 := (hR.cell (k * 2 + 1)).trans (pcells_get hm).2
      have HT := Lib.hid (show xs.take (k + 1) = xs.take k ++ [(u, v)] from take_succ_of hm)
      have HT' := Lib.hid (show (xs.drop 12).take (k + 1) = (xs.drop 12).take k ++ [(u', v')] from take_succ_of (by rw [List.getElem?_drop]; exact hm'))
      have HM' := Lib.hid hm'
      clear hI hm hm' hR
      go_upto_region 5 with fail
      go_region_law
        (first
          | (refine step_append_lies _ (by rfl) _ _ _ (by rfl) (w.heap.size + 2) 47 im _ 2 16 Try.underlying27 him hzm0 hzm1 hzm2 rfl (by omega) (.slice Bl k kl) k (pcells (xs.take k)) (by rfl) (by first | exact HI.out.ol.alloc _ | exact (HI.out.ol.alloc _).drew | exact ((HI.out.ol.alloc _).drew).drew)
              ⟨wr.heap.size, 0, none⟩ 1 1 [.int .i64 u, .int .i64 v] (by rfl) (by rfl) (World.news_of_block (cs := #[.int .i64 u, .int .i64 v]) (t := 47) (fr := (0, 0)) (heap_alloc_new wr _)) (by simp [Value.oneCell']) (by omega) (by unfold maxLen; omega) (by omega) (by have := HI.out.box.lt; simp; omega) (wr.heap.size + 1) (by simp) ?_; intro gA capA wA hown hgrow hat hltA;
             have hgA : (wr.alloc (.cells #[.int .i64 u, .int .i64 v] 47)).grownBy wA (Value.slice Bl k kl).ownBlock := (by first | exact hgrow | exact undrewE hgrow | exact undrewE (undrewE hgrow));
             have HA := Lib.hid (HI.out.left (m := (u, v)) hgA hown hat); have hbA := HA.out.1; obtain ⟨⟨y0, y1⟩, yf⟩ := hbA.two; have ly := hbA.lt; clear hbA hown hgrow hat hgA)
          | (go_simp; go_at_call 40; with_reducible refine (slotL_any _ _).mono ?_; rintro e w' ⟨rfl, rfl⟩))
      all_goals
        have HA2 := Lib.hid HA.out.2
        clear x0 x1 xf lx c0 c1 y0 y1 yf ly
        generalize wA.setCell ⟨w.heap.size + 1, 0, none⟩ (.slice (some ⟨gA, 0, none⟩) (k + 1) capA) = w5 at *
        have hR := HX.out.below HA2.out.bel HX.out.lt
        have c0 := (hR.cell ((12 + k) * 2)).trans (pcells_get HM'.out).1
        have c1 := (hR.cell ((12 + k) * 2 + 1)).trans (pcells_get HM'.out).2
        obtain ⟨⟨x0, x1⟩, xf⟩ := HA2.out.box.two
        have lx := HA2.out.box.lt
        have i4 : (0 : Int) ≤ ((12 + k : Nat) : Int) := by omega
        have i5 : ((12 + k : Nat) : Int) < 24 := by omega
        have i6 : (0 : Int) ≤ 12 + (k : Int) := by omega
        have i7 : 12 + (k : Int) < 24 := by omega
        have i8 : (12 + (k : Int)).toNat = 12 + k := by omega
        clear hR HA
        go_upto_region 6 with fail
        go_region_law
          (first
          | (refine step_append_lies _ (by rfl) _ _ _ (by rfl) (w.heap.size + 2) 47 im _ 2 16 Try.underlying27 him hzm0 hzm1 hzm2 rfl (by omega) (.slice Br k kr) k (pcells ((xs.drop 12).take k)) (by rfl) (by first | exact HA2.out.or'.alloc _ | exact (HA2.out.or'.alloc _).drew | exact ((HA2.out.or'.alloc _).drew).drew)
              ⟨w5.heap.size, 0, none⟩ 1 1 [.int .i64 u', .int .i64 v'] (by rfl) (by rfl) (World.news_of_block (cs := #[.int .i64 u', .int .i64 v']) (t := 47) (fr := (0, 0)) (heap_alloc_new w5 _)) (by simp [Value.oneCell']) (by omega) (by unfold maxLen; omega) (by omega) (by have := HA2.out.box.lt; simp; omega) (w5.heap.size + 1) (by simp) ?_; intro gB capB wB hown hgrow hat hltB;
             have hgB : (w5.alloc (.cells #[.int .i64 u', .int .i64 v'] 47)).grownBy wB (Value.slice Br k kr).ownBlock := (by first | exact hgrow | exact undrewE hgrow | exact undrewE (undrewE hgrow));
             have HB := Lib.hid (HA2.out.right (m := (u', v')) hgB hown hat); have hbB := HB.out.1; obtain ⟨⟨y0, y1⟩, yf⟩ := hbB.two; have ly := hbB.lt; clear hbB hown hgrow hat hgB)
          | (go_simp; go_at_call 40; with_reducible refine (slotR_any _ _ (by omega)).mono ?_; rintro e w' ⟨rfl, rfl⟩))
      all_goals
        clear x0 x1 xf lx c0 c1 y0 y1 yf ly
        go_wp2
        go_roundw
        case rel => exact ⟨k + 1, _, _, _, _, by omega, by go_num, by rw [HT.out, HT'.out]; exact HB.out.2⟩
        case measure => simp [intOf]; omega
    · obtain rfl : k = n := by omega
      obtain ⟨⟨r0, r1⟩, rf⟩ := hI.ret.two
      have lr := hI.ret.lt
      have HE := Lib.hid hI.out
      clear hI
      go_wp2
      obtain ⟨⟨e0, e1⟩, eO, eB⟩ := HE.out
      generalize (wr.setCell ⟨w.heap.size, 0, none⟩ (.slice Bl k kl)).setCell ⟨w.heap.size, 1, none⟩ (.slice Br k kr) = W2 at *
      refine bodyPost_ret (v := .agg #[.slice Bl k kl, .slice Br k kr]) (by simp [results, Try.results30, go_sem, e0, e1]) rfl ?_
      first | exact ⟨_, _, rfl, eO, eB⟩ | exact ⟨_, rfl, ⟨_, eO⟩, eB⟩
end Go.Proofs.Ytnpbfafcfghmcab
