/-
  Rows of numbers with greater numbers, by the model; a rotator that is being made in a box.
-/
import Derived.Test.YtklljaeoimgmnaaRo1
import Derived.Test.YtklljaeoimgmnaaZO
import Derived.Test.YtklljaeoimgmnaaBox2
import Derived.Test.YtklljaeoimgmnaaCl
import Derived.Test.YtklljaeoimgmnaaBR
namespace Go.Proofs.Ytklljaeoimgmnaa
open Go.RowKit

def addRow (by0 : Int) (x : List Int) : List Int := x.map (fun t => t + by0)
def addRows (by0 : Int) (xs : List (List Int)) : List (List Int) := xs.map (addRow by0)
theorem addRow_len (by0 : Int) (x : List Int) : (addRow by0 x).length = x.length := by simp [addRow]
theorem addRows_len (by0 : Int) (xs : List (List Int)) : (addRows by0 xs).length = xs.length := by simp [addRows]

/-- One number more in a list that a call owns. -/
theorem addInt {wo wr W : World} {Bl : Option Addr} {c cl : Nat} {xs : List Int} {bs : List Nat} (hb : Below wo.heap.size wo wr) (hO : OwV ints 2 wr wo.heap.size (.slice Bl c cl) xs bs) (hlen : xs.length = c) (hW : Below wr.heap.size wr W) :
    W.ownsRow wo.heap.size 2 1 (.slice Bl c cl) c (ints xs) ∧ ∀ (w5 : World) (g cap : Nat) (t : Int), W.grownBy w5 (Value.slice Bl c cl).ownBlock → w5.ownsRow wo.heap.size 2 1 (.slice (some ⟨g, 0, none⟩) (c + 1) cap) (c + 1) (ints xs ++ [.int .i64 t]) →
      Below wo.heap.size wo w5 ∧ ∃ bs', OwV ints 2 w5 wo.heap.size (.slice (some ⟨g, 0, none⟩) (c + 1) cap) (xs ++ [t]) bs' := by
  have hlt := fun b hb => ((goodV ints 2).lt hO (b := b) hb).1
  obtain ⟨how, rfl⟩ := hO
  have how' : wr.ownsRow wo.heap.size 2 1 (.slice Bl c cl) c (ints xs) := by have := how; unfold Own at this; rwa [ints_len, hlen] at this
  refine ⟨rows_below how' hW, fun w5 g cap t hg hown => ⟨?_, _, OwV.snoc hown (show ints xs ++ [.int .i64 t] = ints (xs ++ [t]) from (ints_snoc xs t).symm) (by simp [ints, hlen]) rfl⟩⟩
  have h1 := below_step hb hW
  exact h1.trans (grown_below hg h1.size hlt)
/-- One list more. -/
theorem addRowL {wo wr W : World} {Bl : Option Addr} {c cl : Nat} {ys : List (List Int)} {bs : List Nat} (hb : Below wo.heap.size wo wr) (hO : OwL (OwV ints 2) 36 wr wo.heap.size (.slice Bl c cl) ys bs) (hlen : ys.length = c) (hW : Below wr.heap.size wr W)
    {u0 : Value} {x0 : List Int} {b0 : List Nat} (hu : OwV ints 2 W wr.heap.size u0 x0 b0) (o : Obj) :
    ∃ vs, (W.alloc o).ownsRow wo.heap.size 36 1 (.slice Bl c cl) c vs ∧ ∀ (w5 : World) (g cap : Nat), (W.alloc o).grownBy w5 (Value.slice Bl c cl).ownBlock → w5.ownsRow wo.heap.size 36 1 (.slice (some ⟨g, 0, none⟩) (c + 1) cap) (c + 1) (vs ++ [u0]) → ((Value.slice Bl c cl).ownBlock = some g ∨ g = (W.alloc o).heap.size) →
      Below wo.heap.size wo w5 ∧ ∃ bs', OwL (OwV ints 2) 36 w5 wo.heap.size (.slice (some ⟨g, 0, none⟩) (c + 1) cap) (ys ++ [x0]) bs' := by
  obtain ⟨vs, how, hbv, hnext⟩ := OwL.grow (goodV ints 2) hO
  rw [hlen] at how hnext
  have hW' := below_step hW (below_alloc W o)
  refine ⟨vs, rows_below how hW', fun w5 g cap hg hown hat => ⟨?_, ?_⟩⟩
  · have h1 := below_step hb hW'
    exact h1.trans (grown_below hg h1.size (fun b hb => (hbv b hb).1))
  · exact hnext W u0 x0 b0 hW ((goodV ints _).mono hu hb.size) (fun c hc => ((goodV ints _).lt hu hc).1) o w5 g (c + 1) cap hg hown (hat.imp id (fun h => h.trans (by simp)))
theorem rowsI0 (w : World) : ∃ bs, OwL (OwV ints 2) 36 (w.alloc (.cells #[] 36)) w.heap.size (.slice (some ⟨w.heap.size, 0, none⟩) 0 0) [] bs :=
  ⟨_, [], [], World.ownsRow_lit (base := w.heap.size) (e := 36) (size := 1) w #[] 0 (Nat.le_refl _) (by unfold maxLen; omega) rfl, rfl, rfl, fun i u x b hi => by simp at hi, rfl, by simpa using blks_nodup _⟩
theorem rowI0 (w : World) : OwV ints 2 (w.alloc (.cells #[] 2)) w.heap.size (.slice (some ⟨w.heap.size, 0, none⟩) 0 0) [] [w.heap.size] :=
  ⟨World.ownsRow_lit (base := w.heap.size) (e := 2) (size := 1) w #[] 0 (Nat.le_refl _) (by unfold maxLen; omega) rfl, rfl⟩

set_option maxRecDepth 100000 in
set_option maxHeartbeats 3200000 in
theorem l06Rows_own (v : Value) (xs : List (List Int)) (by0 : Int) (w : World) (h : RdII w v xs) (hn : xs.length ≤ 6) (hl : ∀ (k : Nat) (x : List Int), xs[k]? = some x → x.length ≤ 3) (ht : ∀ (k : Nat) (x : List Int) (j : Nat) (t : Int), xs[k]? = some x → x[j]? = some t → 0 ≤ t ∧ t ≤ 5) (hy0 : 0 ≤ by0) (hy6 : by0 ≤ 6) :
    Calls Try.prog 39 #[v, .int .i64 by0] w fun e w' => ∃ u bs, e = .returned u ∧ OwL (OwV ints 2) 36 w' w.heap.size u (addRows by0 xs) bs ∧ Below w.heap.size w w' := by
  obtain ⟨ii, hii, hzi0, hzi1, hzi2⟩ := info_parts infoI64
  obtain ⟨is, his, hzs0, hzs1, hzs2⟩ := info_parts infoIs
  obtain ⟨A, ka, rfl, a1, a2, a3⟩ := RdL.open h
  unfold maxLen at a2
  have HL := Lib.hid hl
  have HT := Lib.hid ht
  have H0 := Lib.hid (rowsI0 w)
  clear h hl ht
  go_enter Try.func39, Try.ntmps39
  go_wp2
  have HB0 := Lib.hid (below_alloc w (.cells #[] 36))
  generalize w.alloc (.cells #[] 36) = W0 at *
  go_loopw [5, 6] (fun vl i wr => ∃ (k cl : Nat) (Bl : Option Addr), k ≤ xs.length ∧ i = .int .i64 k ∧ vl = .slice Bl k cl ∧ Below w.heap.size w wr ∧ ∃ bs, OwL (OwV ints 2) 36 wr w.heap.size (.slice Bl k cl) ((addRows by0 xs).take k) bs) (fun _ i _ => xs.length - (intOf i).toNat)
  case atStart => exact ⟨0, 0, _, Nat.zero_le _, rfl, rfl, HB0.out, H0.out⟩
  case round =>
    clear H0 HB0
    obtain ⟨wo, hwo⟩ : ∃ wo, wo = wr := ⟨wr, rfl⟩
    subst hwo
    obtain ⟨k, c5, B5, hk, rfl, rfl, hb5, bs5, hO5⟩ := hrel
    have HA := Lib.hid (show _ ∧ _ from ⟨hb5, hO5⟩)
    by_cases hlt : k < xs.length
    · obtain ⟨b, off, ux, x, rfl, hx, hcx, hRx⟩ := a3 k hlt
      have hx3 := HL.out k x hx
      obtain ⟨C, kc, rfl, x1, x2, x3⟩ := RdI.open hRx
      unfold maxLen at x2
      have HCX := Lib.hid hcx
      have HTK := Lib.hid (show (addRows by0 xs).take (k + 1) = (addRows by0 xs).take k ++ [addRow by0 x] from take_succ_of (by simp [addRows, hx]))
      have hlenk : ((addRows by0 xs).take k).length = k := by simp [addRows]; omega
      have HLK := Lib.hid hlenk
      have HXT := Lib.hid (fun j t => HT.out k x j t hx)
      have H1 := Lib.hid (rowI0 wo)
      have i1 : (0 : Int) ≤ k := by omega
      have i2 : (k : Int) < xs.length := by omega
      clear hb5 hO5 hcx hRx hx hlenk
      go_wp2
      have HB1 := Lib.hid (below_alloc wo (.cells #[] 2))
      generalize wo.alloc (.cells #[] 2) = W1 at *
      go_loopw [7, 8] (fun vl i wi => ∃ (c cl : Nat) (Bl : Option Addr), c ≤ x.length ∧ i = .int .i64 c ∧ vl = .slice Bl c cl ∧ Below wo.heap.size wo wi ∧ ∃ bs, OwV ints 2 wi wo.heap.size (.slice Bl c cl) ((addRow by0 x).take c) bs) (fun _ i _ => x.length - (intOf i).toNat)
      case atStart => exact ⟨0, 0, _, Nat.zero_le _, rfl, rfl, HB1.out, _, H1.out⟩
      case round =>
        clear H1 HB1
        obtain ⟨c, c7, B7, hc, rfl, rfl, hb7, bs7, hO7⟩ := hrel
        have hbw7 := below_step HA.out.1 hb7
        have qx := below_keep hbw7 HCX.out
        have HD := Lib.hid (show _ ∧ _ from ⟨hb7, hO7⟩)
        by_cases hlc : c < x.length
        · obtain ⟨b2, off2, t, rfl, ht, hct⟩ := x3 c hlc
          have htt := HXT.out c t ht
          have gt := below_keep hbw7 hct
          have HTC := Lib.hid (show (addRow by0 x).take (c + 1) = (addRow by0 x).take c ++ [t + by0] from take_succ_of (by simp [addRow, ht]))
          have hlenc : ((addRow by0 x).take c).length = c := by simp [addRow]; omega
          obtain ⟨hown, hnext⟩ := addInt HD.out.1 hO7 hlenc (below_alloc wr (.cells #[.int .i64 (t + by0)] 2))
          have HG := Lib.hid (show _ ∧ _ from ⟨hown, hnext⟩)
          have hs7 := hb7.size
          have j1 : (0 : Int) ≤ c := by omega
          have j2 : (c : Int) < x.length := by omega
          clear hO7 hlenc hown hnext hbw7 hct ht hb7
          go_wp2_with (at_builtin; refine wpList_append_lies _ rfl _ _ 36 rfl wo.heap.size 2 ii _ 1 8 Try.underlying36 hii hzi0 hzi1 hzi2 rfl (by decide) (.slice B7 c c7) c _ rfl HG.out.1 ⟨wr.heap.size, 0, none⟩ 1 1 [.int .i64 (t + by0)] rfl rfl (World.news_of_block (cs := #[.int .i64 (t + by0)]) (t := 2) (fr := (0, 0)) (heap_alloc_new wr _)) (by simp [Value.oneCell']) (by omega) (by unfold maxLen; omega) (by omega) (by simp; omega) (wr.heap.size + 1) (by simp) ?_; intro g cap w5 hown5 hgrow5 hat5 hlt5; have HE := Lib.hid (HG.out.2 w5 g cap (t + by0) hgrow5 hown5); clear hown5 hgrow5 hat5 hlt5)
          go_roundw
          case rel => exact ⟨c + 1, _, _, by omega, by go_num, rfl, HE.out.1, by rw [HTC.out]; exact HE.out.2⟩
          case measure => simp [intOf]; omega
        · obtain rfl : c = x.length := by omega
          rw [List.take_of_length_le (by simp [addRow])] at hO7
          obtain ⟨vs, hown, hnext⟩ := addRowL HA.out.1 HA.out.2 HLK.out HD.out.1 hO7 (.cells #[.slice B7 x.length c7] 36)
          have HG := Lib.hid (show _ ∧ _ from ⟨hown, hnext⟩)
          have hs5 := HA.out.1.size
          have hs7 := HD.out.1.size
          clear hO7 hown hnext hb7 hbw7 x3
          go_wp2_with (at_builtin; refine wpList_append_lies _ rfl _ _ 35 rfl w.heap.size 36 is _ 1 24 Try.underlying35 his hzs0 hzs1 hzs2 rfl (by decide) (.slice B5 k c5) k _ rfl HG.out.1 ⟨wr.heap.size, 0, none⟩ 1 1 [.slice B7 x.length c7] rfl rfl (World.news_of_block (cs := #[.slice B7 x.length c7]) (t := 36) (fr := (0, 0)) (heap_alloc_new wr _)) (by simp [Value.oneCell']) (by omega) (by unfold maxLen; omega) (by omega) (by simp; omega) (wr.heap.size + 1) (by simp) ?_; intro g cap w5 hown5 hgrow5 hat5 hlt5; have HE := Lib.hid (HG.out.2 w5 g cap hgrow5 hown5 (hat5.imp id (fun h => h.trans (by simp)))); clear hown5 hgrow5 hat5 hlt5)
          go_roundw
          case rel => exact ⟨k + 1, _, _, by omega, by go_num, rfl, HE.out.1, by rw [HTK.out]; exact HE.out.2⟩
          case measure => simp [intOf]; omega
    · obtain rfl : k = xs.length := by omega
      rw [List.take_of_length_le (by simp [addRows])] at hO5
      have HZ := Lib.hid (show _ ∧ _ from ⟨hO5, hb5⟩)
      clear hO5 hb5 a3
      go_wp2
      go_ret
      exact ⟨_, _, rfl, HZ.out.1, HZ.out.2⟩
end Go.Proofs.Ytklljaeoimgmnaa
