/-
  Rows: what a reader says of a word with each end behind it; the program's and the model's.
-/
import Derived.Test.YtjojmlaipcbmkaaBd3
import Derived.Test.YtjojmlaipcbmkaaBR
namespace Go.Proofs.Ytjojmlaipcbmkaa
open Go.RowKit

def endB (r : RData) (q : Nat) (e : ByteArray) : Bool := (r.acc[runN r q e]?).getD false
def rowQ (r : RData) (q : Nat) (ends : List ByteArray) : List Bool := ends.map (endB r q)
theorem rowQ_len (r : RData) (q : Nat) (ends : List ByteArray) : (rowQ r q ends).length = ends.length := by simp [rowQ]
theorem rowQ_take {r : RData} {q : Nat} {ends : List ByteArray} {k : Nat} {x : ByteArray} (h : ends[k]? = some x) : (rowQ r q ends).take (k + 1) = (rowQ r q ends).take k ++ [endB r q x] := take_succ_of (by simp [rowQ, h])
theorem undrewQ {w w' : World} {r : Option Nat} (h : w.drew.grownBy w' r) : w.grownBy w' r := ⟨h.os, h.tape, h.output, h.size, h.block⟩
theorem takeB_append (r : RData) (s e : ByteArray) : takeB r (s ++ e) = endB r (afterN r s.data.toList) e := by
  have h : (s ++ e).data.toList = s.data.toList ++ e.data.toList := by simp
  unfold takeB endB runN afterN
  rw [h, List.foldl_append]
theorem letters_append {L : Int} {s e : ByteArray} (h : lettersOk L s = true) (k : lettersOk L e = true) : lettersOk L (s ++ e) = true := by
  unfold lettersOk at *
  have h0 : (s ++ e).data.toList = s.data.toList ++ e.data.toList := by simp
  rw [h0, List.all_append, h, k]; rfl

set_option maxRecDepth 100000 in
set_option maxHeartbeats 1600000 in
theorem rowBehind_own (v v2 : Value) (r : RData) (q : Nat) (ends : List ByteArray) (w : World) (h : RdR w v r) (h2 : RdS w v2 ends) (ok : okR r = true) (oke : okWords r.L ends = true) (hq : q < r.next.length) (hl : ends.length ≤ 20) :
    Calls Try.prog 68 #[v, .int .i64 q, v2] w fun e w' => ∃ u bs, e = .returned u ∧ OwV bools 4 w' w.heap.size u (rowQ r q ends) bs ∧ Below w.heap.size w w' := by
  obtain ⟨ib, hib, hzb0, hzb1, hzb2⟩ := info_parts infoBool
  obtain ⟨A, c, B, d, rfl⟩ := h.shape
  obtain ⟨A2, k2, rfl, b1, b2, b3⟩ := RdS.open h2
  unfold maxLen at b2
  have hbox := Row.new w [.int .i64 r.L, .int .i64 r.S, .slice A r.acc.length c, .slice B r.next.length d] 29
  have HB0 := Lib.hid (below_alloc w (.cells #[.int .i64 r.L, .int .i64 r.S, .slice A r.acc.length c, .slice B r.next.length d] 29))
  have HR0 := Lib.hid hbox
  have HK := Lib.hid (fun W (hb : Below w.heap.size w W) => keepsR _ _ _ _ h hb)
  have HA := Lib.hid (fun x (hx : okWord r.L x = true) W (hb : Below w.heap.size w W) => after_any _ r x q W (HK.out W hb) ok (okWord_parts hx).2 (by have := (okWord_parts hx).1; omega) hq)
  have HO := Lib.hid (show _ ∧ _ ∧ _ from ⟨ok, oke, hq⟩)
  obtain ⟨a0, n0, hv, ha, -⟩ := h
  simp only [Value.agg.injEq] at hv
  obtain rfl : a0 = .slice A r.acc.length c := by simpa using (congrArg (fun x : Array Value => x.getD 2 undef) hv).symm
  obtain ⟨A', cap', hA', a1, a2, a3⟩ := ha.open
  simp only [Value.slice.injEq, true_and] at hA'
  obtain ⟨rfl, rfl⟩ := hA'
  unfold maxLen at a2
  have HNL := Lib.hid (show r.next.length = r.acc.length from (okR_parts ok).2.2.2.1)
  have HSZ := Lib.hid (show w.heap.size < (w.alloc (.cells #[.int .i64 r.L, .int .i64 r.S, .slice A r.acc.length c, .slice B r.next.length d] 29)).heap.size by simp)
  clear hbox h2 hv ha ok oke hq
  go_enter Try.func68, Try.ntmps68
  go_wp2
  generalize w.alloc (.cells #[.int .i64 r.L, .int .i64 r.S, .slice A r.acc.length c, .slice B r.next.length d] 29) = w0 at *
  go_loopw [7, 12] (fun u i wr => ∃ k : Nat, ∃ Bu ku, k ≤ ends.length ∧ i = .int .i64 k ∧ u = .slice Bu k ku ∧ Below w0.heap.size w0 wr ∧ wr.ownsRow w0.heap.size 4 1 (.slice Bu k ku) k (bools ((rowQ r q ends).take k))) (fun _ i _ => ends.length - (intOf i).toNat)
  case atStart => exact ⟨0, none, 0, Nat.zero_le _, rfl, rfl, Below.refl _ _, by simpa [bools] using World.ownsRow_nil w0 w0.heap.size 4 1⟩
  case round =>
    obtain ⟨k, Bu, ku, hk, rfl, rfl, hb, hown⟩ := hrel
    have HQ := Lib.hid hb
    by_cases hlt : k < ends.length
    · obtain ⟨b', off', x, rfl, hx, hcx⟩ := b3 k hlt
      have hcx' := below_keep (below_step HB0.out hb) hcx
      have hxo := okWords_mem HO.out.2.1 (List.mem_of_getElem? hx)
      obtain ⟨m, hm⟩ : ∃ m, runN r q x = m := ⟨_, rfl⟩
      have hmlt : m < r.acc.length := by rw [← hm, ← HNL.out]; exact runN_lt HO.out.1 (okWord_parts hxo).2 HO.out.2.2
      have HC := Lib.hid (fun W (hb : Below wr.heap.size wr W) => HA.out x hxo W (below_step (below_step HB0.out HQ.out) hb))
      rw [hm] at HC
      obtain ⟨b, off, z, rfl, hz, hcz⟩ := a3 m hmlt
      have hcz' := below_keep (below_step HB0.out hb) hcz
      have HX := Lib.hid (show ends[k]? = some x ∧ endB r q x = z from ⟨hx, by rw [endB, hm, hz]; rfl⟩)
      obtain ⟨⟨c0, c1, c2, c3⟩, -⟩ := (HR0.out.below hb HR0.out.lt).four
      have i1 : (0 : Int) ≤ k := by omega
      have i2 : (k : Int) < ends.length := by omega
      have q1 : (0 : Int) ≤ m := by omega
      have q2 : (m : Int) < r.acc.length := by omega
      have nb : ∀ g, g < w0.heap.size → g ∉ blks (.slice Bu k ku) := fun g hg hm => by
        have := World.ownsRow.lt hown g (mem_blks.1 hm); omega
      have HOWN := Lib.hid hown
      have hlw : w.heap.size < w0.heap.size := HSZ.out
      have hlz : b < w0.heap.size := Nat.lt_trans (World.block_lt_of_cell? _ _ hcz) hlw
      have hlx : b' < w0.heap.size := Nat.lt_trans (World.block_lt_of_cell? _ _ hcx) hlw
      have hsz := hb.size
      clear hcx hcz hx hz hm a3 b3 hb hown hxo
      go_wp2_with fail
      go_region_held3 (fun W => W.cell? ⟨w.heap.size, 0, none⟩ = some (.int .i64 r.L) ∧ W.cell? ⟨w.heap.size, 1, none⟩ = some (.int .i64 r.S) ∧ W.cell? ⟨w.heap.size, 2, none⟩ = some (.slice (some ⟨b, off, none⟩) r.acc.length c) ∧ W.cell? ⟨w.heap.size, 3, none⟩ = some (.slice B r.next.length d) ∧ W.cell? ⟨b, off + m, none⟩ = some (.bool z))
        (first | (go_split_ands; refine ⟨?_, ?_, ?_, ?_, ?_⟩ <;> (first | assumption | exact below_keep hbk (by assumption) | exact below_keep (below_alloc _ _) (by assumption))) | go_keep)
        (first
          | (go_at_call 63; (with_reducible refine (HC.out _ ?_).mono ?_); (first | exact Below.refl _ _ | exact below_drew _ | exact below_drewN' _ _); rintro e wy ⟨rfl, hbk⟩; have HCy := Lib.hid (show Below wr.heap.size wr wy from below_step (by first | exact Below.refl _ _ | exact below_drew _ | exact below_drewN' _ _) hbk); have hownY := rows_below HOWN.out HCy.out; have y0 := below_keep HCy.out c0; have y1 := below_keep HCy.out c1; have y2 := below_keep HCy.out c2; have y3 := below_keep HCy.out c3; have y4 := below_keep HCy.out hcz'; have szY := HCy.out.size)
          | (refine step_append_lies _ (by rfl) _ _ _ (by rfl) w0.heap.size 4 ib _ 1 1 Try.underlying22 hib hzb0 hzb1 hzb2 rfl (by omega) (.slice Bu k ku) k (bools ((rowQ r q ends).take k)) (by rfl) (by first | exact rows_below hownY (below_alloc _ _) | exact rows_below hownY (below_alloc _ _).drew | exact rows_below hownY (below_alloc _ _).drew.drew)
                ⟨wy.heap.size, 0, none⟩ 1 1 [.bool z] (by rfl) (by rfl) (World.news_of_block (cs := #[.bool z]) (t := 4) (fr := (0, 0)) (heap_alloc_new wy _)) (by simp [Value.oneCell'])
                (by omega) (by unfold maxLen; omega) (by omega) (by simp; omega) (wy.heap.size + 1) (by simp) ?_; intro g cap w2 hown1 hgrow hat hlt2;
             have e0 := grown_cell hgrow (nb _ hlw) (below_keep (by first | exact below_alloc _ _ | exact (below_alloc _ _).drew | exact (below_alloc _ _).drew.drew) y0); have e1 := grown_cell hgrow (nb _ hlw) (below_keep (by first | exact below_alloc _ _ | exact (below_alloc _ _).drew | exact (below_alloc _ _).drew.drew) y1); have e2 := grown_cell hgrow (nb _ hlw) (below_keep (by first | exact below_alloc _ _ | exact (below_alloc _ _).drew | exact (below_alloc _ _).drew.drew) y2); have e3 := grown_cell hgrow (nb _ hlw) (below_keep (by first | exact below_alloc _ _ | exact (below_alloc _ _).drew | exact (below_alloc _ _).drew.drew) y3); have e4 := grown_cell hgrow (nb _ hlz) (below_keep (by first | exact below_alloc _ _ | exact (below_alloc _ _).drew | exact (below_alloc _ _).drew.drew) y4)))
      have hg : (wy.alloc (.cells #[.bool z] 4)).grownBy w2 (Value.slice Bu k ku).ownBlock := (by first | exact hgrow | exact undrewQ hgrow | exact undrewQ (undrewQ hgrow))
      have HE := Lib.hid (show Below w0.heap.size w0 w2 ∧ w2.ownsRow w0.heap.size 4 1 (.slice (some ⟨g, 0, none⟩) (k + 1) cap) (k + 1) (bools ((rowQ r q ends).take (k + 1))) from
        ⟨(below_step (below_step HQ.out HCy.out) (below_alloc _ _)).trans (grown_below hg (by simp; omega) (fun b hb => (World.ownsRow.lt HOWN.out b (mem_blks.1 hb)).1)), by rw [rowQ_take HX.out.1, bools_snoc, HX.out.2]; exact hown1⟩)
      clear hown1 hgrow hg hat hlt2 e0 e1 e2 e3 e4 y0 y1 y2 y3 y4 hownY c0 c1 c2 c3 hcz'
      go_wp2
      go_roundw
      case rel => exact ⟨k + 1, _, _, by omega, by go_num, rfl, HE.out.1, HE.out.2⟩
      case measure => simp [intOf]; omega
    · have ek : k = ends.length := by omega
      subst ek
      have ht : (rowQ r q ends).take ends.length = rowQ r q ends := List.take_of_length_le (by rw [rowQ_len]; exact Nat.le_refl _)
      rw [ht] at hown
      have HOWN := Lib.hid hown
      clear hb a3 b3 hown
      go_wp2
      go_ret
      refine ⟨_, _, rfl, ⟨?_, rfl⟩, below_step HB0.out HQ.out⟩
      have := HOWN.out
      unfold Own
      rw [bools_len, rowQ_len]
      exact World.ownsRow.mono this (by have := HSZ.out; omega)
end Go.Proofs.Ytjojmlaipcbmkaa
