/-
  RowOf: the model's row, and both answers.
-/
import Derived.Test.YtjojmlaipcbmkaaBd4
namespace Go.Proofs.Ytjojmlaipcbmkaa
open Go.RowKit

set_option maxHeartbeats 1600000 in
theorem l05Row_any (p : Nat) (v2 : Value) (r : RData) (s : ByteArray) (ends : List ByteArray) (w : World) (h : AtR w p r) (h2 : RdS w v2 ends) (ok : okR r = true) (oks : okWord r.L s = true) (oke : okWords r.L ends = true) (hl : ends.length ≤ 20) :
    Calls Try.prog 66 #[.pointer (some ⟨p, 0, none⟩), .string s, v2] w fun e w' => ∃ u, e = .returned u ∧ RdB w' u (rowQ r (afterN r s.data.toList) ends) ∧ Below w.heap.size w w' := by
  obtain ⟨ib, hib, hzb0, hzb1, hzb2⟩ := info_parts infoBool
  obtain ⟨A2, k2, rfl, b1, b2, b3⟩ := RdS.open h2
  unfold maxLen at b2
  have HT := Lib.hid (fun x (hx : okWord r.L x = true) W (hb : Below w.heap.size w W) => l05Takes_any p r (s ++ x) W (h.below hb) ok (letters_append (okWord_parts oks).2 (okWord_parts hx).2) (by have a1 := (okWord_parts oks).1; have a2 := (okWord_parts hx).1; rw [ByteArray.size_append]; unfold maxLen; omega))
  have HO := Lib.hid oke
  have hss : (s.size : Int) ≤ 60 := (okWord_parts oks).1
  have HB0 := Lib.hid (below_alloc w (.cells #[] 4))
  have HE0 := Lib.hid (Row.ownsRow (Row.new w [] 4) (base := w.heap.size) (Nat.le_refl _) (by simp))
  clear h h2 ok oks oke
  go_enter Try.func66, Try.ntmps66
  go_wp2
  go_loopw [7, 8] (fun u i wr => ∃ k : Nat, ∃ Bu ku, k ≤ ends.length ∧ i = .int .i64 k ∧ u = .slice Bu k ku ∧ Below w.heap.size w wr ∧ wr.ownsRow w.heap.size 4 1 (.slice Bu k ku) k (bools ((rowQ r (afterN r s.data.toList) ends).take k))) (fun _ i _ => ends.length - (intOf i).toNat)
  case atStart => exact ⟨0, _, _, Nat.zero_le _, rfl, rfl, HB0.out, by simpa [bools] using HE0.out⟩
  case round =>
    obtain ⟨k, Bu, ku, hk, rfl, rfl, hb, hown⟩ := hrel
    have HQ := Lib.hid hb
    by_cases hlt : k < ends.length
    · obtain ⟨b', off', x, rfl, hx, hcx⟩ := b3 k hlt
      have hcx' := below_keep hb hcx
      have hxo := okWords_mem HO.out (List.mem_of_getElem? hx)
      have hxs : (x.size : Int) ≤ 60 := (okWord_parts hxo).1
      have HC := Lib.hid (HT.out x hxo)
      obtain ⟨z, hz⟩ : ∃ z, takeB r (s ++ x) = z := ⟨_, rfl⟩
      rw [hz] at HC
      have HX := Lib.hid (show ends[k]? = some x ∧ endB r (afterN r s.data.toList) x = z from ⟨hx, by rw [← takeB_append, hz]⟩)
      have i1 : (0 : Int) ≤ k := by omega
      have i2 : (k : Int) < ends.length := by omega
      have hsum : (s ++ x).size = s.size + x.size := ByteArray.size_append
      have HOWN := Lib.hid hown
      have hsz := hb.size
      clear hcx hx b3 hb hown hxo hz
      go_wp2_with (first
        | (go_at_call 106; refine (HC.out _ HQ.out).mono ?_; rintro e wy ⟨rfl, hqy⟩; have HCy := Lib.hid hqy.below; have hownY := rows_below HOWN.out HCy.out; have szY := HCy.out.size)
        | (at_builtin; refine wpList_append_lies _ rfl _ _ 22 rfl w.heap.size 4 ib _ 1 1 Try.underlying22 hib hzb0 hzb1 hzb2 rfl (by decide) (.slice Bu k ku) k _ rfl (rows_below hownY (below_alloc _ _)) ⟨wy.heap.size, 0, none⟩ 1 1 [.bool z] rfl rfl (World.news_of_block (cs := #[.bool z]) (t := 4) (fr := (0, 0)) (heap_alloc_new wy _)) (by simp [Value.oneCell']) (by omega) (by unfold maxLen; omega) (by omega) (by simp; omega) (wy.heap.size + 1) (by simp) ?_; intro g cap w5 hown5 hgrow5 hat5 hlt5))
      have HE := Lib.hid (show Below w.heap.size w w5 ∧ w5.ownsRow w.heap.size 4 1 (.slice (some ⟨g, 0, none⟩) (k + 1) cap) (k + 1) (bools ((rowQ r (afterN r s.data.toList) ends).take (k + 1))) from
        ⟨(below_step (below_step HQ.out HCy.out) (below_alloc _ _)).trans (grown_below hgrow5 (by simp; omega) (fun b hb => (World.ownsRow.lt HOWN.out b (mem_blks.1 hb)).1)), by rw [rowQ_take HX.out.1, bools_snoc, HX.out.2]; exact hown5⟩)
      clear hown5 hgrow5 hat5 hlt5 hownY
      go_roundw
      case rel => exact ⟨k + 1, _, _, by omega, by go_num, rfl, HE.out.1, HE.out.2⟩
      case measure => simp [intOf]; omega
    · have ek : k = ends.length := by omega
      subst ek
      have ht : (rowQ r (afterN r s.data.toList) ends).take ends.length = rowQ r (afterN r s.data.toList) ends := List.take_of_length_le (by rw [rowQ_len]; exact Nat.le_refl _)
      rw [ht] at hown
      have HOWN := Lib.hid hown
      clear hb b3 hown
      go_wp2
      go_ret
      refine ⟨_, rfl, ?_, HQ.out⟩
      have h5 := HOWN.out
      rw [show ends.length = (bools (rowQ r (afterN r s.data.toList) ends)).length by rw [bools_len, rowQ_len]] at h5 ⊢
      exact rd_of_ownsRow h5
end Go.Proofs.Ytjojmlaipcbmkaa
