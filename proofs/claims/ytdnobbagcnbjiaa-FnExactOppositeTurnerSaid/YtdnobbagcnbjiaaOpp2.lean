/-
  A copy of a reader, by the model.
-/
import Derived.Test.YtdnobbagcnbjiaaOpp
import Derived.Deep.RegionHeld3
import Derived.Deep.CutRange
namespace Go.Proofs.Ytdnobbagcnbjiaa
open Go.RowKit
attribute [local go_sem ↓] Go.wp_at_zero Go.wp_at_succ

/-- A call that makes a reader beside a box of zeros. -/
def MadeC (w : World) (po : Nat) (r : RData) (wr : World) : Prop :=
  Below w.heap.size w wr ∧ Row wr w.heap.size 27 [.int .i64 0, .int .i64 0, .slice none 0 0, .slice none 0 0] ∧ w.heap.size + 1 ≤ po ∧ BoxR wr (w.heap.size + 1) po r
theorem MadeC.drew {w : World} {po : Nat} {r : RData} {wr : World} (h : MadeC w po r wr) : MadeC w po r wr.drew := ⟨h.1.drew, h.2.1, h.2.2.1, h.2.2.2.drew⟩

theorem keep4 {w : World} {q p i : Nat} {a b c d v : Value} (hq : q ≠ p) (h : w.cell? ⟨p, i, none⟩ = some v) : ((((w.setCell ⟨q, 0, none⟩ a).setCell ⟨q, 1, none⟩ b).setCell ⟨q, 2, none⟩ c).setCell ⟨q, 3, none⟩ d).cell? ⟨p, i, none⟩ = some v := by
  rw [World.cell?_of_block (w := w) (w' := ((((w.setCell ⟨q, 0, none⟩ a).setCell ⟨q, 1, none⟩ b).setCell ⟨q, 2, none⟩ c).setCell ⟨q, 3, none⟩ d)) (a := ⟨p, i, none⟩) ?_]
  · exact h
  · have e : ∀ (W : World) (j : Nat) (u : Value), (W.setCell ⟨q, j, none⟩ u).heap[p]? = W.heap[p]? := fun W j u => Below.heap_setCell W ⟨q, j, none⟩ u p (fun e => hq e.symm)
    show ((((w.setCell ⟨q, 0, none⟩ a).setCell ⟨q, 1, none⟩ b).setCell ⟨q, 2, none⟩ c).setCell ⟨q, 3, none⟩ d).heap[p]? = w.heap[p]?
    rw [e, e, e, e]

/-- Where the reader that is made lies. -/
def AtMade (w : World) (r : RData) (s3 : Value) (wx : World) : Prop := ∃ po, s3 = .pointer (some ⟨po, 0, none⟩) ∧ MadeC w po r wx
theorem AtMade.drew {w : World} {r : RData} {s3 : Value} {wx : World} (h : AtMade w r s3 wx) : AtMade w r s3 wx.drew := by
  obtain ⟨po, h1, h2⟩ := h
  exact ⟨po, h1, h2.drew⟩

set_option maxRecDepth 100000 in
set_option maxHeartbeats 3200000 in
theorem l01Copy_own (p : Nat) (r : RData) (w : World) (h : AtR w p r) (hok : OkR r) :
    Calls Try.prog 39 #[.pointer (some ⟨p, 0, none⟩)] w fun e w' => ∃ u bs, e = .returned u ∧ OwR w' w.heap.size u r bs ∧ Below w.heap.size w w' := by
  obtain ⟨ib, hib, hzb0, hzb1, hzb2⟩ := info_parts infoBool
  obtain ⟨isl, his, hzs0, hzs1, hzs2⟩ := info_parts infoIs
  obtain ⟨L, S, acc, next⟩ := r
  obtain ⟨l1, l2, n1, n2, s1, s2, nl, hlen, -⟩ := hok
  simp only at l1 l2 n1 n2 s1 s2 nl hlen
  obtain ⟨va, vn, c0, c1, c2, c3, ha, hn⟩ := h
  have hrd := ha
  obtain ⟨A, ca, rfl, a1, a2, a3⟩ := ha.open
  obtain ⟨B, cb, rfl, b1, b2, b3⟩ := RdL.open hn
  unfold maxLen at a2 b2
  simp only at *
  obtain ⟨bA, offA, z0, rfl, -, -⟩ := a3 0 (by omega)
  have ltp : p < w.heap.size := World.block_lt_of_cell? _ _ c0
  have HN := Lib.hid (fun W (hb : Below w.heap.size w W) => rd_news (Rd.below hrd hb))
  have HL := Lib.hid hlen
  have HNL := Lib.hid nl
  have hacc : (bools acc).length = acc.length * 1 := by rw [bools_len, Nat.mul_one]
  have HACC := Lib.hid hacc
  have hm0 : 0 < acc.length := by omega
  have HRD := Lib.hid hrd
  clear a3 hn ha hrd hlen nl hacc
  have hz := Row.new w [.int .i64 0, .int .i64 0, .slice none 0 0, .slice none 0 0] 27
  have HZ := Lib.hid hz
  have HC := Lib.hid (show _ ∧ _ ∧ _ ∧ _ from ⟨c0, c1, c2, c3⟩)
  have d0 := below_keep (below_alloc w (.cells #[.int .i64 0, .int .i64 0, .slice none 0 0, .slice none 0 0] 27)) c0
  have d1 := below_keep (below_alloc w (.cells #[.int .i64 0, .int .i64 0, .slice none 0 0, .slice none 0 0] 27)) c1
  have d2 := below_keep (below_alloc w (.cells #[.int .i64 0, .int .i64 0, .slice none 0 0, .slice none 0 0] 27)) c2
  have HB := Lib.hid (below_alloc w (.cells #[.int .i64 0, .int .i64 0, .slice none 0 0, .slice none 0 0] 27))
  have hsz : (w.alloc (.cells #[.int .i64 0, .int .i64 0, .slice none 0 0, .slice none 0 0] 27)).heap.size = w.heap.size + 1 := by simp
  have HSZ := Lib.hid hsz
  clear hz c0 c1 c2 c3 hsz
  go_enter Try.func39, Try.ntmps39
  go_upto_region 1 with fail
  generalize w.alloc (.cells #[.int .i64 0, .int .i64 0, .slice none 0 0, .slice none 0 0] 27) = W0 at *
  have hp0 : p < W0.heap.size := by have := HSZ.out; omega
  have h63 : 0 ≤ maxLen := by unfold maxLen; omega
  have ow1 := World.ownsRow_lit (base := W0.heap.size) (e := 4) (size := 1) W0 #[] 0 (Nat.le_refl _) h63 rfl
  have ow2 : ((W0.alloc (.cells #[.int .i64 0, .int .i64 0, .slice none 0 0, .slice none 0 0] 27)).alloc (.cells #[] 4)).ownsRow W0.heap.size 4 1 (.slice (some ⟨W0.heap.size + 1, 0, none⟩) 0 0) 0 [] := by
    have := World.ownsRow_lit (base := W0.heap.size) (e := 4) (size := 1) (W0.alloc (.cells #[.int .i64 0, .int .i64 0, .slice none 0 0, .slice none 0 0] 27)) #[] 0 (by simp) h63 rfl
    simpa using this
  have OW1 := Lib.hid ow1
  have OW2 := Lib.hid ow2
  clear ow1 ow2
  have rb := Row.new (W0.alloc (.cells #[] 4)) [.int .i64 0, .int .i64 0, .slice none 0 0, .slice none 0 0] 27
  have RB := Lib.hid (show Row ((W0.alloc (.cells #[] 4)).alloc (.cells #[.int .i64 0, .int .i64 0, .slice none 0 0, .slice none 0 0] 27)) (W0.heap.size + 1) 27 [.int .i64 0, .int .i64 0, .slice none 0 0, .slice none 0 0] by simpa using rb)
  have RC := Lib.hid ((Row.new W0 [.int .i64 0, .int .i64 0, .slice none 0 0, .slice none 0 0] 27).alloc (.cells #[] 4))
  clear rb
  go_cut [3] from 5 to 19 (fun s3 wx => AtMade w ⟨L, S, acc, []⟩ s3 wx)
  case first =>
    go_region_held3 (fun W => W.cell? ⟨p, 0, none⟩ = some (.int .i64 L) ∧ W.cell? ⟨p, 1, none⟩ = some (.int .i64 S) ∧ W.cell? ⟨p, 2, none⟩ = some (.slice (some ⟨bA, offA, none⟩) acc.length ca))
      (first
        | with_reducible exact ⟨e0, e1, e2⟩
        | with_reducible exact ⟨keep4 yq e0, keep4 yq e1, keep4 yq e2⟩
        | exact ⟨below_keep (by first | with_reducible exact Below.refl _ _ | with_reducible exact below_drew _ | with_reducible exact (below_drew _).drew | with_reducible exact (below_drew _).drew.drew | with_reducible exact (below_drew _).drew.drew.drew | with_reducible exact below_alloc _ _ | with_reducible exact (below_alloc _ _).drew | with_reducible exact (below_alloc _ _).drew.drew | with_reducible exact (below_alloc _ _).drew.drew.drew | with_reducible exact (below_alloc _ _).alloc (by simp) _ | with_reducible exact ((below_alloc _ _).alloc (by simp) _).drew | with_reducible exact ((below_alloc _ _).alloc (by simp) _).drew.drew | with_reducible exact ((below_alloc _ _).alloc (by simp) _).drew.drew.drew ) e0, below_keep (by first | with_reducible exact Below.refl _ _ | with_reducible exact below_drew _ | with_reducible exact (below_drew _).drew | with_reducible exact (below_drew _).drew.drew | with_reducible exact (below_drew _).drew.drew.drew | with_reducible exact below_alloc _ _ | with_reducible exact (below_alloc _ _).drew | with_reducible exact (below_alloc _ _).drew.drew | with_reducible exact (below_alloc _ _).drew.drew.drew | with_reducible exact (below_alloc _ _).alloc (by simp) _ | with_reducible exact ((below_alloc _ _).alloc (by simp) _).drew | with_reducible exact ((below_alloc _ _).alloc (by simp) _).drew.drew | with_reducible exact ((below_alloc _ _).alloc (by simp) _).drew.drew.drew ) e1, below_keep (by first | with_reducible exact Below.refl _ _ | with_reducible exact below_drew _ | with_reducible exact (below_drew _).drew | with_reducible exact (below_drew _).drew.drew | with_reducible exact (below_drew _).drew.drew.drew | with_reducible exact below_alloc _ _ | with_reducible exact (below_alloc _ _).drew | with_reducible exact (below_alloc _ _).drew.drew | with_reducible exact (below_alloc _ _).drew.drew.drew | with_reducible exact (below_alloc _ _).alloc (by simp) _ | with_reducible exact ((below_alloc _ _).alloc (by simp) _).drew | with_reducible exact ((below_alloc _ _).alloc (by simp) _).drew.drew | with_reducible exact ((below_alloc _ _).alloc (by simp) _).drew.drew.drew ) e2⟩
        | exact ⟨below_keep (by first | with_reducible exact Below.refl _ _ | with_reducible exact below_drew _ | with_reducible exact (below_drew _).drew | with_reducible exact (below_drew _).drew.drew | with_reducible exact (below_drew _).drew.drew.drew | with_reducible exact below_alloc _ _ | with_reducible exact (below_alloc _ _).drew | with_reducible exact (below_alloc _ _).drew.drew | with_reducible exact (below_alloc _ _).drew.drew.drew | with_reducible exact (below_alloc _ _).alloc (by simp) _ | with_reducible exact ((below_alloc _ _).alloc (by simp) _).drew | with_reducible exact ((below_alloc _ _).alloc (by simp) _).drew.drew | with_reducible exact ((below_alloc _ _).alloc (by simp) _).drew.drew.drew ) d0, below_keep (by first | with_reducible exact Below.refl _ _ | with_reducible exact below_drew _ | with_reducible exact (below_drew _).drew | with_reducible exact (below_drew _).drew.drew | with_reducible exact (below_drew _).drew.drew.drew | with_reducible exact below_alloc _ _ | with_reducible exact (below_alloc _ _).drew | with_reducible exact (below_alloc _ _).drew.drew | with_reducible exact (below_alloc _ _).drew.drew.drew | with_reducible exact (below_alloc _ _).alloc (by simp) _ | with_reducible exact ((below_alloc _ _).alloc (by simp) _).drew | with_reducible exact ((below_alloc _ _).alloc (by simp) _).drew.drew | with_reducible exact ((below_alloc _ _).alloc (by simp) _).drew.drew.drew ) d1, below_keep (by first | with_reducible exact Below.refl _ _ | with_reducible exact below_drew _ | with_reducible exact (below_drew _).drew | with_reducible exact (below_drew _).drew.drew | with_reducible exact (below_drew _).drew.drew.drew | with_reducible exact below_alloc _ _ | with_reducible exact (below_alloc _ _).drew | with_reducible exact (below_alloc _ _).drew.drew | with_reducible exact (below_alloc _ _).drew.drew.drew | with_reducible exact (below_alloc _ _).alloc (by simp) _ | with_reducible exact ((below_alloc _ _).alloc (by simp) _).drew | with_reducible exact ((below_alloc _ _).alloc (by simp) _).drew.drew | with_reducible exact ((below_alloc _ _).alloc (by simp) _).drew.drew.drew ) d2⟩)
      (first
        | ((refine step_append_lies _ (by rfl) _ _ _ (by rfl) W0.heap.size 4 ib _ 1 1 Try.underlying22 hib hzb0 hzb1 hzb2 rfl (by omega) (.slice (some ⟨W0.heap.size, 0, none⟩) 0 0) 0 [] (by rfl) (by first | with_reducible exact OW1.out | with_reducible exact (OW1.out).drew | with_reducible exact (OW1.out).drew.drew | with_reducible exact (OW1.out).drew.drew.drew )
                ⟨bA, offA, none⟩ acc.length ca (bools acc) (by rfl) HACC.out (HN.out _ (below_step HB.out (by first | with_reducible exact below_alloc _ _ | with_reducible exact (below_alloc _ _).drew | with_reducible exact (below_alloc _ _).drew.drew | with_reducible exact (below_alloc _ _).drew.drew.drew ))) (by intro u hu; obtain ⟨_, _, rfl⟩ := List.mem_map.1 hu; rfl)
                hm0 (by unfold maxLen; omega) (by omega) (by first | (simp; done) | (simp; omega)) _ rfl ?_; intro g cap w2 hown1 hgrow hat hlt2;
              have e0 := hgrow.cell (a := ⟨p, 0, none⟩) (below_keep (by first | with_reducible exact below_alloc _ _ | with_reducible exact (below_alloc _ _).drew | with_reducible exact (below_alloc _ _).drew.drew | with_reducible exact (below_alloc _ _).drew.drew.drew ) d0) (show some p ≠ some (W0.heap.size) from fun e => by have := Option.some.inj e; omega); have e1 := hgrow.cell (a := ⟨p, 1, none⟩) (below_keep (by first | with_reducible exact below_alloc _ _ | with_reducible exact (below_alloc _ _).drew | with_reducible exact (below_alloc _ _).drew.drew | with_reducible exact (below_alloc _ _).drew.drew.drew ) d1) (show some p ≠ some (W0.heap.size) from fun e => by have := Option.some.inj e; omega); have e2 := hgrow.cell (a := ⟨p, 2, none⟩) (below_keep (by first | with_reducible exact below_alloc _ _ | with_reducible exact (below_alloc _ _).drew | with_reducible exact (below_alloc _ _).drew.drew | with_reducible exact (below_alloc _ _).drew.drew.drew ) d2) (show some p ≠ some (W0.heap.size) from fun e => by have := Option.some.inj e; omega)))
        | ((refine step_append_lies _ (by rfl) _ _ _ (by rfl) W0.heap.size 4 ib _ 1 1 Try.underlying22 hib hzb0 hzb1 hzb2 rfl (by omega) (.slice (some ⟨W0.heap.size, 0, none⟩) 0 0) 0 [] (by rfl) (by first | with_reducible exact OW1.out.alloc _ | with_reducible exact (OW1.out.alloc _).drew | with_reducible exact (OW1.out.alloc _).drew.drew | with_reducible exact (OW1.out.alloc _).drew.drew.drew )
                ⟨bA, offA, none⟩ acc.length ca (bools acc) (by rfl) HACC.out (HN.out _ (below_step HB.out (by first | with_reducible exact (below_alloc _ _).alloc (by simp) _ | with_reducible exact ((below_alloc _ _).alloc (by simp) _).drew | with_reducible exact ((below_alloc _ _).alloc (by simp) _).drew.drew | with_reducible exact ((below_alloc _ _).alloc (by simp) _).drew.drew.drew ))) (by intro u hu; obtain ⟨_, _, rfl⟩ := List.mem_map.1 hu; rfl)
                hm0 (by unfold maxLen; omega) (by omega) (by first | (simp; done) | (simp; omega)) _ rfl ?_; intro g cap w2 hown1 hgrow hat hlt2;
              have e0 := hgrow.cell (a := ⟨p, 0, none⟩) (below_keep (by first | with_reducible exact (below_alloc _ _).alloc (by simp) _ | with_reducible exact ((below_alloc _ _).alloc (by simp) _).drew | with_reducible exact ((below_alloc _ _).alloc (by simp) _).drew.drew | with_reducible exact ((below_alloc _ _).alloc (by simp) _).drew.drew.drew ) d0) (show some p ≠ some (W0.heap.size) from fun e => by have := Option.some.inj e; omega); have e1 := hgrow.cell (a := ⟨p, 1, none⟩) (below_keep (by first | with_reducible exact (below_alloc _ _).alloc (by simp) _ | with_reducible exact ((below_alloc _ _).alloc (by simp) _).drew | with_reducible exact ((below_alloc _ _).alloc (by simp) _).drew.drew | with_reducible exact ((below_alloc _ _).alloc (by simp) _).drew.drew.drew ) d1) (show some p ≠ some (W0.heap.size) from fun e => by have := Option.some.inj e; omega); have e2 := hgrow.cell (a := ⟨p, 2, none⟩) (below_keep (by first | with_reducible exact (below_alloc _ _).alloc (by simp) _ | with_reducible exact ((below_alloc _ _).alloc (by simp) _).drew | with_reducible exact ((below_alloc _ _).alloc (by simp) _).drew.drew | with_reducible exact ((below_alloc _ _).alloc (by simp) _).drew.drew.drew ) d2) (show some p ≠ some (W0.heap.size) from fun e => by have := Option.some.inj e; omega); have rz := (hgrow.block (W0.heap.size + 1) (by simp) (show some (W0.heap.size + 1) ≠ some W0.heap.size from fun e => by have := Option.some.inj e; omega)).trans RB.out; obtain ⟨⟨y0, y1, y2, y3⟩, yf⟩ := Row.four rz; have yq : W0.heap.size + 1 ≠ p := by omega))
        | ((refine step_append_lies _ (by rfl) _ _ _ (by rfl) W0.heap.size 4 ib _ 1 1 Try.underlying22 hib hzb0 hzb1 hzb2 rfl (by omega) (.slice (some ⟨W0.heap.size + 1, 0, none⟩) 0 0) 0 [] (by rfl) (by first | with_reducible exact OW2.out | with_reducible exact (OW2.out).drew | with_reducible exact (OW2.out).drew.drew | with_reducible exact (OW2.out).drew.drew.drew )
                ⟨bA, offA, none⟩ acc.length ca (bools acc) (by rfl) HACC.out (HN.out _ (below_step HB.out (by first | with_reducible exact (below_alloc _ _).alloc (by simp) _ | with_reducible exact ((below_alloc _ _).alloc (by simp) _).drew | with_reducible exact ((below_alloc _ _).alloc (by simp) _).drew.drew | with_reducible exact ((below_alloc _ _).alloc (by simp) _).drew.drew.drew ))) (by intro u hu; obtain ⟨_, _, rfl⟩ := List.mem_map.1 hu; rfl)
                hm0 (by unfold maxLen; omega) (by omega) (by first | (simp; done) | (simp; omega)) _ rfl ?_; intro g cap w2 hown1 hgrow hat hlt2;
              have e0 := hgrow.cell (a := ⟨p, 0, none⟩) (below_keep (by first | with_reducible exact (below_alloc _ _).alloc (by simp) _ | with_reducible exact ((below_alloc _ _).alloc (by simp) _).drew | with_reducible exact ((below_alloc _ _).alloc (by simp) _).drew.drew | with_reducible exact ((below_alloc _ _).alloc (by simp) _).drew.drew.drew ) d0) (show some p ≠ some (W0.heap.size + 1) from fun e => by have := Option.some.inj e; omega); have e1 := hgrow.cell (a := ⟨p, 1, none⟩) (below_keep (by first | with_reducible exact (below_alloc _ _).alloc (by simp) _ | with_reducible exact ((below_alloc _ _).alloc (by simp) _).drew | with_reducible exact ((below_alloc _ _).alloc (by simp) _).drew.drew | with_reducible exact ((below_alloc _ _).alloc (by simp) _).drew.drew.drew ) d1) (show some p ≠ some (W0.heap.size + 1) from fun e => by have := Option.some.inj e; omega); have e2 := hgrow.cell (a := ⟨p, 2, none⟩) (below_keep (by first | with_reducible exact (below_alloc _ _).alloc (by simp) _ | with_reducible exact ((below_alloc _ _).alloc (by simp) _).drew | with_reducible exact ((below_alloc _ _).alloc (by simp) _).drew.drew | with_reducible exact ((below_alloc _ _).alloc (by simp) _).drew.drew.drew ) d2) (show some p ≠ some (W0.heap.size + 1) from fun e => by have := Option.some.inj e; omega); have rz := (hgrow.block W0.heap.size (by first | (simp; done) | (simp; omega)) (show some W0.heap.size ≠ some (W0.heap.size + 1) from fun e => by have := Option.some.inj e; omega)).trans RC.out; obtain ⟨⟨y0, y1, y2, y3⟩, yf⟩ := Row.four rz; have yq : W0.heap.size ≠ p := by omega)))
    · go_wp2_with fail
      go_meet
      have hsz := HSZ.out
      have hZ := HZ.out
      have howv : OwV bools 4 w2 (w.heap.size + 1) (.slice (some ⟨g, 0, none⟩) acc.length cap) acc [g] := by
        refine ⟨?_, rfl⟩
        have := hown1
        simp only [Nat.zero_add, List.nil_append] at this
        unfold Own
        rw [bools_len]
        exact World.ownsRow.mono this (by omega)
      have hgs : W0.heap.size = g ∨ W0.heap.size + 1 ≤ g ∧ 0 ≤ g := by
        rcases hat with h | h
        · exact .inl (Option.some.inj (show some (W0.heap.size) = some g from h))
        · right
          simp at h
          omega
      have hbw := (below_step HB.out (by first | with_reducible exact Below.refl _ _ | with_reducible exact below_drew _ | with_reducible exact (below_drew _).drew | with_reducible exact (below_drew _).drew.drew | with_reducible exact (below_drew _).drew.drew.drew | with_reducible exact below_alloc _ _ | with_reducible exact (below_alloc _ _).drew | with_reducible exact (below_alloc _ _).drew.drew | with_reducible exact (below_alloc _ _).drew.drew.drew | with_reducible exact (below_alloc _ _).alloc (by simp) _ | with_reducible exact ((below_alloc _ _).alloc (by simp) _).drew | with_reducible exact ((below_alloc _ _).alloc (by simp) _).drew.drew | with_reducible exact ((below_alloc _ _).alloc (by simp) _).drew.drew.drew )).trans (grown_below (v := .slice (some ⟨W0.heap.size, 0, none⟩) 0 0) (B := w.heap.size) hgrow (by first | (simp; omega) | omega) (fun b hb => by simp [blks, Value.ownBlock] at hb; omega))
      have hzw := grown_row (v := .slice (some ⟨W0.heap.size, 0, none⟩) 0 0) hgrow (HZ.out.below (B := W0.heap.size) (by first | with_reducible exact Below.refl _ _ | with_reducible exact below_drew _ | with_reducible exact (below_drew _).drew | with_reducible exact (below_drew _).drew.drew | with_reducible exact (below_drew _).drew.drew.drew | with_reducible exact below_alloc _ _ | with_reducible exact (below_alloc _ _).drew | with_reducible exact (below_alloc _ _).drew.drew | with_reducible exact (below_alloc _ _).drew.drew.drew | with_reducible exact (below_alloc _ _).alloc (by simp) _ | with_reducible exact ((below_alloc _ _).alloc (by simp) _).drew | with_reducible exact ((below_alloc _ _).alloc (by simp) _).drew.drew | with_reducible exact ((below_alloc _ _).alloc (by simp) _).drew.drew.drew ) (by omega)) (fun hm => by simp [blks, Value.ownBlock] at hm; omega)
      have hlg : w.heap.size + 1 ≤ g := by omega
      have hf : MadeC w w2.heap.size ⟨L, S, acc, []⟩ (w2.alloc (.cells #[.int .i64 L, .int .i64 S, .slice (some ⟨g, 0, none⟩) acc.length cap, .slice none 0 0] 27)) := by
        refine ⟨below_step hbw (below_alloc _ _), hzw.alloc _, by have := hzw.lt; omega, (.slice (some ⟨g, 0, none⟩) acc.length cap), .slice none 0 0, [g], [], Row.new _ _ _, (goodV bools _).below howv (below_alloc _ _), owL_nil _ _ _ _, by simp, ?_⟩
        simp; omega
      first | exact ⟨_, rfl, hf⟩ | exact ⟨_, rfl, hf.drew⟩ | exact ⟨_, rfl, hf.drew.drew⟩ | exact ⟨_, rfl, hf.drew.drew.drew⟩
    · go_wp2_with fail
      go_meet
      have hsz := HSZ.out
      have hZ := HZ.out
      have howv : OwV bools 4 w2 (w.heap.size + 1) (.slice (some ⟨g, 0, none⟩) acc.length cap) acc [g] := by
        refine ⟨?_, rfl⟩
        have := hown1
        simp only [Nat.zero_add, List.nil_append] at this
        unfold Own
        rw [bools_len]
        exact World.ownsRow.mono this (by omega)
      have hgs : W0.heap.size = g ∨ W0.heap.size + 1 ≤ g ∧ g = W0.heap.size + 2 := by
        rcases hat with h | h
        · exact .inl (Option.some.inj (show some (W0.heap.size) = some g from h))
        · right
          simp at h
          omega
      have hbw := (below_step HB.out (by first | with_reducible exact Below.refl _ _ | with_reducible exact below_drew _ | with_reducible exact (below_drew _).drew | with_reducible exact (below_drew _).drew.drew | with_reducible exact (below_drew _).drew.drew.drew | with_reducible exact below_alloc _ _ | with_reducible exact (below_alloc _ _).drew | with_reducible exact (below_alloc _ _).drew.drew | with_reducible exact (below_alloc _ _).drew.drew.drew | with_reducible exact (below_alloc _ _).alloc (by simp) _ | with_reducible exact ((below_alloc _ _).alloc (by simp) _).drew | with_reducible exact ((below_alloc _ _).alloc (by simp) _).drew.drew | with_reducible exact ((below_alloc _ _).alloc (by simp) _).drew.drew.drew )).trans (grown_below (v := .slice (some ⟨W0.heap.size, 0, none⟩) 0 0) (B := w.heap.size) hgrow (by first | (simp; omega) | omega) (fun b hb => by simp [blks, Value.ownBlock] at hb; omega))
      have hzw := grown_row (v := .slice (some ⟨W0.heap.size, 0, none⟩) 0 0) hgrow (HZ.out.below (B := W0.heap.size) (by first | with_reducible exact Below.refl _ _ | with_reducible exact below_drew _ | with_reducible exact (below_drew _).drew | with_reducible exact (below_drew _).drew.drew | with_reducible exact (below_drew _).drew.drew.drew | with_reducible exact below_alloc _ _ | with_reducible exact (below_alloc _ _).drew | with_reducible exact (below_alloc _ _).drew.drew | with_reducible exact (below_alloc _ _).drew.drew.drew | with_reducible exact (below_alloc _ _).alloc (by simp) _ | with_reducible exact ((below_alloc _ _).alloc (by simp) _).drew | with_reducible exact ((below_alloc _ _).alloc (by simp) _).drew.drew | with_reducible exact ((below_alloc _ _).alloc (by simp) _).drew.drew.drew ) (by omega)) (fun hm => by simp [blks, Value.ownBlock] at hm; omega)
      have hbox : Row w2 (W0.heap.size + 1) 27 [.int .i64 0, .int .i64 0, .slice none 0 0, .slice none 0 0] := rz
      have hf : MadeC w (W0.heap.size + 1) ⟨L, S, acc, []⟩ ((((w2.setCell ⟨W0.heap.size + 1, 0, none⟩ (.int .i64 L)).setCell ⟨W0.heap.size + 1, 1, none⟩ (.int .i64 S)).setCell ⟨W0.heap.size + 1, 2, none⟩ (.slice (some ⟨g, 0, none⟩) acc.length cap)).setCell ⟨W0.heap.size + 1, 3, none⟩ (.slice none 0 0)) := by
        refine ⟨((((hbw.setCell (p := ⟨W0.heap.size + 1, 0, none⟩) (by show w.heap.size ≤ W0.heap.size + 1; omega) _).setCell (p := ⟨W0.heap.size + 1, 1, none⟩) (by show w.heap.size ≤ W0.heap.size + 1; omega) _).setCell (p := ⟨W0.heap.size + 1, 2, none⟩) (by show w.heap.size ≤ W0.heap.size + 1; omega) _).setCell (p := ⟨W0.heap.size + 1, 3, none⟩) (by show w.heap.size ≤ W0.heap.size + 1; omega) _), ((((hzw.other (a := ⟨W0.heap.size + 1, 0, none⟩) (by show W0.heap.size + 1 ≠ w.heap.size; omega) _).other (a := ⟨W0.heap.size + 1, 1, none⟩) (by show W0.heap.size + 1 ≠ w.heap.size; omega) _).other (a := ⟨W0.heap.size + 1, 2, none⟩) (by show W0.heap.size + 1 ≠ w.heap.size; omega) _).other (a := ⟨W0.heap.size + 1, 3, none⟩) (by show W0.heap.size + 1 ≠ w.heap.size; omega) _), by omega, (.slice (some ⟨g, 0, none⟩) acc.length cap), .slice none 0 0, [g], [], ?_, ?_, owL_nil _ _ _ _, by simp, ?_⟩
        · exact (((hbox.stored 0 _).stored 1 _).stored 2 _).stored 3 _
        · refine (goodV bools _).other _ ((goodV bools _).other _ ((goodV bools _).other _ ((goodV bools _).other _ howv ?_) ?_) ?_) ?_ <;> (show W0.heap.size + 1 ∉ [g]; simp; omega)
        · simp; omega
      first | exact ⟨_, rfl, hf⟩ | exact ⟨_, rfl, hf.drew⟩ | exact ⟨_, rfl, hf.drew.drew⟩ | exact ⟨_, rfl, hf.drew.drew.drew⟩
    · go_wp2_with fail
      go_meet
      have hsz := HSZ.out
      have hZ := HZ.out
      have howv : OwV bools 4 w2 (w.heap.size + 1) (.slice (some ⟨g, 0, none⟩) acc.length cap) acc [g] := by
        refine ⟨?_, rfl⟩
        have := hown1
        simp only [Nat.zero_add, List.nil_append] at this
        unfold Own
        rw [bools_len]
        exact World.ownsRow.mono this (by omega)
      have hgs : W0.heap.size + 1 = g ∨ W0.heap.size + 1 ≤ g ∧ g = W0.heap.size + 2 := by
        rcases hat with h | h
        · exact .inl (Option.some.inj (show some (W0.heap.size + 1) = some g from h))
        · right
          simp at h
          omega
      have hbw := (below_step HB.out (by first | with_reducible exact Below.refl _ _ | with_reducible exact below_drew _ | with_reducible exact (below_drew _).drew | with_reducible exact (below_drew _).drew.drew | with_reducible exact (below_drew _).drew.drew.drew | with_reducible exact below_alloc _ _ | with_reducible exact (below_alloc _ _).drew | with_reducible exact (below_alloc _ _).drew.drew | with_reducible exact (below_alloc _ _).drew.drew.drew | with_reducible exact (below_alloc _ _).alloc (by simp) _ | with_reducible exact ((below_alloc _ _).alloc (by simp) _).drew | with_reducible exact ((below_alloc _ _).alloc (by simp) _).drew.drew | with_reducible exact ((below_alloc _ _).alloc (by simp) _).drew.drew.drew )).trans (grown_below (v := .slice (some ⟨W0.heap.size + 1, 0, none⟩) 0 0) (B := w.heap.size) hgrow (by first | (simp; omega) | omega) (fun b hb => by simp [blks, Value.ownBlock] at hb; omega))
      have hzw := grown_row (v := .slice (some ⟨W0.heap.size + 1, 0, none⟩) 0 0) hgrow (HZ.out.below (B := W0.heap.size) (by first | with_reducible exact Below.refl _ _ | with_reducible exact below_drew _ | with_reducible exact (below_drew _).drew | with_reducible exact (below_drew _).drew.drew | with_reducible exact (below_drew _).drew.drew.drew | with_reducible exact below_alloc _ _ | with_reducible exact (below_alloc _ _).drew | with_reducible exact (below_alloc _ _).drew.drew | with_reducible exact (below_alloc _ _).drew.drew.drew | with_reducible exact (below_alloc _ _).alloc (by simp) _ | with_reducible exact ((below_alloc _ _).alloc (by simp) _).drew | with_reducible exact ((below_alloc _ _).alloc (by simp) _).drew.drew | with_reducible exact ((below_alloc _ _).alloc (by simp) _).drew.drew.drew ) (by omega)) (fun hm => by simp [blks, Value.ownBlock] at hm; omega)
      have hbox : Row w2 (W0.heap.size) 27 [.int .i64 0, .int .i64 0, .slice none 0 0, .slice none 0 0] := rz
      have hf : MadeC w (W0.heap.size) ⟨L, S, acc, []⟩ ((((w2.setCell ⟨W0.heap.size, 0, none⟩ (.int .i64 L)).setCell ⟨W0.heap.size, 1, none⟩ (.int .i64 S)).setCell ⟨W0.heap.size, 2, none⟩ (.slice (some ⟨g, 0, none⟩) acc.length cap)).setCell ⟨W0.heap.size, 3, none⟩ (.slice none 0 0)) := by
        refine ⟨((((hbw.setCell (p := ⟨W0.heap.size, 0, none⟩) (by show w.heap.size ≤ W0.heap.size; omega) _).setCell (p := ⟨W0.heap.size, 1, none⟩) (by show w.heap.size ≤ W0.heap.size; omega) _).setCell (p := ⟨W0.heap.size, 2, none⟩) (by show w.heap.size ≤ W0.heap.size; omega) _).setCell (p := ⟨W0.heap.size, 3, none⟩) (by show w.heap.size ≤ W0.heap.size; omega) _), ((((hzw.other (a := ⟨W0.heap.size, 0, none⟩) (by show W0.heap.size ≠ w.heap.size; omega) _).other (a := ⟨W0.heap.size, 1, none⟩) (by show W0.heap.size ≠ w.heap.size; omega) _).other (a := ⟨W0.heap.size, 2, none⟩) (by show W0.heap.size ≠ w.heap.size; omega) _).other (a := ⟨W0.heap.size, 3, none⟩) (by show W0.heap.size ≠ w.heap.size; omega) _), by omega, (.slice (some ⟨g, 0, none⟩) acc.length cap), .slice none 0 0, [g], [], ?_, ?_, owL_nil _ _ _ _, by simp, ?_⟩
        · exact (((hbox.stored 0 _).stored 1 _).stored 2 _).stored 3 _
        · refine (goodV bools _).other _ ((goodV bools _).other _ ((goodV bools _).other _ ((goodV bools _).other _ howv ?_) ?_) ?_) ?_ <;> (show W0.heap.size ∉ [g]; simp; omega)
        · simp; omega
      first | exact ⟨_, rfl, hf⟩ | exact ⟨_, rfl, hf.drew⟩ | exact ⟨_, rfl, hf.drew.drew⟩ | exact ⟨_, rfl, hf.drew.drew.drew⟩
  case rest =>
    clear d0 d1 d2 hp0
    obtain ⟨po, rfl, hm⟩ := hcut
    have HM := Lib.hid hm
    have hlp : w.heap.size < wc.heap.size := hm.2.1.lt
    obtain ⟨c0, c1, c2, c3⟩ := HC.out
    have g3 := below_keep hm.1 c3
    clear c0 c1 c2 c3 hm hlp
    go_wp2
    go_loopw [4] (fun i wr => ∃ s : Nat, s ≤ next.length ∧ i = .int .i64 s ∧ MadeC w po ⟨L, S, acc, next.take s⟩ wr) (fun i _ => next.length - (intOf i).toNat)
    case atStart => exact ⟨0, Nat.zero_le _, rfl, HM.out⟩
    case round =>
      clear g3
      obtain ⟨s, hs, rfl, hI⟩ := hrel
      have HI := Lib.hid hI
      obtain ⟨hbw, hz, hpo, va, vn, ba, bn, ho, hva, hvn, hnd, hpn⟩ := hI
      obtain ⟨c0, c1, c2, c3⟩ := HC.out
      have g3 := below_keep hbw c3
      clear c0 c1 c2 c3
      by_cases hlt : s < next.length
      · obtain ⟨b, off, u, x, rfl, hx, hc, hRx⟩ := b3 s hlt
        have gc := below_keep hbw hc
        have ltb : b < w.heap.size := World.block_lt_of_cell? _ _ hc
        have hx3 : x.length ≤ 3 := by have := HL.out s x hx; omega
        obtain ⟨vs, bss, hvs, e1, e2, e3, rfl, e5⟩ := hvn
        rw [show (next.take s).length = s by rw [List.length_take]; omega] at e1 e2
        obtain ⟨Bn, kn, hsn⟩ := hvs.shape
        rw [e1] at hsn
        subst hsn
        obtain ⟨X, cx, hux⟩ := Rd.shape hRx
        rw [ints_len] at hux
        subst hux
        have nb1 : ∀ k, k ≤ w.heap.size → k ∉ blks (.slice Bn s kn) := fun k hk hm => by have := hvs.lt hm; omega
        have nbp : po ∉ blks (.slice Bn s kn) := fun hm => hpn (List.mem_append_right _ (List.mem_append_left _ hm))
        have hown0 : wr.ownsRow (w.heap.size + 1) 34 1 (.slice Bn s kn) s vs := by
          have := hvs
          unfold Own at this
          rwa [e1] at this
        have lpo := ho.lt
        have hlw := hz.lt
        have lp : p < wr.heap.size := Nat.lt_of_lt_of_le ltp hbw.size
        have hfz := ho.free 3
        obtain ⟨⟨o0, o1, o2, o3⟩, -⟩ := ho.four
        have HU := Lib.hid (fun W (hb : Below wr.heap.size wr W) => l00Own_own _ x W (keepsI _ _ _ _ hRx (below_step hbw hb)) (by omega))
        have HX := Lib.hid hx
        have HH := Lib.hid (show _ ∧ _ ∧ _ ∧ _ ∧ _ ∧ _ ∧ _ ∧ _ ∧ _ from ⟨hbw, hz, ho, hva, hvs, e3, e5, And.intro hnd hpn, hpo⟩)
        have HO := Lib.hid hown0
        have HE := Lib.hid (show _ ∧ _ from ⟨e1, e2⟩)
        have i1 : (0 : Int) ≤ s := by omega
        have i2 : (s : Int) < next.length := by omega
        have i3 : (s : Int) < 300 := by have := HNL.out; omega
        clear hbw hz ho hva hvs e3 e5 hnd hpn hpo hRx hown0 e1 e2 o0 o1 o2 hx hc b3
        go_wp2_with fail
        go_region_law
          (first
            | (refine step_append_lies _ (by rfl) _ _ _ (by rfl) (w.heap.size + 1) 34 isl _ 1 24 Try.underlying23 his hzs0 hzs1 hzs2 rfl (by omega) (.slice Bn s kn) s vs (by rfl) (by first | with_reducible exact hownC.alloc _ | with_reducible exact (hownC.alloc _).drew | with_reducible exact ((hownC.alloc _).drew).drew)
                ⟨wcl.heap.size, 0, none⟩ 1 1 [.slice C x.length cc] (by rfl) (by rfl) (World.news_of_block (cs := #[.slice C x.length cc]) (t := 34) (fr := (0, 0)) (heap_alloc_new wcl _)) (by simp [Value.oneCell'])
                (by omega) (by unfold maxLen; omega) (by omega) (by simp; omega) (wcl.heap.size + 1) (by simp) ?_; intro g cap w2 hown1 hgrow hat hlt2;
               have p1 := grown_cell hgrow nbp (below_keep (by first | with_reducible exact below_alloc _ _ | with_reducible exact (below_alloc _ _).drew | with_reducible exact (below_alloc _ _).drew.drew | with_reducible exact (below_alloc _ _).drew.drew.drew) q3); have p2 := grown_free hgrow nbp (by simp; omega) (below_keepf (by first | with_reducible exact below_alloc _ _ | with_reducible exact (below_alloc _ _).drew | with_reducible exact (below_alloc _ _).drew.drew | with_reducible exact (below_alloc _ _).drew.drew.drew) lpoC hfzC))
            | (go_simp; go_at_call 84; (with_reducible refine (HU.out _ (by first | with_reducible exact Below.refl _ _ | with_reducible exact below_drew _ | with_reducible exact (below_drew _).drew | with_reducible exact (below_drew _).drew.drew | with_reducible exact (below_drew _).drew.drew.drew)).mono ?_); rintro e wcl ⟨u0, b0, rfl, hu0, hbk⟩; have hbc : Below wr.heap.size wr wcl := below_step (by first | with_reducible exact Below.refl _ _ | with_reducible exact below_drew _ | with_reducible exact (below_drew _).drew | with_reducible exact (below_drew _).drew.drew | with_reducible exact (below_drew _).drew.drew.drew) hbk; have q3 := below_keep hbc o3; have hfzC := below_keepf hbc lpo hfz; have lpoC := Nat.lt_of_lt_of_le lpo hbc.size; have lwC := Nat.lt_of_lt_of_le hlw hbc.size; have hownC := rows_below HO.out hbc; have hshp := owI_shape hu0; obtain ⟨C, cc, rfl⟩ := hshp; have HU0 := Lib.hid hu0; clear hu0))
        all_goals
          go_wp2
          obtain ⟨hbw, hz, ho, hva, hvs, e3, e5, ⟨hnd, hpn⟩, hpo⟩ := HH.out
          obtain ⟨e1, e2⟩ := HE.out
          have hg : (wcl.alloc (.cells #[.slice C x.length cc] 34)).grownBy w2 (Value.slice Bn s kn).ownBlock := (by first | exact hgrow | exact undrew hgrow | exact undrew (undrew hgrow) | exact undrew (undrew (undrew hgrow)))
          have hres : MadeC w po ⟨L, S, acc, next.take (s + 1)⟩ (w2.setCell ⟨po, 3, none⟩ (.slice (some ⟨g, 0, none⟩) (s + 1) cap)) := by
            refine ⟨app_below (below_step hbw hbc) hg (fun b hb => by have := hvs.lt hb; omega) (by omega), app_row hg (hz.below hbc hz.lt) (nb1 _ (Nat.le_refl _)) (by omega), hpo, ?_⟩
            rw [take_succ_of (show next[s]? = some x from HX.out)]
            have hu1 := (goodV ints 2).mono HU0.out (show w.heap.size + 1 ≤ _ from by have := hz.lt; first | omega | (simp; omega))
            have hlu := fun c hc => ((goodV ints 2).lt HU0.out (b := c) hc).1
            exact BoxR.snocNext (ho.below hbc ho.lt) ((goodV bools _).below hva hbc) (hvs.below hbc) (by rw [e1]; simp; omega) (by rw [e2]; simp; omega) (fun i u x b h1 h2 h3 => (goodV ints _).below (e3 i u x b h1 h2 h3) hbc) e5 hnd hpn hu1 (fun c hc hm => by
              have h1 := hlu c hc
              simp at h1
              rcases List.mem_append.1 hm with hm | hm
              · have := ((goodV bools _).lt hva hm).2; omega
              · have := ((goodL (goodV ints _) _).lt (show OwL (OwV ints 2) 34 wr (w.heap.size + 1) (.slice Bn s kn) (next.take s) _ from ⟨vs, bss, hvs, by rw [e1]; simp; omega, by rw [e2]; simp; omega, e3, rfl, e5⟩) hm).2; omega) (fun hm => by have := hlu _ hm; simp at this; omega) hg hown1 (by rw [List.length_take]; omega) hat
          go_roundw
          case rel => exact ⟨s + 1, by omega, by go_num, by first | exact hres | exact hres.drew | exact hres.drew.drew | exact hres.drew.drew.drew⟩
          case measure => simp [intOf]; omega
      · have htn : next.take s = next := List.take_of_length_le (by omega)
        rw [htn] at hvn
        simp only at hva hvn ho
        obtain ⟨Aa, ka, rfl⟩ := owB_shape hva
        obtain ⟨An, kn, rfl⟩ := OwL.shape hvn
        obtain ⟨⟨o0, o1, o2, o3⟩, -⟩ := ho.four
        obtain ⟨⟨z0, z1, z2, z3⟩, zf⟩ := hz.four
        have hl1 := hz.lt
        have hnz : w.heap.size ∉ ba ++ bn := fun hm => by
          rcases List.mem_append.1 hm with hm | hm
          · have := ((goodV bools _).lt hva hm).1; omega
          · have := ((goodL (goodV ints _) _).lt hvn hm).1; omega
        have HH := Lib.hid (show _ ∧ _ ∧ _ ∧ _ ∧ _ ∧ _ ∧ _ from ⟨hbw, hz, hva, hvn, hnd, hpo, hnz⟩)
        clear hbw hz ho hva hvn hnd hpo htn b3 hnz hpn
        go_wp2
        obtain ⟨hbw, hz, hva, hvn, hnd, hpo, hnz⟩ := HH.out
        have hO : OwR wr (w.heap.size + 1) (.agg #[.int .i64 L, .int .i64 S, .slice Aa acc.length ka, .slice An next.length kn]) ⟨L, S, acc, next⟩ (ba ++ bn) := ⟨_, _, ba, bn, rfl, hva, hvn, rfl, hnd⟩
        have rF := ((((hz.stored 0 (.int .i64 L)).stored 1 (.int .i64 S)).stored 2 (.slice Aa acc.length ka)).stored 3 (.slice An next.length kn))
        have eO := (goodR.other (a := ⟨w.heap.size, 3, none⟩) (.slice An next.length kn) (goodR.other (a := ⟨w.heap.size, 2, none⟩) (.slice Aa acc.length ka) (goodR.other (a := ⟨w.heap.size, 1, none⟩) (.int .i64 S) (goodR.other (a := ⟨w.heap.size, 0, none⟩) (.int .i64 L) hO hnz) hnz) hnz) hnz)
        have eB := ((((hbw.setCell (p := ⟨w.heap.size, 0, none⟩) (by show w.heap.size ≤ w.heap.size; omega) (.int .i64 L)).setCell (p := ⟨w.heap.size, 1, none⟩) (by show w.heap.size ≤ w.heap.size; omega) (.int .i64 S)).setCell (p := ⟨w.heap.size, 2, none⟩) (by show w.heap.size ≤ w.heap.size; omega) (.slice Aa acc.length ka)).setCell (p := ⟨w.heap.size, 3, none⟩) (by show w.heap.size ≤ w.heap.size; omega) (.slice An next.length kn))
        generalize ((((wr.setCell ⟨w.heap.size, 0, none⟩ (.int .i64 L)).setCell ⟨w.heap.size, 1, none⟩ (.int .i64 S)).setCell ⟨w.heap.size, 2, none⟩ (.slice Aa acc.length ka)).setCell ⟨w.heap.size, 3, none⟩ (.slice An next.length kn)) = W2 at *
        obtain ⟨⟨y0, y1, y2, y3⟩, -⟩ := Row.four (a := .int .i64 L) (b := .int .i64 S) (c := .slice Aa acc.length ka) (d := .slice An next.length kn) rF
        refine bodyPost_ret (v := .agg #[.int .i64 L, .int .i64 S, .slice Aa acc.length ka, .slice An next.length kn]) (by simp [results, Try.results39, go_sem, y0, y1, y2, y3]) rfl ?_
        first | exact ⟨_, _, rfl, goodR.mono eO (by omega), eB⟩ | exact ⟨_, rfl, ⟨_, goodR.mono eO (by omega)⟩, eB⟩
end Go.Proofs.Ytdnobbagcnbjiaa
