/-
  The turner of the words with a certain letter from the end: the model's answer.
-/
import Derived.Test.YtfkicedhjipfmaaNt2
import Derived.Deep.CutRange
namespace Go.Proofs.Ytfkicedhjipfmaa
open Go.RowKit

/-- What stands while the model makes the turner: the result's box, the move that refuses, and the turner in its box. -/
def NtI (w : World) (t : TData) (wr : World) : Prop :=
  Below w.heap.size w wr ∧ Row wr w.heap.size 29 [.int .i64 0, .int .i64 0, .slice none 0 0] ∧ Row wr (w.heap.size + 2) 66 [.int .i64 (-2), .int .i64 0] ∧ BoxT wr (w.heap.size + 3) (w.heap.size + 1) t
theorem NtI.below {w : World} {t : TData} {wr w' : World} (h : NtI w t wr) (hb : Below wr.heap.size wr w') : NtI w t w' :=
  ⟨below_step h.1 hb, h.2.1.below hb h.2.1.lt, h.2.2.1.below hb h.2.2.1.lt, h.2.2.2.below hb⟩
theorem NtI.stored {w : World} {t t' : TData} {wr w1 w2 : World} {v u : Value} (h : NtI w t wr) (hb1 : Below wr.heap.size wr w1) (hg : w1.grownBy w2 v.ownBlock) (hv : ∀ b ∈ blks v, w.heap.size + 3 ≤ b) (hbox : BoxT (w2.setCell ⟨w.heap.size + 1, 2, none⟩ u) (w.heap.size + 3) (w.heap.size + 1) t') :
    NtI w t' (w2.setCell ⟨w.heap.size + 1, 2, none⟩ u) := by
  have h1 := below_step h.1 hb1
  exact ⟨(h1.trans (grown_below hg h1.size (fun b hb => by have := hv b hb; omega))).setCell (p := ⟨w.heap.size + 1, 2, none⟩) (by show w.heap.size ≤ w.heap.size + 1; omega) _, (grown_row hg (h.2.1.below hb1 h.2.1.lt) (fun hm => by have := hv _ hm; omega)).other (by show w.heap.size + 1 ≠ w.heap.size; omega) _, (grown_row hg (h.2.2.1.below hb1 h.2.2.1.lt) (fun hm => by have := hv _ hm; omega)).other (by show w.heap.size + 1 ≠ w.heap.size + 2; omega) _, hbox⟩

/-- One row more in the box. -/
theorem ntMore {w wo w5 w6 : World} {t : TData} {Bm : Option Addr} {km q g5 cap5 g6 cap6 n : Nat} {vs : List Value} {row : List (Int × Int)} {o : Obj} (hI : NtI w t wo)
    (hE : Below wo.heap.size wo w5 ∧ ∃ bs', OwP 66 w5 wo.heap.size (.slice (some ⟨g5, 0, none⟩) n cap5) row bs') (hlo : w.heap.size + 3 ≤ wo.heap.size) (hv : ∀ b ∈ blks (.slice Bm q km), w.heap.size + 3 ≤ b)
    (hgr : ∀ (w1 : World) (u0 : Value) (x0 : List (Int × Int)) (b0 : List Nat), Below wo.heap.size wo w1 → OwP 66 w1 (w.heap.size + 3) u0 x0 b0 → (∀ c ∈ b0, wo.heap.size ≤ c) → ∀ (o : Obj) (w2 : World) (g cap : Nat), (w1.alloc o).grownBy w2 (Value.slice Bm q km).ownBlock →
        w2.ownsRow (w.heap.size + 3) 64 1 (.slice (some ⟨g, 0, none⟩) (q + 1) cap) (q + 1) (vs ++ [u0]) → ((Value.slice Bm q km).ownBlock = some g ∨ g = w1.heap.size + 1) → BoxT (w2.setCell ⟨w.heap.size + 1, 2, none⟩ (.slice (some ⟨g, 0, none⟩) (q + 1) cap)) (w.heap.size + 3) (w.heap.size + 1) ⟨t.L, t.S, t.mv ++ [x0]⟩)
    (hg6 : (w5.alloc o).grownBy w6 (Value.slice Bm q km).ownBlock) (hown6 : w6.ownsRow (w.heap.size + 3) 64 1 (.slice (some ⟨g6, 0, none⟩) (q + 1) cap6) (q + 1) (vs ++ [.slice (some ⟨g5, 0, none⟩) n cap5])) (hat : (Value.slice Bm q km).ownBlock = some g6 ∨ g6 = w5.heap.size + 1) :
    NtI w ⟨t.L, t.S, t.mv ++ [row]⟩ (w6.setCell ⟨w.heap.size + 1, 2, none⟩ (.slice (some ⟨g6, 0, none⟩) (q + 1) cap6)) := by
  obtain ⟨hb, bs', hu⟩ := hE
  exact hI.stored (below_step hb (below_alloc _ o)) hg6 hv (hgr w5 _ row bs' hb ((goodP _).mono hu hlo) (fun c hc => ((goodP _).lt hu hc).1) o w6 g6 cap6 hg6 hown6 hat)

set_option maxRecDepth 100000 in
set_option maxHeartbeats 6400000 in
theorem specNthT_rd (L n : Int) (w : World) :
    Calls Try.prog 27 #[.int .i64 L, .int .i64 n] w fun e w' => ∃ u, e = .returned (.tuple #[u, .int .i64 (nthTRes L n).2]) ∧ RdT w' u (nthTRes L n).1 ∧ Below w.heap.size w w' := by
  obtain ⟨im, him, hzm0, hzm1, hzm2⟩ := info_parts infoMove
  obtain ⟨is, his, hzs0, hzs1, hzs2⟩ := info_parts infoMsT
  have HI := Lib.hid (fun W => l06Nth_any L n W)
  have HZ0 := Lib.hid (show _ ∧ _ from ⟨below_alloc w (.cells #[.int .i64 0, .int .i64 0, .slice none 0 0] 29), Row.new w [.int .i64 0, .int .i64 0, .slice none 0 0] 29⟩)
  by_cases hok : okNth L n = true
  · rw [hok] at HI
    obtain ⟨⟨l1, l2⟩, n1, n2⟩ := okNth_parts hok
    have hres : nthTRes L n = (nthT L n, 0) := by rw [nthTRes, if_pos hok]
    obtain ⟨l, rfl⟩ : ∃ l : Nat, L = l := ⟨L.toNat, by omega⟩
    obtain ⟨m, rfl⟩ : ∃ m : Nat, n = m := ⟨n.toNat, by omega⟩
    have hT : nthT (l : Int) (m : Int) = ⟨(l : Int), 0, tableOf (nthG l m) (l + 2) (m + 1)⟩ := by simp [nthT]
    have HRES := Lib.hid (hres.trans (by rw [hT]))
    have HT := Lib.hid (show NtI w ⟨(l : Int), 0, []⟩ (((w.alloc (.cells #[.int .i64 0, .int .i64 0, .slice none 0 0] 29)).alloc (.cells #[.int .i64 (l : Int), .int .i64 0, .slice none 0 0] 29)).alloc (.cells #[.int .i64 (-2), .int .i64 0] 66)) from by
      refine ⟨below_step (below_step (below_alloc _ _) (below_alloc _ _)) (below_alloc _ _), ((Row.new w _ _).alloc _).alloc _, ?_, ?_⟩
      · have := Row.new ((w.alloc (.cells #[.int .i64 0, .int .i64 0, .slice none 0 0] 29)).alloc (.cells #[.int .i64 (l : Int), .int .i64 0, .slice none 0 0] 29)) [.int .i64 (-2), .int .i64 0] 66
        simpa using this
      · have h1 := (Row.new (w.alloc (.cells #[.int .i64 0, .int .i64 0, .slice none 0 0] 29)) [.int .i64 (l : Int), .int .i64 0, .slice none 0 0] 29).alloc (.cells #[.int .i64 (-2), .int .i64 0] 66)
        refine ⟨_, [], (by simpa using h1), owL_nil _ _ _ _, by simp⟩)
    clear hok hres hT
    go_enter Try.func27, Try.ntmps27
    go_wp2_with (go_at_call 68; refine (HI.out _).mono ?_; rintro e w' ⟨rfl, rfl⟩)
    generalize ((w.alloc (.cells #[.int .i64 0, .int .i64 0, .slice none 0 0] 29)).alloc (.cells #[.int .i64 (l : Int), .int .i64 0, .slice none 0 0] 29)).alloc (.cells #[.int .i64 (-2), .int .i64 0] 66) = W0 at *
    go_loopw [8] (fun i wr => ∃ q : Nat, q ≤ m + 1 ∧ i = .int .i64 q ∧ NtI w ⟨(l : Int), 0, tableOf (nthG l m) (l + 2) q⟩ wr) (fun i _ => m + 1 - (intOf i).toNat)
    case atStart => exact ⟨0, Nat.zero_le _, rfl, by simpa [tableOf] using HT.out⟩
    case round =>
      clear HT HZ0
      obtain ⟨wo, hwo⟩ : ∃ wo, wo = wr := ⟨wr, rfl⟩
      subst hwo
      obtain ⟨q, hq, rfl, hI⟩ := hrel
      have HI2 := Lib.hid hI
      clear hI
      by_cases hlt : q < m + 1
      · have j0 : (q : Int) ≤ m := by omega
        have H1 := Lib.hid (movesI0 wo)
        go_wp2
        have HB1 := Lib.hid (below_alloc wo (.cells #[] 66))
        generalize wo.alloc (.cells #[] 66) = W1 at *
        go_loopw [9, 10] (fun vl i wi => ∃ (d dl : Nat) (Bd : Option Addr), d ≤ l ∧ i = .int .i64 d ∧ vl = .slice Bd d dl ∧ Below wo.heap.size wo wi ∧ ∃ bs, OwP 66 wi wo.heap.size (.slice Bd d dl) ((rowOf (nthG l m) (l + 2) q).take d) bs) (fun _ i _ => l - (intOf i).toNat)
        case atStart => exact ⟨0, 0, _, Nat.zero_le _, rfl, rfl, HB1.out, _, H1.out⟩
        case round =>
          clear H1 HB1
          obtain ⟨d, dl, Bd, hd, rfl, rfl, hbd, bsd, hOd⟩ := hrel
          have hlend : ((rowOf (nthG l m) (l + 2) q).take d).length = d := by rw [List.length_take, rowOf_len]; omega
          have HD := Lib.hid (show _ ∧ _ from ⟨hbd, hOd⟩)
          have hsd := hbd.size
          obtain ⟨⟨e0, e1⟩, -⟩ := (HI2.out.below hbd).2.2.1.two
          clear hbd hOd
          have k0 : (0 : Int) ≤ d := by omega
          by_cases hdl : d < l
          · have HTK := Lib.hid (show (rowOf (nthG l m) (l + 2) q).take (d + 1) = (rowOf (nthG l m) (l + 2) q).take d ++ [nthG l m q d] from take_succ_of (rowOf_get _ (by omega)))
            have k1 : (d : Int) < l := by omega
            by_cases h0 : q = 0
            · have b0 : ((q : Int) == 0) = true := by rw [beq_iff_eq]; omega
              have HGV := Lib.hid (show nthG l m q d = (0, 1) by rw [nthG, if_pos h0, if_neg (by omega)])
              rw [HGV.out] at HTK
              clear h0
              have HG := Lib.hid (addMoves HD.out.1 HD.out.2 hlend (below_alloc wr (.cells #[.int .i64 (0), .int .i64 (1)] 66)))
              clear hlend
              go_wp2_with (at_builtin; refine wpList_append_lies _ rfl _ _ 64 rfl wo.heap.size 66 im _ 2 16 Try.underlying64 him hzm0 hzm1 hzm2 rfl (by decide) (.slice Bd d dl) d _ rfl HG.out.1 ⟨wr.heap.size, 0, none⟩ 1 1 [.int .i64 (0), .int .i64 (1)] rfl rfl (World.news_of_block (cs := #[.int .i64 (0), .int .i64 (1)]) (t := 66) (fr := (0, 0)) (heap_alloc_new wr _)) (by simp [Value.oneCell']) (by omega) (by unfold maxLen; omega) (by omega) (by simp; omega) (wr.heap.size + 1) (by simp) ?_; intro g5 cap5 w5 hown5 hgrow5 hat5 hlt5; have HE := Lib.hid (HG.out.2 w5 g5 cap5 (d + 1) [((0 : Int), (1 : Int))] (by simp) hgrow5 (by simpa [pcells, pcell] using hown5)); clear hown5 hgrow5 hat5 hlt5)
              go_roundw
              case rel => exact ⟨d + 1, _, _, by omega, by go_num, rfl, HE.out.1, by rw [HTK.out]; exact HE.out.2⟩
              case measure => simp [intOf]; omega
            · have b0 : ((q : Int) == 0) = false := by rw [beq_eq_false_iff_ne]; omega
              by_cases h1 : q < m
              · have b1 : decide ((q : Int) < (m : Int)) = true := decide_eq_true (by omega)
                have HGV := Lib.hid (show nthG l m q d = ((q : Int) + 1, -1) by rw [nthG, if_neg h0, if_neg (by omega), if_neg (by omega)])
                rw [HGV.out] at HTK
                have b1' : decide (q < m) = true := decide_eq_true h1
                have HG := Lib.hid (addMoves HD.out.1 HD.out.2 hlend (below_alloc wr (.cells #[.int .i64 ((q : Int) + 1), .int .i64 (-1)] 66)))
                clear hlend
                go_wp2_with (at_builtin; refine wpList_append_lies _ rfl _ _ 64 rfl wo.heap.size 66 im _ 2 16 Try.underlying64 him hzm0 hzm1 hzm2 rfl (by decide) (.slice Bd d dl) d _ rfl HG.out.1 ⟨wr.heap.size, 0, none⟩ 1 1 [.int .i64 ((q : Int) + 1), .int .i64 (-1)] rfl rfl (World.news_of_block (cs := #[.int .i64 ((q : Int) + 1), .int .i64 (-1)]) (t := 66) (fr := (0, 0)) (heap_alloc_new wr _)) (by simp [Value.oneCell']) (by omega) (by unfold maxLen; omega) (by omega) (by simp; omega) (wr.heap.size + 1) (by simp) ?_; intro g5 cap5 w5 hown5 hgrow5 hat5 hlt5; have HE := Lib.hid (HG.out.2 w5 g5 cap5 (d + 1) [(((q : Int) + 1 : Int), (-1 : Int))] (by simp) hgrow5 (by simpa [pcells, pcell] using hown5)); clear hown5 hgrow5 hat5 hlt5)
                go_roundw
                case rel => exact ⟨d + 1, _, _, by omega, by go_num, rfl, HE.out.1, by rw [HTK.out]; exact HE.out.2⟩
                case measure => simp [intOf]; omega
              · have b1 : decide ((q : Int) < (m : Int)) = false := decide_eq_false (by omega)
                by_cases h2 : d = 0
                · have b2 : ((d : Int) == 0) = true := by rw [beq_iff_eq]; omega
                  have HGV := Lib.hid (show nthG l m q d = (-1, 0) by rw [nthG, if_neg h0, if_neg (by omega), if_pos (by omega), if_pos h2])
                  rw [HGV.out] at HTK
                  have b1' : decide (q < m) = false := decide_eq_false h1
                  clear h2
                  have HG := Lib.hid (addMoves HD.out.1 HD.out.2 hlend (below_alloc wr (.cells #[.int .i64 (-1), .int .i64 (0)] 66)))
                  clear hlend
                  go_wp2_with (at_builtin; refine wpList_append_lies _ rfl _ _ 64 rfl wo.heap.size 66 im _ 2 16 Try.underlying64 him hzm0 hzm1 hzm2 rfl (by decide) (.slice Bd d dl) d _ rfl HG.out.1 ⟨wr.heap.size, 0, none⟩ 1 1 [.int .i64 (-1), .int .i64 (0)] rfl rfl (World.news_of_block (cs := #[.int .i64 (-1), .int .i64 (0)]) (t := 66) (fr := (0, 0)) (heap_alloc_new wr _)) (by simp [Value.oneCell']) (by omega) (by unfold maxLen; omega) (by omega) (by simp; omega) (wr.heap.size + 1) (by simp) ?_; intro g5 cap5 w5 hown5 hgrow5 hat5 hlt5; have HE := Lib.hid (HG.out.2 w5 g5 cap5 (d + 1) [((-1 : Int), (0 : Int))] (by simp) hgrow5 (by simpa [pcells, pcell] using hown5)); clear hown5 hgrow5 hat5 hlt5)
                  go_roundw
                  case rel => exact ⟨d + 1, _, _, by omega, by go_num, rfl, HE.out.1, by rw [HTK.out]; exact HE.out.2⟩
                  case measure => simp [intOf]; omega
                · have b2 : ((d : Int) == 0) = false := by rw [beq_eq_false_iff_ne]; omega
                  have HGV := Lib.hid (show nthG l m q d = (-2, 0) by rw [nthG, if_neg h0, if_neg (by omega), if_pos (by omega), if_neg h2])
                  rw [HGV.out] at HTK
                  have b1' : decide (q < m) = false := decide_eq_false h1
                  have HG := Lib.hid (addMoves HD.out.1 HD.out.2 hlend (below_alloc wr (.cells #[.int .i64 (-2), .int .i64 (0)] 66)))
                  clear hlend
                  go_wp2_with (at_builtin; refine wpList_append_lies _ rfl _ _ 64 rfl wo.heap.size 66 im _ 2 16 Try.underlying64 him hzm0 hzm1 hzm2 rfl (by decide) (.slice Bd d dl) d _ rfl HG.out.1 ⟨wr.heap.size, 0, none⟩ 1 1 [.int .i64 (-2), .int .i64 (0)] rfl rfl (World.news_of_block (cs := #[.int .i64 (-2), .int .i64 (0)]) (t := 66) (fr := (0, 0)) (heap_alloc_new wr _)) (by simp [Value.oneCell']) (by omega) (by unfold maxLen; omega) (by omega) (by simp; omega) (wr.heap.size + 1) (by simp) ?_; intro g5 cap5 w5 hown5 hgrow5 hat5 hlt5; have HE := Lib.hid (HG.out.2 w5 g5 cap5 (d + 1) [((-2 : Int), (0 : Int))] (by simp) hgrow5 (by simpa [pcells, pcell] using hown5)); clear hown5 hgrow5 hat5 hlt5)
                  go_roundw
                  case rel => exact ⟨d + 1, _, _, by omega, by go_num, rfl, HE.out.1, by rw [HTK.out]; exact HE.out.2⟩
                  case measure => simp [intOf]; omega
          · obtain rfl : d = l := by omega
            have k1 : ¬ (d : Int) < d := by omega
            have hrow : ∀ g1 g2, nthG d m q d = g1 → nthG d m q (d + 1) = g2 → rowOf (nthG d m) (d + 2) q = (rowOf (nthG d m) (d + 2) q).take d ++ [g1, g2] := by
              rintro _ _ rfl rfl
              have e1 := take_succ_of (rowOf_get (nthG d m) (c := d + 2) (q := q) (k := d) (by omega))
              have e2 := take_succ_of (rowOf_get (nthG d m) (c := d + 2) (q := q) (k := d + 1) (by omega))
              have e3 : (rowOf (nthG d m) (d + 2) q).take (d + 1 + 1) = rowOf (nthG d m) (d + 2) q := List.take_of_length_le (by rw [rowOf_len]; omega)
              calc rowOf (nthG d m) (d + 2) q = (rowOf (nthG d m) (d + 2) q).take (d + 1 + 1) := e3.symm
                _ = (rowOf (nthG d m) (d + 2) q).take (d + 1) ++ [nthG d m q (d + 1)] := e2
                _ = (rowOf (nthG d m) (d + 2) q).take d ++ [nthG d m q d] ++ [nthG d m q (d + 1)] := by rw [e1]
                _ = _ := by simp
            by_cases h0 : q = 0
            · have b0 : ((q : Int) == 0) = true := by rw [beq_iff_eq]; omega
              have HROW := Lib.hid (hrow (0, 1) (1, -1) (by rw [nthG, if_pos h0, if_neg (by omega)]) (by rw [nthG, if_pos h0, if_pos rfl]))
              clear hrow h0
              have HG := Lib.hid (addMoves HD.out.1 HD.out.2 hlend (below_alloc wr (.cells #[.int .i64 0, .int .i64 1, .int .i64 1, .int .i64 (-1)] 66)))
              have HLO := Lib.hid (show w.heap.size + 3 ≤ wo.heap.size from Nat.succ_le_of_lt HI2.out.2.2.1.lt)
              obtain ⟨Bm, km, vs, ho, hrn, pn, vn1, gN⟩ := HI2.out.2.2.2.open
              rw [tableOf_len] at ho hrn pn vn1 gN
              have HO := Lib.hid (show _ ∧ _ ∧ _ ∧ _ ∧ _ from ⟨ho, hrn, pn, vn1, gN⟩)
              have lpo := ho.lt
              clear hlend ho hrn pn vn1 gN
              go_wp2_with (at_builtin; first
                | (refine wpList_append_lies _ rfl _ _ 64 rfl wo.heap.size 66 im _ 2 16 Try.underlying64 him hzm0 hzm1 hzm2 rfl (by decide) (.slice Bd d dl) d _ rfl HG.out.1 ⟨wr.heap.size, 0, none⟩ 2 2 [.int .i64 0, .int .i64 1, .int .i64 1, .int .i64 (-1)] rfl rfl (World.news_of_block (cs := #[.int .i64 0, .int .i64 1, .int .i64 1, .int .i64 (-1)]) (t := 66) (fr := (0, 0)) (heap_alloc_new wr _)) (by simp [Value.oneCell']) (by omega) (by unfold maxLen; omega) (by omega) (by simp; omega) (wr.heap.size + 1) (by simp) ?_; intro g5 cap5 w5 hown5 hgrow5 hat5 hlt5; have HE := Lib.hid (HG.out.2 w5 g5 cap5 (d + 2) [((0 : Int), (1 : Int)), (1, -1)] (by simp) hgrow5 (by simpa [pcells, pcell] using hown5)); clear hown5 hgrow5 hat5 hlt5; have hs5 := HE.out.1.size; have o2 := below_keep HE.out.1 (HO.out.1.three.1.2.2); have f2 := below_keepf HE.out.1 lpo (HO.out.1.free 2); have o2' := below_keep (below_alloc w5 (.cells #[.slice (some ⟨g5, 0, none⟩) (d + 2) cap5] 64)) o2; have f2' := below_keepf (below_alloc w5 (.cells #[.slice (some ⟨g5, 0, none⟩) (d + 2) cap5] 64)) (Nat.lt_of_lt_of_le lpo hs5) f2)
                | (refine wpList_append_lies _ rfl _ _ 27 rfl (w.heap.size + 3) 64 is _ 1 24 Try.underlying27 his hzs0 hzs1 hzs2 rfl (by decide) (.slice Bm q km) q _ rfl (rows_below HO.out.2.1 (below_step HE.out.1 (below_alloc _ _))) ⟨w5.heap.size, 0, none⟩ 1 1 [.slice (some ⟨g5, 0, none⟩) (d + 2) cap5] rfl rfl (World.news_of_block (cs := #[.slice (some ⟨g5, 0, none⟩) (d + 2) cap5]) (t := 64) (fr := (0, 0)) (heap_alloc_new w5 _)) (by simp [Value.oneCell']) (by omega) (by unfold maxLen; omega) (by omega) (by simp; omega) (w5.heap.size + 1) (by simp) ?_; intro g6 cap6 w6 hown6 hgrow6 hat6 hlt6; have p2 := grown_cell hgrow6 HO.out.2.2.1 o2'; have q2 := grown_free hgrow6 HO.out.2.2.1 (by simp; omega) f2'; have HN := Lib.hid (ntMore HI2.out HE.out HLO.out HO.out.2.2.2.1 HO.out.2.2.2.2 hgrow6 hown6 hat6); clear hown6 hgrow6 hat6 hlt6))
              go_roundw
              case rel => exact ⟨q + 1, by omega, by go_num, by rw [tableOf_succ, HROW.out]; exact HN.out⟩
              case measure => simp [intOf]; omega
            · have b0 : ((q : Int) == 0) = false := by rw [beq_eq_false_iff_ne]; omega
              have HROW := Lib.hid (hrow (-2, 0) (-2, 0) (by rw [nthG, if_neg h0, if_pos (by omega)]) (by rw [nthG, if_neg h0, if_pos (by omega)]))
              clear hrow
              have HG := Lib.hid (addMoves HD.out.1 HD.out.2 hlend (below_alloc wr (.cells #[.int .i64 (-2), .int .i64 0, .int .i64 (-2), .int .i64 0] 66)))
              have HLO := Lib.hid (show w.heap.size + 3 ≤ wo.heap.size from Nat.succ_le_of_lt HI2.out.2.2.1.lt)
              obtain ⟨Bm, km, vs, ho, hrn, pn, vn1, gN⟩ := HI2.out.2.2.2.open
              rw [tableOf_len] at ho hrn pn vn1 gN
              have HO := Lib.hid (show _ ∧ _ ∧ _ ∧ _ ∧ _ from ⟨ho, hrn, pn, vn1, gN⟩)
              have lpo := ho.lt
              clear hlend ho hrn pn vn1 gN
              go_wp2_with (at_builtin; first
                | (refine wpList_append_lies _ rfl _ _ 64 rfl wo.heap.size 66 im _ 2 16 Try.underlying64 him hzm0 hzm1 hzm2 rfl (by decide) (.slice Bd d dl) d _ rfl HG.out.1 ⟨wr.heap.size, 0, none⟩ 2 2 [.int .i64 (-2), .int .i64 0, .int .i64 (-2), .int .i64 0] rfl rfl (World.news_of_block (cs := #[.int .i64 (-2), .int .i64 0, .int .i64 (-2), .int .i64 0]) (t := 66) (fr := (0, 0)) (heap_alloc_new wr _)) (by simp [Value.oneCell']) (by omega) (by unfold maxLen; omega) (by omega) (by simp; omega) (wr.heap.size + 1) (by simp) ?_; intro g5 cap5 w5 hown5 hgrow5 hat5 hlt5; have HE := Lib.hid (HG.out.2 w5 g5 cap5 (d + 2) [((-2 : Int), (0 : Int)), (-2, 0)] (by simp) hgrow5 (by simpa [pcells, pcell] using hown5)); clear hown5 hgrow5 hat5 hlt5; have hs5 := HE.out.1.size; have o2 := below_keep HE.out.1 (HO.out.1.three.1.2.2); have f2 := below_keepf HE.out.1 lpo (HO.out.1.free 2); have o2' := below_keep (below_alloc w5 (.cells #[.slice (some ⟨g5, 0, none⟩) (d + 2) cap5] 64)) o2; have f2' := below_keepf (below_alloc w5 (.cells #[.slice (some ⟨g5, 0, none⟩) (d + 2) cap5] 64)) (Nat.lt_of_lt_of_le lpo hs5) f2)
                | (refine wpList_append_lies _ rfl _ _ 27 rfl (w.heap.size + 3) 64 is _ 1 24 Try.underlying27 his hzs0 hzs1 hzs2 rfl (by decide) (.slice Bm q km) q _ rfl (rows_below HO.out.2.1 (below_step HE.out.1 (below_alloc _ _))) ⟨w5.heap.size, 0, none⟩ 1 1 [.slice (some ⟨g5, 0, none⟩) (d + 2) cap5] rfl rfl (World.news_of_block (cs := #[.slice (some ⟨g5, 0, none⟩) (d + 2) cap5]) (t := 64) (fr := (0, 0)) (heap_alloc_new w5 _)) (by simp [Value.oneCell']) (by omega) (by unfold maxLen; omega) (by omega) (by simp; omega) (w5.heap.size + 1) (by simp) ?_; intro g6 cap6 w6 hown6 hgrow6 hat6 hlt6; have p2 := grown_cell hgrow6 HO.out.2.2.1 o2'; have q2 := grown_free hgrow6 HO.out.2.2.1 (by simp; omega) f2'; have HN := Lib.hid (ntMore HI2.out HE.out HLO.out HO.out.2.2.2.1 HO.out.2.2.2.2 hgrow6 hown6 hat6); clear hown6 hgrow6 hat6 hlt6))
              go_roundw
              case rel => exact ⟨q + 1, by omega, by go_num, by rw [tableOf_succ, HROW.out]; exact HN.out⟩
              case measure => simp [intOf]; omega
      · obtain rfl : q = m + 1 := by omega
        have j0 : ¬ ((m + 1 : Nat) : Int) ≤ m := by omega
        obtain ⟨Bm, km, bs, hrow, hOw⟩ := HI2.out.2.2.2.own
        simp only [tableOf_len] at hrow hOw
        obtain ⟨⟨x0, x1, x2⟩, -⟩ := hrow.three
        obtain ⟨⟨z0, z1, z2⟩, zf⟩ := HI2.out.2.1.three
        have lx := hrow.lt
        have lz := HI2.out.2.1.lt
        have HXX := Lib.hid hOw
        clear hrow hOw
        go_wp2
        obtain ⟨W2, hW2, ⟨y0, y1, y2⟩, eO, eB⟩ := stored3T HI2.out.2.1 HXX.out (by omega) (Nat.le_refl _) HI2.out.1
        rw [← hW2]
        clear hW2
        refine bodyPost_ret (v := .tuple #[.agg #[.int .i64 (l : Int), .int .i64 0, .slice Bm (m + 1) km], .int .i64 0]) (by simp [results, Try.results27, go_sem, y0, y1, y2]) rfl ?_
        rw [HRES.out]
        exact ⟨_, rfl, eO.rd, eB⟩
  · have hok' : okNth L n = false := by simpa using hok
    rw [hok'] at HI
    have HRES := Lib.hid (show nthTRes L n = (⟨0, 0, []⟩, 2) by rw [nthTRes, if_neg hok])
    clear hok hok'
    obtain ⟨⟨z0, z1, z2⟩, zf⟩ := HZ0.out.2.three
    go_enter Try.func27, Try.ntmps27
    go_wp2_with (go_at_call 68; refine (HI.out _).mono ?_; rintro e w' ⟨rfl, rfl⟩)
    refine bodyPost_ret (v := .tuple #[.agg #[.int .i64 0, .int .i64 0, .slice none 0 0], .int .i64 2]) (by simp [results, Try.results27, go_sem, z0, z1, z2]) rfl ?_
    rw [HRES.out]
    exact ⟨_, rfl, (owT_zero _ 0).rd, HZ0.out.1⟩
end Go.Proofs.Ytfkicedhjipfmaa
