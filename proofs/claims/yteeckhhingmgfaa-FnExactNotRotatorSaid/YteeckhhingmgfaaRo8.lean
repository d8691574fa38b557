/-
  A rotator with greater numbers of states and other endings, by the program.
-/
import Derived.Test.YteeckhhingmgfaaRo7
import Derived.Test.YteeckhhingmgfaaRo3
import Derived.Deep.RegionLaw
import Derived.Deep.CutRange
namespace Go.Proofs.Yteeckhhingmgfaa
open Go.RowKit

def chgO (by0 : Int) (f : Int → Int) (r : OData) : OData := ⟨r.L, r.S + by0, addRows by0 r.next, r.fin.map f⟩

/-- What stands while a rotator is changed: the argument's box, the result's, and the one in which it is made. -/
def ChI (w : World) (cR : List Value) (r : OData) (wr : World) : Prop :=
  Below w.heap.size w wr ∧ Row wr w.heap.size 28 cR ∧ Row wr (w.heap.size + 1) 28 [.int .i64 0, .int .i64 0, .slice none 0 0, .slice none 0 0] ∧ BoxO wr (w.heap.size + 2) (w.heap.size + 2) r
theorem ChI.below {w : World} {cR : List Value} {r : OData} {wr w' : World} (h : ChI w cR r wr) (hb : Below wr.heap.size wr w') : ChI w cR r w' :=
  ⟨below_step h.1 hb, h.2.1.below hb h.2.1.lt, h.2.2.1.below hb h.2.2.1.lt, h.2.2.2.below hb⟩
theorem ChI.stored {w : World} {cR : List Value} {r : OData} {wr w2 : World} {r' : OData} {v u : Value} {i : Nat} {w1 : World} (h : ChI w cR r wr) (hb1 : Below wr.heap.size wr w1) (hg : w1.grownBy w2 v.ownBlock) (hv : ∀ b ∈ blks v, w.heap.size + 2 ≤ b) (hbox : BoxO (w2.setCell ⟨w.heap.size + 2, i, none⟩ u) (w.heap.size + 2) (w.heap.size + 2) r') :
    ChI w cR r' (w2.setCell ⟨w.heap.size + 2, i, none⟩ u) := by
  have h1 := below_step h.1 hb1
  refine ⟨(h1.trans (grown_below hg h1.size (fun b hb => by have := hv b hb; omega))).setCell (p := ⟨w.heap.size + 2, i, none⟩) (by show w.heap.size ≤ w.heap.size + 2; omega) _, (grown_row hg (h.2.1.below hb1 h.2.1.lt) (fun hm => by have := hv _ hm; omega)).other (by show w.heap.size + 2 ≠ w.heap.size; omega) _, (grown_row hg (h.2.2.1.below hb1 h.2.2.1.lt) (fun hm => by have := hv _ hm; omega)).other (by show w.heap.size + 2 ≠ w.heap.size + 1; omega) _, hbox⟩

set_option maxRecDepth 100000 in
set_option maxHeartbeats 6400000 in
theorem changedNr_own (v : Value) (r : OData) (by0 : Int)  (f : Int → Int) (w : World) (h : RdO w v r) (ok : okO r = true) (hy0 : 0 ≤ by0) (hy6 : by0 ≤ 6)
    (hF : ∀ (W : World), Below w.heap.size w W → ∀ x ∈ r.fin, Calls Try.prog 56 #[.int .i64 x] W fun e w' => e = .returned (.int .i64 (f x)) ∧ W = w') :
    Calls Try.prog 55 #[v, .int .i64 by0, .func (.func 56) #[] #[]] w fun e w' => ∃ u bs, e = .returned u ∧ OwO w' w.heap.size u (chgO by0 f r) bs ∧ Below w.heap.size w w' := by
  obtain ⟨ii, hii, hzi0, hzi1, hzi2⟩ := info_parts infoI64
  obtain ⟨is, his, hzs0, hzs1, hzs2⟩ := info_parts infoIs
  have HOK := Lib.hid ok
  obtain ⟨⟨l1, l2⟩, ⟨n1, n2⟩, ⟨s1, s2⟩, m1, -⟩ := okO_parts ok
  obtain ⟨L, S, next, fin⟩ := r
  obtain ⟨vn, vf, rfl, hn, hf⟩ := h
  simp only at l1 l2 n1 n2 s1 s2 m1 hn hf hF
  obtain ⟨A, ka, rfl, a1, a2, a3⟩ := RdL.open hn
  obtain ⟨B, kb, rfl, b1, b2, b3⟩ := RdI.open hf
  unfold maxLen at a2 b2
  have HF := Lib.hid hF
  have HM := Lib.hid m1
  have HI := Lib.hid (show ChI w [.int .i64 L, .int .i64 S, .slice A next.length ka, .slice B fin.length kb] ⟨L, S + by0, [], []⟩ (((w.alloc (.cells #[.int .i64 L, .int .i64 S, .slice A next.length ka, .slice B fin.length kb] 28)).alloc (.cells #[.int .i64 0, .int .i64 0, .slice none 0 0, .slice none 0 0] 28)).alloc (.cells #[.int .i64 L, .int .i64 (S + by0), .slice none 0 0, .slice none 0 0] 28)) from by
    refine ⟨below_step (below_step (below_alloc _ _) (below_alloc _ _)) (below_alloc _ _), ((Row.new w [.int .i64 L, .int .i64 S, .slice A next.length ka, .slice B fin.length kb] 28).alloc _).alloc _, ?_, ?_⟩
    · have := (Row.new (w.alloc (.cells #[.int .i64 L, .int .i64 S, .slice A next.length ka, .slice B fin.length kb] 28)) [.int .i64 0, .int .i64 0, .slice none 0 0, .slice none 0 0] 28).alloc (.cells #[.int .i64 L, .int .i64 (S + by0), .slice none 0 0, .slice none 0 0] 28)
      simpa using this
    · have := BoxO.start ((w.alloc (.cells #[.int .i64 L, .int .i64 S, .slice A next.length ka, .slice B fin.length kb] 28)).alloc (.cells #[.int .i64 0, .int .i64 0, .slice none 0 0, .slice none 0 0] 28)) L (S + by0)
      simpa using this)
  clear hn hf hF ok m1
  go_enter Try.func55, Try.ntmps55
  go_wp2
  generalize ((w.alloc (.cells #[.int .i64 L, .int .i64 S, .slice A next.length ka, .slice B fin.length kb] 28)).alloc (.cells #[.int .i64 0, .int .i64 0, .slice none 0 0, .slice none 0 0] 28)).alloc (.cells #[.int .i64 L, .int .i64 (S + by0), .slice none 0 0, .slice none 0 0] 28) = W0 at *
  go_loopw [23] (fun i wr => ∃ k : Nat, k ≤ next.length ∧ i = .int .i64 k ∧ ChI w [.int .i64 L, .int .i64 S, .slice A next.length ka, .slice B fin.length kb] ⟨L, S + by0, (addRows by0 next).take k, (fin.map f).take k⟩ wr) (fun i _ => next.length - (intOf i).toNat)
  case atStart => exact ⟨0, Nat.zero_le _, rfl, by simpa using HI.out⟩
  case round =>
    clear HI
    obtain ⟨wo, hwo⟩ : ∃ wo, wo = wr := ⟨wr, rfl⟩
    subst hwo
    obtain ⟨k, hk, rfl, hI⟩ := hrel
    by_cases hlt : k < next.length
    · obtain ⟨b, off, ux, x, rfl, hx, hc, hRx⟩ := a3 k hlt
      obtain ⟨bf, offf, z, rfl, hz, hcz⟩ := b3 k (by have := HM.out; omega)
      obtain ⟨hxl, hxt⟩ := okO_at HOK.out hx
      simp only at hxl hxt
      have hx3 : x.length ≤ 3 := by omega
      have HXT := Lib.hid (fun j t (ht : x[j]? = some t) => hxt t (List.mem_of_getElem? ht))
      obtain ⟨C, capx, rfl, x1, x2, x3⟩ := RdI.open hRx
      unfold maxLen at x2
      have hc' := below_keep hI.1 hc
      have HZ := Lib.hid (show _ ∧ _ from ⟨hz, hcz⟩)
      have HTK := Lib.hid (show (addRows by0 next).take (k + 1) = (addRows by0 next).take k ++ [addRow by0 x] ∧ (fin.map f).take (k + 1) = (fin.map f).take k ++ [f z] from ⟨take_succ_of (by simp [addRows, hx]), take_succ_of (by simp [hz])⟩)
      obtain ⟨cs, hcs⟩ : ∃ cs, (addRows by0 next).take k = cs := ⟨_, rfl⟩
      obtain ⟨fs, hfs⟩ : ∃ fs, (fin.map f).take k = fs := ⟨_, rfl⟩
      have hcl : cs.length = k := by rw [← hcs, List.length_take, addRows_len]; omega
      have hfl : fs.length = k := by rw [← hfs, List.length_take, List.length_map]; have := HM.out; omega
      rw [hcs, hfs] at HTK hI
      have hmk := run_make_row' (P := Try.prog) 23 2 (.int .i64 0) 8 Try.underlying23 infoI64 rfl .i64 .i64 x.length (by omega) (by omega)
      have HI := Lib.hid hI
      have HBF := Lib.hid (World.block_lt_of_cell? _ _ hcz)
      have i1 : (0 : Int) ≤ k := by omega
      have i2 : (k : Int) < next.length := by omega
      have lw := hI.2.2.2.lt
      clear hx hc hRx hz hcz hxl hxt hcs hfs hI
      go_wp2
      clear hmk
      have hM := Row.made wo (.int .i64 0) x.length 2
      have HM0 := Lib.hid hM
      go_loopw [33] (fun i wi => ∃ j : Nat, j ≤ x.length ∧ i = .int .i64 j ∧ Below wo.heap.size wo wi ∧ Row wi wo.heap.size 2 (ints ((addRow by0 x).take j) ++ List.replicate (x.length - (ints ((addRow by0 x).take j)).length) (.int .i64 0))) (fun i _ => x.length - (intOf i).toNat)
      case atStart => exact ⟨0, Nat.zero_le _, rfl, below_alloc _ _, by simpa [ints] using HM0.out⟩
      case round =>
        clear HM0 hM hc'
        obtain ⟨j, hj, rfl, hbi, hR⟩ := hrel
        have hlj : (ints ((addRow by0 x).take j)).length = j := by simp [ints, addRow]; omega
        by_cases hlj2 : j < x.length
        · obtain ⟨b2, off2, t, rfl, ht, hct⟩ := x3 j hlj2
          have htt := HXT.out j t ht
          have gt := below_keep (below_step HI.out.1 hbi) hct
          have hd' := (hR.cell _).trans (replicate_snoc_get (us := ints ((addRow by0 x).take j)) (z := Value.int .i64 0) (n := x.length) (by omega))
          have hf' := hR.free j
          have lg := hR.lt
          have hst := replicate_snoc_set (us := ints ((addRow by0 x).take j)) (z := Value.int .i64 0) (n := x.length) (u := .int .i64 (t + by0)) (by omega) ▸ hR.stored (ints ((addRow by0 x).take j)).length (.int .i64 (t + by0))
          rw [hlj] at hd' hst
          have HTJ := Lib.hid (show ints ((addRow by0 x).take (j + 1)) = ints ((addRow by0 x).take j) ++ [.int .i64 (t + by0)] by rw [take_succ_of (show (addRow by0 x)[j]? = some (t + by0) by simp [addRow, ht]), ints_snoc])
          have HS := Lib.hid (show _ ∧ _ from ⟨hst, hbi⟩)
          have j1 : (0 : Int) ≤ j := by omega
          have j2 : (j : Int) < x.length := by omega
          clear hst hR hbi hct ht hlj
          go_wp2
          go_roundw
          case rel => exact ⟨j + 1, by omega, by go_num, HS.out.2.setCell (p := ⟨wo.heap.size, j, none⟩) (Nat.le_refl _) _, by rw [HTJ.out]; exact HS.out.1⟩
          case measure => simp [intOf]; omega
        · obtain rfl : j = x.length := by omega
          have hR' : Row wr wo.heap.size 2 (ints (addRow by0 x)) := by
            have h1 := hR
            rw [hlj, Nat.sub_self] at h1
            simpa [List.take_of_length_le (show (addRow by0 x).length ≤ x.length by simp [addRow])] using h1
          have hown : OwI wr wo.heap.size (.slice (some ⟨wo.heap.size, 0, none⟩) x.length x.length) (addRow by0 x) [wo.heap.size] := by
            have h1 := hR'.own (lo := wo.heap.size) (Nat.le_refl _) (by simp [ints, addRow, maxLen]; omega)
            have h2 : (ints (addRow by0 x)).length = x.length := by simp [ints, addRow]
            rw [h2] at h1
            exact ⟨h1, by simp [blks, Value.ownBlock]⟩
          obtain ⟨Bn, kn, Bf, kf, vs, ho', hrn, hrf, pn, pf, vn1, vf1, gN, gF⟩ := HI.out.2.2.2.open
          have ho := ho'.below hbi ho'.lt
          obtain ⟨⟨o0, o1, o2, o3⟩, of⟩ := ho.four
          have f2 := of 2
          have lo1 := ho.lt
          have lws := HI.out.2.2.2.lt
          have HO := Lib.hid (show _ ∧ _ ∧ _ ∧ _ ∧ _ ∧ _ ∧ _ ∧ _ from ⟨HI.out, rows_below hrn hbi, hrf, pn, vn1, hown, gN, hbi⟩)
          have f2' := below_keepf (below_alloc wr (.cells #[.slice (some ⟨wo.heap.size, 0, none⟩) x.length x.length] 23)) lo1 f2
          have o2' := below_keep (below_alloc wr (.cells #[.slice (some ⟨wo.heap.size, 0, none⟩) x.length x.length] 23)) o2
          have hsz := hbi.size
          have hbnk := hcl
          rw [hbnk] at o2 o2' HO
          rw [hfl] at o3 HO
          clear hR hR' ho ho' hrn hrf pn pf vn1 vf1 gN gF of hown hbi o0 o1 x3 a3 hlj hbnk
          go_wp2_with (at_builtin; refine wpList_append_lies _ rfl _ _ 22 rfl (w.heap.size + 2) 23 is _ 1 24 Try.underlying22 his hzs0 hzs1 hzs2 rfl (by decide) (.slice Bn k kn) k _ rfl (rows_below HO.out.2.1 (below_alloc _ _)) ⟨wr.heap.size, 0, none⟩ 1 1 [.slice (some ⟨wo.heap.size, 0, none⟩) x.length x.length] rfl rfl (World.news_of_block (cs := #[.slice (some ⟨wo.heap.size, 0, none⟩) x.length x.length]) (t := 23) (fr := (0, 0)) (heap_alloc_new wr _)) (by simp [Value.oneCell']) (by omega) (by unfold maxLen; omega) (by omega) (by simp; omega) (wr.heap.size + 1) (by simp) ?_; intro g1 cap1 w5 hown5 hgrow5 hat5 hlt5; have p2 := grown_cell hgrow5 HO.out.2.2.2.1 o2'; have q2 := grown_free hgrow5 HO.out.2.2.2.1 (by simp; omega) f2'; have HN := Lib.hid (HO.out.2.2.2.2.2.2.1 wr _ _ [wo.heap.size] HO.out.2.2.2.2.2.2.2 (goodI.mono HO.out.2.2.2.2.2.1 (by omega)) (by simp) _ w5 g1 cap1 hgrow5 hown5 hat5); have HC := Lib.hid (HO.out.1.stored (below_step HO.out.2.2.2.2.2.2.2 (below_alloc wr _)) hgrow5 HO.out.2.2.2.2.1 HN.out); clear hown5 hgrow5 hat5 hlt5)
          generalize hW5 : w5.setCell ⟨w.heap.size + 2, 2, none⟩ (.slice (some ⟨g1, 0, none⟩) (k + 1) cap1) = W5 at *
          clear hW5 p2 q2 o2 o2' f2 f2' HO HN o3 lo1
          obtain ⟨Bn2, kn2, Bf2, kf2, vs2, ho2, -, hrf2, -, pf2, -, vf2, -, gF2⟩ := HC.out.2.2.2.open
          obtain ⟨⟨-, -, -, o3⟩, of2⟩ := ho2.four
          have f3 := of2 3
          have lo2 := ho2.lt
          obtain ⟨⟨-, -, -, c3⟩, -⟩ := HC.out.2.1.four
          have lc := HC.out.2.1.lt
          have cz := below_keep HC.out.1 HZ.out.2
          have i3 : (k : Int) < fin.length := by have := HM.out; omega
          rw [hfl] at o3 hrf2 pf2 vf2 gF2
          have HG := Lib.hid (show _ ∧ _ ∧ _ ∧ _ from ⟨hrf2, pf2, vf2, gF2⟩)
          have HFZ := Lib.hid (fun W (hb : Below W5.heap.size W5 W) => HF.out W (below_step HC.out.1 hb) z (List.mem_of_getElem? HZ.out.1))
          clear ho2 hrf2 pf2 vf2 gF2 of2
          go_region_law
            (first
              | (go_simp; go_at_call 56; refine (HFZ.out _ (by first | exact Below.refl _ _ | exact below_drew _ | exact (below_drew _).drew | exact (below_drew _).drew.drew | exact (below_drew _).drew.drew.drew)).mono ?_; rintro e w' ⟨rfl, rfl⟩)
              | (refine step_append_lies _ (by rfl) _ _ _ (by rfl) (w.heap.size + 2) 2 ii _ 1 8 Try.underlying23 hii hzi0 hzi1 hzi2 rfl (by omega) (.slice Bf2 k kf2) k (ints fs) (by rfl) (rows_below HG.out.1 (by first | exact below_alloc _ _ | exact (below_alloc _ _).drew | exact (below_alloc _ _).drew.drew | exact (below_alloc _ _).drew.drew.drew))
                  ⟨W5.heap.size, 0, none⟩ 1 1 [.int .i64 (f z)] (by rfl) (by rfl) (World.news_of_block (cs := #[.int .i64 (f z)]) (t := 2) (fr := (0, 0)) (heap_alloc_new W5 _)) (by simp [Value.oneCell'])
                  (by omega) (by unfold maxLen; omega) (by omega) (by simp; omega) (W5.heap.size + 1) (by simp) ?_; intro g2 cap2 w6 hown6 hgrow6 hat6 hlt6;
                 have hg6 : (W5.alloc (.cells #[.int .i64 (f z)] 2)).grownBy w6 (Value.slice Bf2 k kf2).ownBlock := (by first | exact hgrow6 | exact undrew hgrow6 | exact undrew (undrew hgrow6) | exact undrew (undrew (undrew hgrow6)));
                 have p4 := grown_cell hg6 HG.out.2.1 (below_keep (below_alloc _ _) o3); have p5 := grown_free hg6 HG.out.2.1 (by simp; omega) (below_keepf (below_alloc _ _) lo2 f3);
                 have HE := Lib.hid (HC.out.stored (below_alloc W5 _) hg6 HG.out.2.2.1 (HG.out.2.2.2 W5 (f z) (Below.refl _ _) _ w6 g2 cap2 hg6 hown6 hat6))))
          all_goals
            go_wp2
            go_roundw
            (case rel => exact ⟨k + 1, by omega, by go_num, by rw [HTK.out.1, HTK.out.2]; first | exact HE.out | exact HE.out.below (below_drew _) | exact HE.out.below (below_drew _).drew | exact HE.out.below (below_drew _).drew.drew⟩)
            (case measure => simp [intOf]; omega)
    · obtain rfl : k = next.length := by omega
      rw [List.take_of_length_le (by simp [addRows]), List.take_of_length_le (by rw [List.length_map]; have := HM.out; omega)] at hI
      have HI := Lib.hid hI
      obtain ⟨Bn, kn, Bf, kf, bs, hrow, hOw, hpo⟩ := hI.2.2.2.own
      simp only [addRows_len, List.length_map] at hrow hOw
      obtain ⟨⟨x0, x1, x2, x3⟩, -⟩ := hrow.four
      obtain ⟨⟨z0, z1, z2, z3⟩, zf⟩ := hI.2.2.1.four
      have lx := hrow.lt
      have lz := hI.2.2.1.lt
      have HXX := Lib.hid hOw
      clear hrow hOw hpo hI a3 b3
      go_wp2
      obtain ⟨W2, hW2, ⟨y0, y1, y2, y3⟩, eO, eB⟩ := stored4O HI.out.2.2.1 HXX.out (Nat.lt_succ_self _) (Nat.le_succ _) HI.out.1
      rw [← hW2]
      clear hW2
      refine bodyPost_ret (v := .agg #[.int .i64 L, .int .i64 (S + by0), .slice Bn next.length kn, .slice Bf fin.length kf]) (by simp [results, Try.results55, go_sem, y0, y1, y2, y3]) rfl ?_
      first | exact ⟨_, rfl, ⟨_, eO⟩, eB⟩ | exact ⟨_, _, rfl, eO, eB⟩
end Go.Proofs.Yteeckhhingmgfaa
