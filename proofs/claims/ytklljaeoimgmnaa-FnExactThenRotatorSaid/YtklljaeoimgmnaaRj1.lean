/-
  One rotator behind another: what it is, and the program's closures and changed rotators.
-/
import Derived.Test.YtklljaeoimgmnaaRo8
import Derived.Test.YtklljaeoimgmnaaEw2
namespace Go.Proofs.Ytklljaeoimgmnaa
open Go.RowKit

def rjF1 (n s e : Int) : Int := if e = -1 then n + s else e
def rjF2 (n e : Int) : Int := if 0 ≤ e then n + e else e
def rjO (r s : OData) : OData := ⟨r.L, r.S, addRows 0 r.next ++ addRows (r.next.length : Int) s.next, r.fin.map (rjF1 r.next.length s.S) ++ s.fin.map (rjF2 r.next.length)⟩
def rjRes (r s : OData) : OData × Int := if okO r = true ∧ okO s = true then (if r.L = s.L then (if r.next.length + s.next.length ≤ 6 then (rjO r s, 0) else (⟨0, 0, [], []⟩, 3)) else (⟨0, 0, [], []⟩, 2)) else (⟨0, 0, [], []⟩, 1)

theorem rjC1_any (pn ps : Nat) (n s x : Int) (w : World) (hn : w.cell? ⟨pn, 0, none⟩ = some (.int .i64 n)) (hs : w.cell? ⟨ps, 1, none⟩ = some (.int .i64 s)) (n0 : 0 ≤ n) (n6 : n ≤ 6) (s0 : 0 ≤ s) (s6 : s ≤ 6) :
    Calls Try.prog 44 #[.int .i64 x, .pointer (some ⟨pn, 0, none⟩), .pointer (some ⟨ps, 0, none⟩)] w fun e w' => e = .returned (.int .i64 (rjF1 n s x)) ∧ w = w' := by
  by_cases h1 : x = -1
  · have HE := Lib.hid (show rjF1 n s x = n + s by rw [rjF1, if_pos h1])
    have e1 : (x == -1) = true := by rw [beq_iff_eq]; exact h1
    clear h1
    go_enter Try.func44, Try.ntmps44
    go_wp2
    go_ret
    exact ⟨ret_int HE.out.symm, rfl⟩
  · have HE := Lib.hid (show rjF1 n s x = x by rw [rjF1, if_neg h1])
    have e1 : (x == -1) = false := by rw [beq_eq_false_iff_ne]; exact h1
    clear h1
    go_enter Try.func44, Try.ntmps44
    go_wp2
    go_ret
    exact ⟨ret_int HE.out.symm, rfl⟩
theorem rjC2_any (pn : Nat) (n x : Int) (w : World) (hn : w.cell? ⟨pn, 0, none⟩ = some (.int .i64 n)) (n0 : 0 ≤ n) (n6 : n ≤ 6) (x6 : x ≤ 6) :
    Calls Try.prog 45 #[.int .i64 x, .pointer (some ⟨pn, 0, none⟩)] w fun e w' => e = .returned (.int .i64 (rjF2 n x)) ∧ w = w' := by
  by_cases h1 : 0 ≤ x
  · have HE := Lib.hid (show rjF2 n x = n + x by rw [rjF2, if_pos h1])
    go_enter Try.func45, Try.ntmps45
    go_wp2
    go_ret
    exact ⟨ret_int HE.out.symm, rfl⟩
  · have HE := Lib.hid (show rjF2 n x = x by rw [rjF2, if_neg h1])
    go_enter Try.func45, Try.ntmps45
    go_wp2
    go_ret
    exact ⟨ret_int HE.out.symm, rfl⟩

set_option maxRecDepth 100000 in
set_option maxHeartbeats 6400000 in
theorem changedJ1_own (v : Value) (r : OData) (by0 : Int) (pn ps : Nat) (f : Int → Int) (w : World) (h : RdO w v r) (ok : okO r = true) (hy0 : 0 ≤ by0) (hy6 : by0 ≤ 6)
    (hF : ∀ (W : World), Below w.heap.size w W → ∀ x ∈ r.fin, Calls Try.prog 44 #[.int .i64 x, .pointer (some ⟨pn, 0, none⟩), .pointer (some ⟨ps, 0, none⟩)] W fun e w' => e = .returned (.int .i64 (f x)) ∧ W = w') :
    Calls Try.prog 43 #[v, .int .i64 by0, .func (.func 44) #[] #[.pointer (some ⟨pn, 0, none⟩), .pointer (some ⟨ps, 0, none⟩)]] w fun e w' => ∃ u bs, e = .returned u ∧ OwO w' w.heap.size u (chgO by0 f r) bs ∧ Below w.heap.size w w' := by
  obtain ⟨ii, hii, hzi0, hzi1, hzi2⟩ := info_parts infoI64
  obtain ⟨is, his, hzs0, hzs1, hzs2⟩ := info_parts infoIs
  have HOK := Lib.hid ok
  obtain ⟨⟨l1, l2⟩, ⟨n1, n2⟩, ⟨s1, s2⟩, m1, -⟩ := okO_parts ok
  obtain ⟨L, S, next, fin⟩ := r
  obtain ⟨vn, vf, rfl, hn, hf⟩ := h
  simp only at l1 l2 n1 n2 s1 s2 m1 hn hf hF
  obtain ⟨A, ka, rfl, a1, a2, a3⟩ := RdL.open hn
  obtain ⟨B, kb, rfl, b1, b2, b3⟩ := RdI.open hf
  unfold maxLen at a2 b2
  have HF := Lib.hid hF
  have HM := Lib.hid m1
  have HI := Lib.hid (show ChI w [.int .i64 L, .int .i64 S, .slice A next.length ka, .slice B fin.length kb] ⟨L, S + by0, [], []⟩ (((w.alloc (.cells #[.int .i64 L, .int .i64 S, .slice A next.length ka, .slice B fin.length kb] 40)).alloc (.cells #[.int .i64 0, .int .i64 0, .slice none 0 0, .slice none 0 0] 40)).alloc (.cells #[.int .i64 L, .int .i64 (S + by0), .slice none 0 0, .slice none 0 0] 40)) from by
    refine ⟨below_step (below_step (below_alloc _ _) (below_alloc _ _)) (below_alloc _ _), ((Row.new w [.int .i64 L, .int .i64 S, .slice A next.length ka, .slice B fin.length kb] 40).alloc _).alloc _, ?_, ?_⟩
    · have := (Row.new (w.alloc (.cells #[.int .i64 L, .int .i64 S, .slice A next.length ka, .slice B fin.length kb] 40)) [.int .i64 0, .int .i64 0, .slice none 0 0, .slice none 0 0] 40).alloc (.cells #[.int .i64 L, .int .i64 (S + by0), .slice none 0 0, .slice none 0 0] 40)
      simpa using this
    · have := BoxO.start ((w.alloc (.cells #[.int .i64 L, .int .i64 S, .slice A next.length ka, .slice B fin.length kb] 40)).alloc (.cells #[.int .i64 0, .int .i64 0, .slice none 0 0, .slice none 0 0] 40)) L (S + by0)
      simpa using this)
  clear hn hf hF ok m1
  go_enter Try.func43, Try.ntmps43
  go_wp2
  generalize ((w.alloc (.cells #[.int .i64 L, .int .i64 S, .slice A next.length ka, .slice B fin.length kb] 40)).alloc (.cells #[.int .i64 0, .int .i64 0, .slice none 0 0, .slice none 0 0] 40)).alloc (.cells #[.int .i64 L, .int .i64 (S + by0), .slice none 0 0, .slice none 0 0] 40) = W0 at *
  go_loopw [23] (fun i wr => ∃ k : Nat, k ≤ next.length ∧ i = .int .i64 k ∧ ChI w [.int .i64 L, .int .i64 S, .slice A next.length ka, .slice B fin.length kb] ⟨L, S + by0, (addRows by0 next).take k, (fin.map f).take k⟩ wr) (fun i _ => next.length - (intOf i).toNat)
  case atStart => exact ⟨0, Nat.zero_le _, rfl, by simpa using HI.out⟩
  case round =>
    clear HI
    obtain ⟨wo, hwo⟩ : ∃ wo, wo = wr := ⟨wr, rfl⟩
    subst hwo
    obtain ⟨k, hk, rfl, hI⟩ := hrel
    by_cases hlt : k < next.length
    · obtain ⟨b, off, ux, x, rfl, hx, hc, hRx⟩ := a3 k hlt
      obtain ⟨bf, offf, z, rfl, hz, hcz⟩ := b3 k (by have := HM.out; omega)
      obtain ⟨hxl, hxt⟩ := okO_at HOK.out hx
      simp only at hxl hxt
      have hx3 : x.length ≤ 3 := by omega
      have HXT := Lib.hid (fun j t (ht : x[j]? = some t) => hxt t (List.mem_of_getElem? ht))
      obtain ⟨C, capx, rfl, x1, x2, x3⟩ := RdI.open hRx
      unfold maxLen at x2
      have hc' := below_keep hI.1 hc
      have HZ := Lib.hid (show _ ∧ _ from ⟨hz, hcz⟩)
      have HTK := Lib.hid (show (addRows by0 next).take (k + 1) = (addRows by0 next).take k ++ [addRow by0 x] ∧ (fin.map f).take (k + 1) = (fin.map f).take k ++ [f z] from ⟨take_succ_of (by simp [addRows, hx]), take_succ_of (by simp [hz])⟩)
      obtain ⟨cs, hcs⟩ : ∃ cs, (addRows by0 next).take k = cs := ⟨_, rfl⟩
      obtain ⟨fs, hfs⟩ : ∃ fs, (fin.map f).take k = fs := ⟨_, rfl⟩
      have hcl : cs.length = k := by rw [← hcs, List.length_take, addRows_len]; omega
      have hfl : fs.length = k := by rw [← hfs, List.length_take, List.length_map]; have := HM.out; omega
      rw [hcs, hfs] at HTK hI
      have hmk := run_make_row' (P := Try.prog) 36 2 (.int .i64 0) 8 Try.underlying36 infoI64 rfl .i64 .i64 x.length (by omega) (by omega)
      have HI := Lib.hid hI
      have HBF := Lib.hid (World.block_lt_of_cell? _ _ hcz)
      have i1 : (0 : Int) ≤ k := by omega
      have i2 : (k : Int) < next.length := by omega
      have lw := hI.2.2.2.lt
      clear hx hc hRx hz hcz hxl hxt hcs hfs hI
      go_wp2
      clear hmk
      have hM := Row.made wo (.int .i64 0) x.length 2
      have HM0 := Lib.hid hM
      go_loopw [33] (fun i wi => ∃ j : Nat, j ≤ x.length ∧ i = .int .i64 j ∧ Below wo.heap.size wo wi ∧ Row wi wo.heap.size 2 (ints ((addRow by0 x).take j) ++ List.replicate (x.length - (ints ((addRow by0 x).take j)).length) (.int .i64 0))) (fun i _ => x.length - (intOf i).toNat)
      case atStart => exact ⟨0, Nat.zero_le _, rfl, below_alloc _ _, by simpa [ints] using HM0.out⟩
      case round =>
        clear HM0 hM hc'
        obtain ⟨j, hj, rfl, hbi, hR⟩ := hrel
        have hlj : (ints ((addRow by0 x).take j)).length = j := by simp [ints, addRow]; omega
        by_cases hlj2 : j < x.length
        · obtain ⟨b2, off2, t, rfl, ht, hct⟩ := x3 j hlj2
          have htt := HXT.out j t ht
          have gt := below_keep (below_step HI.out.1 hbi) hct
          have hd' := (hR.cell _).trans (replicate_snoc_get (us := ints ((addRow by0 x).take j)) (z := Value.int .i64 0) (n := x.length) (by omega))
          have hf' := hR.free j
          have lg := hR.lt
          have hst := replicate_snoc_set (us := ints ((addRow by0 x).take j)) (z := Value.int .i64 0) (n := x.length) (u := .int .i64 (t + by0)) (by omega) ▸ hR.stored (ints ((addRow by0 x).take j)).length (.int .i64 (t + by0))
          rw [hlj] at hd' hst
          have HTJ := Lib.hid (show ints ((addRow by0 x).take (j + 1)) = ints ((addRow by0 x).take j) ++ [.int .i64 (t + by0)] by rw [take_succ_of (show (addRow by0 x)[j]? = some (t + by0) by simp [addRow, ht]), ints_snoc])
          have HS := Lib.hid (show _ ∧ _ from ⟨hst, hbi⟩)
          have j1 : (0 : Int) ≤ j := by omega
          have j2 : (j : Int) < x.length := by omega
          clear hst hR hbi hct ht hlj
          go_wp2
          go_roundw
          case rel => exact ⟨j + 1, by omega, by go_num, HS.out.2.setCell (p := ⟨wo.heap.size, j, none⟩) (Nat.le_refl _) _, by rw [HTJ.out]; exact HS.out.1⟩
          case measure => simp [intOf]; omega
        · obtain rfl : j = x.length := by omega
          have hR' : Row wr wo.heap.size 2 (ints (addRow by0 x)) := by
            have h1 := hR
            rw [hlj, Nat.sub_self] at h1
            simpa [List.take_of_length_le (show (addRow by0 x).length ≤ x.length by simp [addRow])] using h1
          have hown : OwI wr wo.heap.size (.slice (some ⟨wo.heap.size, 0, none⟩) x.length x.length) (addRow by0 x) [wo.heap.size] := by
            have h1 := hR'.own (lo := wo.heap.size) (Nat.le_refl _) (by simp [ints, addRow, maxLen]; omega)
            have h2 : (ints (addRow by0 x)).length = x.length := by simp [ints, addRow]
            rw [h2] at h1
            exact ⟨h1, by simp [blks, Value.ownBlock]⟩
          obtain ⟨Bn, kn, Bf, kf, vs, ho', hrn, hrf, pn, pf, vn1, vf1, gN, gF⟩ := HI.out.2.2.2.open
          have ho := ho'.below hbi ho'.lt
          obtain ⟨⟨o0, o1, o2, o3⟩, of⟩ := ho.four
          have f2 := of 2
          have lo1 := ho.lt
          have lws := HI.out.2.2.2.lt
          have HO := Lib.hid (show _ ∧ _ ∧ _ ∧ _ ∧ _ ∧ _ ∧ _ ∧ _ from ⟨HI.out, rows_below hrn hbi, hrf, pn, vn1, hown, gN, hbi⟩)
          have f2' := below_keepf (below_alloc wr (.cells #[.slice (some ⟨wo.heap.size, 0, none⟩) x.length x.length] 36)) lo1 f2
          have o2' := below_keep (below_alloc wr (.cells #[.slice (some ⟨wo.heap.size, 0, none⟩) x.length x.length] 36)) o2
          have hsz := hbi.size
          have hbnk := hcl
          rw [hbnk] at o2 o2' HO
          rw [hfl] at o3 HO
          clear hR hR' ho ho' hrn hrf pn pf vn1 vf1 gN gF of hown hbi o0 o1 x3 a3 hlj hbnk
          go_wp2_with (at_builtin; refine wpList_append_lies _ rfl _ _ 35 rfl (w.heap.size + 2) 36 is _ 1 24 Try.underlying35 his hzs0 hzs1 hzs2 rfl (by decide) (.slice Bn k kn) k _ rfl (rows_below HO.out.2.1 (below_alloc _ _)) ⟨wr.heap.size, 0, none⟩ 1 1 [.slice (some ⟨wo.heap.size, 0, none⟩) x.length x.length] rfl rfl (World.news_of_block (cs := #[.slice (some ⟨wo.heap.size, 0, none⟩) x.length x.length]) (t := 36) (fr := (0, 0)) (heap_alloc_new wr _)) (by simp [Value.oneCell']) (by omega) (by unfold maxLen; omega) (by omega) (by simp; omega) (wr.heap.size + 1) (by simp) ?_; intro g1 cap1 w5 hown5 hgrow5 hat5 hlt5; have p2 := grown_cell hgrow5 HO.out.2.2.2.1 o2'; have q2 := grown_free hgrow5 HO.out.2.2.2.1 (by simp; omega) f2'; have HN := Lib.hid (HO.out.2.2.2.2.2.2.1 wr _ _ [wo.heap.size] HO.out.2.2.2.2.2.2.2 (goodI.mono HO.out.2.2.2.2.2.1 (by omega)) (by simp) _ w5 g1 cap1 hgrow5 hown5 hat5); have HC := Lib.hid (HO.out.1.stored (below_step HO.out.2.2.2.2.2.2.2 (below_alloc wr _)) hgrow5 HO.out.2.2.2.2.1 HN.out); clear hown5 hgrow5 hat5 hlt5)
          generalize hW5 : w5.setCell ⟨w.heap.size + 2, 2, none⟩ (.slice (some ⟨g1, 0, none⟩) (k + 1) cap1) = W5 at *
          clear hW5 p2 q2 o2 o2' f2 f2' HO HN o3 lo1
          obtain ⟨Bn2, kn2, Bf2, kf2, vs2, ho2, -, hrf2, -, pf2, -, vf2, -, gF2⟩ := HC.out.2.2.2.open
          obtain ⟨⟨-, -, -, o3⟩, of2⟩ := ho2.four
          have f3 := of2 3
          have lo2 := ho2.lt
          obtain ⟨⟨-, -, -, c3⟩, -⟩ := HC.out.2.1.four
          have lc := HC.out.2.1.lt
          have cz := below_keep HC.out.1 HZ.out.2
          have i3 : (k : Int) < fin.length := by have := HM.out; omega
          rw [hfl] at o3 hrf2 pf2 vf2 gF2
          have HG := Lib.hid (show _ ∧ _ ∧ _ ∧ _ from ⟨hrf2, pf2, vf2, gF2⟩)
          have HFZ := Lib.hid (fun W (hb : Below W5.heap.size W5 W) => HF.out W (below_step HC.out.1 hb) z (List.mem_of_getElem? HZ.out.1))
          clear ho2 hrf2 pf2 vf2 gF2 of2
          go_region_law
            (first
              | (go_simp; go_at_call 44; refine (HFZ.out _ (by first | exact Below.refl _ _ | exact below_drew _ | exact (below_drew _).drew | exact (below_drew _).drew.drew | exact (below_drew _).drew.drew.drew)).mono ?_; rintro e w' ⟨rfl, rfl⟩)
              | (refine step_append_lies _ (by rfl) _ _ _ (by rfl) (w.heap.size + 2) 2 ii _ 1 8 Try.underlying36 hii hzi0 hzi1 hzi2 rfl (by omega) (.slice Bf2 k kf2) k (ints fs) (by rfl) (rows_below HG.out.1 (by first | exact below_alloc _ _ | exact (below_alloc _ _).drew | exact (below_alloc _ _).drew.drew | exact (below_alloc _ _).drew.drew.drew))
                  ⟨W5.heap.size, 0, none⟩ 1 1 [.int .i64 (f z)] (by rfl) (by rfl) (World.news_of_block (cs := #[.int .i64 (f z)]) (t := 2) (fr := (0, 0)) (heap_alloc_new W5 _)) (by simp [Value.oneCell'])
                  (by omega) (by unfold maxLen; omega) (by omega) (by simp; omega) (W5.heap.size + 1) (by simp) ?_; intro g2 cap2 w6 hown6 hgrow6 hat6 hlt6;
                 have hg6 : (W5.alloc (.cells #[.int .i64 (f z)] 2)).grownBy w6 (Value.slice Bf2 k kf2).ownBlock := (by first | exact hgrow6 | exact undrew hgrow6 | exact undrew (undrew hgrow6) | exact undrew (undrew (undrew hgrow6)));
                 have p4 := grown_cell hg6 HG.out.2.1 (below_keep (below_alloc _ _) o3); have p5 := grown_free hg6 HG.out.2.1 (by simp; omega) (below_keepf (below_alloc _ _) lo2 f3);
                 have HE := Lib.hid (HC.out.stored (below_alloc W5 _) hg6 HG.out.2.2.1 (HG.out.2.2.2 W5 (f z) (Below.refl _ _) _ w6 g2 cap2 hg6 hown6 hat6))))
          all_goals
            go_wp2
            go_roundw
            (case rel => exact ⟨k + 1, by omega, by go_num, by rw [HTK.out.1, HTK.out.2]; first | exact HE.out | exact HE.out.below (below_drew _) | exact HE.out.below (below_drew _).drew | exact HE.out.below (below_drew _).drew.drew⟩)
            (case measure => simp [intOf]; omega)
    · obtain rfl : k = next.length := by omega
      rw [List.take_of_length_le (by simp [addRows]), List.take_of_length_le (by rw [List.length_map]; have := HM.out; omega)] at hI
      have HI := Lib.hid hI
      obtain ⟨Bn, kn, Bf, kf, bs, hrow, hOw, hpo⟩ := hI.2.2.2.own
      simp only [addRows_len, List.length_map] at hrow hOw
      obtain ⟨⟨x0, x1, x2, x3⟩, -⟩ := hrow.four
      obtain ⟨⟨z0, z1, z2, z3⟩, zf⟩ := hI.2.2.1.four
      have lx := hrow.lt
      have lz := hI.2.2.1.lt
      have HXX := Lib.hid hOw
      clear hrow hOw hpo hI a3 b3
      go_wp2
      obtain ⟨W2, hW2, ⟨y0, y1, y2, y3⟩, eO, eB⟩ := stored4O HI.out.2.2.1 HXX.out (Nat.lt_succ_self _) (Nat.le_succ _) HI.out.1
      rw [← hW2]
      clear hW2
      refine bodyPost_ret (v := .agg #[.int .i64 L, .int .i64 (S + by0), .slice Bn next.length kn, .slice Bf fin.length kf]) (by simp [results, Try.results43, go_sem, y0, y1, y2, y3]) rfl ?_
      first | exact ⟨_, rfl, ⟨_, eO⟩, eB⟩ | exact ⟨_, _, rfl, eO, eB⟩

set_option maxRecDepth 100000 in
set_option maxHeartbeats 6400000 in
theorem changedJ2_own (v : Value) (r : OData) (by0 : Int) (pn : Nat) (f : Int → Int) (w : World) (h : RdO w v r) (ok : okO r = true) (hy0 : 0 ≤ by0) (hy6 : by0 ≤ 6)
    (hF : ∀ (W : World), Below w.heap.size w W → ∀ x ∈ r.fin, Calls Try.prog 45 #[.int .i64 x, .pointer (some ⟨pn, 0, none⟩)] W fun e w' => e = .returned (.int .i64 (f x)) ∧ W = w') :
    Calls Try.prog 43 #[v, .int .i64 by0, .func (.func 45) #[] #[.pointer (some ⟨pn, 0, none⟩)]] w fun e w' => ∃ u bs, e = .returned u ∧ OwO w' w.heap.size u (chgO by0 f r) bs ∧ Below w.heap.size w w' := by
  obtain ⟨ii, hii, hzi0, hzi1, hzi2⟩ := info_parts infoI64
  obtain ⟨is, his, hzs0, hzs1, hzs2⟩ := info_parts infoIs
  have HOK := Lib.hid ok
  obtain ⟨⟨l1, l2⟩, ⟨n1, n2⟩, ⟨s1, s2⟩, m1, -⟩ := okO_parts ok
  obtain ⟨L, S, next, fin⟩ := r
  obtain ⟨vn, vf, rfl, hn, hf⟩ := h
  simp only at l1 l2 n1 n2 s1 s2 m1 hn hf hF
  obtain ⟨A, ka, rfl, a1, a2, a3⟩ := RdL.open hn
  obtain ⟨B, kb, rfl, b1, b2, b3⟩ := RdI.open hf
  unfold maxLen at a2 b2
  have HF := Lib.hid hF
  have HM := Lib.hid m1
  have HI := Lib.hid (show ChI w [.int .i64 L, .int .i64 S, .slice A next.length ka, .slice B fin.length kb] ⟨L, S + by0, [], []⟩ (((w.alloc (.cells #[.int .i64 L, .int .i64 S, .slice A next.length ka, .slice B fin.length kb] 40)).alloc (.cells #[.int .i64 0, .int .i64 0, .slice none 0 0, .slice none 0 0] 40)).alloc (.cells #[.int .i64 L, .int .i64 (S + by0), .slice none 0 0, .slice none 0 0] 40)) from by
    refine ⟨below_step (below_step (below_alloc _ _) (below_alloc _ _)) (below_alloc _ _), ((Row.new w [.int .i64 L, .int .i64 S, .slice A next.length ka, .slice B fin.length kb] 40).alloc _).alloc _, ?_, ?_⟩
    · have := (Row.new (w.alloc (.cells #[.int .i64 L, .int .i64 S, .slice A next.length ka, .slice B fin.length kb] 40)) [.int .i64 0, .int .i64 0, .slice none 0 0, .slice none 0 0] 40).alloc (.cells #[.int .i64 L, .int .i64 (S + by0), .slice none 0 0, .slice none 0 0] 40)
      simpa using this
    · have := BoxO.start ((w.alloc (.cells #[.int .i64 L, .int .i64 S, .slice A next.length ka, .slice B fin.length kb] 40)).alloc (.cells #[.int .i64 0, .int .i64 0, .slice none 0 0, .slice none 0 0] 40)) L (S + by0)
      simpa using this)
  clear hn hf hF ok m1
  go_enter Try.func43, Try.ntmps43
  go_wp2
  generalize ((w.alloc (.cells #[.int .i64 L, .int .i64 S, .slice A next.length ka, .slice B fin.length kb] 40)).alloc (.cells #[.int .i64 0, .int .i64 0, .slice none 0 0, .slice none 0 0] 40)).alloc (.cells #[.int .i64 L, .int .i64 (S + by0), .slice none 0 0, .slice none 0 0] 40) = W0 at *
  go_loopw [23] (fun i wr => ∃ k : Nat, k ≤ next.length ∧ i = .int .i64 k ∧ ChI w [.int .i64 L, .int .i64 S, .slice A next.length ka, .slice B fin.length kb] ⟨L, S + by0, (addRows by0 next).take k, (fin.map f).take k⟩ wr) (fun i _ => next.length - (intOf i).toNat)
  case atStart => exact ⟨0, Nat.zero_le _, rfl, by simpa using HI.out⟩
  case round =>
    clear HI
    obtain ⟨wo, hwo⟩ : ∃ wo, wo = wr := ⟨wr, rfl⟩
    subst hwo
    obtain ⟨k, hk, rfl, hI⟩ := hrel
    by_cases hlt : k < next.length
    · obtain ⟨b, off, ux, x, rfl, hx, hc, hRx⟩ := a3 k hlt
      obtain ⟨bf, offf, z, rfl, hz, hcz⟩ := b3 k (by have := HM.out; omega)
      obtain ⟨hxl, hxt⟩ := okO_at HOK.out hx
      simp only at hxl hxt
      have hx3 : x.length ≤ 3 := by omega
      have HXT := Lib.hid (fun j t (ht : x[j]? = some t) => hxt t (List.mem_of_getElem? ht))
      obtain ⟨C, capx, rfl, x1, x2, x3⟩ := RdI.open hRx
      unfold maxLen at x2
      have hc' := below_keep hI.1 hc
      have HZ := Lib.hid (show _ ∧ _ from ⟨hz, hcz⟩)
      have HTK := Lib.hid (show (addRows by0 next).take (k + 1) = (addRows by0 next).take k ++ [addRow by0 x] ∧ (fin.map f).take (k + 1) = (fin.map f).take k ++ [f z] from ⟨take_succ_of (by simp [addRows, hx]), take_succ_of (by simp [hz])⟩)
      obtain ⟨cs, hcs⟩ : ∃ cs, (addRows by0 next).take k = cs := ⟨_, rfl⟩
      obtain ⟨fs, hfs⟩ : ∃ fs, (fin.map f).take k = fs := ⟨_, rfl⟩
      have hcl : cs.length = k := by rw [← hcs, List.length_take, addRows_len]; omega
      have hfl : fs.length = k := by rw [← hfs, List.length_take, List.length_map]; have := HM.out; omega
      rw [hcs, hfs] at HTK hI
      have hmk := run_make_row' (P := Try.prog) 36 2 (.int .i64 0) 8 Try.underlying36 infoI64 rfl .i64 .i64 x.length (by omega) (by omega)
      have HI := Lib.hid hI
      have HBF := Lib.hid (World.block_lt_of_cell? _ _ hcz)
      have i1 : (0 : Int) ≤ k := by omega
      have i2 : (k : Int) < next.length := by omega
      have lw := hI.2.2.2.lt
      clear hx hc hRx hz hcz hxl hxt hcs hfs hI
      go_wp2
      clear hmk
      have hM := Row.made wo (.int .i64 0) x.length 2
      have HM0 := Lib.hid hM
      go_loopw [33] (fun i wi => ∃ j : Nat, j ≤ x.length ∧ i = .int .i64 j ∧ Below wo.heap.size wo wi ∧ Row wi wo.heap.size 2 (ints ((addRow by0 x).take j) ++ List.replicate (x.length - (ints ((addRow by0 x).take j)).length) (.int .i64 0))) (fun i _ => x.length - (intOf i).toNat)
      case atStart => exact ⟨0, Nat.zero_le _, rfl, below_alloc _ _, by simpa [ints] using HM0.out⟩
      case round =>
        clear HM0 hM hc'
        obtain ⟨j, hj, rfl, hbi, hR⟩ := hrel
        have hlj : (ints ((addRow by0 x).take j)).length = j := by simp [ints, addRow]; omega
        by_cases hlj2 : j < x.length
        · obtain ⟨b2, off2, t, rfl, ht, hct⟩ := x3 j hlj2
          have htt := HXT.out j t ht
          have gt := below_keep (below_step HI.out.1 hbi) hct
          have hd' := (hR.cell _).trans (replicate_snoc_get (us := ints ((addRow by0 x).take j)) (z := Value.int .i64 0) (n := x.length) (by omega))
          have hf' := hR.free j
          have lg := hR.lt
          have hst := replicate_snoc_set (us := ints ((addRow by0 x).take j)) (z := Value.int .i64 0) (n := x.length) (u := .int .i64 (t + by0)) (by omega) ▸ hR.stored (ints ((addRow by0 x).take j)).length (.int .i64 (t + by0))
          rw [hlj] at hd' hst
          have HTJ := Lib.hid (show ints ((addRow by0 x).take (j + 1)) = ints ((addRow by0 x).take j) ++ [.int .i64 (t + by0)] by rw [take_succ_of (show (addRow by0 x)[j]? = some (t + by0) by simp [addRow, ht]), ints_snoc])
          have HS := Lib.hid (show _ ∧ _ from ⟨hst, hbi⟩)
          have j1 : (0 : Int) ≤ j := by omega
          have j2 : (j : Int) < x.length := by omega
          clear hst hR hbi hct ht hlj
          go_wp2
          go_roundw
          case rel => exact ⟨j + 1, by omega, by go_num, HS.out.2.setCell (p := ⟨wo.heap.size, j, none⟩) (Nat.le_refl _) _, by rw [HTJ.out]; exact HS.out.1⟩
          case measure => simp [intOf]; omega
        · obtain rfl : j = x.length := by omega
          have hR' : Row wr wo.heap.size 2 (ints (addRow by0 x)) := by
            have h1 := hR
            rw [hlj, Nat.sub_self] at h1
            simpa [List.take_of_length_le (show (addRow by0 x).length ≤ x.length by simp [addRow])] using h1
          have hown : OwI wr wo.heap.size (.slice (some ⟨wo.heap.size, 0, none⟩) x.length x.length) (addRow by0 x) [wo.heap.size] := by
            have h1 := hR'.own (lo := wo.heap.size) (Nat.le_refl _) (by simp [ints, addRow, maxLen]; omega)
            have h2 : (ints (addRow by0 x)).length = x.length := by simp [ints, addRow]
            rw [h2] at h1
            exact ⟨h1, by simp [blks, Value.ownBlock]⟩
          obtain ⟨Bn, kn, Bf, kf, vs, ho', hrn, hrf, pn, pf, vn1, vf1, gN, gF⟩ := HI.out.2.2.2.open
          have ho := ho'.below hbi ho'.lt
          obtain ⟨⟨o0, o1, o2, o3⟩, of⟩ := ho.four
          have f2 := of 2
          have lo1 := ho.lt
          have lws := HI.out.2.2.2.lt
          have HO := Lib.hid (show _ ∧ _ ∧ _ ∧ _ ∧ _ ∧ _ ∧ _ ∧ _ from ⟨HI.out, rows_below hrn hbi, hrf, pn, vn1, hown, gN, hbi⟩)
          have f2' := below_keepf (below_alloc wr (.cells #[.slice (some ⟨wo.heap.size, 0, none⟩) x.length x.length] 36)) lo1 f2
          have o2' := below_keep (below_alloc wr (.cells #[.slice (some ⟨wo.heap.size, 0, none⟩) x.length x.length] 36)) o2
          have hsz := hbi.size
          have hbnk := hcl
          rw [hbnk] at o2 o2' HO
          rw [hfl] at o3 HO
          clear hR hR' ho ho' hrn hrf pn pf vn1 vf1 gN gF of hown hbi o0 o1 x3 a3 hlj hbnk
          go_wp2_with (at_builtin; refine wpList_append_lies _ rfl _ _ 35 rfl (w.heap.size + 2) 36 is _ 1 24 Try.underlying35 his hzs0 hzs1 hzs2 rfl (by decide) (.slice Bn k kn) k _ rfl (rows_below HO.out.2.1 (below_alloc _ _)) ⟨wr.heap.size, 0, none⟩ 1 1 [.slice (some ⟨wo.heap.size, 0, none⟩) x.length x.length] rfl rfl (World.news_of_block (cs := #[.slice (some ⟨wo.heap.size, 0, none⟩) x.length x.length]) (t := 36) (fr := (0, 0)) (heap_alloc_new wr _)) (by simp [Value.oneCell']) (by omega) (by unfold maxLen; omega) (by omega) (by simp; omega) (wr.heap.size + 1) (by simp) ?_; intro g1 cap1 w5 hown5 hgrow5 hat5 hlt5; have p2 := grown_cell hgrow5 HO.out.2.2.2.1 o2'; have q2 := grown_free hgrow5 HO.out.2.2.2.1 (by simp; omega) f2'; have HN := Lib.hid (HO.out.2.2.2.2.2.2.1 wr _ _ [wo.heap.size] HO.out.2.2.2.2.2.2.2 (goodI.mono HO.out.2.2.2.2.2.1 (by omega)) (by simp) _ w5 g1 cap1 hgrow5 hown5 hat5); have HC := Lib.hid (HO.out.1.stored (below_step HO.out.2.2.2.2.2.2.2 (below_alloc wr _)) hgrow5 HO.out.2.2.2.2.1 HN.out); clear hown5 hgrow5 hat5 hlt5)
          generalize hW5 : w5.setCell ⟨w.heap.size + 2, 2, none⟩ (.slice (some ⟨g1, 0, none⟩) (k + 1) cap1) = W5 at *
          clear hW5 p2 q2 o2 o2' f2 f2' HO HN o3 lo1
          obtain ⟨Bn2, kn2, Bf2, kf2, vs2, ho2, -, hrf2, -, pf2, -, vf2, -, gF2⟩ := HC.out.2.2.2.open
          obtain ⟨⟨-, -, -, o3⟩, of2⟩ := ho2.four
          have f3 := of2 3
          have lo2 := ho2.lt
          obtain ⟨⟨-, -, -, c3⟩, -⟩ := HC.out.2.1.four
          have lc := HC.out.2.1.lt
          have cz := below_keep HC.out.1 HZ.out.2
          have i3 : (k : Int) < fin.length := by have := HM.out; omega
          rw [hfl] at o3 hrf2 pf2 vf2 gF2
          have HG := Lib.hid (show _ ∧ _ ∧ _ ∧ _ from ⟨hrf2, pf2, vf2, gF2⟩)
          have HFZ := Lib.hid (fun W (hb : Below W5.heap.size W5 W) => HF.out W (below_step HC.out.1 hb) z (List.mem_of_getElem? HZ.out.1))
          clear ho2 hrf2 pf2 vf2 gF2 of2
          go_region_law
            (first
              | (go_simp; go_at_call 45; refine (HFZ.out _ (by first | exact Below.refl _ _ | exact below_drew _ | exact (below_drew _).drew | exact (below_drew _).drew.drew | exact (below_drew _).drew.drew.drew)).mono ?_; rintro e w' ⟨rfl, rfl⟩)
              | (refine step_append_lies _ (by rfl) _ _ _ (by rfl) (w.heap.size + 2) 2 ii _ 1 8 Try.underlying36 hii hzi0 hzi1 hzi2 rfl (by omega) (.slice Bf2 k kf2) k (ints fs) (by rfl) (rows_below HG.out.1 (by first | exact below_alloc _ _ | exact (below_alloc _ _).drew | exact (below_alloc _ _).drew.drew | exact (below_alloc _ _).drew.drew.drew))
                  ⟨W5.heap.size, 0, none⟩ 1 1 [.int .i64 (f z)] (by rfl) (by rfl) (World.news_of_block (cs := #[.int .i64 (f z)]) (t := 2) (fr := (0, 0)) (heap_alloc_new W5 _)) (by simp [Value.oneCell'])
                  (by omega) (by unfold maxLen; omega) (by omega) (by simp; omega) (W5.heap.size + 1) (by simp) ?_; intro g2 cap2 w6 hown6 hgrow6 hat6 hlt6;
                 have hg6 : (W5.alloc (.cells #[.int .i64 (f z)] 2)).grownBy w6 (Value.slice Bf2 k kf2).ownBlock := (by first | exact hgrow6 | exact undrew hgrow6 | exact undrew (undrew hgrow6) | exact undrew (undrew (undrew hgrow6)));
                 have p4 := grown_cell hg6 HG.out.2.1 (below_keep (below_alloc _ _) o3); have p5 := grown_free hg6 HG.out.2.1 (by simp; omega) (below_keepf (below_alloc _ _) lo2 f3);
                 have HE := Lib.hid (HC.out.stored (below_alloc W5 _) hg6 HG.out.2.2.1 (HG.out.2.2.2 W5 (f z) (Below.refl _ _) _ w6 g2 cap2 hg6 hown6 hat6))))
          all_goals
            go_wp2
            go_roundw
            (case rel => exact ⟨k + 1, by omega, by go_num, by rw [HTK.out.1, HTK.out.2]; first | exact HE.out | exact HE.out.below (below_drew _) | exact HE.out.below (below_drew _).drew | exact HE.out.below (below_drew _).drew.drew⟩)
            (case measure => simp [intOf]; omega)
    · obtain rfl : k = next.length := by omega
      rw [List.take_of_length_le (by simp [addRows]), List.take_of_length_le (by rw [List.length_map]; have := HM.out; omega)] at hI
      have HI := Lib.hid hI
      obtain ⟨Bn, kn, Bf, kf, bs, hrow, hOw, hpo⟩ := hI.2.2.2.own
      simp only [addRows_len, List.length_map] at hrow hOw
      obtain ⟨⟨x0, x1, x2, x3⟩, -⟩ := hrow.four
      obtain ⟨⟨z0, z1, z2, z3⟩, zf⟩ := hI.2.2.1.four
      have lx := hrow.lt
      have lz := hI.2.2.1.lt
      have HXX := Lib.hid hOw
      clear hrow hOw hpo hI a3 b3
      go_wp2
      obtain ⟨W2, hW2, ⟨y0, y1, y2, y3⟩, eO, eB⟩ := stored4O HI.out.2.2.1 HXX.out (Nat.lt_succ_self _) (Nat.le_succ _) HI.out.1
      rw [← hW2]
      clear hW2
      refine bodyPost_ret (v := .agg #[.int .i64 L, .int .i64 (S + by0), .slice Bn next.length kn, .slice Bf fin.length kf]) (by simp [results, Try.results43, go_sem, y0, y1, y2, y3]) rfl ?_
      first | exact ⟨_, rfl, ⟨_, eO⟩, eB⟩ | exact ⟨_, _, rfl, eO, eB⟩

theorem numRows_le' (by0 : Int) (xs : List (List Int)) : numL (fun x : List Int => x.length) (addRows by0 xs) = numL (fun x : List Int => x.length) xs := by
  simp only [numL, addRows, List.map_map]
  congr 1
  exact List.map_congr_left (fun x _ => by simp [addRow])
theorem okO_cnt' {r : OData} (h : okO r = true) : numL (fun x : List Int => x.length) r.next ≤ 18 ∧ r.fin.length ≤ 6 := by
  obtain ⟨l, n, s, m, rows, -⟩ := okO_parts h
  have hsum : ∀ l : List (List Int), (∀ x ∈ l, x.length ≤ 3) → numL (fun x : List Int => x.length) l ≤ 3 * l.length := by
    intro l
    induction l with
    | nil => intro _; simp [numL]
    | cons x r ih => intro h; simp only [numL, List.map_cons, List.sum_cons, List.length_cons] at ih ⊢; have := ih (fun y hy => h y (by simp [hy])); have := h x (by simp); omega
  have h3 := hsum r.next (fun x hx => by
    have := List.all_eq_true.1 rows x hx
    simp only [okRow, Bool.and_eq_true, decide_eq_true_eq] at this
    omega)
  omega
theorem rj_num (r s : OData) : (numO (rjRes r s).1 : Int) ≤ 2305843009213693952 := by
  unfold rjRes
  split
  · rename_i h
    have h1 := okO_cnt' h.1
    have h2 := okO_cnt' h.2
    split
    · split
      · have e1 : numL (fun x : List Int => x.length) (addRows 0 r.next ++ addRows (r.next.length : Int) s.next) = numL (fun x : List Int => x.length) r.next + numL (fun x : List Int => x.length) s.next := by
          rw [show numL (fun x : List Int => x.length) (addRows 0 r.next ++ addRows (r.next.length : Int) s.next) = numL (fun x : List Int => x.length) (addRows 0 r.next) + numL (fun x : List Int => x.length) (addRows (r.next.length : Int) s.next) by simp [numL], numRows_le', numRows_le']
        simp only [numO, rjO, e1, List.length_append, List.length_map]; omega
      · simp [numO, numL]
    · simp [numO, numL]
  · simp [numO, numL]
end Go.Proofs.Ytklljaeoimgmnaa
