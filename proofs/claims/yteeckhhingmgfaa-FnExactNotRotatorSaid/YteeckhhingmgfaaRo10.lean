/-
  The rotator with the opposite verdicts: the model's answer.
-/
import Derived.Test.YteeckhhingmgfaaRo9
import Derived.Deep.RegionHeld3
namespace Go.Proofs.Yteeckhhingmgfaa
open Go.RowKit

set_option maxRecDepth 100000 in
set_option maxHeartbeats 6400000 in
theorem specNot_rd (v : Value) (r : OData) (w : World) (h : RdO w v r) :
    Calls Try.prog 18 #[v] w fun e w' => ∃ u, e = .returned (.tuple #[u, .int .i64 (notRes r).2]) ∧ RdO w' u (notRes r).1 ∧ Below w.heap.size w w' := by
  obtain ⟨ii, hii, hzi0, hzi1, hzi2⟩ := info_parts infoI64
  have hAT := fun (W : World) (hb : Below w.heap.size w W) (hc : W.cell? ⟨w.heap.size, 0, none⟩ = some (.int .i64 r.L)) => keepsO _ _ _ _ h hb
  clear hAT
  obtain ⟨L, S, next, fin⟩ := r
  obtain ⟨vn, vf, rfl, hn, hf⟩ := h
  simp only at hn hf
  obtain ⟨A, ka, rfl, a1, a2, -⟩ := RdL.open hn
  obtain ⟨B, kb, rfl, b1, b2, b3⟩ := RdI.open hf
  unfold maxLen at a2 b2
  have HN := Lib.hid hn
  have HFI := Lib.hid hf
  have HB := Lib.hid (below_step (below_alloc w (.cells #[.int .i64 L, .int .i64 S, .slice A next.length ka, .slice B fin.length kb] 28)) (below_alloc _ (.cells #[.int .i64 0, .int .i64 0, .slice none 0 0, .slice none 0 0] 28)))
  have HR := Lib.hid ((Row.new w [.int .i64 L, .int .i64 S, .slice A next.length ka, .slice B fin.length kb] 28).alloc (.cells #[.int .i64 0, .int .i64 0, .slice none 0 0, .slice none 0 0] 28))
  have hz := Row.new (w.alloc (.cells #[.int .i64 L, .int .i64 S, .slice A next.length ka, .slice B fin.length kb] 28)) [.int .i64 0, .int .i64 0, .slice none 0 0, .slice none 0 0] 28
  have HZ := Lib.hid (show Row _ (w.heap.size + 1) _ _ by simpa using hz)
  clear hz
  have HK := Lib.hid (l06Ok_any w.heap.size ⟨L, S, next, fin⟩ _ (by
    obtain ⟨⟨q0, q1, q2, q3⟩, -⟩ := HR.out.four
    exact ⟨_, _, q0, q1, q2, q3, keepsII _ _ _ _ hn HB.out, keepsI _ _ _ _ hf HB.out⟩))
  clear hn hf
  by_cases hok : okO ⟨L, S, next, fin⟩ = true
  · have HOK := Lib.hid hok
    have HE := Lib.hid (show notRes ⟨L, S, next, fin⟩ = (⟨L, S + 0, addRows 0 next, fin.map flipEnd⟩, 0) by rw [notRes, if_pos hok]; rfl)
    rw [hok] at HK
    obtain ⟨⟨l1, l2⟩, ⟨n1, n2⟩, ⟨s1, s2⟩, m1, -⟩ := okO_parts hok
    simp only at l1 l2 n1 n2 s1 s2 m1
    rw [Int.add_zero] at HE
    clear hok
    go_enter Try.func18, Try.ntmps18
    go_wp2_with fail
    refine HK.out.mono ?_
    rintro e w1 ⟨rfl, hq⟩
    have HR1 := Lib.hid (HR.out.below hq.below HR.out.lt)
    have HZ1 := Lib.hid (HZ.out.below hq.below HZ.out.lt)
    have HB1 := Lib.hid (below_step HB.out hq.below)
    clear hq HR HZ HB HK
    go_upto_region 3 with fail
    generalize w1 = w3 at *
    obtain ⟨⟨c0, c1, c2, c3⟩, -⟩ := HR1.out.four
    have lt1 := HR1.out.lt
    have lt2 := HZ1.out.lt
    have HRW := Lib.hid (fun W (hb : Below w3.heap.size w3 W) => rowsShape (l06Rows_own (.slice A next.length ka) next 0 W (keepsII _ _ _ _ HN.out (below_step HB1.out hb)) (by omega) (fun k x hx => by have := (okO_at HOK.out hx).1; simp only at this; omega) (fun k x j t hx ht => by have := (okO_at HOK.out hx).2 t (List.mem_of_getElem? ht); simp only at this; omega) (by omega) (by omega)))
    go_cut [4] from 10 to 17 (fun s4 wx => AtBoxO w3 ⟨L, S, addRows 0 next, []⟩ s4 wx)
    case first =>
      go_region_held3 (fun W => W.cell? ⟨w.heap.size, 0, none⟩ = some (.int .i64 L) ∧ W.cell? ⟨w.heap.size, 1, none⟩ = some (.int .i64 S) ∧ W.cell? ⟨w.heap.size, 2, none⟩ = some (.slice A next.length ka))
        (first | (go_split_ands; refine ⟨?_, ?_, ?_⟩ <;> (first | with_reducible assumption | with_reducible exact keep4O (by omega) (by assumption) | with_reducible exact keep4O_drew (by omega) (by assumption) | with_reducible exact below_keep hbk (by assumption) | with_reducible exact below_keep (below_alloc _ _) (by assumption) | with_reducible exact below_keep ((below_alloc _ _).drew) (by assumption) | with_reducible exact keep_reallocO (by omega) (by assumption) | exact below_keep hbk (by assumption))) | go_keep)
        (first
          | (go_at_call 54; (with_reducible refine (HRW.out _ ?_).mono ?_); (first | with_reducible exact (Below.refl _ _) | with_reducible exact (Below.refl _ _).drew | with_reducible exact (below_step (Below.refl _ _) (below_alloc _ _)) | with_reducible exact (below_step (Below.refl _ _) (below_alloc _ _)).drew); rintro e wb ⟨Bu, ku, bs, rfl, hu, hbk⟩; have HCb := Lib.hid (show Below w3.heap.size w3 wb from below_step (by (first | with_reducible exact (Below.refl _ _) | with_reducible exact (Below.refl _ _).drew | with_reducible exact (below_step (Below.refl _ _) (below_alloc _ _)) | with_reducible exact (below_step (Below.refl _ _) (below_alloc _ _)).drew)) hbk); have hszb := HCb.out.size; have HU := Lib.hid (show OwII wb w3.heap.size (.slice Bu next.length ku) (addRows 0 next) bs ∧ ∀ b ∈ bs, w3.heap.size ≤ b from ⟨goodII.mono hu (by simp), fun b hb => Nat.le_trans (by simp) (goodII.lt hu hb).1⟩); (first | (have hbz : Below (w3.alloc (.cells #[.int .i64 0, .int .i64 0, .slice none 0 0, .slice none 0 0] 28)).heap.size (w3.alloc (.cells #[.int .i64 0, .int .i64 0, .slice none 0 0, .slice none 0 0] 28)) wb := (by with_reducible exact hbk); have HZn := Lib.hid (oldZ hbz hu)) | (have hbz : Below (w3.alloc (.cells #[.int .i64 0, .int .i64 0, .slice none 0 0, .slice none 0 0] 28)).drew.heap.size (w3.alloc (.cells #[.int .i64 0, .int .i64 0, .slice none 0 0, .slice none 0 0] 28)).drew wb := (by with_reducible exact hbk); have HZn := Lib.hid (oldZ (undrewB hbz) hu)) | skip); (first | (obtain ⟨⟨z0, z1, z2, z3⟩, zf⟩ := HZn.out.1.four; have ltz := HZn.out.1.lt) | skip)))
      all_goals
        go_wp2_with fail
        go_meet
        first | exact atBoxO_new HCb.out HU.out | exact (atBoxO_new HCb.out HU.out).drew | exact atBoxO_old HZn.out (by omega) HCb.out HU.out | exact (atBoxO_old HZn.out (by omega) HCb.out HU.out).drew
    case rest =>
      obtain ⟨po, rfl, hpo, hb4, hbx⟩ := hcut
      have HI := Lib.hid (show NoI w po [.int .i64 L, .int .i64 S, .slice A next.length ka, .slice B fin.length kb] ⟨L, S, addRows 0 next, []⟩ wc from ⟨below_step HB1.out hb4, HR1.out.below hb4 lt1, HZ1.out.below hb4 lt2, by omega, by
        obtain ⟨vn, vf, bn, bf, k1, k2, k3, k4, k5⟩ := hbx
        exact ⟨vn, vf, bn, bf, k1, goodII.mono k2 (by omega), goodI.mono k3 (by omega), k4, k5⟩⟩)
      clear hpo hb4 hbx c0 c1 c2 c3 lt1 lt2 HR1 HZ1 HB1 HRW
      go_wp2
      go_loopw [5] (fun i wr => ∃ k : Nat, k ≤ fin.length ∧ i = .int .i64 k ∧ NoI w po [.int .i64 L, .int .i64 S, .slice A next.length ka, .slice B fin.length kb] ⟨L, S, addRows 0 next, (fin.map flipEnd).take k⟩ wr) (fun i _ => fin.length - (intOf i).toNat)
      case atStart => exact ⟨0, Nat.zero_le _, rfl, by simpa using HI.out⟩
      case round =>
        clear HI
        obtain ⟨k, hk, rfl, hI⟩ := hrel
        have HI := Lib.hid hI
        by_cases hlt : k < fin.length
        · obtain ⟨bf, offf, z, rfl, hz, hcz⟩ := b3 k hlt
          have hze := okO_fin HOK.out hz
          simp only at hze
          have HTK := Lib.hid (show (fin.map flipEnd).take (k + 1) = (fin.map flipEnd).take k ++ [flipEnd z] from take_succ_of (by simp [hz]))
          obtain ⟨fs, hfs⟩ : ∃ fs, (fin.map flipEnd).take k = fs := ⟨_, rfl⟩
          have hfl : fs.length = k := by rw [← hfs, List.length_take, List.length_map]; omega
          rw [hfs] at HTK HI hI
          obtain ⟨⟨-, -, -, c3⟩, -⟩ := hI.2.1.four
          have lc := hI.2.1.lt
          have cz := below_keep hI.1 hcz
          obtain ⟨Bn2, kn2, Bf2, kf2, vs2, ho2, -, hrf2, -, pf2, -, vf2, -, gF2⟩ := hI.2.2.2.2.open
          obtain ⟨⟨-, -, -, o3⟩, of2⟩ := ho2.four
          have f3 := of2 3
          have lo2 := ho2.lt
          rw [hfl] at o3 hrf2 pf2 vf2 gF2
          have HG := Lib.hid (show _ ∧ _ ∧ _ ∧ _ from ⟨hrf2, pf2, vf2, gF2⟩)
          have i1 : (0 : Int) ≤ k := by omega
          have i2 : (k : Int) < fin.length := by omega
          clear ho2 hrf2 pf2 vf2 gF2 of2 hz hcz b3 hI hfs
          by_cases hneg : z < 0
          · have d1 : decide (z < 0) = true := decide_eq_true hneg
            have HZE := Lib.hid (show flipEnd z = -3 - z by unfold flipEnd; split; omega; split; omega; omega)
            have o3' := below_keep (below_alloc wr (.cells #[.int .i64 (-3 - z)] 2)) o3
            have f3' := below_keepf (below_alloc wr (.cells #[.int .i64 (-3 - z)] 2)) lo2 f3
            rw [HZE.out] at HTK
            go_wp2_with (at_builtin; refine wpList_append_lies _ rfl _ _ 23 rfl (w.heap.size + 2) 2 ii _ 1 8 Try.underlying23 hii hzi0 hzi1 hzi2 rfl (by decide) (.slice Bf2 k kf2) k _ rfl (rows_below HG.out.1 (below_alloc _ _)) ⟨wr.heap.size, 0, none⟩ 1 1 [.int .i64 (-3 - z)] rfl rfl (World.news_of_block (cs := #[.int .i64 (-3 - z)]) (t := 2) (fr := (0, 0)) (heap_alloc_new wr _)) (by simp [Value.oneCell']) (by omega) (by unfold maxLen; omega) (by omega) (by simp; omega) (wr.heap.size + 1) (by simp) ?_; intro g2 cap2 w6 hown6 hgrow6 hat6 hlt6; have p4 := grown_cell hgrow6 HG.out.2.1 o3'; have p5 := grown_free hgrow6 HG.out.2.1 (by simp; omega) f3'; have HE2 := Lib.hid (HI.out.stored (below_alloc wr _) hgrow6 HG.out.2.2.1 (HG.out.2.2.2 wr (-3 - z) (Below.refl _ _) _ w6 g2 cap2 hgrow6 hown6 hat6)); clear hown6 hgrow6 hat6 hlt6)
            go_roundw
            case rel => exact ⟨k + 1, by omega, by go_num, by rw [HTK.out]; exact HE2.out⟩
            case measure => simp [intOf]; omega
          · have d1 : decide (z < 0) = false := decide_eq_false hneg
            have HZE := Lib.hid (show flipEnd z = z by unfold flipEnd; split; omega; split; omega; omega)
            have o3' := below_keep (below_alloc wr (.cells #[.int .i64 z] 2)) o3
            have f3' := below_keepf (below_alloc wr (.cells #[.int .i64 z] 2)) lo2 f3
            rw [HZE.out] at HTK
            go_wp2_with (at_builtin; refine wpList_append_lies _ rfl _ _ 23 rfl (w.heap.size + 2) 2 ii _ 1 8 Try.underlying23 hii hzi0 hzi1 hzi2 rfl (by decide) (.slice Bf2 k kf2) k _ rfl (rows_below HG.out.1 (below_alloc _ _)) ⟨wr.heap.size, 0, none⟩ 1 1 [.int .i64 z] rfl rfl (World.news_of_block (cs := #[.int .i64 z]) (t := 2) (fr := (0, 0)) (heap_alloc_new wr _)) (by simp [Value.oneCell']) (by omega) (by unfold maxLen; omega) (by omega) (by simp; omega) (wr.heap.size + 1) (by simp) ?_; intro g2 cap2 w6 hown6 hgrow6 hat6 hlt6; have p4 := grown_cell hgrow6 HG.out.2.1 o3'; have p5 := grown_free hgrow6 HG.out.2.1 (by simp; omega) f3'; have HE2 := Lib.hid (HI.out.stored (below_alloc wr _) hgrow6 HG.out.2.2.1 (HG.out.2.2.2 wr z (Below.refl _ _) _ w6 g2 cap2 hgrow6 hown6 hat6)); clear hown6 hgrow6 hat6 hlt6)
            go_roundw
            case rel => exact ⟨k + 1, by omega, by go_num, by rw [HTK.out]; exact HE2.out⟩
            case measure => simp [intOf]; omega
        · obtain rfl : k = fin.length := by omega
          rw [List.take_of_length_le (by simp)] at hI HI
          obtain ⟨⟨-, -, -, c3⟩, -⟩ := hI.2.1.four
          have lc := hI.2.1.lt
          obtain ⟨Bn, kn, Bf, kf, bs, hrow, hOw, hpo⟩ := hI.2.2.2.2.own
          simp only [addRows_len, List.length_map] at hrow hOw
          obtain ⟨⟨x0, x1, x2, x3⟩, -⟩ := hrow.four
          obtain ⟨⟨z0, z1, z2, z3⟩, zf⟩ := hI.2.2.1.four
          have lx := hrow.lt
          have lz := hI.2.2.1.lt
          have HXX := Lib.hid hOw
          clear hrow hOw hpo hI b3
          go_wp2
          obtain ⟨W2, hW2, ⟨y0, y1, y2, y3⟩, eO, eB⟩ := stored4O HI.out.2.2.1 HXX.out (Nat.lt_succ_self _) (Nat.le_succ _) HI.out.1
          rw [← hW2]
          clear hW2
          refine bodyPost_ret (v := .tuple #[.agg #[.int .i64 L, .int .i64 S, .slice Bn next.length kn, .slice Bf fin.length kf], .int .i64 0]) (by simp [results, Try.results18, go_sem, y0, y1, y2, y3]) rfl ?_
          rw [HE.out]
          exact ⟨_, rfl, eO.rd, eB⟩
  · have hok' : okO ⟨L, S, next, fin⟩ = false := by simpa using hok
    have HE := Lib.hid (show notRes ⟨L, S, next, fin⟩ = (⟨0, 0, [], []⟩, 1) by rw [notRes, if_neg hok])
    rw [hok'] at HK
    clear hok hok' b3
    go_enter Try.func18, Try.ntmps18
    go_wp2_with fail
    refine HK.out.mono ?_
    rintro e w1 ⟨rfl, hq⟩
    have HZ1 := Lib.hid (HZ.out.below hq.below HZ.out.lt)
    have HB1 := Lib.hid (below_step HB.out hq.below)
    obtain ⟨⟨z0, z1, z2, z3⟩, zf⟩ := HZ1.out.four
    have lz := HZ1.out.lt
    clear hq HR HZ HB HK
    go_wp2
    obtain ⟨W2, hW2, ⟨y0, y1, y2, y3⟩, eO, eB⟩ := stored4O HZ1.out (owO_zero w1 (w.heap.size + 2)) (Nat.lt_succ_self _) (Nat.le_succ _) HB1.out
    rw [← hW2]
    clear hW2
    refine bodyPost_ret (v := .tuple #[.agg #[.int .i64 0, .int .i64 0, .slice none 0 0, .slice none 0 0], .int .i64 1]) (by simp [results, Try.results18, go_sem, y0, y1, y2, y3]) rfl ?_
    rw [HE.out]
    exact ⟨_, rfl, eO.rd, eB⟩
end Go.Proofs.Yteeckhhingmgfaa
