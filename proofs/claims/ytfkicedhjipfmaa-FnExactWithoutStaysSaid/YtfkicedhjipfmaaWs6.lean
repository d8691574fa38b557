/-
  The turner that never stays: the model's answer.
-/
import Derived.Test.YtfkicedhjipfmaaWs5
namespace Go.Proofs.Ytfkicedhjipfmaa
open Go.RowKit

theorem okT_tableW {L S : Int} {G : Nat → Nat → Int × Int} {n c : Nat} (l1 : 1 ≤ L) (l2 : L ≤ 3) (n1 : 1 ≤ n) (n2 : n ≤ 12) (s1 : 0 ≤ S) (s2 : S ≤ (n : Int) - 1) (hc : (c : Int) = L + 2) (hG : ∀ q k, q < n → k < c → okMove n L k (G q k) = true) : okT ⟨L, S, tableOf G c n⟩ = true := by
  apply okT_all
  · simp; omega
  · simp [tableOf_len]; omega
  · simp only [tableOf_len, decide_eq_true_eq]; omega
  · simp only [tableOf_len]
    rw [List.all_eq_true]
    intro x hx
    obtain ⟨q, hq, rfl⟩ := List.mem_map.1 hx
    have hq' : q < n := by simpa using hq
    apply okRow_of
    · rw [rowOf_len]; exact hc
    · unfold okMsTo
      rw [List.all_eq_true]
      intro k hk
      have hk' : k < c := by simpa [rowOf_len] using hk
      simp only [List.getD, rowOf_get G hk', Option.getD_some]
      exact hG q k hq' hk'

/-- What has been turned so far, up to the state s. -/
def WssI (w : World) (rc : List Value) (lo p4 : Nat) (sA : Value) (bm : List Nat) (L S : Int) (ys : List (List (Int × Int))) (wr : World) : Prop :=
  Below w.heap.size w wr ∧ Row wr w.heap.size 29 rc ∧ Row wr (w.heap.size + 1) 29 [.int .i64 0, .int .i64 0, .slice none 0 0] ∧ Row wr p4 29 [.int .i64 L, .int .i64 S, sA] ∧ OwL (OwP 66) 64 wr lo sA ys bm
theorem WssI.drew {w : World} {rc : List Value} {lo p4 : Nat} {sA : Value} {bm : List Nat} {L S : Int} {ys : List (List (Int × Int))} {wr : World} (h : WssI w rc lo p4 sA bm L S ys wr) : WssI w rc lo p4 sA bm L S ys wr.drew :=
  ⟨h.1.drew, h.2.1, h.2.2.1, h.2.2.2.1, (goodL (goodP _) _).below h.2.2.2.2 (below_drew _)⟩
theorem WssI.below {w : World} {rc : List Value} {lo p4 : Nat} {sA : Value} {bm : List Nat} {L S : Int} {ys : List (List (Int × Int))} {wr w' : World} (h : WssI w rc lo p4 sA bm L S ys wr) (hb : Below wr.heap.size wr w') : WssI w rc lo p4 sA bm L S ys w' :=
  ⟨below_step h.1 hb, h.2.1.below hb h.2.1.lt, h.2.2.1.below hb h.2.2.1.lt, h.2.2.2.1.below hb h.2.2.2.1.lt, (goodL (goodP _) _).below h.2.2.2.2 hb⟩

set_option maxRecDepth 100000 in
set_option maxHeartbeats 6400000 in
theorem specWs_any (v : Value) (t : TData) (w : World) (h : RdT w v t) :
    Calls Try.prog 25 #[v] w fun e w' => ∃ u, e = .returned (.tuple #[u, .int .i64 (wsRes t).2]) ∧ RdT w' u (wsRes t).1 ∧ Below w.heap.size w w' := by
  obtain ⟨vm, rfl, hA⟩ := atT_box h 29
  obtain ⟨_, e0, hm0⟩ := h
  cases e0
  obtain ⟨A, ca, rfl, -, a2, -⟩ := RdL.open hm0
  unfold maxLen at a2
  have hA0 := hA.below (below_alloc _ (.cells #[.int .i64 0, .int .i64 0, .slice none 0 0] 29))
  have HV := Lib.hid (l02Ok_any _ _ _ hA0)
  have HA := Lib.hid hA0
  have HM := Lib.hid (show RdPP w (.slice A t.mv.length ca) t.mv from hm0)
  have hr := (Row.new w [.int .i64 t.L, .int .i64 t.S, .slice A t.mv.length ca] 29).alloc (.cells #[.int .i64 0, .int .i64 0, .slice none 0 0] 29)
  have hz := Row.new (w.alloc (.cells #[.int .i64 t.L, .int .i64 t.S, .slice A t.mv.length ca] 29)) [.int .i64 0, .int .i64 0, .slice none 0 0] 29
  have HZ := Lib.hid (show Row _ (w.heap.size + 1) _ _ by simpa using hz)
  have HR := Lib.hid hr
  have HB := Lib.hid ((below_alloc w (.cells #[.int .i64 t.L, .int .i64 t.S, .slice A t.mv.length ca] 29)).alloc (by simp) (.cells #[.int .i64 0, .int .i64 0, .slice none 0 0] 29))
  clear hm0 hA hA0 hr hz
  by_cases hok : okT t = true
  · have HK := Lib.hid (okT_out hok)
    have HOK := Lib.hid hok
    have n1 := HK.out.n1
    have n2 := HK.out.n2
    have l1 := HK.out.l1
    have l2 := HK.out.l2
    obtain ⟨b, off, rfl⟩ := rd_box HM.out HK.out
    obtain ⟨c, hc⟩ : ∃ c : Nat, (c : Int) = t.L + 2 := ⟨(t.L + 2).toNat, by omega⟩
    have c5 : c ≤ 5 := by omega
    have HC := Lib.hid hc
    clear hc
    go_enter Try.func25, Try.ntmps25
    go_wp2_with fail
    refine HV.out.mono ?_
    generalize (w.alloc (.cells #[.int .i64 t.L, .int .i64 t.S, .slice (some ⟨b, off, none⟩) t.mv.length ca] 29)).alloc (.cells #[.int .i64 0, .int .i64 0, .slice none 0 0] 29) = W0 at *
    rintro e w1 ⟨rfl, hb1⟩
    have hz1 := HZ.out.below hb1 HZ.out.lt
    have hr1 := HR.out.below hb1 HR.out.lt
    have HCP := Lib.hid (l02Copy_own _ _ w1 (HA.out.below hb1) HK.out)
    have HI1 := Lib.hid (show _ ∧ _ ∧ _ ∧ _ from ⟨below_step HB.out hb1, hr1, hz1, hz1.lt⟩)
    clear hb1 hz1 hr1 HZ HB HA HR
    go_wp2_with fail
    clear hok
    refine HCP.out.mono ?_
    rintro e w2 ⟨u, bm, rfl, hu, hb⟩
    obtain ⟨sm, bm2, rfl, hm, rfl, hnd⟩ := hu
    obtain ⟨Am, km, rfl⟩ := OwL.shape hm
    have hlt2 : ∀ b ∈ bm, w1.heap.size ≤ b ∧ b < w2.heap.size := fun b hb => (goodL (goodP 66) 64).lt hm hb
    have hI : WssI w [.int .i64 t.L, .int .i64 t.S, .slice (some ⟨b, off, none⟩) t.mv.length ca] w1.heap.size w2.heap.size (.slice Am t.mv.length km) bm t.L t.S (wRows t c 0) (w2.alloc (.cells #[.int .i64 t.L, .int .i64 t.S, .slice Am t.mv.length km] 29)) :=
      ⟨below_step (below_step HI1.out.1 hb) (below_alloc _ _), (HI1.out.2.1.below hb HI1.out.2.1.lt).alloc _, (HI1.out.2.2.1.below hb HI1.out.2.2.2).alloc _, Row.new _ _ _, by simpa [wRows] using (goodL (goodP 66) 64).below hm (below_alloc w2 (.cells #[.int .i64 t.L, .int .i64 t.S, .slice Am t.mv.length km] 29))⟩
    have HI := Lib.hid hI
    have HLT := Lib.hid (show _ ∧ _ ∧ _ from ⟨hlt2, HI1.out.2.2.2, hb.size⟩)
    clear hb hm hnd hlt2 hI HI1
    go_wp2
    generalize w2.alloc (.cells #[.int .i64 t.L, .int .i64 t.S, .slice Am t.mv.length km] 29) = w3 at *
    generalize w2.heap.size = p4 at *
    generalize w1.heap.size = lo at *
    go_loopw [5] (fun i wr => ∃ s : Nat, s ≤ t.mv.length ∧ i = .int .i64 s ∧ WssI w [.int .i64 t.L, .int .i64 t.S, .slice (some ⟨b, off, none⟩) t.mv.length ca] lo p4 (.slice Am t.mv.length km) bm t.L t.S (wRows t c s) wr ∧ (List.range s).all (wsRow t) = true) (fun i _ => t.mv.length - (intOf i).toNat)
    case atStart => exact ⟨0, Nat.zero_le _, rfl, HI.out, by simp⟩
    case round =>
      clear HI
      obtain ⟨wo, hwo⟩ : ∃ wo, wo = wr := ⟨wr, rfl⟩
      subst hwo
      obtain ⟨s, hs, rfl, hI, hall⟩ := hrel
      have HS := Lib.hid (show _ ∧ _ from ⟨hI, hall⟩)
      obtain ⟨⟨b0, b1, b2⟩, -⟩ := hI.2.1.three
      have ltp := hI.2.1.lt
      by_cases hlt : s < t.mv.length
      · have hx : t.mv[s]? = some t.mv[s] := List.getElem?_eq_getElem hlt
        generalize t.mv[s] = x at hx
        have hxl : x.length = c := by have := HK.out.len s x hx; have := HC.out; omega
        have HX := Lib.hid (show _ ∧ _ from ⟨hx, hxl⟩)
        have i1 : (0 : Int) ≤ s := by omega
        have i2 : (s : Int) < t.mv.length := by omega
        clear hx hxl hI hall
        go_wp2
        clear b0 b1 b2
        go_loopw [6] (fun i wr => ∃ k : Nat, k ≤ c ∧ i = .int .i64 k ∧ WssI w [.int .i64 t.L, .int .i64 t.S, .slice (some ⟨b, off, none⟩) t.mv.length ca] lo p4 (.slice Am t.mv.length km) bm t.L t.S ((wRows t c s).set s (wRow t c s x k)) wr ∧ (List.range k).all (fun k => (leaveF t k t.mv.length s).isSome) = true) (fun i _ => c - (intOf i).toNat)
        case atStart => exact ⟨0, Nat.zero_le _, rfl, by rw [wRow_zero, set_sameW (wRows_at HX.out.1)]; exact HS.out.1, by simp⟩
        case round =>
          obtain ⟨wi, hwi⟩ : ∃ wi, wi = wr := ⟨wr, rfl⟩
          subst hwi
          obtain ⟨k, hk, rfl, hI, hp⟩ := hrel
          have HI2 := Lib.hid (show _ ∧ _ from ⟨hI, hp⟩)
          obtain ⟨⟨b0, b1, b2⟩, -⟩ := hI.2.1.three
          have ltp := hI.2.1.lt
          have hRW := keepsPP _ _ _ _ HM.out hI.1
          by_cases hklt : k < c
          · have hkL : (k : Int) < t.L + 2 := by have := HC.out; omega
            obtain ⟨bx, offx, cx, cd, e0, e1, e2, e3, e4, e5⟩ := rd_at hRW HK.out hlt hkL
            obtain rfl : cx = c := by have := HC.out; omega
            unfold maxLen at e3
            have ltb := World.block_lt_of_cell? _ _ e0
            have ltx := World.block_lt_of_cell? _ _ e4
            have hR7 := Row.new wi [.int .i64 (moveAt t s k).1, .int .i64 (moveAt t s k).2] 66
            have H7 := Lib.hid (show _ ∧ _ from ⟨below_alloc wi (.cells #[.int .i64 (moveAt t s k).1, .int .i64 (moveAt t s k).2] 66), hR7⟩)
            have HST0 := Lib.hid (leave_same HK.out hkL hlt 2)
            have j1 : (0 : Int) ≤ k := by omega
            have j2 : (k : Int) < cx := by omega
            clear hI hp hRW hR7
            go_wp2
            clear b0 b1 b2 e0 e4 e5
            go_loopw [8] (fun i wr => ∃ (r q : Nat), r ≤ t.mv.length + 1 ∧ i = .int .i64 r ∧ q < t.mv.length ∧ Below wi.heap.size wi wr ∧ Row wr wi.heap.size 66 [.int .i64 (moveAt t q k).1, .int .i64 (moveAt t q k).2] ∧ leaveF t k (t.mv.length + 2 - r) q = leaveF t k t.mv.length s) (fun i _ => t.mv.length + 2 - (intOf i).toNat)
            case atStart => exact ⟨0, s, Nat.zero_le _, rfl, hlt, H7.out.1, H7.out.2, HST0.out⟩
            case round =>
              clear H7 HST0
              obtain ⟨r, q, hr, rfl, hq, hb7, hR7, hL⟩ := hrel
              have HJ := Lib.hid (show _ ∧ _ ∧ _ from ⟨hb7, hR7, hL⟩)
              have hI3 := HI2.out.1.below hb7
              have HI3 := Lib.hid hI3
              obtain ⟨⟨b0, b1, b2⟩, -⟩ := hI3.2.1.three
              have ltp3 := hI3.2.1.lt
              have m0 := hR7.cell 0
              have m1 := hR7.cell 1
              have f0 := hR7.free 0
              have f1 := hR7.free 1
              have lt7 := hR7.lt
              simp only [List.getElem?_cons_zero, List.getElem?_cons_succ] at m0 m1
              obtain ⟨x0, m, -, -, hat, hmv, -⟩ := HK.out.at hq hkL
              have hmo := okMove_out hmv
              have HAT := Lib.hid hat
              have HUN := Lib.hid (show leaveF t k (t.mv.length + 2 - r) q = if staysAt t k q then leaveF t k (t.mv.length + 2 - (r + 1)) (nextS t k q) else some (moveAt t q k) by
                rw [show t.mv.length + 2 - r = (t.mv.length + 2 - (r + 1)) + 1 by omega]; rfl)
              rw [hat] at m0 m1
              obtain ⟨mx, my⟩ := m
              simp only at hmo m0 m1
              clear hmv hat hb7 hR7 hL
              by_cases hst : staysAt t k q
              · have hst' := hst
                unfold staysAt at hst'
                rw [HAT.out] at hst'
                simp only at hst'
                obtain ⟨h0, rfl⟩ := hst'
                by_cases hrn : r ≤ t.mv.length
                · have HNX := Lib.hid (show nextS t k q = mx.toNat by unfold nextS; rw [HAT.out])
                  have hnl := stay_next HK.out hq hkL hst
                  rw [HNX.out] at hnl
                  obtain ⟨q', rfl⟩ := Int.eq_ofNat_of_zero_le h0
                  rw [Int.toNat_natCast] at hnl
                  obtain ⟨by', offy, cy, dy, y0, y1, y2, y3, y4, y5⟩ := rd_at (keepsPP _ _ _ _ HM.out hI3.1) HK.out hnl hkL
                  obtain rfl : cy = cx := by have := HC.out; omega
                  unfold maxLen at y3
                  have ltyb := World.block_lt_of_cell? _ _ y0
                  have ltyx := World.block_lt_of_cell? _ _ y4
                  have HL2 := Lib.hid (show leaveF t k (t.mv.length + 2 - (r + 1)) q' = leaveF t k t.mv.length s by
                    rw [← HJ.out.2.2, HUN.out, if_pos hst, HNX.out, Int.toNat_natCast])
                  have hq1 : (0 : Int) ≤ q' := by omega
                  have hq2 : (q' : Int) < t.mv.length := by omega
                  have hrg : ¬ ((r : Int) > t.mv.length) := by omega
                  clear hst hI3 hmo
                  go_wp2
                  go_roundw
                  case rel =>
                    have hst2 := (HJ.out.2.1.stored 0 (.int .i64 (moveAt t q' k).1)).stored 1 (.int .i64 (moveAt t q' k).2)
                    exact ⟨r + 1, q', by omega, by go_num, hnl, (HJ.out.1.setCell (p := ⟨wi.heap.size, 0, none⟩) (Nat.le_refl _) _).setCell (p := ⟨wi.heap.size, 1, none⟩) (Nat.le_refl _) _, hst2, HL2.out⟩
                  case measure => simp [intOf]; omega
                · obtain rfl : r = t.mv.length + 1 := by omega
                  have hnone : leaveF t k t.mv.length s = none := by
                    rw [← HJ.out.2.2, HUN.out, if_pos hst, show t.mv.length + 2 - (t.mv.length + 1 + 1) = 0 by omega]; rfl
                  have HRES := Lib.hid (show wsRes t = (⟨0, 0, []⟩, 4) by simp [wsRes, HOK.out, wsAll_not hlt hkL hnone])
                  have hrg : ((t.mv.length + 1 : Nat) : Int) > t.mv.length := by omega
                  have HH := Lib.hid (own_storedW (w := w) (A := none) (n := 0) (k := 0) (L := 0) (S := 0) hI3.2.2.1 hI3.1 (by omega) hI3.2.2.1.lt (t := ⟨0, 0, []⟩) ⟨_, [], rfl, owL_nil _ _ _ _, rfl, by simp⟩)
                  obtain ⟨⟨z0, z1, z2⟩, zf⟩ := hI3.2.2.1.three
                  have lz := hI3.2.2.1.lt
                  clear hst hI3 hmo hnone
                  go_wp2
                  obtain ⟨⟨y0, y1, y2⟩, eO, eB⟩ := HH.out
                  rw [HRES.out]
                  generalize (((wr.setCell ⟨w.heap.size + 1, 0, none⟩ (.int .i64 0)).setCell ⟨w.heap.size + 1, 1, none⟩ (.int .i64 0)).setCell ⟨w.heap.size + 1, 2, none⟩ (.slice none 0 0)) = W2 at *
                  refine bodyPost_ret (v := .tuple #[.agg #[.int .i64 0, .int .i64 0, .slice none 0 0], .int .i64 4]) (by simp [results, Try.results25, go_sem, y0, y1, y2]) rfl ?_
                  first | exact ⟨_, rfl, eO.rd, eB⟩ | exact ⟨_, rfl, ⟨eO.rd, eB⟩⟩
              · have hsome : leaveF t k t.mv.length s = some (mx, my) := by
                  rw [← HJ.out.2.2, HUN.out, if_neg hst, HAT.out]
                have HG := Lib.hid (show wsG t s k = (mx, my) by unfold wsG; rw [hsome]; rfl)
                have HP := Lib.hid (range_all_succ HI2.out.2 (by rw [hsome]; rfl))
                have hlen : ((wRows t cx s).set s (wRow t cx s x k)).length = t.mv.length := by rw [List.length_set, wRows_len t cx hs]
                have hat : ((wRows t cx s).set s (wRow t cx s x k))[s]? = some (wRow t cx s x k) := List.getElem?_set_self (by rw [wRows_len t cx hs]; exact hlt)
                obtain ⟨g, cap, u, bb, hv, hc, hR, hbb, hset⟩ := OwL.member (goodP 66) hI3.2.2.2.2 hat
                rw [hlen] at hv
                cases hv
                have hxl := HX.out.2
                have hwl := wRow_len (t := t) (s := s) hxl hk
                rcases hR.nil_or with ⟨_, h0⟩ | ⟨gr, cr, hu, rfl, hcr1, hcr2⟩
                · have := congrArg List.length h0
                  rw [hwl, List.length_nil] at this
                  omega
                have hR' := hR
                rw [hu] at hR'
                have hgr := hbb gr (by simp)
                have hgl := HLT.out.1 gr hgr
                have hlo := HLT.out.2
                rw [hwl] at hu hcr1
                subst hu
                unfold maxLen at hcr2
                obtain ⟨⟨p0, p1, p2⟩, -⟩ := hI3.2.2.2.1.three
                have ltp4 := hI3.2.2.2.1.lt
                have gf := hR'.1.frozenAt (k * 2)
                have gf1 := hR'.1.frozenAt (k * 2 + 1)
                have hwm : (wRow t cx s x k)[k]? = some ((wRow t cx s x k)[k]'(by rw [hwl]; exact hklt)) := List.getElem?_eq_getElem _
                have gc0 := (hR'.1.cellAt (k * 2) (by rw [hwl]; omega)).trans (pcells_get hwm).1
                have gc1 := (hR'.1.cellAt (k * 2 + 1) (by rw [hwl]; omega)).trans (pcells_get hwm).2
                generalize (wRow t cx s x k)[k]'(by rw [hwl]; exact hklt) = mo at gc0 gc1
                have hst2 := hR'.stored (i := k) (by rw [hwl]; exact hklt) (mx, my)
                have hon : Only [gr] wr ((wr.setCell ⟨gr, k * 2, none⟩ (.int .i64 mx)).setCell ⟨gr, k * 2 + 1, none⟩ (.int .i64 my)) := ((Only.refl _ _).setCell (p := ⟨gr, k * 2, none⟩) (by simp) _).setCell (p := ⟨gr, k * 2 + 1, none⟩) (by simp) _
                have e1 : (wRow t cx s x k).set k (mx, my) = wRow t cx s x (k + 1) := by rw [← HG.out]; exact wRow_step hxl hklt
                rw [e1, wRow_len (t := t) (s := s) hxl (show k + 1 ≤ cx by omega)] at hst2
                have hnew := hset _ _ hst2 hon
                rw [List.set_set] at hnew
                have hres : WssI w [.int .i64 t.L, .int .i64 t.S, .slice (some ⟨b, off, none⟩) t.mv.length ca] lo p4 (.slice (some ⟨g, 0, none⟩) t.mv.length km) bm t.L t.S ((wRows t cx s).set s (wRow t cx s x (k + 1))) ((wr.setCell ⟨gr, k * 2, none⟩ (.int .i64 mx)).setCell ⟨gr, k * 2 + 1, none⟩ (.int .i64 my)) :=
                  ⟨(hI3.1.setCell (p := ⟨gr, k * 2, none⟩) (by show w.heap.size ≤ gr; omega) _).setCell (p := ⟨gr, k * 2 + 1, none⟩) (by show w.heap.size ≤ gr; omega) _,
                   (hI3.2.1.other (a := ⟨gr, k * 2, none⟩) (by show gr ≠ _; omega) _).other (a := ⟨gr, k * 2 + 1, none⟩) (by show gr ≠ _; omega) _,
                   (hI3.2.2.1.other (a := ⟨gr, k * 2, none⟩) (by show gr ≠ _; omega) _).other (a := ⟨gr, k * 2 + 1, none⟩) (by show gr ≠ _; omega) _,
                   (hI3.2.2.2.1.other (a := ⟨gr, k * 2, none⟩) (by show gr ≠ _; omega) _).other (a := ⟨gr, k * 2 + 1, none⟩) (by show gr ≠ _; omega) _, hnew⟩
                have HN := Lib.hid hres
                have hcase : (0 ≤ mx ∧ (my == 0) = false) ∨ mx < 0 := by
                  unfold staysAt at hst
                  rw [HAT.out] at hst
                  simp only at hst
                  by_cases h0 : 0 ≤ mx
                  · left; exact ⟨h0, by simpa using fun h => hst ⟨h0, h⟩⟩
                  · right; omega
                clear hst hI3 hmo hsome hlen hat hR hR' hset hbb hst2 hon e1 hnew hres hwm hwl hgr
                rcases hcase with ⟨h0, d1⟩ | h0
                all_goals
                  go_wp2
                  go_region
                  all_goals
                    (try go_wp2)
                    go_roundw
                    case rel => exact ⟨k + 1, by omega, by go_num, by first | exact HN.out | exact HN.out.drew | exact HN.out.drew.drew, HP.out⟩
                    case measure => simp [intOf]; omega
          · obtain rfl : k = c := by omega
            clear hI hp
            have HI4 := Lib.hid (show _ ∧ _ from ⟨HI2.out.1, range_all_succ HS.out.2 (show wsRow t s = true by unfold wsRow; rw [show (t.L + 2).toNat = k by have := HC.out; omega]; exact HI2.out.2)⟩)
            obtain ⟨bx, offx, cx, cd, e0, e1, e2, e3, e4, e5⟩ := rd_at hRW HK.out hlt (k := 0) (by omega)
            obtain rfl : cx = k := by have := HC.out; omega
            unfold maxLen at e3
            clear e4 e5 hRW
            have i1 : (0 : Int) ≤ s := by omega
            have i2 : (s : Int) < t.mv.length := by omega
            go_wp2
            go_roundw
            case rel => exact ⟨s + 1, by omega, by go_num, by have := HI4.out.1; rwa [wRow_full HX.out.2, wRows_step hlt] at this, HI4.out.2⟩
            case measure => simp [intOf]; omega
      · obtain rfl : s = t.mv.length := by omega
        have hws : wsAll t = true := HS.out.2
        have n1 := HK.out.n1
        have hokw := okT_tableW (S := t.S) HK.out.l1 HK.out.l2 (n := t.mv.length) (c := c) (by omega) (by omega) HK.out.s1 HK.out.s2 HC.out (fun q k hq hk => wsG_ok HK.out hws hq (by have := HC.out; omega))
        have HRES := Lib.hid (show wsRes t = (⟨t.L, t.S, tableOf (wsG t) c t.mv.length⟩, 0) by
          have e : (t.L + 2).toNat = c := by have := HC.out; omega
          simp only [wsRes, HOK.out, hws, if_true, e])
        obtain ⟨hbw, hr0, hz, h4, hO⟩ := hI
        rw [wRows_full] at hO
        have hO' : OwT wo lo (.agg #[.int .i64 t.L, .int .i64 t.S, .slice Am t.mv.length km]) ⟨t.L, t.S, tableOf (wsG t) c t.mv.length⟩ bm := ⟨_, bm, rfl, hO, rfl, (goodL (goodP _) _).nodup hO⟩
        have HT := Lib.hid (l02Told_anyW _ _ wo hO'.rd)
        rw [if_pos hokw, show (toldResW ⟨t.L, t.S, tableOf (wsG t) c t.mv.length⟩).2 = 0 by simp [toldResW, hokw]] at HT
        obtain ⟨⟨q0, q1, q2⟩, -⟩ := h4.three
        have ltp4 := h4.lt
        have HH2 := Lib.hid (show _ ∧ _ ∧ _ from ⟨hbw, hz, hO'⟩)
        clear hws hokw hbw hr0 hz h4 hO hO' hall
        go_wp2_with fail
        refine HT.out.mono ?_
        rintro e w4 ⟨rfl, hb⟩
        obtain ⟨hbw, hz, hO⟩ := HH2.out
        have hz3 := hz.below hb hz.lt
        have HF := Lib.hid (own_storedW (w := w) hz3 (below_step hbw hb) (by omega) (by have := HLT.out.2; omega) (goodT.below hO hb))
        obtain ⟨⟨z0, z1, z2⟩, zf⟩ := hz3.three
        have lz := hz3.lt
        clear hbw hz hO hz3 hb b0 b1 b2 q0 q1 q2
        go_wp2
        obtain ⟨⟨y0, y1, y2⟩, eO, eB⟩ := HF.out
        rw [HRES.out]
        generalize (((w4.setCell ⟨w.heap.size + 1, 0, none⟩ (.int .i64 t.L)).setCell ⟨w.heap.size + 1, 1, none⟩ (.int .i64 t.S)).setCell ⟨w.heap.size + 1, 2, none⟩ (.slice Am t.mv.length km)) = W2 at *
        refine bodyPost_ret (v := .tuple #[.agg #[.int .i64 t.L, .int .i64 t.S, .slice Am t.mv.length km], .int .i64 0]) (by simp [results, Try.results25, go_sem, y0, y1, y2]) rfl ?_
        first | exact ⟨_, rfl, eO.rd, eB⟩ | exact ⟨_, rfl, ⟨eO.rd, eB⟩⟩
  · have hok' : okT t = false := by simpa using hok
    clear hok
    have HOK := Lib.hid hok'
    go_enter Try.func25, Try.ntmps25
    go_wp2_with fail
    refine HV.out.mono ?_
    generalize (w.alloc (.cells #[.int .i64 t.L, .int .i64 t.S, .slice A t.mv.length ca] 29)).alloc (.cells #[.int .i64 0, .int .i64 0, .slice none 0 0] 29) = W0 at *
    rintro e w1 ⟨rfl, hb1⟩
    have hz1 := HZ.out.below hb1 HZ.out.lt
    have HH := Lib.hid (own_storedW (w := w) (A := none) (n := 0) (k := 0) (L := 0) (S := 0) hz1 (below_step HB.out hb1) (by omega) hz1.lt (t := ⟨0, 0, []⟩) ⟨_, [], rfl, owL_nil _ _ _ _, rfl, by simp⟩)
    obtain ⟨⟨z0, z1, z2⟩, zf⟩ := hz1.three
    have lz := hz1.lt
    clear hb1 hz1
    go_wp2
    obtain ⟨⟨y0, y1, y2⟩, eO, eB⟩ := HH.out
    have hres : wsRes t = (⟨0, 0, []⟩, 1) := by simp [wsRes, HOK.out]
    rw [hres]
    generalize (((w1.setCell ⟨w.heap.size + 1, 0, none⟩ (.int .i64 0)).setCell ⟨w.heap.size + 1, 1, none⟩ (.int .i64 0)).setCell ⟨w.heap.size + 1, 2, none⟩ (.slice none 0 0)) = W2 at *
    refine bodyPost_ret (v := .tuple #[.agg #[.int .i64 0, .int .i64 0, .slice none 0 0], .int .i64 1]) (by simp [results, Try.results25, go_sem, y0, y1, y2]) rfl ?_
    first | exact ⟨_, rfl, eO.rd, eB⟩ | exact ⟨_, rfl, ⟨eO.rd, eB⟩⟩
end Go.Proofs.Ytfkicedhjipfmaa
