/-
  How many words of a length a reader takes: the model's answer.
-/
import Derived.Test.YtdnobbagcnbjiaaCt2
namespace Go.Proofs.Ytdnobbagcnbjiaa
open Go.RowKit

set_option maxRecDepth 100000 in
set_option maxHeartbeats 3200000 in
theorem specCountTaken_any (v : Value) (r : RData) (n : Int) (w : World) (h : RdR w v r) :
    Calls Try.prog 21 #[v, .int .i64 n] w fun e w' => e = .returned (.tuple #[.int .i64 (countRes r n).1, .int .i64 (countRes r n).2]) ∧ Below w.heap.size w w' := by
  obtain ⟨va, vn, rfl, hA⟩ := atR_box h 27
  have HV := Lib.hid (l01Ok_any _ _ _ hA)
  clear h
  obtain ⟨L, S, acc, next⟩ := r
  simp only at *
  have hx := Row.new w [.int .i64 L, .int .i64 S, va, vn] 27
  obtain ⟨va', vn', q0, q1, q2, q3, ha, hn⟩ := hA
  obtain ⟨⟨x0, x1, x2, x3⟩, -⟩ := hx.four
  obtain rfl := Option.some.inj (Option.some.inj (congrArg some (x2.symm.trans q2)))
  obtain rfl := Option.some.inj (Option.some.inj (congrArg some (x3.symm.trans q3)))
  clear q0 q1 q2 q3 x0 x1 x2 x3
  obtain ⟨A, ca, rfl, a1, a2, a3⟩ := ha.open
  obtain ⟨B, cb, rfl, b1, b2, b3⟩ := RdL.open hn
  unfold maxLen at a2 b2
  simp only at *
  have HR := Lib.hid hx
  have HB := Lib.hid (below_alloc w (.cells #[.int .i64 L, .int .i64 S, .slice A acc.length ca, .slice B next.length cb] 27))
  clear hx ha hn
  by_cases hok : okR ⟨L, S, acc, next⟩ = true
  · have HK := Lib.hid (okR_out hok)
    have HOK := Lib.hid hok
    go_enter Try.func21, Try.ntmps21
    go_wp2_with fail
    refine HV.out.mono ?_
    generalize w.alloc (.cells #[.int .i64 L, .int .i64 S, .slice A acc.length ca, .slice B next.length cb] 27) = W0 at *
    rintro e w1 ⟨rfl, hq⟩
    have hb1 := hq.below
    have HB1 := Lib.hid hb1
    obtain ⟨⟨b0, b1', b2', b3'⟩, -⟩ := (HR.out.below hb1 HR.out.lt).four
    have lt1 : w.heap.size < w1.heap.size := Nat.lt_of_lt_of_le HR.out.lt hb1.size
    clear hb1 hq
    by_cases hr : 0 ≤ n ∧ n ≤ 30
    · obtain ⟨r1, r2⟩ := hr
      have e1 := HK.out.n1
      have e2 := HK.out.n2
      have e3 := HK.out.s1
      have e4 := HK.out.s2
      have e7 := HK.out.nl
      simp only at e1 e2 e3 e4 e7
      have HNL := Lib.hid e7
      have hmk := run_make_row' (P := Try.prog) 34 2 (.int .i64 0) 8 Try.underlying34 infoI64 rfl .i64 .i64 acc.length (by omega) (by omega)
      have HMK := Lib.hid hmk
      obtain ⟨m, rfl⟩ := Int.eq_ofNat_of_zero_le e3
      have hw : within n 0 30 = true := by simp [within, r1, r2]
      have WN := Lib.hid hw
      have e5 : (m : Int) < acc.length := by omega
      have e6 : m < acc.length := by omega
      have hmc := made_get e6
      clear e7
      go_wp2_with (go_at_call 58; refine (l00In_w _ _ _ _).mono ?_; rintro e w' ⟨rfl, rfl⟩)
      clear hmk hmc
      clear b0 b1' b2' b3' hok
      obtain ⟨N, rfl⟩ := Int.eq_ofNat_of_zero_le r1
      rw [made_one]
      have HM := Lib.hid (Row.new w1 (ints ((zeros acc.length).set m 1)) 2)
      have HBM := Lib.hid (HB1.out.trans ((below_alloc w1 (.cells (ints ((zeros acc.length).set m 1)).toArray 2)).mono HB1.out.size))
      generalize w1.alloc (.cells (ints ((zeros acc.length).set m 1)).toArray 2) = w2 at *
      go_loopw [6, 7] (fun u i wr => ∃ k g : Nat, k ≤ N ∧ i = .int .i64 k ∧ u = .slice (some ⟨g, 0, none⟩) acc.length acc.length ∧ Below W0.heap.size W0 wr ∧ Row wr g 2 (ints (wordsAt ⟨L, m, acc, next⟩ k))) (fun _ i _ => N - (intOf i).toNat)
      case atStart => exact ⟨0, _, Nat.zero_le _, rfl, rfl, HBM.out, HM.out⟩
      case round =>
        obtain ⟨k, g, hk, rfl, rfl, hb, hW⟩ := hrel
        have hwl := wordsAt_len ⟨L, m, acc, next⟩ k
        simp only at hwl
        obtain ⟨⟨b0, b1', b2', b3'⟩, -⟩ := (HR.out.below hb HR.out.lt).four
        have HQ := Lib.hid hb
        have HW := Lib.hid hW
        have HWL := Lib.hid hwl
        have lt2 : w.heap.size < wr.heap.size := Nat.lt_of_lt_of_le HR.out.lt hb.size
        clear hb hW hwl
        by_cases hlt : k < N
        · have hmk := HMK.out
          go_wp2
          clear hmk b0 b1' b2' b3'
          have hM := Row.made wr (.int .i64 0) acc.length 2
          rw [← ints_zeros] at hM
          have HM2 := Lib.hid hM
          have HG := Lib.hid HW.out.lt
          have HBN := Lib.hid (HQ.out.trans ((below_alloc wr (.cells (madeCells #[.int .i64 0] acc.length) 2)).mono HQ.out.size))
          have HWN := Lib.hid (HW.out.alloc (.cells (madeCells #[.int .i64 0] acc.length) 2))
          have HLT := Lib.hid (Nat.lt_of_lt_of_le HR.out.lt HQ.out.size)
          have HSZ := Lib.hid HQ.out.size
          clear hM lt2
          generalize wr.heap.size = gx at *
          go_loopw [9] (fun i wi => ∃ s : Nat, s ≤ acc.length ∧ i = .int .i64 s ∧ Below W0.heap.size W0 wi ∧ Row wi g 2 (ints (wordsAt ⟨L, m, acc, next⟩ k)) ∧ Row wi gx 2 (ints (rowsTo next (wordsAt ⟨L, m, acc, next⟩ k) (zeros acc.length) s))) (fun i _ => acc.length - (intOf i).toNat)
          case atStart => exact ⟨0, Nat.zero_le _, rfl, HBN.out, HWN.out, HM2.out⟩
          case round =>
            obtain ⟨s, hs, rfl, hb, hW, hX⟩ := hrel
            obtain ⟨⟨b0, b1', b2', b3'⟩, -⟩ := (HR.out.below hb HR.out.lt).four
            have HI := Lib.hid (show _ ∧ _ ∧ _ from ⟨hb, hW, hX⟩)
            by_cases hlt : s < acc.length
            · obtain ⟨b, off, p, x, rfl, hx, hc, hP⟩ := b3 s (by have := HNL.out; omega)
              obtain ⟨D, cd, rfl, d1, d2, d3⟩ := hP.open
              unfold maxLen at d2
              obtain ⟨y, hy⟩ : ∃ y, (wordsAt ⟨L, m, acc, next⟩ k)[s]? = some y := ⟨_, List.getElem?_eq_getElem (by have := HWL.out; omega)⟩
              have HC := Lib.hid hc
              have HX := Lib.hid (show _ ∧ _ from ⟨hx, hy⟩)
              have gc := below_keep hb hc
              have i1 : (0 : Int) ≤ s := by omega
              have i2 : (s : Int) < acc.length := by omega
              have i3 : (s : Int) < next.length := by have := HNL.out; omega
              clear hb hW hX hx hy hc hP a3 b3
              go_wp2
              clear b0 b1' b2' b3' gc
              go_loopw [10] (fun i wi => ∃ j : Nat, j ≤ x.length ∧ i = .int .i64 j ∧ Below W0.heap.size W0 wi ∧ Row wi g 2 (ints (wordsAt ⟨L, m, acc, next⟩ k)) ∧ Row wi gx 2 (ints (rowTo y x (rowsTo next (wordsAt ⟨L, m, acc, next⟩ k) (zeros acc.length) s) j))) (fun i _ => x.length - (intOf i).toNat)
              case atStart => exact ⟨0, Nat.zero_le _, rfl, HI.out.1, HI.out.2.1, by rw [rowTo_zero]; exact HI.out.2.2⟩
              case round =>
                obtain ⟨j, hj, rfl, hb, hW, hX⟩ := hrel
                obtain ⟨⟨b0, b1', b2', b3'⟩, -⟩ := (HR.out.below hb HR.out.lt).four
                have gc := below_keep hb HC.out
                by_cases hjlt : j < x.length
                · obtain ⟨bx, offx, t, rfl, ht, hct⟩ := d3 j hjlt
                  have hd := HK.out.dest s x j t HX.out.1 ht
                  simp only at hd
                  obtain ⟨q, rfl⟩ := Int.eq_ofNat_of_zero_le hd.1
                  have hlen2 : (rowTo y x (rowsTo next (wordsAt ⟨L, m, acc, next⟩ k) (zeros acc.length) s) j).length = acc.length := by rw [rowTo_len, rowsTo_len]; simp [zeros]
                  obtain ⟨z, hz⟩ : ∃ z, (rowTo y x (rowsTo next (wordsAt ⟨L, m, acc, next⟩ k) (zeros acc.length) s) j)[q]? = some z := ⟨_, List.getElem?_eq_getElem (by omega)⟩
                  have gt := below_keep hb hct
                  have gw := (hW.cell s).trans (ints_get HX.out.2)
                  have gz := (hX.cell q).trans (ints_get hz)
                  have gf := hX.free q
                  have HT := Lib.hid ht
                  have hg := HG.out
                  have hlt3 := HLT.out
                  have HS := Lib.hid (show Row _ _ _ _ from (addAt_set (x := y) hz) ▸ hX.stored q (.int .i64 (wrap64 (z + y))))
                  have HY := Lib.hid (hb.setCell (p := ⟨gx, q, none⟩) (by have := HSZ.out; show W0.heap.size ≤ gx; omega) (.int .i64 (wrap64 (z + y))))
                  have HO := Lib.hid (hW.other (a := ⟨gx, q, none⟩) (by show gx ≠ g; omega) (.int .i64 (wrap64 (z + y))))
                  have j1 : (0 : Int) ≤ j := by omega
                  have j2 : (j : Int) < x.length := by omega
                  have j3 : (0 : Int) ≤ q := by omega
                  have j4 : (q : Int) < acc.length := by omega
                  clear hct ht hb hW hX hd hlen2 hz d3
                  go_wp2
                  go_region
                  all_goals
                    (try go_wp2)
                    go_roundw
                    case rel => exact ⟨j + 1, by omega, by go_num, by first | exact HY.out | exact HY.out.drew | exact HY.out.drew.drew, by first | exact HO.out | exact HO.out.drew | exact HO.out.drew.drew, by rw [rowTo_succ HT.out]; first | exact HS.out | exact HS.out.drew | exact HS.out.drew.drew⟩
                    case measure => simp [intOf]; omega
                · have ek : j = x.length := by omega
                  subst ek
                  have HR2 := Lib.hid (show _ ∧ _ ∧ _ from ⟨hb, hW, hX⟩)
                  clear hb hW hX d3
                  go_wp2
                  go_roundw
                  case rel => exact ⟨s + 1, by omega, by go_num, HR2.out.1, HR2.out.2.1, by rw [rowsTo_succ HX.out.1 HX.out.2]; exact HR2.out.2.2⟩
                  case measure => simp [intOf]; omega
            · have es : s = acc.length := by omega
              subst es
              clear hb hW hX a3 b3
              go_wp2
              go_roundw
              case rel => exact ⟨k + 1, gx, by omega, by go_num, rfl, HI.out.1, by have := HI.out.2.2; rw [wordsAt, oneOn, HWL.out, HNL.out]; exact this⟩
              case measure => simp [intOf]; omega
        · have ek : k = N := by omega
          subst ek
          go_wp2
          go_loop [11, 12] (fun t i => ∃ s : Nat, s ≤ acc.length ∧ i = .int .i64 s ∧ t = .int .i64 (sumTo acc (wordsAt ⟨L, m, acc, next⟩ k) s)) (fun _ i => acc.length - (intOf i).toNat)
          case atStart => exact ⟨0, Nat.zero_le _, rfl, rfl⟩
          case round =>
            obtain ⟨s, hs, rfl, rfl⟩ := hrel
            by_cases hlt : s < acc.length
            · obtain ⟨b, off, z, rfl, hz, hc⟩ := a3 s hlt
              obtain ⟨y, hy⟩ : ∃ y, (wordsAt ⟨L, m, acc, next⟩ k)[s]? = some y := ⟨_, List.getElem?_eq_getElem (by have := HWL.out; omega)⟩
              have gc := below_keep HQ.out hc
              have gy := (HW.out.cell s).trans (ints_get hy)
              have i1 : (0 : Int) ≤ s := by omega
              have i2 : (s : Int) < acc.length := by omega
              cases z
              · have HZ := Lib.hid hz
                clear hc hz hy a3 b3
                go_wp2
                go_round
                case rel => exact ⟨s + 1, by omega, by go_num, by rw [sumTo_no HZ.out]⟩
                case measure => simp [intOf]; omega
              · have HZ := Lib.hid (show _ ∧ _ from ⟨hz, hy⟩)
                clear hc hz hy a3 b3
                go_wp2
                go_round
                case rel => exact ⟨s + 1, by omega, by go_num, by rw [sumTo_yes HZ.out.1 HZ.out.2]⟩
                case measure => simp [intOf]; omega
            · have es : s = acc.length := by omega
              subst es
              clear a3 b3
              go_wp2
              go_ret2
              have hw := WN.out
              have hres : countRes ⟨L, m, acc, next⟩ k = (sumTo acc (wordsAt ⟨L, m, acc, next⟩ k) acc.length, 0) := by simp [countRes, HOK.out, hw]
              rw [hres]
              exact ⟨rfl, below_step HB.out HQ.out⟩
    · have hw : within n 0 30 = false := by simpa [within] using hr
      have HW := Lib.hid hw
      go_wp2_with (go_at_call 58; refine (l00In_w _ _ _ _).mono ?_; rintro e w' ⟨rfl, rfl⟩)
      go_ret2
      have hres : countRes ⟨L, S, acc, next⟩ n = (0, 2) := by simp [countRes, HOK.out, HW.out]
      rw [hres]
      exact ⟨rfl, below_step HB.out HB1.out⟩
  · have hok' : okR ⟨L, S, acc, next⟩ = false := by simpa using hok
    clear hok a3 b3
    have HOK := Lib.hid hok'
    go_enter Try.func21, Try.ntmps21
    go_wp2_with fail
    refine HV.out.mono ?_
    generalize w.alloc (.cells #[.int .i64 L, .int .i64 S, .slice A acc.length ca, .slice B next.length cb] 27) = W0 at *
    rintro e w1 ⟨rfl, hq⟩
    have HB1 := Lib.hid hq.below
    clear hq
    go_wp2
    go_ret2
    have hres : countRes ⟨L, S, acc, next⟩ n = (0, 1) := by simp [countRes, HOK.out]
    rw [hres]
    exact ⟨rfl, below_step HB.out HB1.out⟩
end Go.Proofs.Ytdnobbagcnbjiaa
