/-
  Fits: whether a reader takes all of one list of words and none of the other one; the program's and the model's.
-/
import Derived.Test.YtjojmlaipcbmkaaBd1
namespace Go.Proofs.Ytjojmlaipcbmkaa
open Go.RowKit

theorem AtR.below {w w' : World} {p : Nat} {r : RData} (h : AtR w p r) (hb : Below w.heap.size w w') : AtR w' p r := by
  obtain ⟨a, n, c0, c1, c2, c3, ha, hn⟩ := h
  exact ⟨a, n, below_keep hb c0, below_keep hb c1, below_keep hb c2, below_keep hb c3, keepsB _ _ _ _ ha hb, keepsII _ _ _ _ hn hb⟩
/-- The reader in a parameter's box. -/
theorem Row.atR {w : World} {p : Nat} {r : RData} {A B : Option Addr} {c d : Nat} (hx : Row w p 29 [.int .i64 r.L, .int .i64 r.S, .slice A r.acc.length c, .slice B r.next.length d]) (h : RdR w (.agg #[.int .i64 r.L, .int .i64 r.S, .slice A r.acc.length c, .slice B r.next.length d]) r) : AtR w p r := by
  obtain ⟨⟨c0, c1, c2, c3⟩, -⟩ := hx.four
  obtain ⟨a, n, hv, ha, hn⟩ := h
  simp only [Value.agg.injEq] at hv
  have ea : a = .slice A r.acc.length c := by simpa using (congrArg (fun x : Array Value => x.getD 2 undef) hv).symm
  have en : n = .slice B r.next.length d := by simpa using (congrArg (fun x : Array Value => x.getD 3 undef) hv).symm
  subst ea; subst en
  exact ⟨_, _, c0, c1, c2, c3, ha, hn⟩

def fitsRes (r : RData) (yes no : List ByteArray) : Bool × Int :=
  if okR r && (okWords r.L yes && okWords r.L no) then
    (if decide (12 < yes.length) || decide (12 < no.length) then (false, 2) else (yes.all (takeB r) && !no.any (takeB r), 0))
  else (false, 1)

set_option maxHeartbeats 800000 in
theorem fits1_any (r : RData) (x : ByteArray) (p : Nat) (w : World) (h : AtR w p r) (ok : okR r = true) (okw : okWord r.L x = true) :
    Calls Try.prog 75 #[.string x, .pointer (some ⟨p, 0, none⟩)] w fun e w' => e = .returned (.bool (!takeB r x)) ∧ Below w.heap.size w w' := by
  obtain ⟨a, n, c0, c1, c2, c3, ha, hn⟩ := h
  have HT := Lib.hid (takes_any _ r x w ⟨a, n, rfl, ha, hn⟩ ok okw)
  obtain ⟨A, ka, rfl⟩ := rdB_shape ha
  obtain ⟨B, kb, rfl⟩ := RdL.shape hn
  clear ha hn ok okw
  go_enter Try.func75, Try.ntmps75
  go_wp2_with (go_at_call 76; refine HT.out.mono ?_; rintro e w' ⟨rfl, hb⟩; have HB := Lib.hid hb)
  go_ret
  exact ⟨rfl, HB.out⟩

set_option maxHeartbeats 1600000 in
theorem implFits_any (v0 v1 v2 : Value) (r : RData) (yes no : List ByteArray) (w : World) (h0 : RdR w v0 r) (h1 : RdS w v1 yes) (h2 : RdS w v2 no) (s1 : SSmall yes) (s2 : SSmall no) :
    Calls Try.prog 30 #[v0, v1, v2] w fun e w' => e = .returned (.tuple #[.bool (fitsRes r yes no).1, .int .i64 (fitsRes r yes no).2]) ∧ Below w.heap.size w w' := by
  obtain ⟨A, c, B, d, rfl⟩ := h0.shape
  obtain ⟨A1, c1, rfl⟩ := rdS_shape h1
  obtain ⟨A2, c2, rfl⟩ := rdS_shape h2
  have n1 : (yes.length : Int) ≤ 140737488355328 := by have := s1.1; omega
  have n2 : (no.length : Int) ≤ 140737488355328 := by have := s2.1; omega
  have hbox := Row.new w [.int .i64 r.L, .int .i64 r.S, .slice A r.acc.length c, .slice B r.next.length d] 29
  have HB0 := Lib.hid (below_alloc w (.cells #[.int .i64 r.L, .int .i64 r.S, .slice A r.acc.length c, .slice B r.next.length d] 29))
  have HV := Lib.hid (fun W (hb : Below w.heap.size w W) => ValidReader_any _ r W (keepsR _ _ _ _ h0 hb))
  have HW1 := Lib.hid (fun W (hb : Below w.heap.size w W) => areWords_any r.L _ yes W (keepsS _ _ _ _ h1 hb) s1)
  have HW2 := Lib.hid (fun W (hb : Below w.heap.size w W) => areWords_any r.L _ no W (keepsS _ _ _ _ h2 hb) s2)
  have HK0 := Lib.hid (fun W (hb : Below w.heap.size w W) => keepsR _ _ _ _ h0 hb)
  have HK1 := Lib.hid (fun W (hb : Below w.heap.size w W) => keepsS _ _ _ _ h1 hb)
  have HK2 := Lib.hid (fun W (hb : Below w.heap.size w W) => keepsS _ _ _ _ h2 hb)
  have HR0 := Lib.hid hbox
  clear h0 h1 h2 s1 s2 hbox
  by_cases hr : okR r = true
  · by_cases hy : okWords r.L yes = true
    · by_cases hn : okWords r.L no = true
      · have HOK := Lib.hid (show _ ∧ _ ∧ _ from ⟨hr, hy, hn⟩)
        by_cases hl : decide (12 < yes.length) || decide (12 < no.length)
        · have HE := Lib.hid (show fitsRes r yes no = (false, 2) by rw [fitsRes, hr, hy, hn]; simp only [Bool.and_self, if_true]; rw [if_pos hl])
          rw [hr] at HV
          rw [hy] at HW1
          rw [hn] at HW2
          by_cases h12 : (12 : Int) < yes.length
          · clear hr hy hn hl
            go_enter Try.func30, Try.ntmps30
            go_wp2_with fail
            refine (HV.out _ HB0.out).mono ?_
            generalize w.alloc (.cells #[.int .i64 r.L, .int .i64 r.S, .slice A r.acc.length c, .slice B r.next.length d] 29) = w0 at *
            rintro e w1 ⟨rfl, hb⟩
            have HB1 := Lib.hid (below_step HB0.out hb)
            have HR1 := Lib.hid (HR0.out.below hb HR0.out.lt)
            obtain ⟨⟨q1_0, q1_1, q1_2, q1_3⟩, -⟩ := HR1.out.four
            have lt1 := HR1.out.lt
            clear hb
            go_wp2_with fail
            refine (HW1.out _ HB1.out).mono ?_
            rintro e w2 ⟨rfl, hb⟩
            have HB2 := Lib.hid (below_step HB1.out hb)
            have HR2 := Lib.hid (HR1.out.below hb HR1.out.lt)
            clear q1_0 q1_1 q1_2 q1_3 lt1
            obtain ⟨⟨q2_0, q2_1, q2_2, q2_3⟩, -⟩ := HR2.out.four
            have lt2 := HR2.out.lt
            clear hb
            go_wp2_with fail
            refine (HW2.out _ HB2.out).mono ?_
            rintro e w3 ⟨rfl, hb⟩
            have HB3 := Lib.hid (below_step HB2.out hb)
            have HR3 := Lib.hid (HR2.out.below hb HR2.out.lt)
            clear q2_0 q2_1 q2_2 q2_3 lt2
            obtain ⟨⟨q3_0, q3_1, q3_2, q3_3⟩, -⟩ := HR3.out.four
            have lt3 := HR3.out.lt
            clear hb
            go_wp2
            go_ret2
            exact ⟨ret_bi (by first | (rw [HE.out]; done) | (rw [HE.out]; simp)) (by rw [HE.out]), HB3.out⟩
          · have h13 : (12 : Int) < no.length := by simp at hl; omega
            clear hr hy hn hl
            go_enter Try.func30, Try.ntmps30
            go_wp2_with fail
            refine (HV.out _ HB0.out).mono ?_
            generalize w.alloc (.cells #[.int .i64 r.L, .int .i64 r.S, .slice A r.acc.length c, .slice B r.next.length d] 29) = w0 at *
            rintro e w1 ⟨rfl, hb⟩
            have HB1 := Lib.hid (below_step HB0.out hb)
            have HR1 := Lib.hid (HR0.out.below hb HR0.out.lt)
            obtain ⟨⟨q1_0, q1_1, q1_2, q1_3⟩, -⟩ := HR1.out.four
            have lt1 := HR1.out.lt
            clear hb
            go_wp2_with fail
            refine (HW1.out _ HB1.out).mono ?_
            rintro e w2 ⟨rfl, hb⟩
            have HB2 := Lib.hid (below_step HB1.out hb)
            have HR2 := Lib.hid (HR1.out.below hb HR1.out.lt)
            clear q1_0 q1_1 q1_2 q1_3 lt1
            obtain ⟨⟨q2_0, q2_1, q2_2, q2_3⟩, -⟩ := HR2.out.four
            have lt2 := HR2.out.lt
            clear hb
            go_wp2_with fail
            refine (HW2.out _ HB2.out).mono ?_
            rintro e w3 ⟨rfl, hb⟩
            have HB3 := Lib.hid (below_step HB2.out hb)
            have HR3 := Lib.hid (HR2.out.below hb HR2.out.lt)
            clear q2_0 q2_1 q2_2 q2_3 lt2
            obtain ⟨⟨q3_0, q3_1, q3_2, q3_3⟩, -⟩ := HR3.out.four
            have lt3 := HR3.out.lt
            clear hb
            go_wp2
            go_ret2
            exact ⟨ret_bi (by first | (rw [HE.out]; done) | (rw [HE.out]; simp)) (by rw [HE.out]), HB3.out⟩
        · have HE := Lib.hid (show fitsRes r yes no = (yes.all (takeB r) && !no.any (takeB r), 0) by rw [fitsRes, hr, hy, hn]; simp only [Bool.and_self, if_true]; rw [if_neg hl])
          have h12 : ¬ (12 : Int) < yes.length := by simp at hl; omega
          have h13 : ¬ (12 : Int) < no.length := by simp at hl; omega
          rw [hr] at HV
          rw [hy] at HW1
          rw [hn] at HW2
          clear hr hy hn hl
          go_enter Try.func30, Try.ntmps30
          go_wp2_with fail
          refine (HV.out _ HB0.out).mono ?_
          generalize w.alloc (.cells #[.int .i64 r.L, .int .i64 r.S, .slice A r.acc.length c, .slice B r.next.length d] 29) = w0 at *
          rintro e w1 ⟨rfl, hb⟩
          have HB1 := Lib.hid (below_step HB0.out hb)
          have HR1 := Lib.hid (HR0.out.below hb HR0.out.lt)
          obtain ⟨⟨q1_0, q1_1, q1_2, q1_3⟩, -⟩ := HR1.out.four
          have lt1 := HR1.out.lt
          clear hb
          go_wp2_with fail
          refine (HW1.out _ HB1.out).mono ?_
          rintro e w2 ⟨rfl, hb⟩
          have HB2 := Lib.hid (below_step HB1.out hb)
          have HR2 := Lib.hid (HR1.out.below hb HR1.out.lt)
          clear q1_0 q1_1 q1_2 q1_3 lt1
          obtain ⟨⟨q2_0, q2_1, q2_2, q2_3⟩, -⟩ := HR2.out.four
          have lt2 := HR2.out.lt
          clear hb
          go_wp2_with fail
          refine (HW2.out _ HB2.out).mono ?_
          rintro e w3 ⟨rfl, hb⟩
          have HB3 := Lib.hid (below_step HB2.out hb)
          have HR3 := Lib.hid (HR2.out.below hb HR2.out.lt)
          clear q2_0 q2_1 q2_2 q2_3 lt2
          obtain ⟨⟨q3_0, q3_1, q3_2, q3_3⟩, -⟩ := HR3.out.four
          have lt3 := HR3.out.lt
          clear hb
          have HC1 := Lib.hid (hasFit_any _ w.heap.size yes (fun x => !takeB r x) w3 (HK1.out _ HB3.out) (fun W hb x hx => fits1_any r x _ W ((Row.atR HR3.out (HK0.out _ HB3.out)).below hb) HOK.out.1 (okWords_mem HOK.out.2.1 hx)))
          rw [any_not_all] at HC1
          obtain ⟨ya, hya⟩ : ∃ ya, yes.all (takeB r) = ya := ⟨_, rfl⟩
          rw [hya] at HC1 HE
          clear hya
          cases ya
          · go_wp2_with fail
            refine HC1.out.mono ?_
            rintro e w4 ⟨rfl, hb⟩
            have HB4 := Lib.hid (below_step HB3.out hb)
            clear hb
            go_wp2
            go_ret2
            exact ⟨ret_bi (by first | (rw [HE.out]; done) | (rw [HE.out]; simp)) (by rw [HE.out]), HB4.out⟩
          · go_wp2_with fail
            refine HC1.out.mono ?_
            rintro e w4 ⟨rfl, hb⟩
            have HB4 := Lib.hid (below_step HB3.out hb)
            have HR4 := Lib.hid (HR3.out.below hb HR3.out.lt)
            clear q3_0 q3_1 q3_2 q3_3 lt3 hb
            obtain ⟨⟨q4_0, q4_1, q4_2, q4_3⟩, -⟩ := HR4.out.four
            have lt4 := HR4.out.lt
            have HC2 := Lib.hid (hasTakes_any _ (.agg #[.int .i64 r.L, .int .i64 r.S, .slice A r.acc.length c, .slice B r.next.length d]) no (takeB r) w4 (HK2.out _ HB4.out) (fun W hb x hx => takes_any _ r x W (HK0.out _ (below_step HB4.out hb)) HOK.out.1 (okWords_mem HOK.out.2.2 hx)))
            go_wp2_with fail
            refine HC2.out.mono ?_
            rintro e w5 ⟨rfl, hb⟩
            have HB5 := Lib.hid (below_step HB4.out hb)
            clear hb
            go_wp2
            go_ret2
            exact ⟨ret_bi (by first | (rw [HE.out]; done) | (rw [HE.out]; simp)) (by rw [HE.out]), HB5.out⟩
      · have hn' : okWords r.L no = false := by simpa using hn
        have HE := Lib.hid (show fitsRes r yes no = (false, 1) by rw [fitsRes, hr, hy, hn']; rfl)
        rw [hr] at HV
        rw [hy] at HW1
        rw [hn'] at HW2
        clear hr hy hn hn'
        go_enter Try.func30, Try.ntmps30
        go_wp2_with fail
        refine (HV.out _ HB0.out).mono ?_
        generalize w.alloc (.cells #[.int .i64 r.L, .int .i64 r.S, .slice A r.acc.length c, .slice B r.next.length d] 29) = w0 at *
        rintro e w1 ⟨rfl, hb⟩
        have HB1 := Lib.hid (below_step HB0.out hb)
        have HR1 := Lib.hid (HR0.out.below hb HR0.out.lt)
        obtain ⟨⟨q1_0, q1_1, q1_2, q1_3⟩, -⟩ := HR1.out.four
        have lt1 := HR1.out.lt
        clear hb
        go_wp2_with fail
        refine (HW1.out _ HB1.out).mono ?_
        rintro e w2 ⟨rfl, hb⟩
        have HB2 := Lib.hid (below_step HB1.out hb)
        have HR2 := Lib.hid (HR1.out.below hb HR1.out.lt)
        clear q1_0 q1_1 q1_2 q1_3 lt1
        obtain ⟨⟨q2_0, q2_1, q2_2, q2_3⟩, -⟩ := HR2.out.four
        have lt2 := HR2.out.lt
        clear hb
        go_wp2_with fail
        refine (HW2.out _ HB2.out).mono ?_
        rintro e w3 ⟨rfl, hb⟩
        have HB3 := Lib.hid (below_step HB2.out hb)
        have HR3 := Lib.hid (HR2.out.below hb HR2.out.lt)
        clear q2_0 q2_1 q2_2 q2_3 lt2
        obtain ⟨⟨q3_0, q3_1, q3_2, q3_3⟩, -⟩ := HR3.out.four
        have lt3 := HR3.out.lt
        clear hb
        go_wp2
        go_ret2
        exact ⟨ret_bi (by first | (rw [HE.out]; done) | (rw [HE.out]; simp)) (by rw [HE.out]), HB3.out⟩
    · have hy' : okWords r.L yes = false := by simpa using hy
      have HE := Lib.hid (show fitsRes r yes no = (false, 1) by rw [fitsRes, hr, hy']; rfl)
      rw [hr] at HV
      rw [hy'] at HW1
      clear hr hy hy'
      go_enter Try.func30, Try.ntmps30
      go_wp2_with fail
      refine (HV.out _ HB0.out).mono ?_
      generalize w.alloc (.cells #[.int .i64 r.L, .int .i64 r.S, .slice A r.acc.length c, .slice B r.next.length d] 29) = w0 at *
      rintro e w1 ⟨rfl, hb⟩
      have HB1 := Lib.hid (below_step HB0.out hb)
      have HR1 := Lib.hid (HR0.out.below hb HR0.out.lt)
      obtain ⟨⟨q1_0, q1_1, q1_2, q1_3⟩, -⟩ := HR1.out.four
      have lt1 := HR1.out.lt
      clear hb
      go_wp2_with fail
      refine (HW1.out _ HB1.out).mono ?_
      rintro e w2 ⟨rfl, hb⟩
      have HB2 := Lib.hid (below_step HB1.out hb)
      have HR2 := Lib.hid (HR1.out.below hb HR1.out.lt)
      clear q1_0 q1_1 q1_2 q1_3 lt1
      obtain ⟨⟨q2_0, q2_1, q2_2, q2_3⟩, -⟩ := HR2.out.four
      have lt2 := HR2.out.lt
      clear hb
      go_wp2
      go_ret2
      exact ⟨ret_bi (by first | (rw [HE.out]; done) | (rw [HE.out]; simp)) (by rw [HE.out]), HB2.out⟩
  · have hr' : okR r = false := by simpa using hr
    have HE := Lib.hid (show fitsRes r yes no = (false, 1) by rw [fitsRes, hr']; rfl)
    rw [hr'] at HV
    clear hr hr'
    go_enter Try.func30, Try.ntmps30
    go_wp2_with fail
    refine (HV.out _ HB0.out).mono ?_
    generalize w.alloc (.cells #[.int .i64 r.L, .int .i64 r.S, .slice A r.acc.length c, .slice B r.next.length d] 29) = w0 at *
    rintro e w1 ⟨rfl, hb⟩
    have HB1 := Lib.hid (below_step HB0.out hb)
    have HR1 := Lib.hid (HR0.out.below hb HR0.out.lt)
    obtain ⟨⟨q1_0, q1_1, q1_2, q1_3⟩, -⟩ := HR1.out.four
    have lt1 := HR1.out.lt
    clear hb
    go_wp2
    go_ret2
    exact ⟨ret_bi (by first | (rw [HE.out]; done) | (rw [HE.out]; simp)) (by rw [HE.out]), HB1.out⟩

set_option maxHeartbeats 1600000 in
theorem l05Fits_any (p : Nat) (v1 v2 : Value) (r : RData) (yes no : List ByteArray) (w : World) (h : AtR w p r) (h1 : RdS w v1 yes) (h2 : RdS w v2 no) (s1 : SSmall yes) (s2 : SSmall no) (ok : okR r = true) (oy : okWords r.L yes = true) (on : okWords r.L no = true) :
    Calls Try.prog 73 #[.pointer (some ⟨p, 0, none⟩), v1, v2] w fun e w' => e = .returned (.bool (yes.all (takeB r) && !no.any (takeB r))) ∧ Qt w w' := by
  obtain ⟨A, ca, rfl, a1, a2, a3⟩ := RdS.open h1
  obtain ⟨B, cb, rfl, b1, b2, b3⟩ := RdS.open h2
  unfold maxLen at a2 b2
  have HT := Lib.hid (fun (W : World) (hq : Qt w W) (x : ByteArray) (hx : okWord r.L x = true) => l05Takes_any p r x W (h.below hq.below) ok (okWord_parts hx).2 (by have := (okWord_parts hx).1; unfold maxLen; omega))
  have HY := Lib.hid oy
  have HN := Lib.hid on
  clear h h1 h2 oy on ok s1 s2
  go_enter Try.func73, Try.ntmps73
  go_wp2
  go_loopw [7] (fun i wr => ∃ k : Nat, k ≤ yes.length ∧ i = .int .i64 k ∧ Qt w wr ∧ (yes.take k).all (takeB r) = true) (fun i _ => yes.length - (intOf i).toNat)
  case atStart => exact ⟨0, Nat.zero_le _, rfl, Qt.refl _, by simp⟩
  case round =>
    obtain ⟨k, hk, rfl, hq, hp⟩ := hrel
    have HP := Lib.hid hp; clear hp
    have HQ := Lib.hid hq
    by_cases hlt : k < yes.length
    · obtain ⟨b, off, x, rfl, hx, hc⟩ := a3 k hlt
      have hc' := (hq.cell _).trans hc
      have HC := Lib.hid (HT.out wr hq x (okWords_mem HY.out (List.mem_of_getElem? hx)))
      have HX := Lib.hid hx
      have i1 : (0 : Int) ≤ k := by omega
      have i2 : (k : Int) < yes.length := by omega
      clear hc a3 b3 hq hx
      obtain ⟨y, hy⟩ : ∃ y, takeB r x = y := ⟨_, rfl⟩
      rw [hy] at HC
      have HYY := Lib.hid hy; clear hy
      cases y
      · go_wp2_with (go_at_call 106; refine HC.out.mono ?_; rintro e w1 ⟨rfl, hb1⟩; have HB1 := Lib.hid (HQ.out.trans hb1))
        go_ret
        exact ⟨ret_bool (by rw [all_not' HX.out HYY.out]; rfl), HB1.out⟩
      · go_wp2_with (go_at_call 106; refine HC.out.mono ?_; rintro e w1 ⟨rfl, hb1⟩; have HB1 := Lib.hid (HQ.out.trans hb1))
        go_roundw
        case rel => exact ⟨k + 1, by omega, by go_num, HB1.out, all_take_succ' HP.out HX.out HYY.out⟩
        case measure => simp [intOf]; omega
    · have HA := Lib.hid (show yes.all (takeB r) = true by have := HP.out; rwa [full_take hlt] at this)
      clear a3 hq
      go_wp2
      obtain ⟨wo, hwo⟩ : ∃ wo, wo = wr := ⟨wr, rfl⟩
      subst hwo
      go_loopw [8] (fun i wr => ∃ k : Nat, k ≤ no.length ∧ i = .int .i64 k ∧ Qt w wr ∧ (no.take k).any (takeB r) = false) (fun i _ => no.length - (intOf i).toNat)
      case atStart => exact ⟨0, Nat.zero_le _, rfl, HQ.out, by simp⟩
      case round =>
        obtain ⟨k, hk2, rfl, hq, hp⟩ := hrel
        have HP2 := Lib.hid hp; clear hp
        have HQ2 := Lib.hid hq
        by_cases hlt2 : k < no.length
        · obtain ⟨b, off, x, rfl, hx, hc⟩ := b3 k hlt2
          have hc' := (hq.cell _).trans hc
          have HC := Lib.hid (HT.out wr hq x (okWords_mem HN.out (List.mem_of_getElem? hx)))
          have HX := Lib.hid hx
          have i1 : (0 : Int) ≤ k := by omega
          have i2 : (k : Int) < no.length := by omega
          clear hc b3 hq hx
          obtain ⟨y, hy⟩ : ∃ y, takeB r x = y := ⟨_, rfl⟩
          rw [hy] at HC
          have HYY := Lib.hid hy; clear hy
          cases y
          · go_wp2_with (go_at_call 106; refine HC.out.mono ?_; rintro e w1 ⟨rfl, hb1⟩; have HB1 := Lib.hid (HQ2.out.trans hb1))
            go_roundw
            case rel => exact ⟨k + 1, by omega, by go_num, HB1.out, any_take_succ' HP2.out HX.out HYY.out⟩
            case measure => simp [intOf]; omega
          · go_wp2_with (go_at_call 106; refine HC.out.mono ?_; rintro e w1 ⟨rfl, hb1⟩; have HB1 := Lib.hid (HQ2.out.trans hb1))
            go_ret
            exact ⟨ret_bool (by rw [any_yes' HX.out HYY.out]; simp), HB1.out⟩
        · clear b3 hq
          go_wp2
          go_ret
          exact ⟨ret_bool (by rw [HA.out]; have := HP2.out; rw [full_take hlt2] at this; rw [this]; rfl), HQ2.out⟩

set_option maxHeartbeats 1600000 in
theorem specFits_any (v0 v1 v2 : Value) (r : RData) (yes no : List ByteArray) (w : World) (h0 : RdR w v0 r) (h1 : RdS w v1 yes) (h2 : RdS w v2 no) (s1 : SSmall yes) (s2 : SSmall no) :
    Calls Try.prog 29 #[v0, v1, v2] w fun e w' => e = .returned (.tuple #[.bool (fitsRes r yes no).1, .int .i64 (fitsRes r yes no).2]) ∧ Below w.heap.size w w' := by
  obtain ⟨A, c, B, d, rfl⟩ := h0.shape
  obtain ⟨A1, c1, rfl⟩ := rdS_shape h1
  obtain ⟨A2, c2, rfl⟩ := rdS_shape h2
  have n1 : (yes.length : Int) ≤ 140737488355328 := by have := s1.1; omega
  have n2 : (no.length : Int) ≤ 140737488355328 := by have := s2.1; omega
  have hbox := Row.new w [.int .i64 r.L, .int .i64 r.S, .slice A r.acc.length c, .slice B r.next.length d] 29
  have HB0 := Lib.hid (below_alloc w (.cells #[.int .i64 r.L, .int .i64 r.S, .slice A r.acc.length c, .slice B r.next.length d] 29))
  have HV := Lib.hid (fun W (hb : Below w.heap.size w W) => specValidReader_any _ r W (keepsR _ _ _ _ h0 hb))
  have HW1 := Lib.hid (fun W (hb : Below w.heap.size w W) => (l05Words_any r.L _ yes W (keepsS _ _ _ _ h1 hb) s1).mono (fun e w' ⟨he, hq⟩ => (⟨he, hq.below⟩ : _ ∧ Below W.heap.size W w')))
  have HW2 := Lib.hid (fun W (hb : Below w.heap.size w W) => (l05Words_any r.L _ no W (keepsS _ _ _ _ h2 hb) s2).mono (fun e w' ⟨he, hq⟩ => (⟨he, hq.below⟩ : _ ∧ Below W.heap.size W w')))
  have HK0 := Lib.hid (fun W (hb : Below w.heap.size w W) => keepsR _ _ _ _ h0 hb)
  have HR0 := Lib.hid hbox
  have HF := Lib.hid (fun W (hb : Below w.heap.size w W) (hx : Row W w.heap.size 29 [.int .i64 r.L, .int .i64 r.S, .slice A r.acc.length c, .slice B r.next.length d]) ok oy on => l05Fits_any w.heap.size _ _ r yes no W (Row.atR hx (keepsR _ _ _ _ h0 hb)) (keepsS _ _ _ _ h1 hb) (keepsS _ _ _ _ h2 hb) s1 s2 ok oy on)
  clear h0 h1 h2 s1 s2 hbox
  by_cases hr : okR r = true
  · by_cases hy : okWords r.L yes = true
    · by_cases hn : okWords r.L no = true
      · have HOK := Lib.hid (show _ ∧ _ ∧ _ from ⟨hr, hy, hn⟩)
        by_cases hl : decide (12 < yes.length) || decide (12 < no.length)
        · have HE := Lib.hid (show fitsRes r yes no = (false, 2) by rw [fitsRes, hr, hy, hn]; simp only [Bool.and_self, if_true]; rw [if_pos hl])
          rw [hr] at HV
          rw [hy] at HW1
          rw [hn] at HW2
          by_cases h12 : (12 : Int) < yes.length
          · clear hr hy hn hl
            go_enter Try.func29, Try.ntmps29
            go_wp2_with fail
            refine (HV.out _ HB0.out).mono ?_
            generalize w.alloc (.cells #[.int .i64 r.L, .int .i64 r.S, .slice A r.acc.length c, .slice B r.next.length d] 29) = w0 at *
            rintro e w1 ⟨rfl, hb⟩
            have HB1 := Lib.hid (below_step HB0.out hb)
            have HR1 := Lib.hid (HR0.out.below hb HR0.out.lt)
            obtain ⟨⟨q1_0, q1_1, q1_2, q1_3⟩, -⟩ := HR1.out.four
            have lt1 := HR1.out.lt
            clear hb
            go_wp2_with fail
            refine (HW1.out _ HB1.out).mono ?_
            rintro e w2 ⟨rfl, hb⟩
            have HB2 := Lib.hid (below_step HB1.out hb)
            have HR2 := Lib.hid (HR1.out.below hb HR1.out.lt)
            clear q1_0 q1_1 q1_2 q1_3 lt1
            obtain ⟨⟨q2_0, q2_1, q2_2, q2_3⟩, -⟩ := HR2.out.four
            have lt2 := HR2.out.lt
            clear hb
            go_wp2_with fail
            refine (HW2.out _ HB2.out).mono ?_
            rintro e w3 ⟨rfl, hb⟩
            have HB3 := Lib.hid (below_step HB2.out hb)
            have HR3 := Lib.hid (HR2.out.below hb HR2.out.lt)
            clear q2_0 q2_1 q2_2 q2_3 lt2
            obtain ⟨⟨q3_0, q3_1, q3_2, q3_3⟩, -⟩ := HR3.out.four
            have lt3 := HR3.out.lt
            clear hb
            go_wp2
            go_ret2
            exact ⟨ret_bi (by first | (rw [HE.out]; done) | (rw [HE.out]; simp)) (by rw [HE.out]), HB3.out⟩
          · have h13 : (12 : Int) < no.length := by simp at hl; omega
            clear hr hy hn hl
            go_enter Try.func29, Try.ntmps29
            go_wp2_with fail
            refine (HV.out _ HB0.out).mono ?_
            generalize w.alloc (.cells #[.int .i64 r.L, .int .i64 r.S, .slice A r.acc.length c, .slice B r.next.length d] 29) = w0 at *
            rintro e w1 ⟨rfl, hb⟩
            have HB1 := Lib.hid (below_step HB0.out hb)
            have HR1 := Lib.hid (HR0.out.below hb HR0.out.lt)
            obtain ⟨⟨q1_0, q1_1, q1_2, q1_3⟩, -⟩ := HR1.out.four
            have lt1 := HR1.out.lt
            clear hb
            go_wp2_with fail
            refine (HW1.out _ HB1.out).mono ?_
            rintro e w2 ⟨rfl, hb⟩
            have HB2 := Lib.hid (below_step HB1.out hb)
            have HR2 := Lib.hid (HR1.out.below hb HR1.out.lt)
            clear q1_0 q1_1 q1_2 q1_3 lt1
            obtain ⟨⟨q2_0, q2_1, q2_2, q2_3⟩, -⟩ := HR2.out.four
            have lt2 := HR2.out.lt
            clear hb
            go_wp2_with fail
            refine (HW2.out _ HB2.out).mono ?_
            rintro e w3 ⟨rfl, hb⟩
            have HB3 := Lib.hid (below_step HB2.out hb)
            have HR3 := Lib.hid (HR2.out.below hb HR2.out.lt)
            clear q2_0 q2_1 q2_2 q2_3 lt2
            obtain ⟨⟨q3_0, q3_1, q3_2, q3_3⟩, -⟩ := HR3.out.four
            have lt3 := HR3.out.lt
            clear hb
            go_wp2
            go_ret2
            exact ⟨ret_bi (by first | (rw [HE.out]; done) | (rw [HE.out]; simp)) (by rw [HE.out]), HB3.out⟩
        · have HE := Lib.hid (show fitsRes r yes no = (yes.all (takeB r) && !no.any (takeB r), 0) by rw [fitsRes, hr, hy, hn]; simp only [Bool.and_self, if_true]; rw [if_neg hl])
          have h12 : ¬ (12 : Int) < yes.length := by simp at hl; omega
          have h13 : ¬ (12 : Int) < no.length := by simp at hl; omega
          rw [hr] at HV
          rw [hy] at HW1
          rw [hn] at HW2
          clear hr hy hn hl
          go_enter Try.func29, Try.ntmps29
          go_wp2_with fail
          refine (HV.out _ HB0.out).mono ?_
          generalize w.alloc (.cells #[.int .i64 r.L, .int .i64 r.S, .slice A r.acc.length c, .slice B r.next.length d] 29) = w0 at *
          rintro e w1 ⟨rfl, hb⟩
          have HB1 := Lib.hid (below_step HB0.out hb)
          have HR1 := Lib.hid (HR0.out.below hb HR0.out.lt)
          obtain ⟨⟨q1_0, q1_1, q1_2, q1_3⟩, -⟩ := HR1.out.four
          have lt1 := HR1.out.lt
          clear hb
          go_wp2_with fail
          refine (HW1.out _ HB1.out).mono ?_
          rintro e w2 ⟨rfl, hb⟩
          have HB2 := Lib.hid (below_step HB1.out hb)
          have HR2 := Lib.hid (HR1.out.below hb HR1.out.lt)
          clear q1_0 q1_1 q1_2 q1_3 lt1
          obtain ⟨⟨q2_0, q2_1, q2_2, q2_3⟩, -⟩ := HR2.out.four
          have lt2 := HR2.out.lt
          clear hb
          go_wp2_with fail
          refine (HW2.out _ HB2.out).mono ?_
          rintro e w3 ⟨rfl, hb⟩
          have HB3 := Lib.hid (below_step HB2.out hb)
          have HR3 := Lib.hid (HR2.out.below hb HR2.out.lt)
          clear q2_0 q2_1 q2_2 q2_3 lt2
          obtain ⟨⟨q3_0, q3_1, q3_2, q3_3⟩, -⟩ := HR3.out.four
          have lt3 := HR3.out.lt
          clear hb
          have HC := Lib.hid (HF.out w3 HB3.out HR3.out HOK.out.1 HOK.out.2.1 HOK.out.2.2)
          go_wp2_with fail
          refine HC.out.mono ?_
          rintro e w4 ⟨rfl, hq⟩
          have HB4 := Lib.hid (below_step HB3.out hq.below)
          clear hq
          go_wp2
          go_ret2
          exact ⟨ret_bi (by first | (rw [HE.out]; done) | (rw [HE.out]; simp)) (by rw [HE.out]), HB4.out⟩
      · have hn' : okWords r.L no = false := by simpa using hn
        have HE := Lib.hid (show fitsRes r yes no = (false, 1) by rw [fitsRes, hr, hy, hn']; rfl)
        rw [hr] at HV
        rw [hy] at HW1
        rw [hn'] at HW2
        clear hr hy hn hn'
        go_enter Try.func29, Try.ntmps29
        go_wp2_with fail
        refine (HV.out _ HB0.out).mono ?_
        generalize w.alloc (.cells #[.int .i64 r.L, .int .i64 r.S, .slice A r.acc.length c, .slice B r.next.length d] 29) = w0 at *
        rintro e w1 ⟨rfl, hb⟩
        have HB1 := Lib.hid (below_step HB0.out hb)
        have HR1 := Lib.hid (HR0.out.below hb HR0.out.lt)
        obtain ⟨⟨q1_0, q1_1, q1_2, q1_3⟩, -⟩ := HR1.out.four
        have lt1 := HR1.out.lt
        clear hb
        go_wp2_with fail
        refine (HW1.out _ HB1.out).mono ?_
        rintro e w2 ⟨rfl, hb⟩
        have HB2 := Lib.hid (below_step HB1.out hb)
        have HR2 := Lib.hid (HR1.out.below hb HR1.out.lt)
        clear q1_0 q1_1 q1_2 q1_3 lt1
        obtain ⟨⟨q2_0, q2_1, q2_2, q2_3⟩, -⟩ := HR2.out.four
        have lt2 := HR2.out.lt
        clear hb
        go_wp2_with fail
        refine (HW2.out _ HB2.out).mono ?_
        rintro e w3 ⟨rfl, hb⟩
        have HB3 := Lib.hid (below_step HB2.out hb)
        have HR3 := Lib.hid (HR2.out.below hb HR2.out.lt)
        clear q2_0 q2_1 q2_2 q2_3 lt2
        obtain ⟨⟨q3_0, q3_1, q3_2, q3_3⟩, -⟩ := HR3.out.four
        have lt3 := HR3.out.lt
        clear hb
        go_wp2
        go_ret2
        exact ⟨ret_bi (by first | (rw [HE.out]; done) | (rw [HE.out]; simp)) (by rw [HE.out]), HB3.out⟩
    · have hy' : okWords r.L yes = false := by simpa using hy
      have HE := Lib.hid (show fitsRes r yes no = (false, 1) by rw [fitsRes, hr, hy']; rfl)
      rw [hr] at HV
      rw [hy'] at HW1
      clear hr hy hy'
      go_enter Try.func29, Try.ntmps29
      go_wp2_with fail
      refine (HV.out _ HB0.out).mono ?_
      generalize w.alloc (.cells #[.int .i64 r.L, .int .i64 r.S, .slice A r.acc.length c, .slice B r.next.length d] 29) = w0 at *
      rintro e w1 ⟨rfl, hb⟩
      have HB1 := Lib.hid (below_step HB0.out hb)
      have HR1 := Lib.hid (HR0.out.below hb HR0.out.lt)
      obtain ⟨⟨q1_0, q1_1, q1_2, q1_3⟩, -⟩ := HR1.out.four
      have lt1 := HR1.out.lt
      clear hb
      go_wp2_with fail
      refine (HW1.out _ HB1.out).mono ?_
      rintro e w2 ⟨rfl, hb⟩
      have HB2 := Lib.hid (below_step HB1.out hb)
      have HR2 := Lib.hid (HR1.out.below hb HR1.out.lt)
      clear q1_0 q1_1 q1_2 q1_3 lt1
      obtain ⟨⟨q2_0, q2_1, q2_2, q2_3⟩, -⟩ := HR2.out.four
      have lt2 := HR2.out.lt
      clear hb
      go_wp2
      go_ret2
      exact ⟨ret_bi (by first | (rw [HE.out]; done) | (rw [HE.out]; simp)) (by rw [HE.out]), HB2.out⟩
  · have hr' : okR r = false := by simpa using hr
    have HE := Lib.hid (show fitsRes r yes no = (false, 1) by rw [fitsRes, hr']; rfl)
    rw [hr'] at HV
    clear hr hr'
    go_enter Try.func29, Try.ntmps29
    go_wp2_with fail
    refine (HV.out _ HB0.out).mono ?_
    generalize w.alloc (.cells #[.int .i64 r.L, .int .i64 r.S, .slice A r.acc.length c, .slice B r.next.length d] 29) = w0 at *
    rintro e w1 ⟨rfl, hb⟩
    have HB1 := Lib.hid (below_step HB0.out hb)
    have HR1 := Lib.hid (HR0.out.below hb HR0.out.lt)
    obtain ⟨⟨q1_0, q1_1, q1_2, q1_3⟩, -⟩ := HR1.out.four
    have lt1 := HR1.out.lt
    clear hb
    go_wp2
    go_ret2
    exact ⟨ret_bi (by first | (rw [HE.out]; done) | (rw [HE.out]; simp)) (by rw [HE.out]), HB1.out⟩
end Go.Proofs.Ytjojmlaipcbmkaa
