/-
  Words that are put together: the code of their checks, by the program and by the model.
-/
import Derived.Test.YtjojmlaipcbmkaaBd2
namespace Go.Proofs.Ytjojmlaipcbmkaa
open Go.RowKit

def maxSz (ss : List ByteArray) : Nat := ss.foldl (fun m s => max m s.size) 0
def tooLong (fs bs : List ByteArray) : Bool := fs.any fun a => bs.any fun b => decide (60 < a.size + b.size)
def rowsCode (r : RData) (fs bs : List ByteArray) : Int :=
  if okR r && (okWords r.L fs && okWords r.L bs) then
    (if decide (20 < fs.length) || decide (20 < bs.length) then 2 else if tooLong fs bs then 3 else 0)
  else 1
theorem foldl_max_ge (ss : List ByteArray) (m : Nat) : m ≤ ss.foldl (fun m s => max m s.size) m := by
  induction ss generalizing m with
  | nil => exact Nat.le_refl _
  | cons s r ih => exact Nat.le_trans (Nat.le_max_left _ _) (ih _)
theorem foldl_max_mem (ss : List ByteArray) (m : Nat) {s : ByteArray} (h : s ∈ ss) : s.size ≤ ss.foldl (fun m s => max m s.size) m := by
  induction ss generalizing m with
  | nil => cases h
  | cons a r ih =>
    rcases List.mem_cons.1 h with rfl | h
    · exact Nat.le_trans (Nat.le_max_right _ _) (foldl_max_ge r _)
    · exact ih _ h
theorem foldl_max_at (ss : List ByteArray) (m : Nat) : ss.foldl (fun m s => max m s.size) m = m ∨ ∃ s ∈ ss, s.size = ss.foldl (fun m s => max m s.size) m := by
  induction ss generalizing m with
  | nil => exact .inl rfl
  | cons a r ih =>
    simp only [List.foldl_cons]
    rcases ih (max m a.size) with h | ⟨s, hs, h⟩
    · rw [h]
      rcases Nat.le_total m a.size with h1 | h1
      · exact .inr ⟨a, by simp, by omega⟩
      · exact .inl (by omega)
    · exact .inr ⟨s, by simp [hs], h⟩
theorem maxSz_le {L : Int} {ss : List ByteArray} (h : okWords L ss = true) : maxSz ss ≤ 60 := by
  rcases foldl_max_at ss 0 with h0 | ⟨s, hs, h0⟩
  · unfold maxSz; omega
  · have := (okWord_parts (okWords_mem h hs)).1
    unfold maxSz; omega
theorem tooLong_eq {L : Int} {fs bs : List ByteArray} (h : okWords L fs = true) (k : okWords L bs = true) : tooLong fs bs = decide (60 < maxSz fs + maxSz bs) := by
  by_cases hd : 60 < maxSz fs + maxSz bs
  · have h1 := maxSz_le h
    have k1 := maxSz_le k
    rw [decide_eq_true hd]
    rcases foldl_max_at fs 0 with h0 | ⟨a, ha, h0⟩
    · have : maxSz fs = 0 := h0; omega
    · rcases foldl_max_at bs 0 with k0 | ⟨b, hb, k0⟩
      · have : maxSz bs = 0 := k0; omega
      · unfold tooLong
        rw [List.any_eq_true]
        refine ⟨a, ha, ?_⟩
        rw [List.any_eq_true]
        refine ⟨b, hb, decide_eq_true ?_⟩
        have e1 : a.size = maxSz fs := h0
        have e2 : b.size = maxSz bs := k0
        omega
  · rw [decide_eq_false hd]
    unfold tooLong
    rw [List.any_eq_false]
    intro a ha
    rw [Bool.not_eq_true, List.any_eq_false]
    intro b hb
    rw [Bool.not_eq_true]
    have e1 : a.size ≤ maxSz fs := foldl_max_mem fs 0 ha
    have e2 : b.size ≤ maxSz bs := foldl_max_mem bs 0 hb
    exact decide_eq_false (by omega)

set_option maxHeartbeats 800000 in
theorem longest_any (v : Value) (xs : List ByteArray) (w : World) (h : RdS w v xs) (hm : maxSz xs ≤ 60) (hl : xs.length ≤ 20) :
    Calls Try.prog 107 #[v] w fun e w' => e = .returned (.int .i64 (maxSz xs : Nat)) ∧ Below w.heap.size w w' := by
  obtain ⟨A, cap, rfl, h1, h2, h3⟩ := RdS.open h
  unfold maxLen at h2
  have HM := Lib.hid hm
  clear h hm
  go_enter Try.func107, Try.ntmps107
  go_wp2
  go_loopw [3, 8] (fun d i wr => ∃ k m : Nat, k ≤ xs.length ∧ i = .int .i64 k ∧ d = .int .i64 m ∧ (xs.take k).foldl (fun m s => max m s.size) 0 = m ∧ Qt w wr) (fun _ i _ => xs.length - (intOf i).toNat)
  case atStart => exact ⟨0, 0, Nat.zero_le _, rfl, rfl, rfl, Qt.refl _⟩
  case round =>
    obtain ⟨k, m, hk, rfl, rfl, hp, hq⟩ := hrel
    have HP := Lib.hid hp; clear hp
    have HQ := Lib.hid hq
    by_cases hlt : k < xs.length
    · obtain ⟨b, off, x, rfl, hx, hc⟩ := h3 k hlt
      have hc' := (hq.cell _).trans hc
      have HX := Lib.hid hx
      have i1 : (0 : Int) ≤ k := by omega
      have i2 : (k : Int) < xs.length := by omega
      clear h3 hx hc hq
      have HN := Lib.hid (show (xs.take (k + 1)).foldl (fun m s => max m s.size) 0 = max m x.size by rw [take_succ_of HX.out, List.foldl_append, HP.out]; rfl)
      by_cases hmx : (m : Int) < x.size
      · have HE := Lib.hid (show max m x.size = x.size by omega)
        go_wp2
        go_roundw
        case rel => exact ⟨k + 1, x.size, by omega, by go_num, rfl, by rw [HN.out, HE.out], HQ.out⟩
        case measure => simp [intOf]; omega
      · have HE := Lib.hid (show max m x.size = m by omega)
        go_wp2
        go_roundw
        case rel => exact ⟨k + 1, m, by omega, by go_num, rfl, by rw [HN.out, HE.out], HQ.out⟩
        case measure => simp [intOf]; omega
    · clear h3 hq
      go_wp2
      go_ret
      exact ⟨ret_int (by have := HP.out; rw [full_take hlt] at this; rw [maxSz, this]), HQ.out.below⟩

set_option maxHeartbeats 1600000 in
theorem joinCode_any (v0 v1 v2 : Value) (r : RData) (fs bs : List ByteArray) (w : World) (h0 : RdR w v0 r) (h1 : RdS w v1 fs) (h2 : RdS w v2 bs) (s1 : SSmall fs) (s2 : SSmall bs) :
    Calls Try.prog 67 #[v0, v1, v2] w fun e w' => e = .returned (.int .i64 (rowsCode r fs bs)) ∧ Below w.heap.size w w' := by
  obtain ⟨A, c, B, d, rfl⟩ := h0.shape
  obtain ⟨A1, c1, rfl⟩ := rdS_shape h1
  obtain ⟨A2, c2, rfl⟩ := rdS_shape h2
  have n1 : (fs.length : Int) ≤ 140737488355328 := by have := s1.1; omega
  have n2 : (bs.length : Int) ≤ 140737488355328 := by have := s2.1; omega
  have hbox := Row.new w [.int .i64 r.L, .int .i64 r.S, .slice A r.acc.length c, .slice B r.next.length d] 29
  have HB0 := Lib.hid (below_alloc w (.cells #[.int .i64 r.L, .int .i64 r.S, .slice A r.acc.length c, .slice B r.next.length d] 29))
  have HV := Lib.hid (fun W (hb : Below w.heap.size w W) => ValidReader_any _ r W (keepsR _ _ _ _ h0 hb))
  have HW1 := Lib.hid (fun W (hb : Below w.heap.size w W) => areWords_any r.L _ fs W (keepsS _ _ _ _ h1 hb) s1)
  have HW2 := Lib.hid (fun W (hb : Below w.heap.size w W) => areWords_any r.L _ bs W (keepsS _ _ _ _ h2 hb) s2)
  have HL1 := Lib.hid (fun hm hl W (hb : Below w.heap.size w W) => longest_any _ fs W (keepsS _ _ _ _ h1 hb) hm hl)
  have HL2 := Lib.hid (fun hm hl W (hb : Below w.heap.size w W) => longest_any _ bs W (keepsS _ _ _ _ h2 hb) hm hl)
  have HR0 := Lib.hid hbox
  clear h0 h1 h2 s1 s2 hbox
  by_cases hr : okR r = true
  · by_cases hy : okWords r.L fs = true
    · by_cases hn : okWords r.L bs = true
      · have HOK := Lib.hid (show _ ∧ _ ∧ _ from ⟨hr, hy, hn⟩)
        by_cases hl : decide (20 < fs.length) || decide (20 < bs.length)
        · have HE := Lib.hid (show rowsCode r fs bs = 2 by rw [rowsCode, hr, hy, hn]; simp only [Bool.and_self, if_true]; rw [if_pos hl])
          rw [hr] at HV
          rw [hy] at HW1
          rw [hn] at HW2
          by_cases h12 : (20 : Int) < fs.length
          · clear hr hy hn hl
            go_enter Try.func67, Try.ntmps67
            go_wp2_with fail
            refine (HV.out _ HB0.out).mono ?_
            generalize w.alloc (.cells #[.int .i64 r.L, .int .i64 r.S, .slice A r.acc.length c, .slice B r.next.length d] 29) = w0 at *
            rintro e w1 ⟨rfl, hb⟩
            have HB1 := Lib.hid (below_step HB0.out hb)
            have HR1 := Lib.hid (HR0.out.below hb HR0.out.lt)
            obtain ⟨⟨q1_0, q1_1, q1_2, q1_3⟩, -⟩ := HR1.out.four
            have lt1 := HR1.out.lt
            clear hb
            go_wp2_with fail
            refine (HW1.out _ HB1.out).mono ?_
            rintro e w2 ⟨rfl, hb⟩
            have HB2 := Lib.hid (below_step HB1.out hb)
            have HR2 := Lib.hid (HR1.out.below hb HR1.out.lt)
            clear q1_0 q1_1 q1_2 q1_3 lt1
            obtain ⟨⟨q2_0, q2_1, q2_2, q2_3⟩, -⟩ := HR2.out.four
            have lt2 := HR2.out.lt
            clear hb
            go_wp2_with fail
            refine (HW2.out _ HB2.out).mono ?_
            rintro e w3 ⟨rfl, hb⟩
            have HB3 := Lib.hid (below_step HB2.out hb)
            have HR3 := Lib.hid (HR2.out.below hb HR2.out.lt)
            clear q2_0 q2_1 q2_2 q2_3 lt2
            obtain ⟨⟨q3_0, q3_1, q3_2, q3_3⟩, -⟩ := HR3.out.four
            have lt3 := HR3.out.lt
            clear hb
            go_wp2
            go_ret
            exact ⟨ret_int HE.out.symm, HB3.out⟩
          · have h13 : (20 : Int) < bs.length := by simp at hl; omega
            clear hr hy hn hl
            go_enter Try.func67, Try.ntmps67
            go_wp2_with fail
            refine (HV.out _ HB0.out).mono ?_
            generalize w.alloc (.cells #[.int .i64 r.L, .int .i64 r.S, .slice A r.acc.length c, .slice B r.next.length d] 29) = w0 at *
            rintro e w1 ⟨rfl, hb⟩
            have HB1 := Lib.hid (below_step HB0.out hb)
            have HR1 := Lib.hid (HR0.out.below hb HR0.out.lt)
            obtain ⟨⟨q1_0, q1_1, q1_2, q1_3⟩, -⟩ := HR1.out.four
            have lt1 := HR1.out.lt
            clear hb
            go_wp2_with fail
            refine (HW1.out _ HB1.out).mono ?_
            rintro e w2 ⟨rfl, hb⟩
            have HB2 := Lib.hid (below_step HB1.out hb)
            have HR2 := Lib.hid (HR1.out.below hb HR1.out.lt)
            clear q1_0 q1_1 q1_2 q1_3 lt1
            obtain ⟨⟨q2_0, q2_1, q2_2, q2_3⟩, -⟩ := HR2.out.four
            have lt2 := HR2.out.lt
            clear hb
            go_wp2_with fail
            refine (HW2.out _ HB2.out).mono ?_
            rintro e w3 ⟨rfl, hb⟩
            have HB3 := Lib.hid (below_step HB2.out hb)
            have HR3 := Lib.hid (HR2.out.below hb HR2.out.lt)
            clear q2_0 q2_1 q2_2 q2_3 lt2
            obtain ⟨⟨q3_0, q3_1, q3_2, q3_3⟩, -⟩ := HR3.out.four
            have lt3 := HR3.out.lt
            clear hb
            go_wp2
            go_ret
            exact ⟨ret_int HE.out.symm, HB3.out⟩
        · have h12 : ¬ (20 : Int) < fs.length := by simp at hl; omega
          have h13 : ¬ (20 : Int) < bs.length := by simp at hl; omega
          have HTL := Lib.hid (tooLong_eq hy hn)
          have m1 := maxSz_le hy
          have m2 := maxSz_le hn
          have HE0 := Lib.hid (show rowsCode r fs bs = if tooLong fs bs then 3 else 0 by rw [rowsCode, hr, hy, hn]; simp only [Bool.and_self, if_true]; rw [if_neg hl])
          rw [hr] at HV
          rw [hy] at HW1
          rw [hn] at HW2
          have HM1 := Lib.hid (HL1.out m1 (by omega))
          have HM2 := Lib.hid (HL2.out m2 (by omega))
          by_cases ht : 60 < maxSz fs + maxSz bs
          · have HE := Lib.hid (show rowsCode r fs bs = 3 by rw [HE0.out, HTL.out, decide_eq_true ht]; rfl)
            have ht2 : (60 : Int) < ((maxSz fs : Nat) : Int) + ((maxSz bs : Nat) : Int) := by omega
            clear hr hy hn hl ht
            go_enter Try.func67, Try.ntmps67
            go_wp2_with fail
            refine (HV.out _ HB0.out).mono ?_
            generalize w.alloc (.cells #[.int .i64 r.L, .int .i64 r.S, .slice A r.acc.length c, .slice B r.next.length d] 29) = w0 at *
            rintro e w1 ⟨rfl, hb⟩
            have HB1 := Lib.hid (below_step HB0.out hb)
            have HR1 := Lib.hid (HR0.out.below hb HR0.out.lt)
            obtain ⟨⟨q1_0, q1_1, q1_2, q1_3⟩, -⟩ := HR1.out.four
            have lt1 := HR1.out.lt
            clear hb
            go_wp2_with fail
            refine (HW1.out _ HB1.out).mono ?_
            rintro e w2 ⟨rfl, hb⟩
            have HB2 := Lib.hid (below_step HB1.out hb)
            have HR2 := Lib.hid (HR1.out.below hb HR1.out.lt)
            clear q1_0 q1_1 q1_2 q1_3 lt1
            obtain ⟨⟨q2_0, q2_1, q2_2, q2_3⟩, -⟩ := HR2.out.four
            have lt2 := HR2.out.lt
            clear hb
            go_wp2_with fail
            refine (HW2.out _ HB2.out).mono ?_
            rintro e w3 ⟨rfl, hb⟩
            have HB3 := Lib.hid (below_step HB2.out hb)
            have HR3 := Lib.hid (HR2.out.below hb HR2.out.lt)
            clear q2_0 q2_1 q2_2 q2_3 lt2
            obtain ⟨⟨q3_0, q3_1, q3_2, q3_3⟩, -⟩ := HR3.out.four
            have lt3 := HR3.out.lt
            clear hb
            go_wp2_with fail
            refine (HM1.out _ HB3.out).mono ?_
            rintro e w4 ⟨rfl, hb⟩
            have HB4 := Lib.hid (below_step HB3.out hb)
            have HR4 := Lib.hid (HR3.out.below hb HR3.out.lt)
            clear q3_0 q3_1 q3_2 q3_3 lt3
            obtain ⟨⟨q4_0, q4_1, q4_2, q4_3⟩, -⟩ := HR4.out.four
            have lt4 := HR4.out.lt
            clear hb
            go_wp2_with fail
            refine (HM2.out _ HB4.out).mono ?_
            rintro e w5 ⟨rfl, hb⟩
            have HB5 := Lib.hid (below_step HB4.out hb)
            have HR5 := Lib.hid (HR4.out.below hb HR4.out.lt)
            clear q4_0 q4_1 q4_2 q4_3 lt4
            obtain ⟨⟨q5_0, q5_1, q5_2, q5_3⟩, -⟩ := HR5.out.four
            have lt5 := HR5.out.lt
            clear hb
            go_wp2
            go_ret
            exact ⟨ret_int HE.out.symm, HB5.out⟩
          · have HE := Lib.hid (show rowsCode r fs bs = 0 by rw [HE0.out, HTL.out, decide_eq_false ht]; rfl)
            have ht2 : ¬ (60 : Int) < ((maxSz fs : Nat) : Int) + ((maxSz bs : Nat) : Int) := by omega
            clear hr hy hn hl ht
            go_enter Try.func67, Try.ntmps67
            go_wp2_with fail
            refine (HV.out _ HB0.out).mono ?_
            generalize w.alloc (.cells #[.int .i64 r.L, .int .i64 r.S, .slice A r.acc.length c, .slice B r.next.length d] 29) = w0 at *
            rintro e w1 ⟨rfl, hb⟩
            have HB1 := Lib.hid (below_step HB0.out hb)
            have HR1 := Lib.hid (HR0.out.below hb HR0.out.lt)
            obtain ⟨⟨q1_0, q1_1, q1_2, q1_3⟩, -⟩ := HR1.out.four
            have lt1 := HR1.out.lt
            clear hb
            go_wp2_with fail
            refine (HW1.out _ HB1.out).mono ?_
            rintro e w2 ⟨rfl, hb⟩
            have HB2 := Lib.hid (below_step HB1.out hb)
            have HR2 := Lib.hid (HR1.out.below hb HR1.out.lt)
            clear q1_0 q1_1 q1_2 q1_3 lt1
            obtain ⟨⟨q2_0, q2_1, q2_2, q2_3⟩, -⟩ := HR2.out.four
            have lt2 := HR2.out.lt
            clear hb
            go_wp2_with fail
            refine (HW2.out _ HB2.out).mono ?_
            rintro e w3 ⟨rfl, hb⟩
            have HB3 := Lib.hid (below_step HB2.out hb)
            have HR3 := Lib.hid (HR2.out.below hb HR2.out.lt)
            clear q2_0 q2_1 q2_2 q2_3 lt2
            obtain ⟨⟨q3_0, q3_1, q3_2, q3_3⟩, -⟩ := HR3.out.four
            have lt3 := HR3.out.lt
            clear hb
            go_wp2_with fail
            refine (HM1.out _ HB3.out).mono ?_
            rintro e w4 ⟨rfl, hb⟩
            have HB4 := Lib.hid (below_step HB3.out hb)
            have HR4 := Lib.hid (HR3.out.below hb HR3.out.lt)
            clear q3_0 q3_1 q3_2 q3_3 lt3
            obtain ⟨⟨q4_0, q4_1, q4_2, q4_3⟩, -⟩ := HR4.out.four
            have lt4 := HR4.out.lt
            clear hb
            go_wp2_with fail
            refine (HM2.out _ HB4.out).mono ?_
            rintro e w5 ⟨rfl, hb⟩
            have HB5 := Lib.hid (below_step HB4.out hb)
            have HR5 := Lib.hid (HR4.out.below hb HR4.out.lt)
            clear q4_0 q4_1 q4_2 q4_3 lt4
            obtain ⟨⟨q5_0, q5_1, q5_2, q5_3⟩, -⟩ := HR5.out.four
            have lt5 := HR5.out.lt
            clear hb
            go_wp2
            go_ret
            exact ⟨ret_int HE.out.symm, HB5.out⟩
      · have hn' : okWords r.L bs = false := by simpa using hn
        have HE := Lib.hid (show rowsCode r fs bs = 1 by rw [rowsCode, hr, hy, hn']; rfl)
        rw [hr] at HV
        rw [hy] at HW1
        rw [hn'] at HW2
        clear hr hy hn hn'
        go_enter Try.func67, Try.ntmps67
        go_wp2_with fail
        refine (HV.out _ HB0.out).mono ?_
        generalize w.alloc (.cells #[.int .i64 r.L, .int .i64 r.S, .slice A r.acc.length c, .slice B r.next.length d] 29) = w0 at *
        rintro e w1 ⟨rfl, hb⟩
        have HB1 := Lib.hid (below_step HB0.out hb)
        have HR1 := Lib.hid (HR0.out.below hb HR0.out.lt)
        obtain ⟨⟨q1_0, q1_1, q1_2, q1_3⟩, -⟩ := HR1.out.four
        have lt1 := HR1.out.lt
        clear hb
        go_wp2_with fail
        refine (HW1.out _ HB1.out).mono ?_
        rintro e w2 ⟨rfl, hb⟩
        have HB2 := Lib.hid (below_step HB1.out hb)
        have HR2 := Lib.hid (HR1.out.below hb HR1.out.lt)
        clear q1_0 q1_1 q1_2 q1_3 lt1
        obtain ⟨⟨q2_0, q2_1, q2_2, q2_3⟩, -⟩ := HR2.out.four
        have lt2 := HR2.out.lt
        clear hb
        go_wp2_with fail
        refine (HW2.out _ HB2.out).mono ?_
        rintro e w3 ⟨rfl, hb⟩
        have HB3 := Lib.hid (below_step HB2.out hb)
        have HR3 := Lib.hid (HR2.out.below hb HR2.out.lt)
        clear q2_0 q2_1 q2_2 q2_3 lt2
        obtain ⟨⟨q3_0, q3_1, q3_2, q3_3⟩, -⟩ := HR3.out.four
        have lt3 := HR3.out.lt
        clear hb
        go_wp2
        go_ret
        exact ⟨ret_int HE.out.symm, HB3.out⟩
    · have hy' : okWords r.L fs = false := by simpa using hy
      have HE := Lib.hid (show rowsCode r fs bs = 1 by rw [rowsCode, hr, hy']; rfl)
      rw [hr] at HV
      rw [hy'] at HW1
      clear hr hy hy'
      go_enter Try.func67, Try.ntmps67
      go_wp2_with fail
      refine (HV.out _ HB0.out).mono ?_
      generalize w.alloc (.cells #[.int .i64 r.L, .int .i64 r.S, .slice A r.acc.length c, .slice B r.next.length d] 29) = w0 at *
      rintro e w1 ⟨rfl, hb⟩
      have HB1 := Lib.hid (below_step HB0.out hb)
      have HR1 := Lib.hid (HR0.out.below hb HR0.out.lt)
      obtain ⟨⟨q1_0, q1_1, q1_2, q1_3⟩, -⟩ := HR1.out.four
      have lt1 := HR1.out.lt
      clear hb
      go_wp2_with fail
      refine (HW1.out _ HB1.out).mono ?_
      rintro e w2 ⟨rfl, hb⟩
      have HB2 := Lib.hid (below_step HB1.out hb)
      have HR2 := Lib.hid (HR1.out.below hb HR1.out.lt)
      clear q1_0 q1_1 q1_2 q1_3 lt1
      obtain ⟨⟨q2_0, q2_1, q2_2, q2_3⟩, -⟩ := HR2.out.four
      have lt2 := HR2.out.lt
      clear hb
      go_wp2
      go_ret
      exact ⟨ret_int HE.out.symm, HB2.out⟩
  · have hr' : okR r = false := by simpa using hr
    have HE := Lib.hid (show rowsCode r fs bs = 1 by rw [rowsCode, hr']; rfl)
    rw [hr'] at HV
    clear hr hr'
    go_enter Try.func67, Try.ntmps67
    go_wp2_with fail
    refine (HV.out _ HB0.out).mono ?_
    generalize w.alloc (.cells #[.int .i64 r.L, .int .i64 r.S, .slice A r.acc.length c, .slice B r.next.length d] 29) = w0 at *
    rintro e w1 ⟨rfl, hb⟩
    have HB1 := Lib.hid (below_step HB0.out hb)
    have HR1 := Lib.hid (HR0.out.below hb HR0.out.lt)
    obtain ⟨⟨q1_0, q1_1, q1_2, q1_3⟩, -⟩ := HR1.out.four
    have lt1 := HR1.out.lt
    clear hb
    go_wp2
    go_ret
    exact ⟨ret_int HE.out.symm, HB1.out⟩

set_option maxHeartbeats 1600000 in
theorem l05Rows_any (p : Nat) (v1 v2 : Value) (r : RData) (fs bs : List ByteArray) (w : World) (h : AtR w p r) (h1 : RdS w v1 fs) (h2 : RdS w v2 bs) (s1 : SSmall fs) (s2 : SSmall bs) :
    Calls Try.prog 65 #[.pointer (some ⟨p, 0, none⟩), v1, v2] w fun e w' => e = .returned (.int .i64 (rowsCode r fs bs)) ∧ Below w.heap.size w w' := by
  obtain ⟨a0, n0, c0, c1, c2, c3, ha, hn0⟩ := h
  obtain ⟨A, ka, rfl⟩ := rdB_shape ha
  obtain ⟨B, kb, rfl⟩ := RdL.shape hn0
  obtain ⟨A1, k1, rfl, a1, a2, a3⟩ := RdS.open h1
  obtain ⟨A2, k2, rfl, b1, b2, b3⟩ := RdS.open h2
  unfold maxLen at a2 b2
  have HB0 := Lib.hid (Below.refl w.heap.size w)
  have HCC := Lib.hid (fun W (hb : Below w.heap.size w W) => (⟨below_keep hb c0, below_keep hb c1, below_keep hb c2, below_keep hb c3⟩ : _ ∧ _ ∧ _ ∧ _))
  have HV := Lib.hid (fun W (hb : Below w.heap.size w W) => specValidReader_any _ r W ⟨_, _, rfl, keepsB _ _ _ _ ha hb, keepsII _ _ _ _ hn0 hb⟩)
  have HW1 := Lib.hid (fun W (hb : Below w.heap.size w W) => (l05Words_any r.L _ fs W (keepsS _ _ _ _ h1 hb) s1).mono (fun e w' ⟨he, hq⟩ => (⟨he, hq.below⟩ : _ ∧ Below W.heap.size W w')))
  have HW2 := Lib.hid (fun W (hb : Below w.heap.size w W) => (l05Words_any r.L _ bs W (keepsS _ _ _ _ h2 hb) s2).mono (fun e w' ⟨he, hq⟩ => (⟨he, hq.below⟩ : _ ∧ Below W.heap.size W w')))
  clear h1 h2 s1 s2 ha hn0
  by_cases hr : okR r = true
  · by_cases hy : okWords r.L fs = true
    · by_cases hn : okWords r.L bs = true
      · by_cases hl : decide (20 < fs.length) || decide (20 < bs.length)
        · have HE := Lib.hid (show rowsCode r fs bs = 2 by rw [rowsCode, hr, hy, hn]; simp only [Bool.and_self, if_true]; rw [if_pos hl])
          rw [hr] at HV
          rw [hy] at HW1
          rw [hn] at HW2
          by_cases h12 : (20 : Int) < fs.length
          · clear hr hy hn hl a3 b3
            go_enter Try.func65, Try.ntmps65
            go_wp2_with fail
            refine (HV.out _ HB0.out).mono ?_
            rintro e w1 ⟨rfl, hb⟩
            have HB1 := Lib.hid (below_step HB0.out hb)
            clear hb
            clear c0 c1 c2 c3
            obtain ⟨q1_0, q1_1, q1_2, q1_3⟩ := HCC.out _ HB1.out
            go_wp2_with fail
            refine (HW1.out _ HB1.out).mono ?_
            rintro e w2 ⟨rfl, hb⟩
            have HB2 := Lib.hid (below_step HB1.out hb)
            clear hb
            clear q1_0 q1_1 q1_2 q1_3
            obtain ⟨q2_0, q2_1, q2_2, q2_3⟩ := HCC.out _ HB2.out
            go_wp2_with fail
            refine (HW2.out _ HB2.out).mono ?_
            rintro e w3 ⟨rfl, hb⟩
            have HB3 := Lib.hid (below_step HB2.out hb)
            clear hb
            clear q2_0 q2_1 q2_2 q2_3
            obtain ⟨q3_0, q3_1, q3_2, q3_3⟩ := HCC.out _ HB3.out
            go_wp2
            go_ret
            exact ⟨ret_int HE.out.symm, HB3.out⟩
          · have h13 : (20 : Int) < bs.length := by simp at hl; omega
            clear hr hy hn hl a3 b3
            go_enter Try.func65, Try.ntmps65
            go_wp2_with fail
            refine (HV.out _ HB0.out).mono ?_
            rintro e w1 ⟨rfl, hb⟩
            have HB1 := Lib.hid (below_step HB0.out hb)
            clear hb
            clear c0 c1 c2 c3
            obtain ⟨q1_0, q1_1, q1_2, q1_3⟩ := HCC.out _ HB1.out
            go_wp2_with fail
            refine (HW1.out _ HB1.out).mono ?_
            rintro e w2 ⟨rfl, hb⟩
            have HB2 := Lib.hid (below_step HB1.out hb)
            clear hb
            clear q1_0 q1_1 q1_2 q1_3
            obtain ⟨q2_0, q2_1, q2_2, q2_3⟩ := HCC.out _ HB2.out
            go_wp2_with fail
            refine (HW2.out _ HB2.out).mono ?_
            rintro e w3 ⟨rfl, hb⟩
            have HB3 := Lib.hid (below_step HB2.out hb)
            clear hb
            clear q2_0 q2_1 q2_2 q2_3
            obtain ⟨q3_0, q3_1, q3_2, q3_3⟩ := HCC.out _ HB3.out
            go_wp2
            go_ret
            exact ⟨ret_int HE.out.symm, HB3.out⟩
        · have h12 : ¬ (20 : Int) < fs.length := by simp at hl; omega
          have h13 : ¬ (20 : Int) < bs.length := by simp at hl; omega
          have HSM := Lib.hid (show (∀ s ∈ fs, s.size ≤ 60) ∧ (∀ s ∈ bs, s.size ≤ 60) from ⟨fun s hs => by have := (okWord_parts (okWords_mem hy hs)).1; omega, fun s hs => by have := (okWord_parts (okWords_mem hn hs)).1; omega⟩)
          have HE0 := Lib.hid (show rowsCode r fs bs = if tooLong fs bs then 3 else 0 by rw [rowsCode, hr, hy, hn]; simp only [Bool.and_self, if_true]; rw [if_neg hl])
          rw [hr] at HV
          rw [hy] at HW1
          rw [hn] at HW2
          clear hr hy hn hl
          go_enter Try.func65, Try.ntmps65
          go_wp2_with fail
          refine (HV.out _ HB0.out).mono ?_
          rintro e w1 ⟨rfl, hb⟩
          have HB1 := Lib.hid (below_step HB0.out hb)
          clear hb
          clear c0 c1 c2 c3
          obtain ⟨q1_0, q1_1, q1_2, q1_3⟩ := HCC.out _ HB1.out
          go_wp2_with fail
          refine (HW1.out _ HB1.out).mono ?_
          rintro e w2 ⟨rfl, hb⟩
          have HB2 := Lib.hid (below_step HB1.out hb)
          clear hb
          clear q1_0 q1_1 q1_2 q1_3
          obtain ⟨q2_0, q2_1, q2_2, q2_3⟩ := HCC.out _ HB2.out
          go_wp2_with fail
          refine (HW2.out _ HB2.out).mono ?_
          rintro e w3 ⟨rfl, hb⟩
          have HB3 := Lib.hid (below_step HB2.out hb)
          clear hb
          clear q2_0 q2_1 q2_2 q2_3
          obtain ⟨q3_0, q3_1, q3_2, q3_3⟩ := HCC.out _ HB3.out
          go_wp2_with fail
          clear q3_0 q3_1 q3_2 q3_3
          go_loopw [7] (fun i wr => ∃ k : Nat, k ≤ fs.length ∧ i = .int .i64 k ∧ Below w.heap.size w wr ∧ ((fs.take k).any fun a => bs.any fun b => decide (60 < a.size + b.size)) = false) (fun i _ => fs.length - (intOf i).toNat)
          case atStart => exact ⟨0, Nat.zero_le _, rfl, HB3.out, by simp⟩
          case round =>
            obtain ⟨k, hk, rfl, hq, hp⟩ := hrel
            have HP := Lib.hid hp; clear hp
            have HQ := Lib.hid hq
            by_cases hlt : k < fs.length
            · obtain ⟨b, off, x, rfl, hx, hc⟩ := a3 k hlt
              have hc' := below_keep hq hc
              have HX := Lib.hid hx
              have hxs := HSM.out.1 x (List.mem_of_getElem? hx)
              have i1 : (0 : Int) ≤ k := by omega
              have i2 : (k : Int) < fs.length := by omega
              clear hc a3 hx hq
              go_wp2
              obtain ⟨wo, hwo⟩ : ∃ wo, wo = wr := ⟨wr, rfl⟩
              subst hwo
              go_loopw [8] (fun i wr => ∃ k2 : Nat, k2 ≤ bs.length ∧ i = .int .i64 k2 ∧ Qt wo wr ∧ ((bs.take k2).any fun b => decide (60 < x.size + b.size)) = false) (fun i _ => bs.length - (intOf i).toNat)
              case atStart => exact ⟨0, Nat.zero_le _, rfl, Qt.refl _, by simp⟩
              case round =>
                obtain ⟨k2, hk2, rfl, hq2, hp2⟩ := hrel
                have HP2 := Lib.hid hp2; clear hp2
                have HQ2 := Lib.hid hq2
                by_cases hlt2 : k2 < bs.length
                · obtain ⟨b', off', y, rfl, hy, hd⟩ := b3 k2 hlt2
                  have hd' := (hq2.cell _).trans (below_keep HQ.out hd)
                  have hc'' := (hq2.cell _).trans hc'
                  have HY := Lib.hid hy
                  have hys := HSM.out.2 y (List.mem_of_getElem? hy)
                  have j1 : (0 : Int) ≤ k2 := by omega
                  have j2 : (k2 : Int) < bs.length := by omega
                  clear hd b3 hy hq2 hc'
                  by_cases hs : 60 < x.size + y.size
                  · have hs2 : decide ((60 : Int) < (x.size : Int) + (y.size : Int)) = true := by simp; omega
                    have HE := Lib.hid (show rowsCode r fs bs = 3 by
                      rw [HE0.out, show tooLong fs bs = true from any_yes' HX.out (any_yes' HY.out (decide_eq_true hs))]; rfl)
                    clear hs
                    go_wp2
                    go_quiet (fail)
                    go_wp2
                    go_ret
                    exact ⟨ret_int HE.out.symm, below_step HQ.out (HQ2.out.drewN _).below⟩
                  · have hs2 : decide ((60 : Int) < (x.size : Int) + (y.size : Int)) = false := by simp; omega
                    have HS := Lib.hid hs
                    clear hs
                    go_wp2
                    go_quiet (fail)
                    go_wp2
                    go_roundw
                    case rel => exact ⟨k2 + 1, by omega, by go_num, HQ2.out.drewN _, any_take_succ' HP2.out HY.out (decide_eq_false HS.out)⟩
                    case measure => simp [intOf]; omega
                · clear b3 hq2 hc'
                  go_wp2
                  go_roundw
                  case rel => exact ⟨k + 1, by omega, by go_num, below_step HQ.out HQ2.out.below, any_take_succ' HP.out HX.out (by have := HP2.out; rwa [full_take hlt2] at this)⟩
                  case measure => simp [intOf]; omega
            · have HE := Lib.hid (show rowsCode r fs bs = 0 by
                rw [HE0.out, show tooLong fs bs = false from by have := HP.out; rwa [full_take hlt] at this]; rfl)
              clear a3 b3 hq
              go_wp2
              go_ret
              exact ⟨ret_int HE.out.symm, HQ.out⟩
      · have hn' : okWords r.L bs = false := by simpa using hn
        have HE := Lib.hid (show rowsCode r fs bs = 1 by rw [rowsCode, hr, hy, hn']; rfl)
        rw [hr] at HV
        rw [hy] at HW1
        rw [hn'] at HW2
        clear hr hy hn hn' a3 b3
        go_enter Try.func65, Try.ntmps65
        go_wp2_with fail
        refine (HV.out _ HB0.out).mono ?_
        rintro e w1 ⟨rfl, hb⟩
        have HB1 := Lib.hid (below_step HB0.out hb)
        clear hb
        clear c0 c1 c2 c3
        obtain ⟨q1_0, q1_1, q1_2, q1_3⟩ := HCC.out _ HB1.out
        go_wp2_with fail
        refine (HW1.out _ HB1.out).mono ?_
        rintro e w2 ⟨rfl, hb⟩
        have HB2 := Lib.hid (below_step HB1.out hb)
        clear hb
        clear q1_0 q1_1 q1_2 q1_3
        obtain ⟨q2_0, q2_1, q2_2, q2_3⟩ := HCC.out _ HB2.out
        go_wp2_with fail
        refine (HW2.out _ HB2.out).mono ?_
        rintro e w3 ⟨rfl, hb⟩
        have HB3 := Lib.hid (below_step HB2.out hb)
        clear hb
        clear q2_0 q2_1 q2_2 q2_3
        obtain ⟨q3_0, q3_1, q3_2, q3_3⟩ := HCC.out _ HB3.out
        go_wp2
        go_ret
        exact ⟨ret_int HE.out.symm, HB3.out⟩
    · have hy' : okWords r.L fs = false := by simpa using hy
      have HE := Lib.hid (show rowsCode r fs bs = 1 by rw [rowsCode, hr, hy']; rfl)
      rw [hr] at HV
      rw [hy'] at HW1
      clear hr hy hy' a3 b3
      go_enter Try.func65, Try.ntmps65
      go_wp2_with fail
      refine (HV.out _ HB0.out).mono ?_
      rintro e w1 ⟨rfl, hb⟩
      have HB1 := Lib.hid (below_step HB0.out hb)
      clear hb
      clear c0 c1 c2 c3
      obtain ⟨q1_0, q1_1, q1_2, q1_3⟩ := HCC.out _ HB1.out
      go_wp2_with fail
      refine (HW1.out _ HB1.out).mono ?_
      rintro e w2 ⟨rfl, hb⟩
      have HB2 := Lib.hid (below_step HB1.out hb)
      clear hb
      clear q1_0 q1_1 q1_2 q1_3
      obtain ⟨q2_0, q2_1, q2_2, q2_3⟩ := HCC.out _ HB2.out
      go_wp2
      go_ret
      exact ⟨ret_int HE.out.symm, HB2.out⟩
  · have hr' : okR r = false := by simpa using hr
    have HE := Lib.hid (show rowsCode r fs bs = 1 by rw [rowsCode, hr']; rfl)
    rw [hr'] at HV
    clear hr hr' a3 b3
    go_enter Try.func65, Try.ntmps65
    go_wp2_with fail
    refine (HV.out _ HB0.out).mono ?_
    rintro e w1 ⟨rfl, hb⟩
    have HB1 := Lib.hid (below_step HB0.out hb)
    clear hb
    clear c0 c1 c2 c3
    obtain ⟨q1_0, q1_1, q1_2, q1_3⟩ := HCC.out _ HB1.out
    go_wp2
    go_ret
    exact ⟨ret_int HE.out.symm, HB1.out⟩
end Go.Proofs.Ytjojmlaipcbmkaa
