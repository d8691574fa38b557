/-
  RowOf: the program's answer and the model's.
-/
import Derived.Test.YtjojmlaipcbmkaaBd5
namespace Go.Proofs.Ytjojmlaipcbmkaa
open Go.RowKit

def rowRes (r : RData) (s : ByteArray) (ends : List ByteArray) : List Bool × Int := if rowsCode r [s] ends = 0 then (rowQ r (afterN r s.data.toList) ends, 0) else ([], rowsCode r [s] ends)
theorem rowsCode_zero {r : RData} {fs bs : List ByteArray} (h : rowsCode r fs bs = 0) : okR r = true ∧ okWords r.L fs = true ∧ okWords r.L bs = true ∧ fs.length ≤ 20 ∧ bs.length ≤ 20 ∧ tooLong fs bs = false := by
  unfold rowsCode at h
  split at h
  · rename_i hc
    simp only [Bool.and_eq_true] at hc
    split at h
    · omega
    · rename_i h2
      simp at h2
      split at h
      · omega
      · rename_i h3
        exact ⟨hc.1, hc.2.1, hc.2.2, by omega, by omega, by simpa using h3⟩
  · omega
theorem okWords_one {L : Int} {s : ByteArray} (h : okWords L [s] = true) : okWord L s = true := okWords_mem h (by simp)
theorem rd_one (w : World) (s : ByteArray) : RdS (w.alloc (.cells #[.string s] 9)) (.slice (some ⟨w.heap.size, 0, none⟩) 1 1) [s] := Row.rd (Row.new w [.string s] 9) (by simp [maxLen])
theorem small_one {s : ByteArray} (h : s.size ≤ 140737488351232) : SSmall [s] := ⟨by simp, fun x hx => by simp at hx; subst hx; exact h⟩
theorem rowRes_num (r : RData) (s : ByteArray) (ends : List ByteArray) : ((rowRes r s ends).1.length : Int) ≤ 2305843009213693952 := by
  unfold rowRes
  split
  · rename_i h
    have := (rowsCode_zero h).2.2.2.2.1
    simp only [rowQ_len]; omega
  · simp

set_option maxRecDepth 100000 in
set_option maxHeartbeats 1600000 in
theorem implRowOf_own (v v2 : Value) (r : RData) (s : ByteArray) (ends : List ByteArray) (w : World) (h : RdR w v r) (h2 : RdS w v2 ends) (hs : s.size ≤ 140737488351232) (s2 : SSmall ends) :
    Calls Try.prog 22 #[v, .string s, v2] w fun e w' => ∃ u bs, e = .returned (.tuple #[u, .int .i64 (rowRes r s ends).2]) ∧ OwV bools 4 w' w.heap.size u (rowRes r s ends).1 bs ∧ Below w.heap.size w w' := by
  obtain ⟨A, c, B, d, rfl⟩ := h.shape
  obtain ⟨A2, k2, rfl⟩ := rdS_shape h2
  have hbox := Row.new w [.int .i64 r.L, .int .i64 r.S, .slice A r.acc.length c, .slice B r.next.length d] 29
  have hbox1 := hbox.alloc (.cells #[.string s] 9)
  have hB0 := (below_alloc w (.cells #[.int .i64 r.L, .int .i64 r.S, .slice A r.acc.length c, .slice B r.next.length d] 29))
  have hB1 : Below w.heap.size w ((w.alloc (.cells #[.int .i64 r.L, .int .i64 r.S, .slice A r.acc.length c, .slice B r.next.length d] 29)).alloc (.cells #[.string s] 9)) := below_step hB0 (below_alloc _ _)
  have hone := rd_one (w.alloc (.cells #[.int .i64 r.L, .int .i64 r.S, .slice A r.acc.length c, .slice B r.next.length d] 29)) s
  rw [show (w.alloc (.cells #[.int .i64 r.L, .int .i64 r.S, .slice A r.acc.length c, .slice B r.next.length d] 29)).heap.size = w.heap.size + 1 from by simp] at hone
  have HJ := Lib.hid (joinCode_any _ _ _ r [s] ends _ (keepsR _ _ _ _ h hB1) hone (keepsS _ _ _ _ h2 hB1) (small_one hs) s2)
  have HK := Lib.hid (fun W (hb : Below w.heap.size w W) => keepsR _ _ _ _ h hb)
  have HK2 := Lib.hid (fun W (hb : Below w.heap.size w W) => keepsS _ _ _ _ h2 hb)
  have HB1 := Lib.hid hB1
  have HR1 := Lib.hid hbox1
  clear h h2 hbox hbox1 hB0 hB1 hone
  go_enter Try.func22, Try.ntmps22
  go_wp2_with fail
  refine HJ.out.mono ?_
  generalize (w.alloc (.cells #[.int .i64 r.L, .int .i64 r.S, .slice A r.acc.length c, .slice B r.next.length d] 29)).alloc (.cells #[.string s] 9) = w1 at *
  rintro e w2 ⟨rfl, hb⟩
  have HB2 := Lib.hid (below_step HB1.out hb)
  have HR2 := Lib.hid (HR1.out.below hb HR1.out.lt)
  clear hb HJ
  by_cases hc : rowsCode r [s] ends = 0
  · have HE := Lib.hid (show rowRes r s ends = (rowQ r (afterN r s.data.toList) ends, 0) by rw [rowRes, if_pos hc])
    obtain ⟨ok, oks, oke, -, hl, -⟩ := rowsCode_zero hc
    have oks := okWords_one oks
    obtain ⟨q0, hq0⟩ : ∃ q0 : Nat, r.S = q0 := ⟨r.S.toNat, by have := (okR_parts ok).2.2.1.1; omega⟩
    have hS2 : q0 < r.next.length := by obtain ⟨_, _, h3, h4, _⟩ := okR_parts ok; omega
    have hA0 : afterN r s.data.toList = runN r q0 s := by rw [afterN, hq0]; rfl
    have hqlt : runN r q0 s < r.next.length := runN_lt ok (okWord_parts oks).2 hS2
    have HA := Lib.hid (fun W (hb : Below w2.heap.size w2 W) => after_any _ r s q0 W (HK.out W (below_step HB2.out hb)) ok (okWord_parts oks).2 (by have := (okWord_parts oks).1; omega) hS2)
    have HRB := Lib.hid (fun W (hb : Below w2.heap.size w2 W) => rowBehind_own _ _ r (runN r q0 s) ends W (HK.out W (below_step HB2.out hb)) (HK2.out W (below_step HB2.out hb)) ok oke hqlt hl)
    have HA0 := Lib.hid hA0
    obtain ⟨⟨c0, c1, c2, c3⟩, -⟩ := HR2.out.four
    have hlt := HR2.out.lt
    rw [hc]
    rw [hq0] at c1 HA HRB
    clear hc ok oks oke hl hS2 hA0 hqlt hq0 HK HK2 HR1
    go_wp2_with fail
    generalize runN r q0 s = m at *
    go_region_held3 (fun W => W.cell? ⟨w.heap.size, 0, none⟩ = some (.int .i64 r.L) ∧ W.cell? ⟨w.heap.size, 1, none⟩ = some (.int .i64 q0) ∧ W.cell? ⟨w.heap.size, 2, none⟩ = some (.slice A r.acc.length c) ∧ W.cell? ⟨w.heap.size, 3, none⟩ = some (.slice B r.next.length d))
      (first | go_keep | (go_split_ands; refine ⟨?_, ?_, ?_, ?_⟩ <;> (first | assumption | exact below_keep hbk (by assumption))))
      (first
        | (go_at_call 63; (with_reducible refine (HA.out _ ?_).mono ?_); (first | exact Below.refl _ _ | exact below_drew _ | exact below_drewN' _ _); rintro e wy ⟨rfl, hbk⟩; have HCy := Lib.hid (show Below w2.heap.size w2 wy from below_step (by first | exact Below.refl _ _ | exact below_drew _ | exact below_drewN' _ _) hbk))
        | (go_at_call 68; (with_reducible refine (HRB.out _ ?_).mono ?_); (first | exact HCy.out | exact HCy.out.drew | exact below_drewN HCy.out _); rintro e wz ⟨u, bu, rfl, hu, hbk⟩; have HCz := Lib.hid (show Below w2.heap.size w2 wz from below_step (by first | exact HCy.out | exact HCy.out.drew | exact below_drewN HCy.out _) hbk); have HU := Lib.hid ((goodV bools 4).mono hu (show w.heap.size ≤ _ from by have a1 := HCy.out.size; have a2 := HB2.out.size; simp; omega)); clear hu))
    have hz := HCz.out
    go_wp2
    go_ret2
    refine ⟨u, bu, by rw [HE.out]; rfl, ?_, ?_⟩
    · rw [HE.out, HA0.out]; first | exact HU.out | exact (goodV bools 4).below HU.out (below_drew _) | exact (goodV bools 4).below HU.out (below_drewN' _ _)
    · exact below_step HB2.out (by first | exact HCz.out | exact HCz.out.drew | exact below_drewN HCz.out _)
  · have HE := Lib.hid (show rowRes r s ends = ([], rowsCode r [s] ends) by rw [rowRes, if_neg hc])
    have hne : (rowsCode r [s] ends != 0) = true := by simpa using hc
    clear hc HK HK2 HR1
    generalize rowsCode r [s] ends = cd at *
    go_wp2
    go_ret2
    exact ⟨.slice none 0 0, [], by rw [HE.out]; rfl, by rw [HE.out]; exact owV_nil bools [] rfl _ _ _, HB2.out⟩

set_option maxHeartbeats 1600000 in
theorem specRowOf_rd (v v2 : Value) (r : RData) (s : ByteArray) (ends : List ByteArray) (w : World) (h : RdR w v r) (h2 : RdS w v2 ends) (hs : s.size ≤ 140737488351232) (s2 : SSmall ends) :
    Calls Try.prog 20 #[v, .string s, v2] w fun e w' => ∃ u, e = .returned (.tuple #[u, .int .i64 (rowRes r s ends).2]) ∧ RdB w' u (rowRes r s ends).1 ∧ Below w.heap.size w w' := by
  obtain ⟨A, c, B, d, rfl⟩ := h.shape
  obtain ⟨A2, k2, rfl⟩ := rdS_shape h2
  have hbox := Row.new w [.int .i64 r.L, .int .i64 r.S, .slice A r.acc.length c, .slice B r.next.length d] 29
  have hB0 := (below_alloc w (.cells #[.int .i64 r.L, .int .i64 r.S, .slice A r.acc.length c, .slice B r.next.length d] 29))
  have hAt0 := Row.atR hbox (keepsR _ _ _ _ h hB0)
  have hB1 : Below w.heap.size w ((w.alloc (.cells #[.int .i64 r.L, .int .i64 r.S, .slice A r.acc.length c, .slice B r.next.length d] 29)).alloc (.cells #[.string s] 9)) := below_step hB0 (below_alloc _ _)
  have hAt1 := hAt0.below (below_alloc _ (.cells #[.string s] 9))
  have hone := rd_one (w.alloc (.cells #[.int .i64 r.L, .int .i64 r.S, .slice A r.acc.length c, .slice B r.next.length d] 29)) s
  rw [show (w.alloc (.cells #[.int .i64 r.L, .int .i64 r.S, .slice A r.acc.length c, .slice B r.next.length d] 29)).heap.size = w.heap.size + 1 from by simp] at hone
  have HJ := Lib.hid (l05Rows_any _ _ _ r [s] ends _ hAt1 hone (keepsS _ _ _ _ h2 hB1) (small_one hs) s2)
  have HK2 := Lib.hid (fun W (hb : Below w.heap.size w W) => keepsS _ _ _ _ h2 hb)
  have HB1 := Lib.hid hB1
  have HA1 := Lib.hid hAt1
  clear h h2 hbox hB0 hB1 hone hAt0 hAt1
  go_enter Try.func20, Try.ntmps20
  go_wp2_with fail
  refine HJ.out.mono ?_
  generalize (w.alloc (.cells #[.int .i64 r.L, .int .i64 r.S, .slice A r.acc.length c, .slice B r.next.length d] 29)).alloc (.cells #[.string s] 9) = w1 at *
  rintro e w2 ⟨rfl, hb⟩
  have HB2 := Lib.hid (below_step HB1.out hb)
  have HA2 := Lib.hid (HA1.out.below hb)
  clear hb HJ
  by_cases hc : rowsCode r [s] ends = 0
  · have HE := Lib.hid (show rowRes r s ends = (rowQ r (afterN r s.data.toList) ends, 0) by rw [rowRes, if_pos hc])
    obtain ⟨ok, oks, oke, -, hl, -⟩ := rowsCode_zero hc
    have oks := okWords_one oks
    have HRW := Lib.hid (l05Row_any _ _ r s ends w2 HA2.out (HK2.out w2 HB2.out) ok oks oke hl)
    rw [hc]
    clear hc ok oks oke hl HK2 HA1
    go_wp2_with fail
    refine HRW.out.mono ?_
    rintro e w3 ⟨u, rfl, hu, hb3⟩
    have HU := Lib.hid (show _ ∧ _ from ⟨hu, below_step HB2.out hb3⟩)
    obtain ⟨Bu, ku, rfl⟩ := rdB_shape hu
    clear hu hb3
    go_wp2
    go_ret2
    exact ⟨.slice Bu (rowQ r (afterN r s.data.toList) ends).length ku, by rw [HE.out]; rfl, by rw [HE.out]; exact HU.out.1, HU.out.2⟩
  · have HE := Lib.hid (show rowRes r s ends = ([], rowsCode r [s] ends) by rw [rowRes, if_neg hc])
    have hne : (rowsCode r [s] ends != 0) = true := by simpa using hc
    clear hc HK2 HA1
    generalize rowsCode r [s] ends = cd at *
    have HN := Lib.hid (show _ ∧ _ from ⟨Row.rd (Row.new w2 [] 4) (by simp [maxLen]), below_step HB2.out (below_alloc w2 (.cells #[] 4))⟩)
    go_wp2
    go_ret2
    exact ⟨.slice (some ⟨w2.heap.size, 0, none⟩) 0 0, by rw [HE.out]; rfl, by rw [HE.out]; exact HN.out.1, HN.out.2⟩
end Go.Proofs.Ytjojmlaipcbmkaa
