/-
  Rows of servers: the server that has a cell.
-/
import Derived.Test.YtpkbpflnjbeedaaRw2
import Derived.Test.YtpkbpflnjbeedaaRw3
namespace Go.Proofs.Ytpkbpflnjbeedaa
open Go.RowKit

/-- How many of the first k cuts are not behind a cell. -/
def ownTo (l : List Int) (c : Int) (k : Nat) : Nat := ((l.take k).filter (fun x => decide (x ≤ c))).length
def ownerN (l : List Int) (c : Int) : Nat := ownTo l c l.length
theorem ownTo_yes {l : List Int} {c x : Int} {k : Nat} (hx : l[k]? = some x) (h : x ≤ c) : ownTo l c (k + 1) = ownTo l c k + 1 := by
  unfold ownTo; rw [take_succ_of hx, List.filter_append, List.length_append]; simp [h]
theorem ownTo_no {l : List Int} {c x : Int} {k : Nat} (hx : l[k]? = some x) (h : ¬ x ≤ c) : ownTo l c (k + 1) = ownTo l c k := by
  unfold ownTo; rw [take_succ_of hx, List.filter_append, List.length_append]; simp; omega
theorem ownTo_le (l : List Int) (c : Int) (k : Nat) : ownTo l c k ≤ k := Nat.le_trans (List.length_filter_le _ _) (by simp; omega)
theorem ownTo_end {l : List Int} {c : Int} {k : Nat} (h : k ≤ l.length) (h2 : ¬ k < l.length) : ownTo l c k = ownerN l c := by
  rw [ownerN, show l.length = k by omega]

set_option maxHeartbeats 800000 in
theorem l08Owner_any (p : Nat) (r : RwData) (c : Int) (w : World) (h : AtRw w p r) (hl : r.cuts.length ≤ 3) :
    Calls Try.prog 35 #[.pointer (some ⟨p, 0, none⟩), .int .i64 c] w fun e w' => e = .returned (.int .i64 ((ownerN r.cuts c : Nat) : Int)) ∧ w = w' := by
  obtain ⟨L, S, mv, wd, cu⟩ := r
  obtain ⟨m, v, c0, c1, c2, c3, c4, hm, hc⟩ := h
  obtain ⟨A, kc, rfl, a1, a2, h3⟩ := hc.open
  simp only at hl
  unfold maxLen at a2
  clear hm hc c0 c1 c2 c3
  go_enter Try.func35, Try.ntmps35
  go_wp2
  go_loop [6, 5] (fun i n => ∃ k : Nat, k ≤ cu.length ∧ i = .int .i64 k ∧ n = .int .i64 ((ownTo cu c k : Nat) : Int)) (fun i _ => cu.length - (intOf i).toNat)
  case atStart => exact ⟨0, Nat.zero_le _, rfl, rfl⟩
  case round =>
    obtain ⟨k, hk, rfl, rfl⟩ := hrel
    have ho := ownTo_le cu c k
    by_cases hlt : k < cu.length
    · obtain ⟨b, off, x, rfl, hx, hcx⟩ := h3 k hlt
      have i1 : (0 : Int) ≤ k := by omega
      have i2 : (k : Int) < cu.length := by omega
      have b1 : ((ownTo cu c k : Nat) : Int) ≤ 3 := by omega
      have b0 : 0 ≤ ((ownTo cu c k : Nat) : Int) := by omega
      by_cases hle : x ≤ c
      · have HS := Lib.hid (ownTo_yes hx hle)
        have d : decide (x ≤ c) = true := by simpa using hle
        clear hle h3 hx ho
        go_wp2
        go_round
        case rel => exact ⟨k + 1, by omega, by go_num, by rw [HS.out]; go_num⟩
        case measure => simp [intOf]; omega
      · have HS := Lib.hid (ownTo_no hx hle)
        have d : decide (x ≤ c) = false := by simpa using hle
        clear hle h3 hx ho
        go_wp2
        go_round
        case rel => exact ⟨k + 1, by omega, by go_num, by rw [HS.out]⟩
        case measure => simp [intOf]; omega
    · have HE := Lib.hid (ownTo_end (c := c) hk hlt)
      clear h3 ho
      go_wp2
      go_ret
      exact ⟨ret_int (by rw [HE.out]), rfl⟩

set_option maxHeartbeats 800000 in
theorem owner_any (v : Value) (r : RwData) (c : Int) (w : World) (h : RdRw w v r) (hl : r.cuts.length ≤ 3) :
    Calls Try.prog 36 #[v, .int .i64 c] w fun e w' => e = .returned (.int .i64 ((ownerN r.cuts c : Nat) : Int)) ∧ Below w.heap.size w w' := by
  obtain ⟨L, S, mv, wd, cu⟩ := r
  obtain ⟨m, vc, rfl, hm, hc⟩ := h
  simp only at hl hc
  have HB := Lib.hid (below_alloc w (.cells #[.int .i64 L, .int .i64 S, m, .string wd, vc] 34))
  obtain ⟨⟨c0, c1, c2, c3, c4⟩, -⟩ := (Row.new w [.int .i64 L, .int .i64 S, m, .string wd, vc] 34).five
  obtain ⟨A, kc, rfl, a1, a2, h3⟩ := (keepsI _ _ _ _ hc HB.out).open
  unfold maxLen at a2
  clear hm hc c0 c1 c2 c3
  go_enter Try.func36, Try.ntmps36
  go_wp2
  generalize w.alloc (.cells #[.int .i64 L, .int .i64 S, m, .string wd, .slice A cu.length kc] 34) = W0 at *
  go_loop [11, 5] (fun i n => ∃ k : Nat, k ≤ cu.length ∧ i = .int .i64 k ∧ n = .int .i64 ((ownTo cu c k : Nat) : Int)) (fun i _ => cu.length - (intOf i).toNat)
  case atStart => exact ⟨0, Nat.zero_le _, rfl, rfl⟩
  case round =>
    obtain ⟨k, hk, rfl, rfl⟩ := hrel
    have ho := ownTo_le cu c k
    by_cases hlt : k < cu.length
    · obtain ⟨b, off, x, rfl, hx, hcx⟩ := h3 k hlt
      have i1 : (0 : Int) ≤ k := by omega
      have i2 : (k : Int) < cu.length := by omega
      have b1 : ((ownTo cu c k : Nat) : Int) ≤ 3 := by omega
      have b0 : 0 ≤ ((ownTo cu c k : Nat) : Int) := by omega
      by_cases hle : x ≤ c
      · have HS := Lib.hid (ownTo_yes hx hle)
        have d : decide (x ≤ c) = true := by simpa using hle
        clear hle h3 hx ho
        go_wp2
        go_round
        case rel => exact ⟨k + 1, by omega, by go_num, by rw [HS.out]; go_num⟩
        case measure => simp [intOf]; omega
      · have HS := Lib.hid (ownTo_no hx hle)
        have d : decide (x ≤ c) = false := by simpa using hle
        clear hle h3 hx ho
        go_wp2
        go_round
        case rel => exact ⟨k + 1, by omega, by go_num, by rw [HS.out]⟩
        case measure => simp [intOf]; omega
    · have HE := Lib.hid (ownTo_end (c := c) hk hlt)
      clear h3 ho
      go_wp2
      go_ret
      exact ⟨ret_int (by rw [HE.out]), HB.out⟩

def ownRes (r : RwData) (c : Int) : Int × Int := if okRw r = true then (if within c 0 ((r.wd.size : Int) + 1) = true then (((ownerN r.cuts c : Nat) : Int), 0) else (0, 2)) else (0, 1)
theorem ownRes_no {r : RwData} {c : Int} (h : okRw r = false) : ownRes r c = (0, 1) := by simp [ownRes, h]
theorem ownRes_out {r : RwData} {c : Int} (h : okRw r = true) (h2 : within c 0 ((r.wd.size : Int) + 1) = false) : ownRes r c = (0, 2) := by simp [ownRes, h, h2]
theorem ownRes_in {r : RwData} {c : Int} (h : okRw r = true) (h2 : within c 0 ((r.wd.size : Int) + 1) = true) : ownRes r c = (((ownerN r.cuts c : Nat) : Int), 0) := by simp [ownRes, h, h2]
theorem okRw_size {r : RwData} (h : okRw r = true) : (r.wd.size : Int) ≤ 60 ∧ r.cuts.length ≤ 3 := by
  have := okRw_parts h
  exact ⟨(okWord_parts8 this.2.1).1, by have := this.2.2.1; omega⟩

set_option maxHeartbeats 1600000 in
theorem specOwnerOf_any (v : Value) (r : RwData) (c : Int) (w : World) (h : RdRw w v r) (hs : r.wd.size ≤ maxLen) :
    Calls Try.prog 13 #[v, .int .i64 c] w fun e w' => e = .returned (.tuple #[.int .i64 (ownRes r c).1, .int .i64 (ownRes r c).2]) ∧ Below w.heap.size w w' := by
  obtain ⟨m, vc, rfl, hA⟩ := atRw_box h 34
  have HA := Lib.hid hA
  have HB := Lib.hid (below_alloc w (.cells #[.int .i64 r.L, .int .i64 r.S, m, .string r.wd, vc] 34))
  clear h hA
  by_cases hok : okRw r = true
  · have H := Lib.hid ((l08Ok_any _ _ _ HA.out hs).mono (fun e w' (h : _ ∧ _) => (⟨by rw [h.1, hok], h.2⟩ : e = .returned (.bool true) ∧ Below (w.alloc (.cells #[.int .i64 r.L, .int .i64 r.S, m, .string r.wd, vc] 34)).heap.size (w.alloc (.cells #[.int .i64 r.L, .int .i64 r.S, m, .string r.wd, vc] 34)) w')))
    have HK := Lib.hid hok
    have sz := okRw_size hok
    obtain ⟨s1, s2⟩ := sz
    clear hok
    by_cases hin : within c 0 ((r.wd.size : Int) + 1) = true
    · have HIN := Lib.hid (fun W => (l00In_w c 0 ((r.wd.size : Int) + 1) W).mono (fun e w' (h : _ ∧ _) => (⟨by rw [h.1, hin], h.2⟩ : e = .returned (.bool true) ∧ W = w')))
      have HR := Lib.hid (ownRes_in HK.out hin)
      clear hin
      go_enter Try.func13, Try.ntmps13
      go_wp2_with fail
      refine H.out.mono ?_
      rintro e w1 ⟨rfl, hb⟩
      have hA1 := HA.out.below hb
      have HO := Lib.hid (l08Owner_any _ r c w1 hA1 s2)
      obtain ⟨m', v', d0, d1, d2, d3, d4, -, -⟩ := hA1
      have HB1 := Lib.hid (below_step HB.out hb)
      clear hb
      go_wp2_with (first | (go_at_call 34; refine (HIN.out _).mono ?_; rintro e w' ⟨rfl, rfl⟩) | (go_at_call 35; refine HO.out.mono ?_; rintro e w' ⟨rfl, rfl⟩))
      refine bodyPost_ret (v := .tuple #[.int .i64 ((ownerN r.cuts c : Nat) : Int), .int .i64 0]) (by simp [results, Try.results13, go_sem]) rfl ⟨by rw [HR.out], HB1.out⟩
    · have hin' : within c 0 ((r.wd.size : Int) + 1) = false := by simpa using hin
      have HIN := Lib.hid (fun W => (l00In_w c 0 ((r.wd.size : Int) + 1) W).mono (fun e w' (h : _ ∧ _) => (⟨by rw [h.1, hin'], h.2⟩ : e = .returned (.bool false) ∧ W = w')))
      have HR := Lib.hid (ownRes_out HK.out hin')
      clear hin hin'
      go_enter Try.func13, Try.ntmps13
      go_wp2_with fail
      refine H.out.mono ?_
      rintro e w1 ⟨rfl, hb⟩
      have hA1 := HA.out.below hb
      obtain ⟨m', v', d0, d1, d2, d3, d4, -, -⟩ := hA1
      have HB1 := Lib.hid (below_step HB.out hb)
      clear hb
      go_wp2_with (go_at_call 34; refine (HIN.out _).mono ?_; rintro e w' ⟨rfl, rfl⟩)
      refine bodyPost_ret (v := .tuple #[.int .i64 0, .int .i64 2]) (by simp [results, Try.results13, go_sem]) rfl ⟨by rw [HR.out], HB1.out⟩
  · have hok' : okRw r = false := by simpa using hok
    have H := Lib.hid ((l08Ok_any _ _ _ HA.out hs).mono (fun e w' (h : _ ∧ _) => (⟨by rw [h.1, hok'], h.2⟩ : e = .returned (.bool false) ∧ Below (w.alloc (.cells #[.int .i64 r.L, .int .i64 r.S, m, .string r.wd, vc] 34)).heap.size (w.alloc (.cells #[.int .i64 r.L, .int .i64 r.S, m, .string r.wd, vc] 34)) w')))
    have HR := Lib.hid (ownRes_no (c := c) hok')
    clear hok hok'
    go_enter Try.func13, Try.ntmps13
    go_wp2_with fail
    refine H.out.mono ?_
    rintro e w1 ⟨rfl, hb⟩
    have HB1 := Lib.hid (below_step HB.out hb)
    clear hb
    go_wp2
    refine bodyPost_ret (v := .tuple #[.int .i64 0, .int .i64 1]) (by simp [results, Try.results13, go_sem]) rfl ⟨by rw [HR.out], HB1.out⟩

set_option maxHeartbeats 1600000 in
theorem implOwnerOf_any (v : Value) (r : RwData) (c : Int) (w : World) (h : RdRw w v r) (hs : r.wd.size ≤ maxLen) :
    Calls Try.prog 14 #[v, .int .i64 c] w fun e w' => e = .returned (.tuple #[.int .i64 (ownRes r c).1, .int .i64 (ownRes r c).2]) ∧ Below w.heap.size w w' := by
  have HV := Lib.hid (fun W (hb : Below w.heap.size w W) => ValidRow_any v r W (keepsRw _ _ _ _ h hb) hs)
  have HO := Lib.hid (fun W (hb : Below w.heap.size w W) hl => owner_any v r c W (keepsRw _ _ _ _ h hb) hl)
  obtain ⟨m, vc, rfl, hm, hc⟩ := h
  have HR0 := Lib.hid (Row.new w [.int .i64 r.L, .int .i64 r.S, m, .string r.wd, vc] 34)
  have HB := Lib.hid (below_alloc w (.cells #[.int .i64 r.L, .int .i64 r.S, m, .string r.wd, vc] 34))
  obtain ⟨⟨c0, c1, c2, c3, c4⟩, -⟩ := HR0.out.five
  clear hm hc
  by_cases hok : okRw r = true
  · have HV1 := Lib.hid (fun W (hb : Below w.heap.size w W) => (HV.out W hb).mono (fun e w' (h : _ ∧ _) => (⟨by rw [h.1, hok], h.2⟩ : e = .returned (.bool true) ∧ Below W.heap.size W w')))
    have HK := Lib.hid hok
    obtain ⟨s1, s2⟩ := okRw_size hok
    clear hok
    by_cases hin : within c 0 ((r.wd.size : Int) + 1) = true
    · have HIN := Lib.hid (fun W => (isCell_any c r.wd W (by omega)).mono (fun e w' (h : _ ∧ _) => (⟨by rw [h.1]; exact ret_bool (by rw [← hin]; unfold cellOk within; rw [Bool.eq_iff_iff]; simp only [decide_eq_true_eq]; omega), h.2⟩ : e = .returned (.bool true) ∧ W = w')))
      have HR := Lib.hid (ownRes_in HK.out hin)
      clear hin
      go_enter Try.func14, Try.ntmps14
      go_wp2_with fail
      refine (HV1.out _ HB.out).mono ?_
      rintro e w1 ⟨rfl, hb⟩
      have HB1 := Lib.hid (below_step HB.out hb)
      obtain ⟨⟨d0, d1, d2, d3, d4⟩, -⟩ := (HR0.out.below hb HR0.out.lt).five
      clear hb
      go_wp2_with (go_at_call 32; refine (HIN.out _).mono ?_; rintro e w' ⟨rfl, rfl⟩)
      refine (HO.out _ HB1.out s2).mono ?_
      rintro e w2 ⟨rfl, hb⟩
      have HB2 := Lib.hid (below_step HB1.out hb)
      clear hb
      go_wp2
      refine bodyPost_ret (v := .tuple #[.int .i64 ((ownerN r.cuts c : Nat) : Int), .int .i64 0]) (by simp [results, Try.results14, go_sem]) rfl ⟨by rw [HR.out], HB2.out⟩
    · have hin' : within c 0 ((r.wd.size : Int) + 1) = false := by simpa using hin
      have HIN := Lib.hid (fun W => (isCell_any c r.wd W (by omega)).mono (fun e w' (h : _ ∧ _) => (⟨by rw [h.1]; exact ret_bool (by rw [← hin']; unfold cellOk within; rw [Bool.eq_iff_iff]; simp only [decide_eq_true_eq]; omega), h.2⟩ : e = .returned (.bool false) ∧ W = w')))
      have HR := Lib.hid (ownRes_out HK.out hin')
      clear hin hin'
      go_enter Try.func14, Try.ntmps14
      go_wp2_with fail
      refine (HV1.out _ HB.out).mono ?_
      rintro e w1 ⟨rfl, hb⟩
      have HB1 := Lib.hid (below_step HB.out hb)
      obtain ⟨⟨d0, d1, d2, d3, d4⟩, -⟩ := (HR0.out.below hb HR0.out.lt).five
      clear hb
      go_wp2_with (go_at_call 32; refine (HIN.out _).mono ?_; rintro e w' ⟨rfl, rfl⟩)
      refine bodyPost_ret (v := .tuple #[.int .i64 0, .int .i64 2]) (by simp [results, Try.results14, go_sem]) rfl ⟨by rw [HR.out], HB1.out⟩
  · have hok' : okRw r = false := by simpa using hok
    have HV1 := Lib.hid (fun W (hb : Below w.heap.size w W) => (HV.out W hb).mono (fun e w' (h : _ ∧ _) => (⟨by rw [h.1, hok'], h.2⟩ : e = .returned (.bool false) ∧ Below W.heap.size W w')))
    have HR := Lib.hid (ownRes_no (c := c) hok')
    clear hok hok'
    go_enter Try.func14, Try.ntmps14
    go_wp2_with fail
    refine (HV1.out _ HB.out).mono ?_
    rintro e w1 ⟨rfl, hb⟩
    have HB1 := Lib.hid (below_step HB.out hb)
    clear hb
    go_wp2
    refine bodyPost_ret (v := .tuple #[.int .i64 0, .int .i64 1]) (by simp [results, Try.results14, go_sem]) rfl ⟨by rw [HR.out], HB1.out⟩
end Go.Proofs.Ytpkbpflnjbeedaa
