/-
  The code of a turner and a word; signs and deeds of the program.
-/
import Derived.Test.YtdkalefepdlccaaSt1
namespace Go.Proofs.Ytdkalefepdlccaa
open Go.RowKit

def givenC (t : TData) (s : ByteArray) : Int := if okT t = true ∧ okWord t.L s = true then 0 else 1
theorem givenC_yes {t : TData} {s : ByteArray} (h : okT t = true) (k : okWord t.L s = true) : givenC t s = 0 := by simp [givenC, h, k]
theorem givenC_no1 {t : TData} {s : ByteArray} (h : okT t = false) : givenC t s = 1 := by simp [givenC, h]
theorem givenC_no2 {t : TData} {s : ByteArray} (h : okWord t.L s = false) : givenC t s = 1 := by simp [givenC, h]

set_option maxHeartbeats 800000 in
theorem l02Given_any (p : Nat) (t : TData) (s : ByteArray) (w : World) (h : AtT w p t) (hs : s.size ≤ maxLen) :
    Calls Try.prog 60 #[.pointer (some ⟨p, 0, none⟩), .string s] w fun e w' => e = .returned (.int .i64 (givenC t s)) ∧ Below w.heap.size w w' := by
  have HV := Lib.hid (l02Ok_any p t w h)
  have HW := Lib.hid (fun W => specValidWord_any t.L s W hs)
  have HA := Lib.hid h
  clear h
  by_cases h1 : okT t = true
  · have H1 := Lib.hid h1
    by_cases h2 : okWord t.L s = true
    · have H2 := Lib.hid h2
      go_enter Try.func60, Try.ntmps60
      go_wp2_with fail
      refine HV.out.mono ?_
      rintro e w1 ⟨rfl, hb⟩
      obtain ⟨m, c0, -, -, -⟩ := HA.out.below hb
      have HB := Lib.hid hb
      clear hb
      go_wp2_with (go_at_call 98; refine (HW.out _).mono ?_; rintro e w' ⟨rfl, rfl⟩)
      go_ret
      exact ⟨ret_int (givenC_yes H1.out H2.out).symm, HB.out⟩
    · have h2' : okWord t.L s = false := by simpa using h2
      have H2 := Lib.hid h2'
      clear h2
      go_enter Try.func60, Try.ntmps60
      go_wp2_with fail
      refine HV.out.mono ?_
      rintro e w1 ⟨rfl, hb⟩
      obtain ⟨m, c0, -, -, -⟩ := HA.out.below hb
      have HB := Lib.hid hb
      clear hb
      go_wp2_with (go_at_call 98; refine (HW.out _).mono ?_; rintro e w' ⟨rfl, rfl⟩)
      go_ret
      exact ⟨ret_int (givenC_no2 H2.out).symm, HB.out⟩
  · have h1' : okT t = false := by simpa using h1
    have H1 := Lib.hid h1'
    clear h1
    go_enter Try.func60, Try.ntmps60
    go_wp2_with fail
    refine HV.out.mono ?_
    rintro e w1 ⟨rfl, hb⟩
    have HB := Lib.hid hb
    clear hb
    go_wp2
    go_ret
    exact ⟨ret_int (givenC_no1 H1.out).symm, HB.out⟩

set_option maxHeartbeats 800000 in
theorem wordCode_any (v : Value) (t : TData) (s : ByteArray) (w : World) (h : RdT w v t) (hs : s.size ≤ maxLen) :
    Calls Try.prog 63 #[v, .string s] w fun e w' => e = .returned (.int .i64 (givenC t s)) ∧ Below w.heap.size w w' := by
  have HV := Lib.hid (fun W (hb : Below w.heap.size w W) => ValidTurner_any v t W (keepsT _ _ _ _ h hb))
  have HW := Lib.hid (fun W => implValidWord_any t.L s W hs)
  obtain ⟨A, c, rfl⟩ := h.shape
  have hx := Row.new w [.int .i64 t.L, .int .i64 t.S, .slice A t.mv.length c] 31
  have HR := Lib.hid hx
  have HB := Lib.hid (below_alloc w (.cells #[.int .i64 t.L, .int .i64 t.S, .slice A t.mv.length c] 31))
  clear hx h
  by_cases h1 : okT t = true
  · have H1 := Lib.hid h1
    by_cases h2 : okWord t.L s = true
    · have H2 := Lib.hid h2
      go_enter Try.func63, Try.ntmps63
      go_wp2_with fail
      refine (HV.out _ HB.out).mono ?_
      rintro e w1 ⟨rfl, hb⟩
      obtain ⟨⟨b0, b1, b2⟩, -⟩ := (HR.out.below hb HR.out.lt).three
      have HB1 := Lib.hid (below_step HB.out hb)
      clear hb
      go_wp2_with (go_at_call 101; refine (HW.out _).mono ?_; rintro e w' ⟨rfl, rfl⟩)
      go_ret
      exact ⟨ret_int (givenC_yes H1.out H2.out).symm, HB1.out⟩
    · have h2' : okWord t.L s = false := by simpa using h2
      have H2 := Lib.hid h2'
      clear h2
      go_enter Try.func63, Try.ntmps63
      go_wp2_with fail
      refine (HV.out _ HB.out).mono ?_
      rintro e w1 ⟨rfl, hb⟩
      obtain ⟨⟨b0, b1, b2⟩, -⟩ := (HR.out.below hb HR.out.lt).three
      have HB1 := Lib.hid (below_step HB.out hb)
      clear hb
      go_wp2_with (go_at_call 101; refine (HW.out _).mono ?_; rintro e w' ⟨rfl, rfl⟩)
      go_ret
      exact ⟨ret_int (givenC_no2 H2.out).symm, HB1.out⟩
  · have h1' : okT t = false := by simpa using h1
    have H1 := Lib.hid h1'
    clear h1
    go_enter Try.func63, Try.ntmps63
    go_wp2_with fail
    refine (HV.out _ HB.out).mono ?_
    rintro e w1 ⟨rfl, hb⟩
    have HB1 := Lib.hid (below_step HB.out hb)
    clear hb
    go_wp2
    go_ret
    exact ⟨ret_int (givenC_no1 H1.out).symm, HB1.out⟩

theorem countCells_any (s : ByteArray) (w : World) (hs : s.size ≤ 60) :
    Calls Try.prog 69 #[.string s] w fun e w' => e = .returned (.int .i64 ((s.size : Int) + 2)) ∧ w = w' := by
  go_enter Try.func69, Try.ntmps69
  go_wp2
  go_ret
  exact ⟨rfl, rfl⟩

def cellOk (a : Int) (s : ByteArray) : Bool := decide (0 ≤ a ∧ a < (s.size : Int) + 2)
theorem isCell_any (a : Int) (s : ByteArray) (w : World) (hs : s.size ≤ 60) :
    Calls Try.prog 122 #[.int .i64 a, .string s] w fun e w' => e = .returned (.bool (cellOk a s)) ∧ w = w' := by
  have HC := Lib.hid (fun W => countCells_any s W hs)
  by_cases h1 : 0 ≤ a
  · by_cases h2 : a < (s.size : Int) + 2
    · have H := Lib.hid (show 0 ≤ a ∧ a < (s.size : Int) + 2 from ⟨h1, h2⟩)
      go_enter Try.func122, Try.ntmps122
      go_wp2_with (go_at_call 69; refine (HC.out _).mono ?_; rintro e w' ⟨rfl, rfl⟩)
      go_ret
      exact ⟨ret_bool (by simp [cellOk, H.out]), rfl⟩
    · have H := Lib.hid h2
      have d : decide (a < (s.size : Int) + 2) = false := by simpa using h2
      clear h2
      go_enter Try.func122, Try.ntmps122
      go_wp2_with (go_at_call 69; refine (HC.out _).mono ?_; rintro e w' ⟨rfl, rfl⟩)
      go_ret
      exact ⟨ret_bool (by unfold cellOk; exact (decide_eq_false (by have := H.out; omega)).symm), rfl⟩
  · have H := Lib.hid h1
    have d : decide (0 ≤ a) = false := by simpa using h1
    clear h1
    go_enter Try.func122, Try.ntmps122
    go_wp2_with (go_at_call 69; refine (HC.out _).mono ?_; rintro e w' ⟨rfl, rfl⟩)
    go_ret
    exact ⟨ret_bool (by unfold cellOk; exact (decide_eq_false (by have := H.out; omega)).symm), rfl⟩

set_option maxHeartbeats 800000 in
theorem signAt_any (L : Int) (s : ByteArray) (a : Nat) (w : World) (h1 : 1 ≤ L) (h2 : L ≤ 3) (hs : s.size ≤ 60) (ha : a ≤ s.size + 1) (hl : lettersOk L s = true) :
    Calls Try.prog 108 #[.int .i64 L, .string s, .int .i64 (a : Int)] w fun e w' => e = .returned (.int .i64 (signN L s a)) ∧ w = w' := by
  have HC := Lib.hid (fun W => countCells_any s W hs)
  by_cases e0 : a = 0
  · subst e0
    clear hl
    go_enter Try.func108, Try.ntmps108
    go_wp2_with (first | (go_at_call 138; refine (leftMark_any _ _).mono ?_; rintro e w' ⟨rfl, rfl⟩) | (go_at_call 69; refine (HC.out _).mono ?_; rintro e w' ⟨rfl, rfl⟩))
    go_ret
    exact ⟨ret_int (by simp [signN]), rfl⟩
  · by_cases e1 : a = s.size + 1
    · subst e1
      have d0 : (((s.size : Nat) : Int) + 1 == 0) = false := by simp; omega
      clear hl
      go_enter Try.func108, Try.ntmps108
      go_wp2_with (first | (go_at_call 139; refine (rightMark_any _ _ (by omega) (by omega)).mono ?_; rintro e w' ⟨rfl, rfl⟩) | (go_at_call 69; refine (HC.out _).mono ?_; rintro e w' ⟨rfl, rfl⟩))
      all_goals go_ret
      all_goals exact ⟨ret_int (by simp [signN]), rfl⟩
    · obtain ⟨j, rfl⟩ : ∃ j, a = j + 1 := ⟨a - 1, by omega⟩
      have d0 : ((j : Int) + 1 == 0) = false := by simp; omega
      have d1 : ((j : Int) + 1 == (s.size : Int) + 1) = false := by simp; omega
      have i1 : (0 : Int) ≤ j := by omega
      have i2 : (j : Int) < s.size := by omega
      have hb := bytes_at s j (by omega)
      have hok : okLetter L (s[j]'(by omega)) = true := List.all_eq_true.1 hl _ (List.mem_of_getElem? hb)
      have HS := Lib.hid (show signN L s (j + 1) = ((s[j]'(by omega)).toNat : Int) - 97 by
        unfold signN; rw [if_neg e0, if_neg e1, show j + 1 - 1 = j by omega, hb]; rfl)
      simp only [okLetter, decide_eq_true_eq] at hok
      have b2 : ((s[j]'(by omega)).toNat : Int) ≤ 255 := by have := (s[j]'(by omega)).toNat_lt; omega
      have HN := Lib.hid (fun W => letterNumber_any ((s[j]'(by omega)).toNat : Int) W (by omega) b2)
      clear e0 e1 hb hl
      go_enter Try.func108, Try.ntmps108
      go_wp2_with (first | (go_at_call 69; refine (HC.out _).mono ?_; rintro e w' ⟨rfl, rfl⟩) | (go_at_call 134; refine (HN.out _).mono ?_; rintro e w' ⟨rfl, rfl⟩))
      go_ret
      exact ⟨ret_int HS.out.symm, rfl⟩

set_option maxHeartbeats 1600000 in
theorem deed_any (v : Value) (t : TData) (q k : Nat) (w : World) (h : RdT w v t) (hok : OkT t) (hq : q < t.mv.length) (hk : (k : Int) < t.L + 2) :
    Calls Try.prog 107 #[v, .int .i64 (q : Int), .int .i64 (k : Int)] w fun e w' => e = .returned (deedV (moveAt t q k)) ∧ Below w.heap.size w w' := by
  obtain ⟨x, m, hx, hm, hat, -, hxl⟩ := hok.at hq hk
  rw [hat]
  obtain ⟨mx, my⟩ := m
  obtain ⟨vm, rfl, hR⟩ := h
  obtain ⟨A, cap, rfl, a1, a2, a3⟩ := RdL.open hR
  obtain ⟨b, off, u, x', rfl, hx', hc, hP⟩ := a3 q hq
  obtain rfl := Option.some.inj (hx.symm.trans hx')
  obtain ⟨C, capx, rfl, x1, x2, x3⟩ := RdP.open hP
  obtain ⟨bx, offx, tx, ty, rfl, ht, hct, hdt⟩ := x3 k (by omega)
  obtain ⟨rfl, rfl⟩ := Prod.mk.inj (Option.some.inj (hm.symm.trans ht))
  unfold maxLen at a2 x2
  have ltb := World.block_lt_of_cell? _ _ hc
  have ltx := World.block_lt_of_cell? _ _ hct
  have q1 : (0 : Int) ≤ q := by omega
  have q2 : (q : Int) < t.mv.length := by omega
  have k1 : (0 : Int) ≤ k := by omega
  have k2 : (k : Int) < x.length := by omega
  have HD := Lib.hid (fun W => deedOf_any mx my W)
  clear hx hm hat hx' hR hP a3 x3 ht hxl hok
  go_enter Try.func107, Try.ntmps107
  go_wp2_with fail
  refine (HD.out _).mono ?_
  rintro e w1 ⟨rfl, hb⟩
  have HB := Lib.hid (below_step (below_alloc w _) hb)
  clear hb
  go_wp2
  go_ret
  exact ⟨rfl, HB.out⟩

set_option maxRecDepth 100000 in
set_option maxHeartbeats 1600000 in
theorem deedAt_any (v : Value) (t : TData) (s : ByteArray) (q a : Nat) (w : World) (h : RdT w v t) (hok : OkT t) (hl : lettersOk t.L s = true) (hs : s.size ≤ 60) (hq : q < t.mv.length) (ha : a ≤ s.size + 1) :
    Calls Try.prog 71 #[v, .string s, .agg #[.int .i64 (q : Int), .int .i64 (a : Int)]] w fun e w' => e = .returned (deedV (moveOn t s q a)) ∧ Below w.heap.size w w' := by
  obtain ⟨k, hk, hk2⟩ := signN_ok hok.l1 hok.l2 hl ha
  have HS := Lib.hid (fun W => hk ▸ signAt_any t.L s a W hok.l1 hok.l2 hs ha hl)
  have HD := Lib.hid (fun W (hb : Below w.heap.size w W) => deed_any v t q k W (keepsT _ _ _ _ h hb) hok hq hk2)
  rw [moveOn_eq hk]
  obtain ⟨A, c, rfl⟩ := h.shape
  have hx := (Row.new w [.int .i64 t.L, .int .i64 t.S, .slice A t.mv.length c] 31).alloc (.cells #[.int .i64 (q : Int), .int .i64 (a : Int)] 70)
  have hy : Row ((w.alloc (.cells #[.int .i64 t.L, .int .i64 t.S, .slice A t.mv.length c] 31)).alloc (.cells #[.int .i64 (q : Int), .int .i64 (a : Int)] 70)) (w.heap.size + 1) 70 [.int .i64 (q : Int), .int .i64 (a : Int)] := by simpa using Row.new (w.alloc (.cells #[.int .i64 t.L, .int .i64 t.S, .slice A t.mv.length c] 31)) [.int .i64 (q : Int), .int .i64 (a : Int)] 70
  have HB := Lib.hid (show Below w.heap.size w ((w.alloc (.cells #[.int .i64 t.L, .int .i64 t.S, .slice A t.mv.length c] 31)).alloc (.cells #[.int .i64 (q : Int), .int .i64 (a : Int)] 70)) from (below_alloc _ _).alloc (by simp) _)
  clear h hok hl hk hk2
  go_enter Try.func71, Try.ntmps71
  go_wp2_with fail
  generalize ((w.alloc (.cells #[.int .i64 t.L, .int .i64 t.S, .slice A t.mv.length c] 31)).alloc (.cells #[.int .i64 (q : Int), .int .i64 (a : Int)] 70)) = W0 at *
  obtain ⟨⟨b0, b1, b2⟩, -⟩ := hx.three
  obtain ⟨⟨e0, e1⟩, -⟩ := hy.two
  clear hx hy
  go_region_held3 (fun W => W.cell? ⟨w.heap.size, 0, none⟩ = some (.int .i64 t.L) ∧ W.cell? ⟨w.heap.size, 1, none⟩ = some (.int .i64 t.S) ∧ W.cell? ⟨w.heap.size, 2, none⟩ = some (.slice A t.mv.length c) ∧ W.cell? ⟨w.heap.size + 1, 0, none⟩ = some (.int .i64 (q : Int)) ∧ W.cell? ⟨w.heap.size + 1, 1, none⟩ = some (.int .i64 (a : Int)))
    (first | go_keep | (go_split_ands; refine ⟨?_, ?_, ?_, ?_, ?_⟩ <;> exact below_keep hbk (by assumption)))
    (first
      | (go_at_call 108; (with_reducible refine (HS.out _).mono ?_); rintro e wy ⟨rfl, rfl⟩)
      | (go_at_call 107; (with_reducible refine (HD.out _ (by first | exact HB.out | exact HB.out.drew | exact below_drewN HB.out _)).mono ?_); rintro e wz ⟨rfl, hbk⟩; have HCz := Lib.hid (below_step (by first | exact HB.out | exact HB.out.drew | exact below_drewN HB.out _) hbk)))
  go_wp2
  go_ret
  exact ⟨rfl, HCz.out⟩
end Go.Proofs.Ytdkalefepdlccaa
