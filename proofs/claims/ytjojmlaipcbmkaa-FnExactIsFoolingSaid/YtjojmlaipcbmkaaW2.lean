/-
  Where a word leads: the model's and the program's StateAfter.
-/
import Derived.Test.YtjojmlaipcbmkaaW1
import Derived.Test.YtjojmlaipcbmkaaT8
namespace Go.Proofs.Ytjojmlaipcbmkaa
open Go.RowKit

def stepN (r : RData) (q : Nat) (c : UInt8) : Nat := (((r.next[q]?.getD [])[c.toNat - 97]?).getD 0).toNat
def afterN (r : RData) (l : List UInt8) : Nat := l.foldl (stepN r) r.S.toNat
def afterRes (r : RData) (s : ByteArray) : Int × Int := if okR r && okWord r.L s then (afterN r s.data.toList, 0) else (0, 1)

theorem atR_drewN {w : World} {p : Nat} {r : RData} (h : AtR w p r) (m : Nat) : AtR (w.drewN m) p r := by
  obtain ⟨a, n, c0, c1, c2, c3, ha, hn⟩ := h
  exact ⟨a, n, c0, c1, c2, c3, keepsB _ _ _ _ ha (below_drewN' w m), keepsII _ _ _ _ hn (below_drewN' w m)⟩
theorem okR_parts {r : RData} (h : okR r = true) : (1 ≤ r.L ∧ r.L ≤ 3) ∧ (1 ≤ (r.acc.length : Int) ∧ (r.acc.length : Int) ≤ 300) ∧ (0 ≤ r.S ∧ r.S ≤ (r.acc.length : Int) - 1) ∧ r.next.length = r.acc.length ∧ ∀ x ∈ r.next, okRow r.L r.acc.length x = true := by
  simp only [okR, Bool.and_eq_true, decide_eq_true_eq, List.all_eq_true] at h
  obtain ⟨a, b, c, d, e⟩ := h
  exact ⟨a, b, c, by omega, e⟩

theorem okRow_parts {L n : Int} {x : List Int} (h : okRow L n x = true) : (x.length : Int) = L ∧ ∀ t ∈ x, 0 ≤ t ∧ t ≤ n - 1 := by
  simp only [okRow, Bool.and_eq_true, decide_eq_true_eq, List.all_eq_true, inB] at h
  exact h

/-- One letter on: the row, its element, the next state. -/
theorem step_ok {r : RData} (h : okR r = true) {q : Nat} (hq : q < r.next.length) {c : UInt8} (hc : okLetter r.L c = true) :
    ∃ x t, ∃ m : Nat, r.next[q]? = some x ∧ x[c.toNat - 97]? = some t ∧ t = (m : Int) ∧ m < r.next.length ∧ stepN r q c = m ∧ 97 ≤ c.toNat ∧ c.toNat - 97 < x.length ∧ (x.length : Int) = r.L := by
  obtain ⟨h1, h2, h3, h4, h5⟩ := okR_parts h
  have hx : r.next[q]? = some r.next[q] := by simp [hq]
  obtain ⟨e1, e2⟩ := okRow_parts (h5 _ (List.mem_of_getElem? hx))
  simp only [okLetter, decide_eq_true_eq] at hc
  have hj : c.toNat - 97 < (r.next[q]).length := by omega
  have ht : (r.next[q])[c.toNat - 97]? = some (r.next[q])[c.toNat - 97] := by simp [hj]
  obtain ⟨b1, b2⟩ := e2 _ (List.mem_of_getElem? ht)
  obtain ⟨m, hm⟩ := Int.eq_ofNat_of_zero_le b1
  refine ⟨_, _, m, hx, ht, hm, by omega, ?_, by omega, hj, e1⟩
  simp only [stepN, hx, Option.getD_some, ht, hm]
  simp

theorem afterN_lt {r : RData} (h : okR r = true) : ∀ (l : List UInt8), l.all (okLetter r.L) = true → ∀ q, q < r.next.length → l.foldl (stepN r) q < r.next.length := by
  intro l
  induction l with
  | nil => intro _ q hq; exact hq
  | cons c l ih =>
    intro hl q hq
    simp only [List.all_cons, Bool.and_eq_true] at hl
    obtain ⟨x, t, m, _, _, _, hm, hs, _⟩ := step_ok h hq hl.1
    exact ih hl.2 _ (by rw [hs]; exact hm)

theorem fold_take_succ {r : RData} {l : List UInt8} {k : Nat} {c : UInt8} (h : l[k]? = some c) (q : Nat) : (l.take (k + 1)).foldl (stepN r) q = stepN r ((l.take k).foldl (stepN r) q) c := by
  rw [take_succ_of h, List.foldl_append]; rfl

theorem letter_of {L : Int} {s : ByteArray} (h : lettersOk L s = true) {k : Nat} (hk : k < s.size) : okLetter L s[k] = true := by
  simp only [lettersOk, List.all_eq_true] at h
  exact h _ (List.mem_of_getElem? (bytes_at s k hk))

set_option maxHeartbeats 800000 in
theorem l01After_any (p : Nat) (r : RData) (s : ByteArray) (w : World) (h : AtR w p r) (ok : okR r = true) (okw : lettersOk r.L s = true) (hs : s.size ≤ 60) :
    Calls Try.prog 59 #[.pointer (some ⟨p, 0, none⟩), .string s] w fun e w' => e = .returned (.int .i64 (afterN r s.data.toList)) ∧ Qt w w' := by
  have HOK := Lib.hid ok
  have HW := Lib.hid okw
  obtain ⟨q0, hq0⟩ : ∃ q0 : Nat, r.S = q0 := ⟨r.S.toNat, by have := (okR_parts ok).2.2.1.1; omega⟩
  have hS2 : q0 < r.next.length := by obtain ⟨_, _, h3, h4, _⟩ := okR_parts ok; omega
  have hA0 : afterN r s.data.toList = s.data.toList.foldl (stepN r) q0 := by rw [afterN, hq0]; rfl
  obtain ⟨a, n, c0, c1, c2, c3, ha, hn⟩ := h
  obtain ⟨A, cap, rfl, a1, a2, -⟩ := ha.open
  obtain ⟨B, cap', rfl, n1, n2, n3⟩ := RdL.open hn
  unfold maxLen at a2 n2
  rw [hq0] at c1
  rw [hA0]
  have HS := Lib.hid hS2
  clear c0 c2 ok okw hq0 hA0 hS2 ha hn
  go_enter Try.func59, Try.ntmps59
  go_wp2
  go_loopw [5, 6] (fun q i wr => ∃ k m : Nat, k ≤ s.size ∧ i = .int .i64 k ∧ q = .int .i64 m ∧ m < r.next.length ∧ (s.data.toList.take k).foldl (stepN r) q0 = m ∧ Qt w wr) (fun _ i _ => s.size - (intOf i).toNat)
  case atStart => exact ⟨0, q0, Nat.zero_le _, rfl, rfl, HS.out, by simp, Qt.refl _⟩
  case round =>
    obtain ⟨k, m, hk, rfl, rfl, hm, hf, hb⟩ := hrel
    have HF := Lib.hid hf; clear hf
    have HB := Lib.hid hb
    by_cases hlt : k < s.size
    · obtain ⟨b, off, u, x', rfl, hx', hc, hR⟩ := n3 m hm
      obtain ⟨x, t, m', hx, ht, htm, hm', hst, g97, gj, gx⟩ := step_ok HOK.out hm (letter_of HW.out hlt)
      have ex := Option.some.inj (hx.symm.trans hx')
      subst ex
      obtain ⟨C, capx, rfl, x1, x2, x3⟩ := RdI.open hR
      unfold maxLen at x2
      obtain ⟨bx, offx, t', rfl, ht', hct⟩ := x3 (s[k].toNat - 97) gj
      have et := Option.some.inj (ht.symm.trans ht')
      subst et
      subst htm
      have g3 := (hb.cell _).trans c3
      have gc := (hb.cell _).trans hc
      have gt := (hb.cell _).trans hct
      have HST := Lib.hid hst
      have HC := Lib.hid (bytes_at s k hlt)
      have i1 : (0 : Int) ≤ k := by omega
      have i2 : (k : Int) < s.size := by omega
      have j1 : (97 : Int) ≤ s[k].toNat := by omega
      have j2 : (s[k].toNat : Int) ≤ 255 := by have := s[k].toNat_lt; omega
      have j3 : (s[k].toNat : Int) - 97 < x.length := by omega
      have q1 : (0 : Int) ≤ m := by omega
      have q2 : (m : Int) < r.next.length := by omega
      clear hx ht hx' ht' hst gx gj g97 hR x3 n3 hc hct c1 c3 hb
      go_wp2
      go_quiet (fail)
      go_wp2
      go_roundw
      case rel => exact ⟨k + 1, m', by omega, by go_num, rfl, hm', by rw [fold_take_succ HC.out, HF.out, HST.out], HB.out.drewN _⟩
      case measure => simp [intOf]; omega
    · clear n3 hb c1 c3
      go_wp2
      go_ret
      exact ⟨ret_int (by have := HF.out; rw [List.take_of_length_le (by simp; omega)] at this; rw [this]), HB.out⟩

theorem ret_two {a b c d : Int} (h : a = c) (k : b = d) : Ending.returned (.tuple #[.int .i64 a, .int .i64 b]) = .returned (.tuple #[.int .i64 c, .int .i64 d]) := by rw [h, k]
theorem afterRes_ok {r : RData} {s : ByteArray} (h : okR r = true) (k : okWord r.L s = true) : (afterRes r s).1 = (afterN r s.data.toList : Int) ∧ (afterRes r s).2 = 0 := by simp [afterRes, h, k]
theorem afterRes_no {r : RData} {s : ByteArray} (h : ¬ (okR r = true ∧ okWord r.L s = true)) : (afterRes r s).1 = 0 ∧ (afterRes r s).2 = 1 := by
  have : ¬ (okR r && okWord r.L s) = true := by simpa using h
  simp only [afterRes, if_neg this]; exact ⟨trivial, trivial⟩
theorem okWord_parts {L : Int} {s : ByteArray} (h : okWord L s = true) : (s.size : Int) ≤ 60 ∧ lettersOk L s = true := by
  simp only [okWord, Bool.and_eq_true, decide_eq_true_eq] at h; exact h.2

set_option maxHeartbeats 800000 in
theorem specStateAfter_any (v : Value) (r : RData) (s : ByteArray) (w : World) (h : RdR w v r) (hs : s.size ≤ maxLen) :
    Calls Try.prog 13 #[v, .string s] w fun e w' => e = .returned (.tuple #[.int .i64 (afterRes r s).1, .int .i64 (afterRes r s).2]) ∧ Below w.heap.size w w' := by
  obtain ⟨a, n, rfl, hA⟩ := atR_box h 29
  have H := Lib.hid (l01Ok_any _ _ _ hA)
  have HB := Lib.hid (fun m => below_drewN (below_alloc w (.cells #[.int .i64 r.L, .int .i64 r.S, a, n] 29)) m)
  by_cases hr : okR r = true
  · by_cases hw : okWord r.L s = true
    · have hp := okWord_parts hw
      have HA := Lib.hid (fun m => l01After_any _ r s _ (atR_drewN hA m) hr hp.2 (by have := hp.1; omega))
      have HV := Lib.hid (fun W => specValidWord_any r.L s W hs)
      have HE := Lib.hid (afterRes_ok hr hw)
      clear h hA hp
      go_enter Try.func13, Try.ntmps13
      go_wp2_with (first | (go_at_call 57; refine H.out.mono ?_; rintro e w' ⟨rfl, m, rfl⟩) | (go_at_call 58; refine (HV.out _).mono ?_; rintro e w' ⟨rfl, rfl⟩) | (go_at_call 59; refine (HA.out _).mono ?_; rintro e w' ⟨rfl, m2, rfl⟩))
      go_ret2
      exact ⟨ret_two HE.out.1.symm HE.out.2.symm, HB.out _⟩
    · have hw' : okWord r.L s = false := by simpa using hw
      have HV := Lib.hid (fun W => specValidWord_any r.L s W hs)
      have HE := Lib.hid (afterRes_no (r := r) (s := s) (fun h => hw h.2))
      clear h hA hw
      go_enter Try.func13, Try.ntmps13
      go_wp2_with (first | (go_at_call 57; refine H.out.mono ?_; rintro e w' ⟨rfl, m, rfl⟩) | (go_at_call 58; refine (HV.out _).mono ?_; rintro e w' ⟨rfl, rfl⟩))
      go_ret2
      exact ⟨ret_two HE.out.1.symm HE.out.2.symm, HB.out _⟩
  · have hr' : okR r = false := by simpa using hr
    have HE := Lib.hid (afterRes_no (r := r) (s := s) (fun h => hr h.1))
    clear h hA hr
    go_enter Try.func13, Try.ntmps13
    go_wp2_with (go_at_call 57; refine H.out.mono ?_; rintro e w' ⟨rfl, m, rfl⟩)
    go_ret2
    exact ⟨ret_two HE.out.1.symm HE.out.2.symm, HB.out _⟩

/-- Where a word leads from a state, as the program walks. -/
def runN (r : RData) (q : Nat) (s : ByteArray) : Nat := s.data.toList.foldl (stepN r) q
theorem runN_lt {r : RData} (h : okR r = true) {s : ByteArray} (k : lettersOk r.L s = true) {q : Nat} (hq : q < r.next.length) : runN r q s < r.next.length := afterN_lt h _ k _ hq
theorem runN_start {r : RData} (s : ByteArray) : runN r r.S.toNat s = afterN r s.data.toList := rfl

set_option maxHeartbeats 800000 in
theorem after_any (v : Value) (r : RData) (s : ByteArray) (q0 : Nat) (w : World) (h : RdR w v r) (ok : okR r = true) (okw : lettersOk r.L s = true) (hs : s.size ≤ 60) (hq0 : q0 < r.next.length) :
    Calls Try.prog 63 #[v, .int .i64 q0, .string s] w fun e w' => e = .returned (.int .i64 (runN r q0 s : Nat)) ∧ Below w.heap.size w w' := by
  obtain ⟨A, c, B, d, rfl⟩ := h.shape
  have hbox := Row.new w [.int .i64 r.L, .int .i64 r.S, .slice A r.acc.length c, .slice B r.next.length d] 29
  have HB := Lib.hid (below_alloc w (.cells #[.int .i64 r.L, .int .i64 r.S, .slice A r.acc.length c, .slice B r.next.length d] 29))
  have HR1 := keepsR _ _ _ _ h HB.out
  obtain ⟨⟨c0, c1, c2, c3⟩, -⟩ := hbox.four
  obtain ⟨a', n', hv', -, hn'⟩ := HR1
  simp only [Value.agg.injEq] at hv'
  obtain rfl : n' = .slice B r.next.length d := by simpa using (congrArg (fun x : Array Value => x.getD 3 undef) hv').symm
  obtain ⟨B', cap', hB', n1, n2, n3⟩ := RdL.open hn'
  simp only [Value.slice.injEq, true_and] at hB'
  obtain ⟨rfl, rfl⟩ := hB'
  unfold maxLen at n2
  have HOK := Lib.hid ok
  have HP := Lib.hid okw
  have HQ0 := Lib.hid hq0
  clear h hn' hv' ok okw c0 c1 c2 hbox hq0
  go_enter Try.func63, Try.ntmps63
  go_wp2
  generalize w.alloc (.cells #[.int .i64 r.L, .int .i64 r.S, .slice A r.acc.length c, .slice B r.next.length d] 29) = w1 at *
  go_loopw [1, 10] (fun q i wr => ∃ k m : Nat, k ≤ s.size ∧ i = .int .i64 k ∧ q = .int .i64 m ∧ m < r.next.length ∧ (s.data.toList.take k).foldl (stepN r) q0 = m ∧ Qt w1 wr) (fun _ i _ => s.size - (intOf i).toNat)
  case atStart => exact ⟨0, q0, Nat.zero_le _, rfl, rfl, HQ0.out, by simp, Qt.refl _⟩
  case round =>
    obtain ⟨k, m, hk, rfl, rfl, hm, hf, hb⟩ := hrel
    have HF := Lib.hid hf; clear hf
    have HBq := Lib.hid hb
    by_cases hlt : k < s.size
    · obtain ⟨b, off, u, x', rfl, hx', hc, hR⟩ := n3 m hm
      obtain ⟨x, t, m', hx, ht, htm, hm', hst, g97, gj, gx⟩ := step_ok HOK.out hm (letter_of HP.out hlt)
      have ex := Option.some.inj (hx.symm.trans hx')
      subst ex
      obtain ⟨C, capx, rfl, x1, x2, x3⟩ := RdI.open hR
      unfold maxLen at x2
      obtain ⟨bx, offx, t', rfl, ht', hct⟩ := x3 (s[k].toNat - 97) gj
      have et := Option.some.inj (ht.symm.trans ht')
      subst et
      subst htm
      have g3 := (hb.cell _).trans c3
      have gc := (hb.cell _).trans hc
      have gt := (hb.cell _).trans hct
      have HST := Lib.hid hst
      have HC := Lib.hid (bytes_at s k hlt)
      have i1 : (0 : Int) ≤ k := by omega
      have i2 : (k : Int) < s.size := by omega
      have j1 : (97 : Int) ≤ s[k].toNat := by omega
      have j2 : (s[k].toNat : Int) ≤ 255 := by have := s[k].toNat_lt; omega
      have j3 : (s[k].toNat : Int) - 97 < x.length := by omega
      have j4 : (0 : Int) ≤ (s[k].toNat : Int) - 97 := by omega
      have q1 : (0 : Int) ≤ m := by omega
      have q2 : (m : Int) < r.next.length := by omega
      clear hx ht hx' ht' hst gx gj g97 hR x3 n3 hc hct c3 hb
      go_wp2_with fail
      go_quiet ((go_at_call 105; exact Calls.quiet_of_same ((letterNumber_any _ _ (by omega) (by omega)).mono fun _ _ ⟨a, b⟩ => ⟨a, b.symm⟩)))
      go_wp2
      go_roundw
      case rel => exact ⟨k + 1, m', by omega, by go_num, rfl, hm', by rw [fold_take_succ HC.out, HF.out, HST.out], HBq.out.drewN _⟩
      case measure => simp [intOf]; omega
    · clear n3 hb c3
      go_wp2
      go_ret
      exact ⟨ret_int (by have := HF.out; rw [List.take_of_length_le (by simp; omega)] at this; rw [runN, this]), below_step HB.out HBq.out.below⟩

set_option maxHeartbeats 800000 in
theorem implStateAfter_any (v : Value) (r : RData) (s : ByteArray) (w : World) (h : RdR w v r) (hs : s.size ≤ maxLen) :
    Calls Try.prog 15 #[v, .string s] w fun e w' => e = .returned (.tuple #[.int .i64 (afterRes r s).1, .int .i64 (afterRes r s).2]) ∧ Below w.heap.size w w' := by
  obtain ⟨A, c, B, d, rfl⟩ := h.shape
  have hbox := Row.new w [.int .i64 r.L, .int .i64 r.S, .slice A r.acc.length c, .slice B r.next.length d] 29
  have HV := Lib.hid (ValidReader_any _ r (w.alloc (.cells #[.int .i64 r.L, .int .i64 r.S, .slice A r.acc.length c, .slice B r.next.length d] 29)) (keepsR _ _ _ _ h (below_alloc _ _)))
  have HW := Lib.hid (fun W => implValidWord_any r.L s W hs)
  have HK := Lib.hid (fun W (hb : Below w.heap.size w W) => keepsR _ _ _ _ h hb)
  have HB0 := Lib.hid (below_alloc w (.cells #[.int .i64 r.L, .int .i64 r.S, .slice A r.acc.length c, .slice B r.next.length d] 29))
  clear h
  go_enter Try.func15, Try.ntmps15
  go_wp2_with fail
  refine HV.out.mono ?_
  rintro e w1 ⟨rfl, hb⟩
  have HB := Lib.hid (below_step HB0.out hb)
  obtain ⟨⟨c0, c1, c2, c3⟩, -⟩ := (hbox.below hb hbox.lt).four
  clear hbox hb HB0 HV
  by_cases hr : okR r = true
  · by_cases hw : okWord r.L s = true
    · have hp := okWord_parts hw
      have HE := Lib.hid (afterRes_ok hr hw)
      obtain ⟨q0, hq0⟩ : ∃ q0 : Nat, r.S = q0 := ⟨r.S.toNat, by have := (okR_parts hr).2.2.1.1; omega⟩
      have hS2 : q0 < r.next.length := by obtain ⟨_, _, h3, h4, _⟩ := okR_parts hr; omega
      have HA := Lib.hid (after_any _ r s q0 w1 (HK.out w1 HB.out) hr hp.2 (by have := hp.1; omega) hS2)
      have HA0 := Lib.hid (show afterN r s.data.toList = runN r q0 s by rw [afterN, hq0]; rfl)
      rw [hq0] at c1
      rw [hq0] at HA
      clear hp hS2 HK hq0
      go_wp2_with (first | (go_at_call 62; refine (HW.out _).mono ?_; rintro e w' ⟨rfl, rfl⟩) | (go_at_call 63; refine HA.out.mono ?_; rintro e w2 ⟨rfl, hb2⟩; have HB2 := Lib.hid (below_step HB.out hb2)))
      go_ret2
      exact ⟨ret_two (by rw [HE.out.1, HA0.out]) HE.out.2.symm, HB2.out⟩
    · have hw' : okWord r.L s = false := by simpa using hw
      have HE := Lib.hid (afterRes_no (r := r) (s := s) (fun h => hw h.2))
      clear hw
      go_wp2_with (go_at_call 62; refine (HW.out _).mono ?_; rintro e w' ⟨rfl, rfl⟩)
      go_ret2
      exact ⟨ret_two HE.out.1.symm HE.out.2.symm, HB.out⟩
  · have hr' : okR r = false := by simpa using hr
    have HE := Lib.hid (afterRes_no (r := r) (s := s) (fun h => hr h.1))
    clear hr
    go_wp2_with (go_at_call 62; refine (HW.out _).mono ?_; rintro e w' ⟨rfl, rfl⟩)
    go_ret2
    exact ⟨ret_two HE.out.1.symm HE.out.2.symm, HB.out⟩

end Go.Proofs.Ytjojmlaipcbmkaa
