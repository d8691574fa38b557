/-
  Where a wanderer goes from a place: what it is; the tests ahead of it, by the program and by the model.
-/
import Derived.Test.YtdkalefepdlccaaVw4
import Derived.Test.YtdkalefepdlccaaSt4
import Derived.Test.YtdkalefepdlccaaMem1
namespace Go.Proofs.Ytdkalefepdlccaa
open Go.RowKit

structure OkW (r : WData) : Prop where
  l1 : 1 ≤ r.L
  l2 : r.L ≤ 3
  n1 : 1 ≤ r.mv.length
  n2 : r.mv.length ≤ 5
  rs : rises r.mv.length r.st = true
  len : ∀ (q : Nat) x, r.mv[q]? = some x → (x.length : Int) = r.L + 2
  lst : ∀ (q : Nat) x (c : Nat) l, r.mv[q]? = some x → x[c]? = some l → okListW r.mv.length r.L c l = true
theorem okW_out {r : WData} (h : okW r = true) : OkW r := by
  unfold okW at h
  simp only [Bool.and_eq_true, decide_eq_true_eq] at h
  obtain ⟨⟨h1, h2⟩, ⟨h3, h4⟩, h5, h6⟩ := h
  have hrow : ∀ (q : Nat) x, r.mv[q]? = some x → okRowW r.mv.length r.L x = true := fun q x hx => List.all_eq_true.1 h6 x (List.mem_of_getElem? hx)
  refine ⟨h1, h2, by omega, by omega, h5, fun q x hx => ?_, fun q x c l hx hl => ?_⟩
  · have := hrow q x hx
    unfold okRowW at this
    simp only [Bool.and_eq_true, decide_eq_true_eq] at this
    exact this.1
  · have h := hrow q x hx
    unfold okRowW okColsTo at h
    simp only [Bool.and_eq_true, List.all_eq_true, List.mem_range] at h
    have hc := (List.getElem?_eq_some_iff.1 hl).1
    have := h.2 c hc
    rwa [show x.getD c [] = l by simp [List.getD, hl]] at this
theorem okList_at {n L c : Int} {l : List (Int × Int)} (h : okListW n L c l = true) {i : Nat} (hi : i < l.length) : okListAt n L c l i = true :=
  List.all_eq_true.1 h i (List.mem_range.2 hi)
theorem okMvW_out {n L k : Int} {m : Int × Int} (h : okMvW n L k m = true) : (m.1 = -1 ∧ m.2 = 0) ∨ (0 ≤ m.1 ∧ m.1 ≤ n - 1 ∧ -1 ≤ m.2 ∧ m.2 ≤ 1 ∧ ¬ (k = L ∧ m.2 = -1) ∧ ¬ (k = L + 1 ∧ m.2 = 1)) := by
  unfold okMvW at h
  simp only [decide_eq_true_eq] at h
  omega
theorem okList_mv {n L c : Int} {l : List (Int × Int)} (h : okListW n L c l = true) {i : Nat} {m : Int × Int} (hm : l[i]? = some m) : okMvW n L c m = true := by
  have hi := (List.getElem?_eq_some_iff.1 hm).1
  have := okList_at h hi
  rw [okListAt_eq hm] at this
  simp only [Bool.and_eq_true] at this
  exact this.1
/-- A list of moves is short, as it rises. -/
theorem okList_key {n L c : Int} {l : List (Int × Int)} (h : okListW n L c l = true) : ∀ (i : Nat) (m : Int × Int), l[i]? = some m → (i : Int) ≤ (m.1 + 1) * 3 + (m.2 + 1)
  | 0, m => fun hm => by
    have := okMvW_out (okList_mv h hm)
    omega
  | i + 1, m => fun hm => by
    have hi := (List.getElem?_eq_some_iff.1 hm).1
    have hp : l[i]? = some l[i] := List.getElem?_eq_getElem (by omega)
    have ih := okList_key h i _ hp
    have h1 := okMvW_out (okList_mv h hm)
    have h2 := okMvW_out (okList_mv h hp)
    have h3 := okList_at h hi
    rw [okListAt_eq2 hm (y := l[i]) (by simp)] at h3
    simp only [Bool.and_eq_true, Bool.or_eq_true, decide_eq_true_eq] at h3
    have h4 : moveLt l[i] m = true := by
      rcases h3.2 with h | h
      · omega
      · exact h
    unfold moveLt at h4
    simp only [decide_eq_true_eq] at h4
    generalize l[i] = p at *
    omega
theorem okList_len {n L c : Int} {l : List (Int × Int)} (h : okListW n L c l = true) (hn : n ≤ 5) : l.length ≤ 18 := by
  by_cases h0 : l.length = 0
  · omega
  · have hp : l[l.length - 1]? = some l[l.length - 1] := List.getElem?_eq_getElem (by omega)
    have h1 := okList_key h _ _ hp
    have h2 := okMvW_out (okList_mv h hp)
    generalize l[l.length - 1] = m at *
    omega

def listAt (r : WData) (q k : Nat) : List (Int × Int) := (r.mv.getD q []).getD k []
theorem OkW.at {r : WData} (h : OkW r) {q k : Nat} (hq : q < r.mv.length) (hk : (k : Int) < r.L + 2) :
    ∃ x l, r.mv[q]? = some x ∧ x[k]? = some l ∧ listAt r q k = l ∧ (x.length : Int) = r.L + 2 ∧ okListW r.mv.length r.L k l = true ∧ l.length ≤ 18 := by
  have hx : r.mv[q]? = some r.mv[q] := List.getElem?_eq_getElem hq
  have hl := h.len q _ hx
  have hk2 : k < (r.mv[q]).length := by omega
  have hll : (r.mv[q])[k]? = some (r.mv[q])[k] := List.getElem?_eq_getElem hk2
  have hok := h.lst q _ k _ hx hll
  exact ⟨_, _, hx, hll, by simp [listAt, List.getD, hx, hll], hl, hok, okList_len hok (by have := h.n2; omega)⟩

def nextOf (a : Int) (l : List (Int × Int)) : List (Int × Int) := l.filterMap (fun m => if m.1 < 0 then none else some (m.1, a + m.2))
def takeOf (l : List (Int × Int)) : Bool := l.any (fun m => decide (m.1 < 0))
theorem nextOf_go {a : Int} {l : List (Int × Int)} {k : Nat} {m : Int × Int} (h : l[k]? = some m) (hm : ¬ m.1 < 0) : nextOf a (l.take (k + 1)) = nextOf a (l.take k) ++ [(m.1, a + m.2)] := by
  rw [take_succ_of h]; simp [nextOf, hm]
theorem nextOf_no {a : Int} {l : List (Int × Int)} {k : Nat} {m : Int × Int} (h : l[k]? = some m) (hm : m.1 < 0) : nextOf a (l.take (k + 1)) = nextOf a (l.take k) := by
  rw [take_succ_of h]; simp [nextOf, hm]
theorem takeOf_go {l : List (Int × Int)} {k : Nat} {m : Int × Int} (h : l[k]? = some m) (hm : ¬ m.1 < 0) : takeOf (l.take (k + 1)) = takeOf (l.take k) := by
  rw [take_succ_of h]; simp [takeOf, hm]
theorem takeOf_no {l : List (Int × Int)} {k : Nat} {m : Int × Int} (h : l[k]? = some m) (hm : m.1 < 0) : takeOf (l.take (k + 1)) = true := by
  rw [take_succ_of h]; simp [takeOf, hm]
theorem nextOf_len (a : Int) (l : List (Int × Int)) : (nextOf a l).length ≤ l.length := List.length_filterMap_le _ _
def moveList (r : WData) (s : ByteArray) (q a : Nat) : List (Int × Int) := listAt r q (signN r.L s a).toNat

def givenW (r : WData) (s : ByteArray) : Int := if okW r = true ∧ okWord r.L s = true then 0 else 1
theorem givenW_or (r : WData) (s : ByteArray) : givenW r s = 0 ∨ givenW r s = 1 := by unfold givenW; split <;> simp
theorem givenW_zero {r : WData} {s : ByteArray} (h : givenW r s = 0) : okW r = true ∧ okWord r.L s = true := by
  unfold givenW at h; split at h
  · assumption
  · cases h
theorem givenW_yes {r : WData} {s : ByteArray} (h : okW r = true) (k : okWord r.L s = true) : givenW r s = 0 := by simp [givenW, h, k]
theorem givenW_no1 {r : WData} {s : ByteArray} (h : okW r = false) : givenW r s = 1 := by simp [givenW, h]
theorem givenW_no2 {r : WData} {s : ByteArray} (h : okWord r.L s = false) : givenW r s = 1 := by simp [givenW, h]

set_option maxHeartbeats 800000 in
theorem l04Given_any (p : Nat) (r : WData) (s : ByteArray) (w : World) (h : AtW w p r) (hs : s.size ≤ maxLen) :
    Calls Try.prog 82 #[.pointer (some ⟨p, 0, none⟩), .string s] w fun e w' => e = .returned (.int .i64 (givenW r s)) ∧ Below w.heap.size w w' := by
  have HV := Lib.hid (l04Ok_any p r w h)
  have HW := Lib.hid (fun W => specValidWord_any r.L s W hs)
  have HA := Lib.hid h
  clear h
  by_cases h1 : okW r = true
  · have H1 := Lib.hid h1
    by_cases h2 : okWord r.L s = true
    · have H2 := Lib.hid h2
      go_enter Try.func82, Try.ntmps82
      go_wp2_with fail
      refine HV.out.mono ?_
      rintro e w1 ⟨rfl, hb⟩
      obtain ⟨a, b, c0, -, -, -, -⟩ := HA.out.below hb
      have HB := Lib.hid hb
      clear hb
      go_wp2_with (go_at_call 98; refine (HW.out _).mono ?_; rintro e w' ⟨rfl, rfl⟩)
      go_ret
      exact ⟨ret_int (givenW_yes H1.out H2.out).symm, HB.out⟩
    · have h2' : okWord r.L s = false := by simpa using h2
      have H2 := Lib.hid h2'
      clear h2
      go_enter Try.func82, Try.ntmps82
      go_wp2_with fail
      refine HV.out.mono ?_
      rintro e w1 ⟨rfl, hb⟩
      obtain ⟨a, b, c0, -, -, -, -⟩ := HA.out.below hb
      have HB := Lib.hid hb
      clear hb
      go_wp2_with (go_at_call 98; refine (HW.out _).mono ?_; rintro e w' ⟨rfl, rfl⟩)
      go_ret
      exact ⟨ret_int (givenW_no2 H2.out).symm, HB.out⟩
  · have h1' : okW r = false := by simpa using h1
    have H1 := Lib.hid h1'
    clear h1
    go_enter Try.func82, Try.ntmps82
    go_wp2_with fail
    refine HV.out.mono ?_
    rintro e w1 ⟨rfl, hb⟩
    have HB := Lib.hid hb
    clear hb
    go_wp2
    go_ret
    exact ⟨ret_int (givenW_no1 H1.out).symm, HB.out⟩

set_option maxHeartbeats 800000 in
theorem wanderCode_any (v : Value) (r : WData) (s : ByteArray) (w : World) (h : RdW w v r) (hs : s.size ≤ maxLen) :
    Calls Try.prog 87 #[v, .string s] w fun e w' => e = .returned (.int .i64 (givenW r s)) ∧ Below w.heap.size w w' := by
  have HV := Lib.hid (fun W (hb : Below w.heap.size w W) => ValidWanderer_any v r W (keepsW _ _ _ _ h hb))
  have HW := Lib.hid (fun W => implValidWord_any r.L s W hs)
  obtain ⟨A, ka, B, kb, rfl⟩ := h.shape
  have HR := Lib.hid (Row.new w [.int .i64 r.L, .slice A r.st.length ka, .slice B r.mv.length kb] 68)
  have HB := Lib.hid (below_alloc w (.cells #[.int .i64 r.L, .slice A r.st.length ka, .slice B r.mv.length kb] 68))
  clear h
  by_cases h1 : okW r = true
  · have H1 := Lib.hid h1
    by_cases h2 : okWord r.L s = true
    · have H2 := Lib.hid h2
      go_enter Try.func87, Try.ntmps87
      go_wp2_with fail
      refine (HV.out _ HB.out).mono ?_
      rintro e w1 ⟨rfl, hb⟩
      obtain ⟨⟨c0, -, -⟩, -⟩ := (HR.out.below hb HR.out.lt).three
      have HB1 := Lib.hid (below_step HB.out hb)
      clear hb
      go_wp2_with (go_at_call 101; refine (HW.out _).mono ?_; rintro e w' ⟨rfl, rfl⟩)
      go_ret
      exact ⟨ret_int (givenW_yes H1.out H2.out).symm, HB1.out⟩
    · have h2' : okWord r.L s = false := by simpa using h2
      have H2 := Lib.hid h2'
      clear h2
      go_enter Try.func87, Try.ntmps87
      go_wp2_with fail
      refine (HV.out _ HB.out).mono ?_
      rintro e w1 ⟨rfl, hb⟩
      obtain ⟨⟨c0, -, -⟩, -⟩ := (HR.out.below hb HR.out.lt).three
      have HB1 := Lib.hid (below_step HB.out hb)
      clear hb
      go_wp2_with (go_at_call 101; refine (HW.out _).mono ?_; rintro e w' ⟨rfl, rfl⟩)
      go_ret
      exact ⟨ret_int (givenW_no2 H2.out).symm, HB1.out⟩
  · have h1' : okW r = false := by simpa using h1
    have H1 := Lib.hid h1'
    clear h1
    go_enter Try.func87, Try.ntmps87
    go_wp2_with fail
    refine (HV.out _ HB.out).mono ?_
    rintro e w1 ⟨rfl, hb⟩
    have HB1 := Lib.hid (below_step HB.out hb)
    clear hb
    go_wp2
    go_ret
    exact ⟨ret_int (givenW_no1 H1.out).symm, HB1.out⟩

set_option maxHeartbeats 800000 in
theorem l04Under_any (L : Int) (s : ByteArray) (a : Nat) (w : World) (h1 : 1 ≤ L) (h2 : L ≤ 3) (hs : s.size ≤ 60) (ha : a ≤ s.size + 1) (hl : lettersOk L s = true) :
    Calls Try.prog 119 #[.int .i64 L, .string s, .int .i64 (a : Int)] w fun e w' => e = .returned (.int .i64 (signN L s a)) ∧ w = w' := by
  by_cases e0 : a = 0
  · subst e0
    clear hl
    go_enter Try.func119, Try.ntmps119
    go_wp2
    go_ret
    exact ⟨ret_int (by simp [signN]), rfl⟩
  · by_cases e1 : a = s.size + 1
    · subst e1
      have d0 : (((s.size : Nat) : Int) + 1 == 0) = false := by simp; omega
      clear hl
      go_enter Try.func119, Try.ntmps119
      go_wp2
      go_ret
      exact ⟨ret_int (by simp [signN]), rfl⟩
    · obtain ⟨j, rfl⟩ : ∃ j, a = j + 1 := ⟨a - 1, by omega⟩
      have d0 : ((j : Int) + 1 == 0) = false := by simp; omega
      have i1 : (0 : Int) ≤ j := by omega
      have i2 : (j : Int) < s.size := by omega
      have i3 : ¬ (s.size : Int) < (j : Int) + 1 := by omega
      have hb := bytes_at s j (by omega)
      have hok : okLetter L (s[j]'(by omega)) = true := List.all_eq_true.1 hl _ (List.mem_of_getElem? hb)
      have HS := Lib.hid (show signN L s (j + 1) = ((s[j]'(by omega)).toNat : Int) - 97 by
        unfold signN; rw [if_neg e0, if_neg e1, show j + 1 - 1 = j by omega, hb]; rfl)
      simp only [okLetter, decide_eq_true_eq] at hok
      have b1 : 97 ≤ ((s[j]'(by omega)).toNat : Int) := by omega
      have b2 : ((s[j]'(by omega)).toNat : Int) ≤ 255 := by have := (s[j]'(by omega)).toNat_lt; omega
      clear e0 e1 hb hl hok
      go_enter Try.func119, Try.ntmps119
      go_wp2
      go_ret
      exact ⟨ret_int HS.out.symm, rfl⟩
end Go.Proofs.Ytdkalefepdlccaa
