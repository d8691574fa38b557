/-
  Texts of writers: the model's and the program's test of a text say the same ('textOk'); what a valid writer is.
-/
import Derived.Test.YtahgekjpnmmooaaKWr
import Derived.Test.YtahgekjpnmmooaaW1
import Derived.Test.YtahgekjpnmmooaaV2
namespace Go.Proofs.Ytahgekjpnmmooaa
open Go.RowKit

def textOk (x : ByteArray) : Bool := decide ((x.size : Int) ≤ 3) && lettersOk 3 x

theorem l07Text_any (x : ByteArray) (w : World) :
    Calls Try.prog 58 #[.string x] w fun e w' => e = .returned (.bool (textOk x)) ∧ w = w' := by
  by_cases h : (x.size : Int) ≤ 3
  · have d : decide ((x.size : Int) ≤ 3) = true := decide_eq_true h
    have HL := Lib.hid (l01Word_any 3 x w (by omega) (by omega) (by unfold maxLen; omega))
    have HE := Lib.hid (show textOk x = lettersOk 3 x by simp [textOk, d])
    go_enter Try.func58, Try.ntmps58
    go_wp2_with (go_at_call 81; refine HL.out.mono ?_; rintro e w' ⟨rfl, rfl⟩)
    go_ret
    exact ⟨ret_bool HE.out.symm, rfl⟩
  · have d : decide ((x.size : Int) ≤ 3) = false := decide_eq_false h
    have HE := Lib.hid (show textOk x = false by simp [textOk, d])
    go_enter Try.func58, Try.ntmps58
    go_wp2
    go_ret
    exact ⟨ret_bool HE.out.symm, rfl⟩

theorem isOut_any (x : ByteArray) (w : World) :
    Calls Try.prog 84 #[.string x] w fun e w' => e = .returned (.bool (textOk x)) ∧ w = w' := by
  by_cases h : (x.size : Int) ≤ 3
  · have d : decide ((x.size : Int) ≤ 3) = true := decide_eq_true h
    have HL := Lib.hid (implValidWord_any 3 x w (by unfold maxLen; omega))
    have HE := Lib.hid (show textOk x = okWord 3 x by
      have d2 : decide ((x.size : Int) ≤ 60) = true := decide_eq_true (by omega)
      simp [textOk, okWord, d, d2])
    go_enter Try.func84, Try.ntmps84
    go_wp2_with (go_at_call 96; refine HL.out.mono ?_; rintro e w' ⟨rfl, rfl⟩)
    go_ret
    exact ⟨ret_bool HE.out.symm, rfl⟩
  · have d : decide ((x.size : Int) ≤ 3) = false := decide_eq_false h
    have HE := Lib.hid (show textOk x = false by simp [textOk, d])
    go_enter Try.func84, Try.ntmps84
    go_wp2
    go_ret
    exact ⟨ret_bool HE.out.symm, rfl⟩

theorem areOuts1_any (x : ByteArray) (w : World) :
    Calls Try.prog 83 #[.string x] w fun e w' => e = .returned (.bool (!textOk x)) ∧ w = w' := by
  go_enter Try.func83, Try.ntmps83
  go_wp2_with (go_at_call 84; refine (isOut_any _ _).mono ?_; rintro e w' ⟨rfl, rfl⟩)
  go_ret
  exact ⟨rfl, rfl⟩

theorem any_take_succW {α : Type} {p : α → Bool} {l : List α} {k : Nat} {c : α} (h : (l.take k).any p = false) (hc : l[k]? = some c) (hp : p c = false) : (l.take (k + 1)).any p = false := by
  rw [take_succ_of hc, List.any_append, h]; simp [hp]
theorem any_yesW {α : Type} {p : α → Bool} {l : List α} {k : Nat} {c : α} (hc : l[k]? = some c) (hp : p c = true) : l.any p = true := by
  rw [List.any_eq_true]; exact ⟨c, List.mem_of_getElem? hc, hp⟩

set_option maxHeartbeats 800000 in
theorem idxOuts_any (v : Value) (xs : List ByteArray) (w : World) (h : RdS w v xs) :
    Calls Try.prog 95 #[v, .func (.func 83) #[] #[]] w fun e w' => (∃ n : Int, e = .returned (.int .i64 n) ∧ decide (0 ≤ n) = xs.any (fun x => !textOk x)) ∧ w = w' := by
  obtain ⟨A, cap, rfl, h1, h2, h3⟩ := RdS.open h
  unfold maxLen at h2
  clear h
  go_enter Try.func95, Try.ntmps95
  go_wp2
  go_loop [8] (fun i => ∃ k : Nat, k ≤ xs.length ∧ i = .int .i64 k ∧ (xs.take k).any (fun x => !textOk x) = false) (fun i => xs.length - (intOf i).toNat)
  case atStart => exact ⟨0, Nat.zero_le _, rfl, by simp⟩
  case round =>
    obtain ⟨k, hk, rfl, hp⟩ := hrel
    have HP := Lib.hid hp; clear hp
    by_cases hlt : k < xs.length
    · obtain ⟨b, off, x, rfl, hx, hc⟩ := h3 k hlt
      have HC := Lib.hid (areOuts1_any x w)
      have HX := Lib.hid hx
      have i1 : (0 : Int) ≤ k := by omega
      have i2 : (k : Int) < xs.length := by omega
      clear h3 hx
      obtain ⟨y, hy⟩ : ∃ y, (!textOk x) = y := ⟨_, rfl⟩
      rw [hy] at HC
      have HY := Lib.hid hy; clear hy
      cases y
      · go_wp2_with (go_at_call 83; refine HC.out.mono ?_; rintro e w1 ⟨rfl, rfl⟩)
        go_round
        case rel => exact ⟨k + 1, by omega, by go_num, any_take_succW HP.out HX.out HY.out⟩
        case measure => simp [intOf]; omega
      · go_wp2_with (go_at_call 83; refine HC.out.mono ?_; rintro e w1 ⟨rfl, rfl⟩)
        go_ret
        exact ⟨⟨_, rfl, by rw [any_yesW (p := fun x => !textOk x) HX.out HY.out]; simp⟩, rfl⟩
    · clear h3
      go_wp2
      go_ret
      exact ⟨⟨_, rfl, by have := HP.out; rw [List.take_of_length_le (by omega)] at this; rw [this]; decide⟩, rfl⟩

set_option maxHeartbeats 800000 in
theorem hasOuts_any (v : Value) (xs : List ByteArray) (w : World) (h : RdS w v xs) :
    Calls Try.prog 82 #[v, .func (.func 83) #[] #[]] w fun e w' => e = .returned (.bool (xs.any (fun x => !textOk x))) ∧ w = w' := by
  have HI := Lib.hid (idxOuts_any v xs w h)
  obtain ⟨A, cap, rfl, -⟩ := RdS.open h
  clear h
  go_enter Try.func82, Try.ntmps82
  go_wp2_with fail
  refine HI.out.mono ?_
  rintro e w1 ⟨⟨n, rfl, hn⟩, rfl⟩
  have HN := Lib.hid hn
  clear HI hn
  go_wp2
  go_ret
  exact ⟨ret_bool HN.out, rfl⟩

theorem any_not_allW {α : Type} (p : α → Bool) (xs : List α) : (!xs.any fun x => !p x) = xs.all p := by
  induction xs with
  | nil => rfl
  | cons x r ih => simp only [List.any_cons, List.all_cons, Bool.not_or, ih, Bool.not_not]

def textsOk (xs : List ByteArray) : Bool := xs.all textOk

theorem areOuts_any (v : Value) (xs : List ByteArray) (w : World) (h : RdS w v xs) :
    Calls Try.prog 60 #[v] w fun e w' => e = .returned (.bool (textsOk xs)) ∧ w = w' := by
  have HI := Lib.hid (hasOuts_any v xs w h)
  obtain ⟨A, cap, rfl, -⟩ := RdS.open h
  clear h
  go_enter Try.func60, Try.ntmps60
  go_wp2_with fail
  refine HI.out.mono ?_
  rintro e w1 ⟨rfl, rfl⟩
  go_wp2
  go_ret
  exact ⟨ret_bool (any_not_allW textOk xs), rfl⟩

def okRowWr (L : Int) (x : List ByteArray) : Bool := decide ((x.length : Int) = L + 2) && textsOk x
def okWr (r : WrData) : Bool := okT r.t && (decide ((r.out.length : Int) = r.mv.length) && r.out.all (okRowWr r.L))

theorem okWr_row {r : WrData} {s : Nat} {x : List ByteArray} (h : r.out[s]? = some x) (d : okRowWr r.L x = false) : okWr r = false := by
  have : r.out.all (okRowWr r.L) = false := by
    rw [List.all_eq_false]
    exact ⟨x, List.mem_of_getElem? h, by simp [d]⟩
  simp only [okWr, this, Bool.and_false]
theorem okWr_all {r : WrData} (h1 : okT r.t = true) (h2 : (r.out.length : Int) = r.mv.length) (h3 : r.out.all (okRowWr r.L) = true) : okWr r = true := by
  simp [okWr, h1, h2, h3]
end Go.Proofs.Ytahgekjpnmmooaa
