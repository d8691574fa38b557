/-
  Words: the model's and the program's test of a word say the same ('okWord').
-/
import Derived.Test.YtdkalefepdlccaaT6
import Derived.Test.YtdkalefepdlccaaT7
namespace Go.Proofs.Ytdkalefepdlccaa
open Go.RowKit

def okLetter (L : Int) (c : UInt8) : Bool := decide (0 ≤ (c.toNat : Int) - 97 ∧ (c.toNat : Int) - 97 ≤ L - 1)
def lettersOk (L : Int) (s : ByteArray) : Bool := s.data.toList.all (okLetter L)
def okWord (L : Int) (s : ByteArray) : Bool := decide (1 ≤ L ∧ L ≤ 3) && (decide ((s.size : Int) ≤ 60) && lettersOk L s)

theorem bytes_at (s : ByteArray) (k : Nat) (h : k < s.size) : s.data.toList[k]? = some s[k] := by
  have h' : k < s.data.toList.length := by simpa using h
  rw [List.getElem?_eq_getElem h']; rfl

theorem all_take_succ {p : UInt8 → Bool} {l : List UInt8} {k : Nat} {c : UInt8} (h : (l.take k).all p = true) (hc : l[k]? = some c) (hp : p c = true) : (l.take (k + 1)).all p = true := by
  rw [take_succ_of hc, List.all_append, h]; simp [hp]
theorem all_not {p : UInt8 → Bool} {l : List UInt8} {k : Nat} {c : UInt8} (hc : l[k]? = some c) (hp : p c = false) : l.all p = false := by
  rw [List.all_eq_false]; exact ⟨c, List.mem_of_getElem? hc, by simp [hp]⟩

set_option maxHeartbeats 400000 in
theorem l01Word_any (L : Int) (s : ByteArray) (w : World) (h1 : 1 ≤ L) (h2 : L ≤ 3) (hs : s.size ≤ maxLen) :
    Calls Try.prog 128 #[.int .i64 L, .string s] w fun e w' => e = .returned (.bool (lettersOk L s)) ∧ w = w' := by
  unfold maxLen at hs
  go_enter Try.func128, Try.ntmps128
  go_wp2
  go_loop [5] (fun i => ∃ k : Nat, k ≤ s.size ∧ i = .int .i64 k ∧ (s.data.toList.take k).all (okLetter L) = true) (fun i => s.size - (intOf i).toNat)
  case atStart => exact ⟨0, Nat.zero_le _, rfl, by simp⟩
  case round =>
    obtain ⟨k, hk, rfl, hp⟩ := hrel
    have HP := Lib.hid hp; clear hp
    by_cases hlt : k < s.size
    · have HC := Lib.hid (bytes_at s k hlt)
      have i1 : (0 : Int) ≤ k := by omega
      have i2 : (k : Int) < s.size := by omega
      have b1 : 0 ≤ (s[k].toNat : Int) := by omega
      have b2 : (s[k].toNat : Int) ≤ 255 := by have := s[k].toNat_lt; omega
      by_cases hin : okLetter L s[k] = true
      · have d : within ((s[k].toNat : Int) - 97) 0 (L - 1) = true := hin
        have HD := Lib.hid hin
        clear hin
        go_wp2_with (go_at_call 118; refine (l00In_w _ _ _ _).mono ?_; rintro e w' ⟨rfl, rfl⟩)
        go_round
        case rel => exact ⟨k + 1, by omega, by go_num, all_take_succ HP.out HC.out HD.out⟩
        case measure => simp [intOf]; omega
      · have hin' : okLetter L s[k] = false := by simpa using hin
        have d : within ((s[k].toNat : Int) - 97) 0 (L - 1) = false := hin'
        have HD := Lib.hid hin'
        clear hin hin'
        go_wp2_with (go_at_call 118; refine (l00In_w _ _ _ _).mono ?_; rintro e w' ⟨rfl, rfl⟩)
        go_ret
        exact ⟨ret_bool (show _ = lettersOk L s from (all_not HC.out HD.out).symm), rfl⟩
    · go_wp2
      go_ret
      exact ⟨ret_bool (show _ = lettersOk L s by have := HP.out; rw [List.take_of_length_le (by simp; omega)] at this; exact this.symm), rfl⟩

theorem specValidWord_any (L : Int) (s : ByteArray) (w : World) (hs : s.size ≤ maxLen) :
    Calls Try.prog 98 #[.int .i64 L, .string s] w fun e w' => e = .returned (.bool (okWord L s)) ∧ w = w' := by
  unfold maxLen at hs
  by_cases h1 : 1 ≤ L ∧ L ≤ 3
  · have d1 : decide (1 ≤ L ∧ L ≤ 3) = true := by simpa using h1
    by_cases h2 : (s.size : Int) ≤ 60
    · have d2 : decide ((s.size : Int) ≤ 60) = true := by simpa using h2
      have HW := Lib.hid (l01Word_any L s w h1.1 h1.2 (by unfold maxLen; omega))
      have HD := Lib.hid (show _ ∧ _ from ⟨d1, d2⟩)
      clear h1
      go_enter Try.func98, Try.ntmps98
      go_wp2_with (first | (go_at_call 118; refine (l00In_any _ _ _ _).mono ?_; rintro e w' ⟨rfl, rfl⟩) | (go_at_call 128; refine HW.out.mono ?_; rintro e w' ⟨rfl, rfl⟩))
      go_ret
      exact ⟨ret_bool (by simp only [okWord, HD.out.1, HD.out.2, Bool.true_and]), rfl⟩
    · have d2 : decide ((s.size : Int) ≤ 60) = false := by simpa using h2
      have HD := Lib.hid (show _ ∧ _ from ⟨d1, d2⟩)
      clear h1
      go_enter Try.func98, Try.ntmps98
      go_wp2_with (go_at_call 118; refine (l00In_any _ _ _ _).mono ?_; rintro e w' ⟨rfl, rfl⟩)
      go_ret
      exact ⟨ret_bool (by simp only [okWord, HD.out.1, HD.out.2, Bool.true_and, Bool.false_and]), rfl⟩
  · have d1 : decide (1 ≤ L ∧ L ≤ 3) = false := by simpa using h1
    have HD := Lib.hid d1
    clear h1
    go_enter Try.func98, Try.ntmps98
    go_wp2_with (go_at_call 118; refine (l00In_any _ _ _ _).mono ?_; rintro e w' ⟨rfl, rfl⟩)
    go_ret
    exact ⟨ret_bool (by simp only [okWord, HD.out, Bool.false_and]), rfl⟩

theorem letterNumber_any (c : Int) (w : World) (h0 : 97 ≤ c) (h1 : c ≤ 255) :
    Calls Try.prog 134 #[.int .u8 c] w fun e w' => e = .returned (.int .i64 (c - 97)) ∧ w = w' := by
  go_enter Try.func134, Try.ntmps134
  go_wp2
  go_ret
  exact ⟨rfl, rfl⟩

set_option maxHeartbeats 400000 in
theorem implValidWord_any (L : Int) (s : ByteArray) (w : World) (hs : s.size ≤ maxLen) :
    Calls Try.prog 101 #[.int .i64 L, .string s] w fun e w' => e = .returned (.bool (okWord L s)) ∧ w = w' := by
  unfold maxLen at hs
  by_cases h1 : 1 ≤ L ∧ L ≤ 3
  · have d1 : decide (1 ≤ L ∧ L ≤ 3) = true := by simpa using h1
    obtain ⟨l1, l2⟩ := h1
    by_cases h2 : (s.size : Int) ≤ 60
    · have d2 : decide (60 < (s.size : Int)) = false := by simpa using h2
      have d2' : decide ((s.size : Int) ≤ 60) = true := by simpa using h2
      have HD := Lib.hid (show _ ∧ _ from ⟨d1, d2'⟩)
      clear d2'
      go_enter Try.func101, Try.ntmps101
      go_wp2_with (go_at_call 130; refine (validLetters_any _ _).mono ?_; rintro e w' ⟨rfl, rfl⟩)
      go_loop [16] (fun i => ∃ k : Nat, k ≤ s.size ∧ i = .int .i64 k ∧ (s.data.toList.take k).all (okLetter L) = true) (fun i => s.size - (intOf i).toNat)
      case atStart => exact ⟨0, Nat.zero_le _, rfl, by simp⟩
      case round =>
        obtain ⟨k, hk, rfl, hp⟩ := hrel
        have HP := Lib.hid hp; clear hp
        by_cases hlt : k < s.size
        · have HC := Lib.hid (bytes_at s k hlt)
          have i1 : (0 : Int) ≤ k := by omega
          have i2 : (k : Int) < s.size := by omega
          have b2 : (s[k].toNat : Int) ≤ 255 := by have := s[k].toNat_lt; omega
          by_cases g1 : (s[k].toNat : Int) < 97
          · have e1 : decide ((s[k].toNat : Int) < 97) = true := by simpa using g1
            have HD2 := Lib.hid (show okLetter L s[k] = false by simp [okLetter]; omega)
            go_wp2_with (go_at_call 134; refine (letterNumber_any _ _ (by omega) (by omega)).mono ?_; rintro e w' ⟨rfl, rfl⟩)
            go_ret
            exact ⟨ret_bool (by simp only [okWord, lettersOk, all_not HC.out HD2.out, Bool.and_false]), rfl⟩
          · have e1 : decide ((s[k].toNat : Int) < 97) = false := by simpa using g1
            have g1' : 97 ≤ (s[k].toNat : Int) := by omega
            by_cases g2 : L ≤ (s[k].toNat : Int) - 97
            · have e2 : decide (L ≤ (s[k].toNat : Int) - 97) = true := by simpa using g2
              have HD2 := Lib.hid (show okLetter L s[k] = false by simp [okLetter]; omega)
              go_wp2_with (go_at_call 134; refine (letterNumber_any _ _ (by omega) (by omega)).mono ?_; rintro e w' ⟨rfl, rfl⟩)
              go_ret
              exact ⟨ret_bool (by simp only [okWord, lettersOk, all_not HC.out HD2.out, Bool.and_false]), rfl⟩
            · have e2 : decide (L ≤ (s[k].toNat : Int) - 97) = false := by simpa using g2
              have HD2 := Lib.hid (show okLetter L s[k] = true by simp [okLetter]; omega)
              go_wp2_with (go_at_call 134; refine (letterNumber_any _ _ (by omega) (by omega)).mono ?_; rintro e w' ⟨rfl, rfl⟩)
              go_round
              case rel => exact ⟨k + 1, by omega, by go_num, all_take_succ HP.out HC.out HD2.out⟩
              case measure => simp [intOf]; omega
        · go_wp2
          go_ret
          exact ⟨ret_bool (by have := HP.out; rw [List.take_of_length_le (by simp; omega)] at this; simp only [okWord, lettersOk, this, HD.out.1, HD.out.2, Bool.and_self]), rfl⟩
    · have d2 : decide (60 < (s.size : Int)) = true := by simpa using h2
      have HD := Lib.hid (show decide ((s.size : Int) ≤ 60) = false by simpa using h2)
      go_enter Try.func101, Try.ntmps101
      go_wp2_with (go_at_call 130; refine (validLetters_any _ _).mono ?_; rintro e w' ⟨rfl, rfl⟩)
      go_ret
      exact ⟨ret_bool (by simp only [okWord, HD.out, Bool.false_and, Bool.and_false]), rfl⟩
  · have d1 : decide (1 ≤ L ∧ L ≤ 3) = false := by simpa using h1
    have HD := Lib.hid d1
    clear h1
    go_enter Try.func101, Try.ntmps101
    go_wp2_with (go_at_call 130; refine (validLetters_any _ _).mono ?_; rintro e w' ⟨rfl, rfl⟩)
    go_ret
    exact ⟨ret_bool (by simp only [okWord, HD.out, Bool.false_and]), rfl⟩
end Go.Proofs.Ytdkalefepdlccaa
