/-
  The code of a turner and a word; signs and deeds of the program.
-/
import Derived.Test.YtidnohgjbbnadaaSt1
namespace Go.Proofs.Ytidnohgjbbnadaa
open Go.RowKit

def givenC (t : TData) (s : ByteArray) : Int := if okT t = true ∧ okWord t.L s = true then 0 else 1
theorem givenC_yes {t : TData} {s : ByteArray} (h : okT t = true) (k : okWord t.L s = true) : givenC t s = 0 := by simp [givenC, h, k]
theorem givenC_no1 {t : TData} {s : ByteArray} (h : okT t = false) : givenC t s = 1 := by simp [givenC, h]
theorem givenC_no2 {t : TData} {s : ByteArray} (h : okWord t.L s = false) : givenC t s = 1 := by simp [givenC, h]

theorem countCells_any (s : ByteArray) (w : World) (hs : s.size ≤ 60) :
    Calls Try.prog 119 #[.string s] w fun e w' => e = .returned (.int .i64 ((s.size : Int) + 2)) ∧ w = w' := by
  go_enter Try.func119, Try.ntmps119
  go_wp2
  go_ret
  exact ⟨rfl, rfl⟩

def cellOk (a : Int) (s : ByteArray) : Bool := decide (0 ≤ a ∧ a < (s.size : Int) + 2)
set_option maxHeartbeats 800000 in
theorem signAt_any (L : Int) (s : ByteArray) (a : Nat) (w : World) (h1 : 1 ≤ L) (h2 : L ≤ 3) (hs : s.size ≤ 60) (ha : a ≤ s.size + 1) (hl : lettersOk L s = true) :
    Calls Try.prog 118 #[.int .i64 L, .string s, .int .i64 (a : Int)] w fun e w' => e = .returned (.int .i64 (signN L s a)) ∧ w = w' := by
  have HC := Lib.hid (fun W => countCells_any s W hs)
  by_cases e0 : a = 0
  · subst e0
    clear hl
    go_enter Try.func118, Try.ntmps118
    go_wp2_with (first | (go_at_call 43; refine (leftMark_any _ _).mono ?_; rintro e w' ⟨rfl, rfl⟩) | (go_at_call 119; refine (HC.out _).mono ?_; rintro e w' ⟨rfl, rfl⟩))
    go_ret
    exact ⟨ret_int (by simp [signN]), rfl⟩
  · by_cases e1 : a = s.size + 1
    · subst e1
      have d0 : (((s.size : Nat) : Int) + 1 == 0) = false := by simp; omega
      clear hl
      go_enter Try.func118, Try.ntmps118
      go_wp2_with (first | (go_at_call 44; refine (rightMark_any _ _ (by omega) (by omega)).mono ?_; rintro e w' ⟨rfl, rfl⟩) | (go_at_call 119; refine (HC.out _).mono ?_; rintro e w' ⟨rfl, rfl⟩))
      all_goals go_ret
      all_goals exact ⟨ret_int (by simp [signN]), rfl⟩
    · obtain ⟨j, rfl⟩ : ∃ j, a = j + 1 := ⟨a - 1, by omega⟩
      have d0 : ((j : Int) + 1 == 0) = false := by simp; omega
      have d1 : ((j : Int) + 1 == (s.size : Int) + 1) = false := by simp; omega
      have i1 : (0 : Int) ≤ j := by omega
      have i2 : (j : Int) < s.size := by omega
      have hb := bytes_at s j (by omega)
      have hok : okLetter L (s[j]'(by omega)) = true := List.all_eq_true.1 hl _ (List.mem_of_getElem? hb)
      have HS := Lib.hid (show signN L s (j + 1) = ((s[j]'(by omega)).toNat : Int) - 97 by
        unfold signN; rw [if_neg e0, if_neg e1, show j + 1 - 1 = j by omega, hb]; rfl)
      simp only [okLetter, decide_eq_true_eq] at hok
      have b2 : ((s[j]'(by omega)).toNat : Int) ≤ 255 := by have := (s[j]'(by omega)).toNat_lt; omega
      have HN := Lib.hid (fun W => letterNumber_any ((s[j]'(by omega)).toNat : Int) W (by omega) b2)
      clear e0 e1 hb hl
      go_enter Try.func118, Try.ntmps118
      go_wp2_with (first | (go_at_call 119; refine (HC.out _).mono ?_; rintro e w' ⟨rfl, rfl⟩) | (go_at_call 114; refine (HN.out _).mono ?_; rintro e w' ⟨rfl, rfl⟩))
      go_ret
      exact ⟨ret_int HS.out.symm, rfl⟩

end Go.Proofs.Ytidnohgjbbnadaa
