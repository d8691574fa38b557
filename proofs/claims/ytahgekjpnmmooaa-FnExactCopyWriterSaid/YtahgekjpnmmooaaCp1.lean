/-
  The writer that copies words: what its closures do and write.
-/
import Derived.Test.YtahgekjpnmmooaaBk1
namespace Go.Proofs.Ytahgekjpnmmooaa
open Go.RowKit

/-- What the writer that copies words does in the state q of S states, and what it writes. -/
def copyG (L S q k : Nat) : Int × Int :=
  if q % 2 = 0 ∧ k ≠ L + 1 then ((q : Int), 1) else if q + 1 = S then (-1, 0) else if q % 2 = 0 then ((q : Int) + 1, -1) else if k = L then ((q : Int) + 1, 1) else ((q : Int), -1)
def copyO (L q k : Nat) : ByteArray := if q % 2 = 0 then signT L k else noT
theorem copyG_deeded (L S q k : Nat) : Deeded (copyG L S q k) := by
  unfold copyG Deeded
  repeat' split
  all_goals simp
  all_goals omega
theorem copyO_size (L q k : Nat) : (copyO L q k).size ≤ 3 := by
  unfold copyO
  split
  · exact signT_size L k
  · decide

theorem copyEven_any (q : Nat) (w : World) (hq : q ≤ 12) :
    Calls Try.prog 41 #[.int .i64 (q : Int)] w fun e w' => e = .returned (.bool (decide (q % 2 = 0))) ∧ w = w' := by
  by_cases h : q % 2 = 0
  · have hb : ((q : Int) % 2 == 0) = true := by rw [beq_iff_eq]; omega
    have HD := Lib.hid (decide_eq_true h)
    have q0 : (0 : Int) ≤ q := by omega
    have q1 : (q : Int) ≤ 12 := by omega
    clear h
    go_enter Try.func41, Try.ntmps41
    go_wp2
    go_ret
    exact ⟨ret_bool HD.out.symm, rfl⟩
  · have hb : ((q : Int) % 2 == 0) = false := by rw [beq_eq_false_iff_ne]; omega
    have HD := Lib.hid (decide_eq_false h)
    have q0 : (0 : Int) ≤ q := by omega
    have q1 : (q : Int) ≤ 12 := by omega
    clear h
    go_enter Try.func41, Try.ntmps41
    go_wp2
    go_ret
    exact ⟨ret_bool HD.out.symm, rfl⟩

set_option maxHeartbeats 3200000 in
theorem copyClosure_any (L S q k pg pl ps : Nat) (w : World) (hg : w.cell? ⟨pg, 0, none⟩ = some (.func (.func 41) #[] #[])) (hl : w.cell? ⟨pl, 0, none⟩ = some (.int .i64 (L : Int))) (hs : w.cell? ⟨ps, 0, none⟩ = some (.int .i64 (S : Int))) (hL : L ≤ 3) (hq : q ≤ 12) (hS : S ≤ 12) (hS1 : 1 ≤ S) :
    Calls Try.prog 42 #[.int .i64 (q : Int), .int .i64 (k : Int), .pointer (some ⟨pg, 0, none⟩), .pointer (some ⟨pl, 0, none⟩), .pointer (some ⟨ps, 0, none⟩)] w fun e w' => e = .returned (deedV (copyG L S q k)) ∧ Below w.heap.size w w' := by
  have HR := Lib.hid (fun W => rightMark_any (L : Int) W (by omega) (by omega))
  have HM := Lib.hid (fun W => leftMark_any (L : Int) W)
  have HE := Lib.hid (fun W => copyEven_any q W hq)
  have q0 : (0 : Int) ≤ q := by omega
  have q1 : (q : Int) ≤ 12 := by omega
  have s0 : (1 : Int) ≤ S := by omega
  have s1 : (S : Int) ≤ 12 := by omega
  by_cases h0 : q % 2 = 0
  · rw [decide_eq_true h0] at HE
    by_cases h1 : k = L + 1
    · have e1 : ((k : Int) != (L : Int) + 1) = false := by rw [bne_eq_false_iff_eq]; omega
      by_cases h2 : q + 1 = S
      · have e2 : ((q : Int) == (S : Int) - 1) = true := by rw [beq_iff_eq]; omega
        have HV := Lib.hid (show deedV (copyG L S q k) = .iface 63 (.agg #[.bool true]) by rw [copyG, if_neg (by omega), if_pos h2, deedV_stopB])
        clear h0 h1 h2
        go_enter Try.func42, Try.ntmps42
        go_wp2_with (first | (go_at_call 41; refine (HE.out _).mono ?_; rintro e w' ⟨rfl, rfl⟩) | (go_at_call 29; refine (HR.out _).mono ?_; rintro e w' ⟨rfl, rfl⟩))
        go_ret
        exact ⟨by rw [HV.out]; rfl, Below.refl _ _⟩
      · have e2 : ((q : Int) == (S : Int) - 1) = false := by rw [beq_eq_false_iff_ne]; omega
        have HV := Lib.hid (show deedV (copyG L S q k) = .iface 61 (.agg #[.int .i64 ((q : Int) + 1), .int .i64 (-1)]) by rw [copyG, if_neg (by omega), if_neg h2, if_pos h0, deedV_goB _ _ (by omega)])
        clear h0 h1 h2
        go_enter Try.func42, Try.ntmps42
        go_wp2_with (first | (go_at_call 41; refine (HE.out _).mono ?_; rintro e w' ⟨rfl, rfl⟩) | (go_at_call 29; refine (HR.out _).mono ?_; rintro e w' ⟨rfl, rfl⟩))
        go_ret
        exact ⟨by rw [HV.out]; rfl, Below.refl _ _⟩
    · have e1 : ((k : Int) != (L : Int) + 1) = true := by rw [bne_iff_ne]; omega
      have HV := Lib.hid (show deedV (copyG L S q k) = .iface 61 (.agg #[.int .i64 (q : Int), .int .i64 1]) by rw [copyG, if_pos ⟨h0, h1⟩, deedV_goB _ _ (by omega)])
      clear h0 h1
      go_enter Try.func42, Try.ntmps42
      go_wp2_with (first | (go_at_call 41; refine (HE.out _).mono ?_; rintro e w' ⟨rfl, rfl⟩) | (go_at_call 29; refine (HR.out _).mono ?_; rintro e w' ⟨rfl, rfl⟩))
      go_ret
      exact ⟨by rw [HV.out]; rfl, Below.refl _ _⟩
  · rw [decide_eq_false h0] at HE
    by_cases h2 : q + 1 = S
    · have e2 : ((q : Int) == (S : Int) - 1) = true := by rw [beq_iff_eq]; omega
      have HV := Lib.hid (show deedV (copyG L S q k) = .iface 63 (.agg #[.bool true]) by rw [copyG, if_neg (by omega), if_pos h2, deedV_stopB])
      clear h0 h2
      go_enter Try.func42, Try.ntmps42
      go_wp2_with (go_at_call 41; refine (HE.out _).mono ?_; rintro e w' ⟨rfl, rfl⟩)
      go_ret
      exact ⟨by rw [HV.out]; rfl, Below.refl _ _⟩
    · have e2 : ((q : Int) == (S : Int) - 1) = false := by rw [beq_eq_false_iff_ne]; omega
      by_cases h1 : k = L
      · have e1 : ((k : Int) == (L : Int)) = true := by rw [beq_iff_eq]; omega
        have HV := Lib.hid (show deedV (copyG L S q k) = .iface 61 (.agg #[.int .i64 ((q : Int) + 1), .int .i64 1]) by rw [copyG, if_neg (by omega), if_neg h2, if_neg h0, if_pos h1, deedV_goB _ _ (by omega)])
        clear h0 h1 h2
        go_enter Try.func42, Try.ntmps42
        go_wp2_with (first | (go_at_call 41; refine (HE.out _).mono ?_; rintro e w' ⟨rfl, rfl⟩) | (go_at_call 30; refine (HM.out _).mono ?_; rintro e w' ⟨rfl, rfl⟩))
        go_ret
        exact ⟨by rw [HV.out]; rfl, Below.refl _ _⟩
      · have e1 : ((k : Int) == (L : Int)) = false := by rw [beq_eq_false_iff_ne]; omega
        have HV := Lib.hid (show deedV (copyG L S q k) = .iface 61 (.agg #[.int .i64 (q : Int), .int .i64 (-1)]) by rw [copyG, if_neg (by omega), if_neg h2, if_neg h0, if_neg h1, deedV_goB _ _ (by omega)])
        clear h0 h1 h2
        go_enter Try.func42, Try.ntmps42
        go_wp2_with (first | (go_at_call 41; refine (HE.out _).mono ?_; rintro e w' ⟨rfl, rfl⟩) | (go_at_call 30; refine (HM.out _).mono ?_; rintro e w' ⟨rfl, rfl⟩))
        go_ret
        exact ⟨by rw [HV.out]; rfl, Below.refl _ _⟩

set_option maxHeartbeats 1600000 in
theorem copyText_any (L q k pg pl : Nat) (w : World) (hg : w.cell? ⟨pg, 0, none⟩ = some (.func (.func 41) #[] #[])) (hl : w.cell? ⟨pl, 0, none⟩ = some (.int .i64 (L : Int))) (hL : L ≤ 3) (hq : q ≤ 12) :
    Calls Try.prog 43 #[.int .i64 (q : Int), .int .i64 (k : Int), .pointer (some ⟨pg, 0, none⟩), .pointer (some ⟨pl, 0, none⟩)] w fun e w' => e = .returned (.string (copyO L q k)) ∧ Below w.heap.size w w' := by
  have HL := Lib.hid (fun W => letterOf_any L k W hL)
  have HE := Lib.hid (fun W => copyEven_any q W hq)
  by_cases h0 : q % 2 = 0
  · rw [decide_eq_true h0] at HE
    have HV := Lib.hid (show copyO L q k = signT L k by rw [copyO, if_pos h0])
    clear h0
    go_enter Try.func43, Try.ntmps43
    go_wp2_with (first | (go_at_call 41; refine (HE.out _).mono ?_; rintro e w' ⟨rfl, rfl⟩) | (go_at_call 33; refine (HL.out _).mono ?_; rintro e w' ⟨rfl, rfl⟩))
    go_ret
    exact ⟨by rw [HV.out]; rfl, Below.refl _ _⟩
  · rw [decide_eq_false h0] at HE
    have HV := Lib.hid (show copyO L q k = noT by rw [copyO, if_neg h0])
    clear h0
    go_enter Try.func43, Try.ntmps43
    go_wp2_with (go_at_call 41; refine (HE.out _).mono ?_; rintro e w' ⟨rfl, rfl⟩)
    go_ret
    exact ⟨by rw [HV.out]; rfl, Below.refl _ _⟩

/-- The writer that copies words, with S states. -/
def copyW (L S : Nat) : WrData := ⟨(L : Int), 0, tableOf (copyG L S) (L + 2) S, outTable (copyO L) (L + 2) S⟩
def copyRes (L t : Int) : WrData × Int := if (1 ≤ L ∧ L ≤ 3) ∧ 1 ≤ t then (if t ≤ 6 then (copyW L.toNat (2 * t - 1).toNat, 0) else (⟨0, 0, [], []⟩, 3)) else (⟨0, 0, [], []⟩, 2)
theorem copy_num (L t : Int) : (numWr (copyRes L t).1 : Int) ≤ 2305843009213693952 := by
  unfold copyRes
  split
  · rename_i h
    split
    · simp only [numWr, WrData.t, copyW, numT_table, numSS_table]
      have h1 : (2 * t - 1).toNat * (2 * (L.toNat + 2)) ≤ 11 * 10 := Nat.mul_le_mul (by omega) (by omega)
      have h2 : (2 * t - 1).toNat * (L.toNat + 2) ≤ 11 * 5 := Nat.mul_le_mul (by omega) (by omega)
      omega
    · simp [numWr, WrData.t, numT, numSS, numL]
  · simp [numWr, WrData.t, numT, numSS, numL]
end Go.Proofs.Ytahgekjpnmmooaa
