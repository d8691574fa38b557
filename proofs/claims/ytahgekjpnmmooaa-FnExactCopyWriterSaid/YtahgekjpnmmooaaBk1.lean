/-
  The writers that copy and that turn words: what their closures do and write; the letters of signs.
-/
import Derived.Test.YtahgekjpnmmooaaPs1
import Derived.Test.YtahgekjpnmmooaaV5
import Derived.Test.YtahgekjpnmmooaaTd1
import Derived.Laws.Runes
import Derived.Test.YtahgekjpnmmooaaZWr
namespace Go.Proofs.Ytahgekjpnmmooaa
open Go.RowKit

theorem isMarkW_any (L k : Int) (w : World) : Calls Try.prog 68 #[.int .i64 L, .int .i64 k] w fun e w' => e = .returned (.bool (decide (L ≤ k))) ∧ w = w' := by
  go_enter Try.func68, Try.ntmps68
  go_wp2
  go_ret
  exact ⟨rfl, rfl⟩

/-- The text of a sign: its letter, or nothing for a mark. -/
def signT (L k : Nat) : ByteArray := if L ≤ k then noT else letterT k
theorem encode_letter (k : Nat) (h : k ≤ 2) : Utf8.encode (97 + (k : Int)) = letterT k := by
  rcases k with _ | _ | _ | k
  · rfl
  · rfl
  · rfl
  · omega
theorem letterT_size (k : Nat) : (letterT k).size = 1 := by simp [letterT, strOfNums_size]
theorem signT_size (L k : Nat) : (signT L k).size ≤ 3 := by
  unfold signT
  split
  · decide
  · rw [letterT_size]; omega
theorem letterOf_any (L k : Nat) (w : World) (h : L ≤ 3) :
    Calls Try.prog 33 #[.int .i64 (L : Int), .int .i64 (k : Int)] w fun e w' => e = .returned (.string (signT L k)) ∧ w = w' := by
  have HM := Lib.hid (fun W => isMarkW_any (L : Int) (k : Int) W)
  by_cases h1 : L ≤ k
  · rw [decide_eq_true (show (L : Int) ≤ k by omega)] at HM
    have HE := Lib.hid (show signT L k = noT by rw [signT, if_pos h1])
    clear h1
    go_enter Try.func33, Try.ntmps33
    go_wp2_with (go_at_call 68; refine (HM.out _).mono ?_; rintro e w' ⟨rfl, rfl⟩)
    go_ret
    exact ⟨by rw [HE.out]; rfl, rfl⟩
  · rw [decide_eq_false (show ¬ (L : Int) ≤ k by omega)] at HM
    have HE := Lib.hid (show signT L k = Utf8.encode (97 + (k : Int)) by rw [signT, if_neg h1, encode_letter k (by omega)])
    have k0 : (0 : Int) ≤ k := by omega
    have k1 : (k : Int) ≤ 2 := by omega
    clear h1
    go_enter Try.func33, Try.ntmps33
    go_wp2_with (go_at_call 68; refine (HM.out _).mono ?_; rintro e w' ⟨rfl, rfl⟩)
    go_ret
    exact ⟨by rw [HE.out]; rfl, rfl⟩

/-- What the writer that turns words does and writes. -/
def backG (L q k : Nat) : Int × Int := if q = 0 then (if k = L + 1 then (1, -1) else (0, 1)) else if k = L then (-1, 0) else (1, -1)
def backO (L q k : Nat) : ByteArray := if q = 0 then noT else signT L k
theorem backG_deeded (L q k : Nat) : Deeded (backG L q k) := by
  unfold backG Deeded
  repeat' split
  all_goals simp
theorem backO_size (L q k : Nat) : (backO L q k).size ≤ 3 := by
  unfold backO
  split
  · decide
  · exact signT_size L k
theorem deedV_stopB : deedV (-1, 0) = .iface 63 (.agg #[.bool true]) := by simp [deedV, stopV]
theorem deedV_goB (x y : Int) (h : 0 ≤ x) : deedV (x, y) = .iface 61 (.agg #[.int .i64 x, .int .i64 y]) := by
  simp only [deedV, walkV]; rw [if_neg (by omega), if_neg (by omega)]

set_option maxHeartbeats 1600000 in
theorem backClosure_any (L q k p : Nat) (w : World) (hl : w.cell? ⟨p, 0, none⟩ = some (.int .i64 (L : Int))) (hL : L ≤ 3) (hq : q ≤ 1) :
    Calls Try.prog 28 #[.int .i64 (q : Int), .int .i64 (k : Int), .pointer (some ⟨p, 0, none⟩)] w fun e w' => e = .returned (deedV (backG L q k)) ∧ Below w.heap.size w w' := by
  have HR := Lib.hid (fun W => rightMark_any (L : Int) W (by omega) (by omega))
  have HM := Lib.hid (fun W => leftMark_any (L : Int) W)
  by_cases h0 : q = 0
  · subst h0
    by_cases h1 : k = L + 1
    · have e1 : ((k : Int) == (L : Int) + 1) = true := by rw [beq_iff_eq]; omega
      have HE := Lib.hid (show deedV (backG L 0 k) = .iface 61 (.agg #[.int .i64 1, .int .i64 (-1)]) by rw [backG, if_pos rfl, if_pos h1, deedV_goB _ _ (by omega)])
      clear h1
      go_enter Try.func28, Try.ntmps28
      go_wp2_with (go_at_call 29; refine (HR.out _).mono ?_; rintro e w' ⟨rfl, rfl⟩)
      go_ret
      exact ⟨by rw [HE.out]; rfl, Below.refl _ _⟩
    · have e1 : ((k : Int) == (L : Int) + 1) = false := by rw [beq_eq_false_iff_ne]; omega
      have HE := Lib.hid (show deedV (backG L 0 k) = .iface 61 (.agg #[.int .i64 0, .int .i64 1]) by rw [backG, if_pos rfl, if_neg h1, deedV_goB _ _ (by omega)])
      clear h1
      go_enter Try.func28, Try.ntmps28
      go_wp2_with (go_at_call 29; refine (HR.out _).mono ?_; rintro e w' ⟨rfl, rfl⟩)
      go_ret
      exact ⟨by rw [HE.out]; rfl, Below.refl _ _⟩
  · have e0 : ((q : Int) == 0) = false := by rw [beq_eq_false_iff_ne]; omega
    by_cases h1 : k = L
    · have e1 : ((k : Int) == (L : Int)) = true := by rw [beq_iff_eq]; omega
      have HE := Lib.hid (show deedV (backG L q k) = .iface 63 (.agg #[.bool true]) by rw [backG, if_neg h0, if_pos h1, deedV_stopB])
      clear h1 h0
      go_enter Try.func28, Try.ntmps28
      go_wp2_with (go_at_call 30; refine (HM.out _).mono ?_; rintro e w' ⟨rfl, rfl⟩)
      go_ret
      exact ⟨by rw [HE.out]; rfl, Below.refl _ _⟩
    · have e1 : ((k : Int) == (L : Int)) = false := by rw [beq_eq_false_iff_ne]; omega
      have HE := Lib.hid (show deedV (backG L q k) = .iface 61 (.agg #[.int .i64 1, .int .i64 (-1)]) by rw [backG, if_neg h0, if_neg h1, deedV_goB _ _ (by omega)])
      clear h1 h0
      go_enter Try.func28, Try.ntmps28
      go_wp2_with (go_at_call 30; refine (HM.out _).mono ?_; rintro e w' ⟨rfl, rfl⟩)
      go_ret
      exact ⟨by rw [HE.out]; rfl, Below.refl _ _⟩

set_option maxHeartbeats 1600000 in
theorem backText_any (L q k p : Nat) (w : World) (hl : w.cell? ⟨p, 0, none⟩ = some (.int .i64 (L : Int))) (hL : L ≤ 3) (hq : q ≤ 1) :
    Calls Try.prog 32 #[.int .i64 (q : Int), .int .i64 (k : Int), .pointer (some ⟨p, 0, none⟩)] w fun e w' => e = .returned (.string (backO L q k)) ∧ Below w.heap.size w w' := by
  have HL := Lib.hid (fun W => letterOf_any L k W hL)
  by_cases h0 : q = 0
  · subst h0
    have HE := Lib.hid (show backO L 0 k = noT by rw [backO, if_pos rfl])
    go_enter Try.func32, Try.ntmps32
    go_wp2
    go_ret
    exact ⟨by rw [HE.out]; rfl, Below.refl _ _⟩
  · have e0 : ((q : Int) == 0) = false := by rw [beq_eq_false_iff_ne]; omega
    have HE := Lib.hid (show backO L q k = signT L k by rw [backO, if_neg h0])
    clear h0
    go_enter Try.func32, Try.ntmps32
    go_wp2_with (go_at_call 33; refine (HL.out _).mono ?_; rintro e w' ⟨rfl, rfl⟩)
    go_ret
    exact ⟨by rw [HE.out]; rfl, Below.refl _ _⟩

theorem numT_table (L S : Int) (G : Nat → Nat → Int × Int) (c n : Nat) : numT ⟨L, S, tableOf G c n⟩ = n * (2 * c) := by
  unfold numT
  induction n with
  | zero => simp [numL, tableOf]
  | succ k ih => rw [tableOf_succ]; simp only [numL, List.map_append, List.sum_append] at ih ⊢; rw [ih]; simp [rowOf_len, Nat.add_mul]
theorem numSS_table (G : Nat → Nat → ByteArray) (c n : Nat) : numSS (outTable G c n) = n * c := by
  unfold numSS
  induction n with
  | zero => simp [numL, outTable]
  | succ k ih => rw [outTable_succ]; simp only [numL, List.map_append, List.sum_append] at ih ⊢; rw [ih]; simp [rowS_len, Nat.add_mul]

/-- The writer that turns words. -/
def backW (L : Nat) : WrData := ⟨(L : Int), 0, tableOf (backG L) (L + 2) 2, outTable (backO L) (L + 2) 2⟩
def backRes (L : Int) : WrData × Int := if 1 ≤ L ∧ L ≤ 3 then (backW L.toNat, 0) else (⟨0, 0, [], []⟩, 2)
theorem back_num (L : Int) : (numWr (backRes L).1 : Int) ≤ 2305843009213693952 := by
  unfold backRes
  split
  · rename_i h
    simp only [numWr, WrData.t, backW, numT_table, numSS_table]
    omega
  · simp [numWr, WrData.t, numT, numSS, numL]
end Go.Proofs.Ytahgekjpnmmooaa
