/-
  Crossing sequences: the model's answer; the longest one, by the program and by the model.
-/
import Derived.Test.YtdkalefepdlccaaCr4
namespace Go.Proofs.Ytdkalefepdlccaa
open Go.RowKit

set_option maxRecDepth 100000 in
theorem specCrossings_any (v : Value) (t : TData) (s : ByteArray) (w : World) (h : RdT w v t) (hs : s.size ≤ maxLen) :
    Calls Try.prog 35 #[v, .string s] w fun e w' => ∃ u bs, e = .returned (.tuple #[u, .int .i64 (crossRes t s).2]) ∧ OwL (OwV ints 2) 42 w' w.heap.size u (crossRes t s).1 bs ∧ Below w.heap.size w w' := by
  obtain ⟨vm, rfl, hA⟩ := atT_box h 31
  have HG := Lib.hid (l04Crossings_own _ t s _ hA hs)
  have HB := Lib.hid (below_alloc w (.cells #[.int .i64 t.L, .int .i64 t.S, vm] 31))
  clear h hA
  go_enter Try.func35, Try.ntmps35
  go_wp2_with fail
  refine HG.out.mono ?_
  rintro e w1 ⟨u, bs, rfl, hu, hb1⟩
  have HU := Lib.hid hu
  have HB1 := Lib.hid hb1
  clear hu hb1
  go_wp2
  refine bodyPost_ret (v := .tuple #[u, .int .i64 (crossRes t s).2]) (by simp [results, Try.results35, go_sem]) rfl ?_
  exact ⟨_, _, rfl, (goodL (goodV ints 2) 42).mono HU.out HB.out.size, below_step HB.out HB1.out⟩
theorem specCrossings_rd (v : Value) (t : TData) (s : ByteArray) (w : World) (h : RdT w v t) (hs : s.size ≤ maxLen) :
    Calls Try.prog 35 #[v, .string s] w fun e w' => ∃ u, e = .returned (.tuple #[u, .int .i64 (crossRes t s).2]) ∧ RdII w' u (crossRes t s).1 ∧ Below w.heap.size w w' :=
  (specCrossings_any v t s w h hs).mono fun e w' ⟨u, bs, he, hO, hb⟩ => ⟨u, he, OwL.rd (fun h => h.1.rd) hO, hb⟩

def longN (xs : List (List Int)) : Nat → Nat
  | 0 => 0
  | k + 1 => max (longN xs k) (xs.getD k []).length
def longRes (t : TData) (s : ByteArray) : Int × Int := ((longN (crossRes t s).1 (crossRes t s).1.length : Nat), (crossRes t s).2)
theorem longN_succ {xs : List (List Int)} {k : Nat} {x : List Int} (h : xs[k]? = some x) : longN xs (k + 1) = max (longN xs k) x.length := by
  rw [longN, List.getD_eq_getElem?_getD, h]; rfl
theorem longN_bound {xs : List (List Int)} (h : ∀ x ∈ xs, x.length ≤ 745) (k : Nat) : longN xs k ≤ 745 := by
  induction k with
  | zero => simp [longN]
  | succ k ih =>
    rw [longN]
    have : (xs.getD k []).length ≤ 745 := by
      rw [List.getD_eq_getElem?_getD]
      cases hx : xs[k]? with
      | none => simp
      | some x => exact h x (List.mem_of_getElem? hx)
    omega
theorem crossRes_or (t : TData) (s : ByteArray) : ((crossRes t s).2 = 0 ∧ (∀ x ∈ (crossRes t s).1, x.length ≤ 745) ∧ (crossRes t s).1.length ≤ 61) ∨ ((crossRes t s).1 = [] ∧ ((crossRes t s).2 = 1 ∨ (crossRes t s).2 = 4)) := by
  unfold crossRes
  split
  · rename_i hg
    split
    · exact .inr ⟨rfl, .inr rfl⟩
    · refine .inl ⟨rfl, fun x hx => ?_, ?_⟩
      · obtain ⟨i, hi⟩ := List.mem_iff_getElem?.1 hx
        have := crossN_le t s hg i
        rw [List.getD_eq_getElem?_getD, hi] at this
        simpa using this
      · have := (okWord_parts (givenC_zero hg).2).1
        rw [crossN_len]
        omega
  · exact .inr ⟨rfl, .inl rfl⟩

set_option maxRecDepth 100000 in
set_option maxHeartbeats 1600000 in
theorem implLongest_any (v : Value) (t : TData) (s : ByteArray) (w : World) (h : RdT w v t) (hs : s.size ≤ maxLen) :
    Calls Try.prog 41 #[v, .string s] w fun e w' => e = .returned (.tuple #[.int .i64 (longRes t s).1, .int .i64 (longRes t s).2]) ∧ Below w.heap.size w w' := by
  have HG := Lib.hid (fun W (hb : Below w.heap.size w W) => implCrossings_own v t s W (keepsT _ _ _ _ h hb) hs)
  obtain ⟨A, c, rfl⟩ := h.shape
  have HB := Lib.hid (below_alloc w (.cells #[.int .i64 t.L, .int .i64 t.S, .slice A t.mv.length c] 31))
  have HOR := Lib.hid (crossRes_or t s)
  clear h
  unfold longRes
  generalize crossRes t s = rr at *
  obtain ⟨xs, cd⟩ := rr
  simp only at *
  go_enter Try.func41, Try.ntmps41
  go_wp2_with fail
  refine (HG.out _ HB.out).mono ?_
  rintro e w1 ⟨u, bs, rfl, hu, hb1⟩
  have HB1 := Lib.hid (below_step HB.out hb1)
  have hrd : RdL RdI w1 u xs := OwL.rd (fun h => h.1.rd) hu
  clear hb1 hu
  obtain ⟨B, cap, rfl, h1, h2, h3⟩ := hrd.open
  unfold maxLen at h2
  have hbd : xs.length ≤ 61 ∧ ∀ k, longN xs k ≤ 745 := by
    rcases HOR.out with ⟨_, h4, h5⟩ | ⟨h4, _⟩
    · exact ⟨h5, longN_bound h4⟩
    · rw [h4]; exact ⟨by simp, longN_bound (by simp)⟩
  have h61 := hbd.1
  have HBD := Lib.hid hbd.2
  clear hbd hrd
  go_wp2
  go_loop [8, 19] (fun m i => ∃ k : Nat, k ≤ xs.length ∧ i = .int .i64 k ∧ m = .int .i64 (longN xs k : Nat)) (fun _ i => xs.length - (intOf i).toNat)
  case atStart => exact ⟨0, Nat.zero_le _, rfl, rfl⟩
  case round =>
    obtain ⟨k, hk, rfl, rfl⟩ := hrel
    by_cases hlt : k < xs.length
    · obtain ⟨b, off, u0, x, rfl, hx, hc, hR⟩ := h3 k hlt
      obtain ⟨Bx, cx, rfl⟩ := rdI_shape hR
      have HS := Lib.hid (longN_succ hx)
      have hM := HBD.out k
      generalize longN xs k = M at *
      have i1 : (0 : Int) ≤ k := by omega
      have i2 : (k : Int) < xs.length := by omega
      clear h3 hR hx
      by_cases hle : x.length ≤ M
      · have g1 : ¬ (M : Int) < (x.length : Int) := by omega
        go_wp2
        all_goals
          go_round
          case rel => exact ⟨k + 1, by omega, by go_num, by rw [HS.out]; congr 1; omega⟩
          case measure => simp [intOf]; omega
      · have g1 : (M : Int) < (x.length : Int) := by omega
        go_wp2
        all_goals
          go_round
          case rel => exact ⟨k + 1, by omega, by go_num, by rw [HS.out]; congr 1; omega⟩
          case measure => simp [intOf]; omega
    · obtain rfl : k = xs.length := by omega
      clear h3
      go_wp2
      refine bodyPost_ret (v := .tuple #[.int .i64 (longN xs xs.length : Nat), .int .i64 cd]) (by simp [results, Try.results41, go_sem]) rfl ?_
      exact ⟨rfl, HB1.out⟩

theorem l00Max_fst (a b : Int) (w : World) (h : b ≤ a) : Calls Try.prog 74 #[.int .i64 a, .int .i64 b] w fun e w' => e = .returned (.int .i64 a) ∧ w = w' := by
  by_cases h2 : b < a
  · go_enter Try.func74, Try.ntmps74
    go_wp2
    go_ret
    exact ⟨rfl, rfl⟩
  · obtain rfl : a = b := by omega
    go_enter Try.func74, Try.ntmps74
    go_wp2
    go_ret
    exact ⟨rfl, rfl⟩
theorem l00Max_snd (a b : Int) (w : World) (h : a ≤ b) : Calls Try.prog 74 #[.int .i64 a, .int .i64 b] w fun e w' => e = .returned (.int .i64 b) ∧ w = w' := by
  have h2 : ¬ b < a := by omega
  go_enter Try.func74, Try.ntmps74
  go_wp2
  go_ret
  exact ⟨rfl, rfl⟩
theorem l00Max_nat (a b : Nat) (w : World) : Calls Try.prog 74 #[.int .i64 (a : Int), .int .i64 (b : Int)] w fun e w' => e = .returned (.int .i64 ((max a b : Nat) : Int)) ∧ w = w' := by
  by_cases h : b ≤ a
  · exact (l00Max_fst (a : Int) (b : Int) w (by omega)).mono fun e w' hh => ⟨hh.1.trans (ret_int (by omega)), hh.2⟩
  · exact (l00Max_snd (a : Int) (b : Int) w (by omega)).mono fun e w' hh => ⟨hh.1.trans (ret_int (by omega)), hh.2⟩

set_option maxRecDepth 100000 in
set_option maxHeartbeats 1600000 in
theorem specLongest_any (v : Value) (t : TData) (s : ByteArray) (w : World) (h : RdT w v t) (hs : s.size ≤ maxLen) :
    Calls Try.prog 40 #[v, .string s] w fun e w' => e = .returned (.tuple #[.int .i64 (longRes t s).1, .int .i64 (longRes t s).2]) ∧ Below w.heap.size w w' := by
  obtain ⟨vm, rfl, hA⟩ := atT_box h 31
  have HG := Lib.hid (l04Crossings_own _ t s _ hA hs)
  have HB := Lib.hid (below_alloc w (.cells #[.int .i64 t.L, .int .i64 t.S, vm] 31))
  have HOR := Lib.hid (crossRes_or t s)
  clear h hA
  unfold longRes
  generalize crossRes t s = rr at *
  obtain ⟨xs, cd⟩ := rr
  simp only at *
  go_enter Try.func40, Try.ntmps40
  go_wp2_with fail
  refine HG.out.mono ?_
  rintro e w1 ⟨u, bs, rfl, hu, hb1⟩
  have HB1 := Lib.hid (below_step HB.out hb1)
  have hrd : RdL RdI w1 u xs := OwL.rd (fun h => h.1.rd) hu
  clear hb1 hu
  rcases HOR.out with ⟨h4, h5, h6⟩ | ⟨h4, h5⟩
  · subst h4
    obtain ⟨B, cap, rfl, h1, h2, h3⟩ := hrd.open
    unfold maxLen at h2
    have HBD := Lib.hid (longN_bound h5)
    clear hrd h5
    go_wp2
    go_loop [8, 9] (fun m i => ∃ k : Nat, k ≤ xs.length ∧ i = .int .i64 k ∧ m = .int .i64 (longN xs k : Nat)) (fun _ i => xs.length - (intOf i).toNat)
    case atStart => exact ⟨0, Nat.zero_le _, rfl, rfl⟩
    case round =>
      obtain ⟨k, hk, rfl, rfl⟩ := hrel
      by_cases hlt : k < xs.length
      · obtain ⟨b, off, u0, x, rfl, hx, hc, hR⟩ := h3 k hlt
        obtain ⟨Bx, cx, rfl⟩ := rdI_shape hR
        have HS := Lib.hid (longN_succ hx)
        have hM := HBD.out k
        generalize longN xs k = M at *
        have i1 : (0 : Int) ≤ k := by omega
        have i2 : (k : Int) < xs.length := by omega
        clear h3 hR hx
        go_wp2_with (go_at_call 74; refine (l00Max_nat _ _ _).mono ?_; rintro e w' ⟨rfl, rfl⟩)
        go_round
        case rel => exact ⟨k + 1, by omega, by go_num, by rw [HS.out]⟩
        case measure => simp [intOf]; omega
      · obtain rfl : k = xs.length := by omega
        clear h3
        go_wp2
        refine bodyPost_ret (v := .tuple #[.int .i64 (longN xs xs.length : Nat), .int .i64 0]) (by simp [results, Try.results40, go_sem]) rfl ?_
        exact ⟨rfl, HB1.out⟩
  · subst h4
    have hne : (cd != 0) = true := by rcases h5 with rfl | rfl <;> rfl
    clear hrd h5
    go_wp2
    refine bodyPost_ret (v := .tuple #[.int .i64 0, .int .i64 cd]) (by simp [results, Try.results40, go_sem]) rfl ?_
    exact ⟨rfl, HB1.out⟩
end Go.Proofs.Ytdkalefepdlccaa
