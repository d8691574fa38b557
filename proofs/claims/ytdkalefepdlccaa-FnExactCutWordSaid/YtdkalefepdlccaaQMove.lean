/-
  Structs of two integers and slices of these: copies, sizes, comparisons.
-/
import Derived.Test.YtdkalefepdlccaaPr
import Derived.Test.YtdkalefepdlccaaO1
namespace Go.Proofs.Ytdkalefepdlccaa
open Go.RowKit

theorem infoMove : (Try.prog.info? 96).map (fun i => (i.zero, i.size, i.bytes)) = some (some (.agg #[.int .i64 0, .int .i64 0]), 2, 16) := by kernel_rfl

set_option maxHeartbeats 400000 in
theorem toMove_any (x y : Int) (w : World) :
    Calls Try.prog 129 #[.agg #[.int .i64 x, .int .i64 y]] w fun e w' => e = .returned (.agg #[.int .i64 x, .int .i64 y]) ∧ Below w.heap.size w w' := by
  go_enter Try.func129, Try.ntmps129
  go_wp2
  refine bodyPost_ret (v := .agg #[.int .i64 x, .int .i64 y]) (by simp [results, Try.results129, go_sem]) rfl ⟨rfl, ?_⟩
  exact ((below_alloc w _).alloc (by simp) _).alloc (by simp; omega) _

set_option maxHeartbeats 400000 in
theorem eqMove_any (x y x' y' : Int) (w : World) :
    Calls Try.prog 137 #[.agg #[.int .i64 x, .int .i64 y], .agg #[.int .i64 x', .int .i64 y']] w fun e w' => e = .returned (.bool (eqPair (x, y) (x', y'))) ∧ Below w.heap.size w w' := by
  have hb : ∀ a b, Below w.heap.size w ((w.alloc a).alloc b) := fun a b => (below_alloc w a).alloc (by simp) b
  by_cases h1 : x = x'
  · subst h1
    by_cases h2 : y = y'
    · subst h2
      have n1 : (x != x) = false := by simp
      have n2 : (y != y) = false := by simp
      go_enter Try.func137, Try.ntmps137
      go_wp2
      go_ret
      exact ⟨ret_bool (by simp [eqPair]), hb _ _⟩
    · have n1 : (x != x) = false := by simp
      have n2 : (y != y') = true := by simpa using h2
      have H2 := Lib.hid h2; clear h2
      go_enter Try.func137, Try.ntmps137
      go_wp2
      go_ret
      exact ⟨ret_bool (by simp [eqPair, H2.out]), hb _ _⟩
  · have n1 : (x != x') = true := by simpa using h1
    have H1 := Lib.hid h1; clear h1
    go_enter Try.func137, Try.ntmps137
    go_wp2
    go_ret
    exact ⟨ret_bool (by simp [eqPair, H1.out]), hb _ _⟩

theorem szMoveS_any (v : Value) (xs : List (Int × Int)) (left : Int) (w : World) (h : RdP w v xs) :
    Calls Try.prog 96 #[v, .int .i64 left] w fun e w' => (∃ n, e = .returned (.int .i64 n)) ∧ w = w' := by
  obtain ⟨A, cap, rfl, h1, h2, h3⟩ := h.open
  go_enter Try.func96, Try.ntmps96
  go_wp2
  all_goals go_ret
  all_goals exact ⟨⟨_, rfl⟩, rfl⟩

set_option maxHeartbeats 800000 in
theorem toMoveS_own (v : Value) (xs : List (Int × Int)) (w : World) (h : RdP w v xs) (hr : 16 * xs.length ≤ 281474976710656) :
    Calls Try.prog 99 #[v] w fun e w' => ∃ u bs, e = .returned u ∧ OwP 96 w' w.heap.size u xs bs ∧ Below w.heap.size w w' := by
  obtain ⟨A, cap, rfl, h1, h2, h3⟩ := h.open
  unfold maxLen at h2
  have hmk := run_make_pairs (P := Try.prog) 132 96 (.int .i64 0) (.int .i64 0) 16 Try.underlying132 infoMove .i64 .i64 xs.length hr (by omega)
  go_enter Try.func99, Try.ntmps99
  go_wp2
  clear hmk
  have hM := Row.madePairs w xs.length 96
  rw [← partP_zero] at hM
  go_loopw [4] (fun i wr => ∃ k : Nat, k ≤ xs.length ∧ i = .int .i64 k ∧ Below w.heap.size w wr ∧ Row wr w.heap.size 96 (pcells (partP xs k))) (fun i _ => xs.length - (intOf i).toNat)
  case atStart => exact ⟨0, Nat.zero_le _, rfl, below_alloc _ _, hM⟩
  case round =>
    clear hM
    obtain ⟨k, hk, rfl, hb, hR⟩ := hrel
    by_cases hlt : k < xs.length
    · obtain ⟨b, off, x, y, rfl, hx, hc0, hc1⟩ := h3 k hlt
      have hc0' := below_keep (hb.mono (Nat.le_refl _)) hc0
      have hc1' := below_keep (hb.mono (Nat.le_refl _)) hc1
      have i1 : (0 : Int) ≤ k := by omega
      have i2 : (k : Int) < xs.length := by omega
      have HH := Lib.hid (show _ ∧ _ ∧ _ from ⟨hb, hR, hx⟩)
      clear hb hR hx h3 hc0 hc1
      go_wp2_with fail
      refine (toMove_any x y _).mono ?_
      rintro e w1 ⟨rfl, hB⟩
      obtain ⟨hb, hR, hx⟩ := HH.out
      have hR1 := hR.below hB hR.lt
      have hl := partP_len (Nat.le_of_lt hlt)
      have hg := pcells_get (partP_get hlt)
      have hd0 := (hR1.cell (k * 2)).trans hg.1
      have hd1 := (hR1.cell (k * 2 + 1)).trans hg.2
      have hf0 := hR1.free (k * 2)
      have hf1 := hR1.free (k * 2 + 1)
      have hS := hR1.pairStored (i := k) (by rw [hl]; exact hlt) (x, y)
      rw [partP_set hx] at hS
      have HS := Lib.hid (show _ ∧ _ ∧ _ from ⟨hS, hb.trans (hB.mono hb.size), hR1.lt⟩)
      clear hS hR1 hR hb hB hx hl hg hc0' hc1' HH
      go_wp2
      obtain ⟨hS, hb, hlt2⟩ := HS.out
      go_roundw
      case rel => exact ⟨k + 1, by omega, by go_num, (hb.setCell (Nat.le_refl _) _).setCell (Nat.le_refl _) _, hS⟩
      case measure => simp [intOf]; omega
    · have hR' : Row wr w.heap.size 96 (pcells xs) := by rw [partP_full hlt] at hR; exact hR
      have HR := Lib.hid hR'
      clear hR hR'
      go_wp2
      go_ret
      exact ⟨_, _, rfl, HR.out.pairs (Nat.le_refl _) (by unfold maxLen; omega), hb⟩

set_option maxHeartbeats 800000 in
theorem eqMoveS_any (v u : Value) (xs ys : List (Int × Int)) (w : World) (h : RdP w v xs) (hu : RdP w u ys) :
    Calls Try.prog 104 #[v, u] w fun e w' => e = .returned (.bool (decide (xs = ys))) ∧ Below w.heap.size w w' := by
  obtain ⟨A, cap, rfl, h1, h2, h3⟩ := h.open
  obtain ⟨B, cap', rfl, k1, k2, k3⟩ := hu.open
  unfold maxLen at h2 k2
  by_cases hl : xs.length = ys.length
  · have hl' : ((xs.length : Int) != (ys.length : Int)) = false := by simp [hl]
    have HL := Lib.hid hl; clear hl
    go_enter Try.func104, Try.ntmps104
    go_wp2
    go_loopw [5] (fun i wr => ∃ k : Nat, k ≤ xs.length ∧ i = .int .i64 k ∧ Below w.heap.size w wr ∧ xs.take k = ys.take k) (fun i _ => xs.length - (intOf i).toNat)
    case atStart => exact ⟨0, Nat.zero_le _, rfl, Below.refl _ _, by simp⟩
    case round =>
      obtain ⟨k, hk, rfl, hb, hp⟩ := hrel
      have HP := Lib.hid hp; clear hp
      have HB := Lib.hid hb
      by_cases hlt : k < xs.length
      · obtain ⟨b, off, x, y, rfl, hx, hc0, hc1⟩ := h3 k hlt
        obtain ⟨b', off', x', y', rfl, hy, hd0, hd1⟩ := k3 k (by have := HL.out; omega)
        have gc0 := below_keep hb hc0
        have gc1 := below_keep hb hc1
        have gd0 := below_keep hb hd0
        have gd1 := below_keep hb hd1
        clear hc0 hc1 hd0 hd1 h3 k3 hb
        have HX := Lib.hid hx; clear hx
        have HY := Lib.hid hy; clear hy
        have i1 : (0 : Int) ≤ k := by omega
        have i2 : (k : Int) < xs.length := by omega
        have i3 : (k : Int) < ys.length := by have := HL.out; omega
        by_cases hxy : (x, y) = (x', y')
        · have hd1 : eqPair (x, y) (x', y') = true := decide_eq_true hxy
          have HXY := Lib.hid hxy; clear hxy
          go_wp2_with fail
          go_region_held3 (fun W => W.cell? ⟨b, off + k * 2, none⟩ = some (.int .i64 x) ∧ W.cell? ⟨b, off + k * 2 + 1, none⟩ = some (.int .i64 y) ∧ W.cell? ⟨b', off' + k * 2, none⟩ = some (.int .i64 x') ∧ W.cell? ⟨b', off' + k * 2 + 1, none⟩ = some (.int .i64 y'))
            (first | go_keep | (go_split_ands; refine ⟨?_, ?_, ?_, ?_⟩ <;> exact below_keep hbk (by assumption)))
            (first
              | (go_at_call 137; (with_reducible refine (eqMove_any _ _ _ _ _).mono ?_); rintro e wz ⟨rfl, hbk⟩; have HCz := Lib.hid (show Below wr.heap.size wr wz from below_step (by first | exact Below.refl _ _ | exact below_drew _ | exact below_drewN (Below.refl _ _) _ | exact (below_drewN (Below.refl _ _) _).drew) hbk)))
          go_wp2
          go_roundw
          case rel => exact ⟨k + 1, by omega, by go_num, below_step HB.out HCz.out, takes_succ HP.out HX.out (HXY.out ▸ HY.out)⟩
          case measure => simp [intOf]; omega
        · have hd1 : eqPair (x, y) (x', y') = false := decide_eq_false hxy
          have HXY := Lib.hid hxy; clear hxy
          go_wp2_with fail
          go_region_held3 (fun W => W.cell? ⟨b, off + k * 2, none⟩ = some (.int .i64 x) ∧ W.cell? ⟨b, off + k * 2 + 1, none⟩ = some (.int .i64 y) ∧ W.cell? ⟨b', off' + k * 2, none⟩ = some (.int .i64 x') ∧ W.cell? ⟨b', off' + k * 2 + 1, none⟩ = some (.int .i64 y'))
            (first | go_keep | (go_split_ands; refine ⟨?_, ?_, ?_, ?_⟩ <;> exact below_keep hbk (by assumption)))
            (first
              | (go_at_call 137; (with_reducible refine (eqMove_any _ _ _ _ _).mono ?_); rintro e wz ⟨rfl, hbk⟩; have HCz := Lib.hid (show Below wr.heap.size wr wz from below_step (by first | exact Below.refl _ _ | exact below_drew _ | exact below_drewN (Below.refl _ _) _ | exact (below_drewN (Below.refl _ _) _).drew) hbk)))
          go_wp2
          go_ret
          exact ⟨ret_bool (decide_eq_false (ne_at HX.out HY.out HXY.out)).symm, below_step HB.out HCz.out⟩
      · clear hb
        go_wp2
        go_ret
        exact ⟨ret_bool (decide_eq_true (eq_of_takes HL.out hlt HP.out)).symm, HB.out⟩
  · have hl' : ((xs.length : Int) != (ys.length : Int)) = true := by simp; omega
    have HL := Lib.hid hl; clear hl
    go_enter Try.func104, Try.ntmps104
    go_wp2
    go_ret
    exact ⟨ret_bool (decide_eq_false (fun e => HL.out (by rw [e]))).symm, Below.refl _ _⟩

end Go.Proofs.Ytdkalefepdlccaa
