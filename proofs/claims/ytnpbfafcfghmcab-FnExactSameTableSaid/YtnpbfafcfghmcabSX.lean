/-
  Equality of tables: by the model and by the program.
-/
import Derived.Test.YtnpbfafcfghmcabVx2
namespace Go.Proofs.Ytnpbfafcfghmcab
open Go.RowKit

set_option maxHeartbeats 400000 in
theorem slEqualE_any (v u : Value) (xs ys : List (Int × Int)) (w : World) (h : RdP w v xs) (hu : RdP w u ys) :
    Calls Try.prog 26 #[v, u] w fun e w' => e = .returned (.bool (decide (xs = ys))) ∧ Qt w w' := by
  obtain ⟨A, cap, rfl, h1, h2, h3⟩ := h.open
  obtain ⟨B, cap', rfl, k1, k2, k3⟩ := hu.open
  unfold maxLen at h2 k2
  by_cases hl : xs.length = ys.length
  · have hl' : ((xs.length : Int) != (ys.length : Int)) = false := by simp [hl]
    have HL := Lib.hid hl; clear hl
    go_enter Try.func26, Try.ntmps26
    go_wp2
    go_loopw [13] (fun i wr => ∃ k : Nat, k ≤ xs.length ∧ i = .int .i64 k ∧ Qt w wr ∧ xs.take k = ys.take k) (fun i _ => xs.length - (intOf i).toNat)
    case atStart => exact ⟨0, Nat.zero_le _, rfl, Qt.refl _, by simp⟩
    case round =>
      obtain ⟨k, hk, rfl, hb, hp⟩ := hrel
      have HP := Lib.hid hp; clear hp
      have HB := Lib.hid hb
      by_cases hlt : k < xs.length
      · obtain ⟨b, off, x, y, rfl, hx, hc, hd⟩ := h3 k hlt
        obtain ⟨b', off', x', y', rfl, hy, hc', hd'⟩ := k3 k (by have := HL.out; omega)
        have gc := (hb.cell _).trans hc
        have gd := (hb.cell _).trans hd
        have gc' := (hb.cell _).trans hc'
        have gd' := (hb.cell _).trans hd'
        clear hc hd hc' hd' h3 k3 hb
        have HX := Lib.hid hx; clear hx
        have HY := Lib.hid hy; clear hy
        have i1 : (0 : Int) ≤ k := by omega
        have i2 : (k : Int) < xs.length := by omega
        have i3 : (k : Int) < ys.length := by have := HL.out; omega
        by_cases hxx : x = x'
        · subst hxx
          by_cases hyy : y = y'
          · subst hyy
            go_wp2
            go_quiet (fail)
            go_wp2
            go_roundw
            case rel => exact ⟨k + 1, by omega, by go_num, HB.out.drewN _, takes_succ HP.out HX.out HY.out⟩
            case measure => simp [intOf]; omega
          · have n1 : (y == y') = false := by simpa using hyy
            have HN := Lib.hid hyy; clear hyy
            go_wp2
            go_quiet (fail)
            go_wp2
            go_ret
            exact ⟨ret_bool (decide_eq_false (ne_at HX.out HY.out (by have := HN.out; simp_all))).symm, HB.out.drewN _⟩
        · have n1 : (x == x') = false := by simpa using hxx
          have HN := Lib.hid hxx; clear hxx
          go_wp2
          go_quiet (fail)
          go_wp2
          go_ret
          exact ⟨ret_bool (decide_eq_false (ne_at HX.out HY.out (by have := HN.out; simp_all))).symm, HB.out.drewN _⟩
      · clear hb
        go_wp2
        go_ret
        exact ⟨ret_bool (decide_eq_true (eq_of_takes HL.out hlt HP.out)).symm, HB.out⟩
  · have hl' : ((xs.length : Int) != (ys.length : Int)) = true := by simp; omega
    have HL := Lib.hid hl; clear hl
    go_enter Try.func26, Try.ntmps26
    go_wp2
    go_ret
    exact ⟨ret_bool (decide_eq_false (fun e => HL.out (by rw [e]))).symm, Qt.refl _⟩
set_option maxHeartbeats 400000 in
theorem l03Exits_any (v u : Value) (xs ys : List (Int × Int)) (w : World) (h : RdP w v xs) (hu : RdP w u ys) :
    Calls Try.prog 39 #[v, u] w fun e w' => e = .returned (.bool (decide (xs = ys))) ∧ Qt w w' := by
  obtain ⟨A, cap, rfl, h1, h2, h3⟩ := h.open
  obtain ⟨B, cap', rfl, k1, k2, k3⟩ := hu.open
  unfold maxLen at h2 k2
  by_cases hl : xs.length = ys.length
  · have hl' : ((xs.length : Int) != (ys.length : Int)) = false := by simp [hl]
    have HL := Lib.hid hl; clear hl
    go_enter Try.func39, Try.ntmps39
    go_wp2
    go_loopw [5] (fun i wr => ∃ k : Nat, k ≤ xs.length ∧ i = .int .i64 k ∧ Qt w wr ∧ xs.take k = ys.take k) (fun i _ => xs.length - (intOf i).toNat)
    case atStart => exact ⟨0, Nat.zero_le _, rfl, Qt.refl _, by simp⟩
    case round =>
      obtain ⟨k, hk, rfl, hb, hp⟩ := hrel
      have HP := Lib.hid hp; clear hp
      have HB := Lib.hid hb
      by_cases hlt : k < xs.length
      · obtain ⟨b, off, x, y, rfl, hx, hc, hd⟩ := h3 k hlt
        obtain ⟨b', off', x', y', rfl, hy, hc', hd'⟩ := k3 k (by have := HL.out; omega)
        have gc := (hb.cell _).trans hc
        have gd := (hb.cell _).trans hd
        have gc' := (hb.cell _).trans hc'
        have gd' := (hb.cell _).trans hd'
        clear hc hd hc' hd' h3 k3 hb
        have HX := Lib.hid hx; clear hx
        have HY := Lib.hid hy; clear hy
        have i1 : (0 : Int) ≤ k := by omega
        have i2 : (k : Int) < xs.length := by omega
        have i3 : (k : Int) < ys.length := by have := HL.out; omega
        by_cases hxx : x = x'
        · subst hxx
          by_cases hyy : y = y'
          · subst hyy
            go_wp2
            go_quiet (fail)
            go_wp2
            go_roundw
            case rel => exact ⟨k + 1, by omega, by go_num, HB.out.drewN _, takes_succ HP.out HX.out HY.out⟩
            case measure => simp [intOf]; omega
          · have n1 : (y == y') = false := by simpa using hyy
            have HN := Lib.hid hyy; clear hyy
            go_wp2
            go_quiet (fail)
            go_wp2
            go_ret
            exact ⟨ret_bool (decide_eq_false (ne_at HX.out HY.out (by have := HN.out; simp_all))).symm, HB.out.drewN _⟩
        · have n1 : (x == x') = false := by simpa using hxx
          have HN := Lib.hid hxx; clear hxx
          go_wp2
          go_quiet (fail)
          go_wp2
          go_ret
          exact ⟨ret_bool (decide_eq_false (ne_at HX.out HY.out (by have := HN.out; simp_all))).symm, HB.out.drewN _⟩
      · clear hb
        go_wp2
        go_ret
        exact ⟨ret_bool (decide_eq_true (eq_of_takes HL.out hlt HP.out)).symm, HB.out⟩
  · have hl' : ((xs.length : Int) != (ys.length : Int)) = true := by simp; omega
    have HL := Lib.hid hl; clear hl
    go_enter Try.func39, Try.ntmps39
    go_wp2
    go_ret
    exact ⟨ret_bool (decide_eq_false (fun e => HL.out (by rw [e]))).symm, Qt.refl _⟩

def sameX (x y : XData) : Bool := decide (x.fl = y.fl) && decide (x.fr = y.fr)

set_option maxHeartbeats 1600000 in
theorem l03Same_any (p q : Nat) (x y : XData) (w : World) (h : AtX w p x) (k : AtX w q y) :
    Calls Try.prog 25 #[.pointer (some ⟨p, 0, none⟩), .pointer (some ⟨q, 0, none⟩)] w fun e w' => e = .returned (.bool (sameX x y)) ∧ Below w.heap.size w w' := by
  obtain ⟨fl, fr⟩ := x
  obtain ⟨fl', fr'⟩ := y
  obtain ⟨a, b, c0, c1, ha, hb⟩ := h
  obtain ⟨a', b', d0, d1, ha', hb'⟩ := k
  simp only at *
  have HA := Lib.hid (fun W (hw : Below w.heap.size w W) => l03Exits_any a a' fl fl' W (keepsP _ _ _ _ ha hw) (keepsP _ _ _ _ ha' hw))
  have HB := Lib.hid (fun W (hw : Below w.heap.size w W) => l03Exits_any b b' fr fr' W (keepsP _ _ _ _ hb hw) (keepsP _ _ _ _ hb' hw))
  clear ha hb ha' hb'
  by_cases h1 : fl = fl'
  · have HA' := Lib.hid (fun W (hw : Below w.heap.size w W) => (HA.out W hw).mono (R' := fun e w' => e = .returned (.bool true) ∧ Qt W w') (fun e w' hh => ⟨hh.1.trans (by simp [h1]), hh.2⟩))
    have H1 := Lib.hid h1
    clear h1 HA
    have HA := HA'
    clear HA'
    go_enter Try.func25, Try.ntmps25
    go_wp2_with fail
    go_region_held3 (fun W => W.cell? ⟨p, 0, none⟩ = some a ∧ W.cell? ⟨p, 1, none⟩ = some b ∧ W.cell? ⟨q, 0, none⟩ = some a' ∧ W.cell? ⟨q, 1, none⟩ = some b')
      (first | go_keep | (go_split_ands; refine ⟨?_, ?_, ?_, ?_⟩ <;> exact below_keep hbk (by assumption)))
      (first
        | (go_at_call 39; (with_reducible refine (HA.out _ (by first | exact Below.refl _ _ | exact below_drew _ | exact below_drewN' _ _)).mono ?_); rintro e wy ⟨rfl, hqy⟩; have hbk := hqy.below; have HC1 := Lib.hid (show Below w.heap.size w wy from below_step (by first | exact Below.refl _ _ | exact below_drew _ | exact below_drewN' _ _) hbk))
        | (go_at_call 39; (with_reducible refine (HB.out _ (below_step HC1.out (by first | exact Below.refl _ _ | exact below_drew _ | exact below_drewN' _ _))).mono ?_); rintro e wz ⟨rfl, hqz⟩; have hbk := hqz.below; have HC2 := Lib.hid (below_step HC1.out (below_step (by first | exact Below.refl _ _ | exact below_drew _ | exact below_drewN' _ _) hbk))))
    go_wp2
    go_ret
    exact ⟨ret_bool (by simp [sameX, H1.out]), HC2.out⟩
  · have HA' := Lib.hid (fun m => (HA.out (w.drewN m) (below_drewN' w m)).mono (R' := fun e w' => e = .returned (.bool false) ∧ Qt (w.drewN m) w') (fun e w' hh => ⟨hh.1.trans (by simp [h1]), hh.2⟩))
    have H1 := Lib.hid h1
    clear h1 HA HB
    go_enter Try.func25, Try.ntmps25
    go_wp2_with fail
    go_quiet ((go_at_call 39; exact Calls.quiet_of (HA'.out _)))
    go_wp2
    go_ret
    exact ⟨ret_bool (by simp [sameX, H1.out]), below_drewN' _ _⟩

theorem specSameTable_any (v u : Value) (x y : XData) (w : World) (h : RdX w v x) (k : RdX w u y) :
    Calls Try.prog 12 #[v, u] w fun e w' => e = .returned (.bool (sameX x y)) ∧ Below w.heap.size w w' := by
  obtain ⟨a, b, rfl, hA⟩ := atX_box h 29
  obtain ⟨a', b', rfl, hB⟩ := atX_box (keepsX _ _ _ _ k (below_alloc w (.cells #[a, b] 29))) 29
  have hA2 := hA.below (below_alloc _ (.cells #[a', b'] 29))
  have H := Lib.hid (l03Same_any _ _ _ _ _ hA2 hB)
  have hbb := (below_alloc w (.cells #[a, b] 29)).alloc (by simp) (.cells #[a', b'] 29)
  have HBB := Lib.hid hbb
  simp only [World.size_alloc, Array.size_push] at H
  clear h k hA hB hA2 hbb
  go_enter Try.func12, Try.ntmps12
  go_wp2_with fail
  refine H.out.mono ?_
  rintro e w1 ⟨rfl, hb⟩
  have HC := Lib.hid (below_step HBB.out (by simpa using hb))
  clear hb
  go_wp2
  go_ret
  exact ⟨rfl, HC.out⟩

theorem implSameTable_any (v u : Value) (x y : XData) (w : World) (h : RdX w v x) (k : RdX w u y) :
    Calls Try.prog 13 #[v, u] w fun e w' => e = .returned (.bool (sameX x y)) ∧ Below w.heap.size w w' := by
  obtain ⟨fl, fr⟩ := x
  obtain ⟨fl', fr'⟩ := y
  obtain ⟨a, b, rfl, ha, hb⟩ := h
  obtain ⟨a', b', rfl, ha', hb'⟩ := k
  simp only at *
  have HA := Lib.hid (fun W (hw : Below w.heap.size w W) => slEqualE_any a a' fl fl' W (keepsP _ _ _ _ ha hw) (keepsP _ _ _ _ ha' hw))
  have HB := Lib.hid (fun W (hw : Below w.heap.size w W) => slEqualE_any b b' fr fr' W (keepsP _ _ _ _ hb hw) (keepsP _ _ _ _ hb' hw))
  clear ha hb ha' hb'
  have HBB := Lib.hid ((below_alloc w (.cells #[a, b] 29)).alloc (by simp) (.cells #[a', b'] 29))
  have HR1 := Lib.hid ((Row.new w [a, b] 29).alloc (.cells #[a', b'] 29))
  have hr2 := Row.new (w.alloc (.cells #[a, b] 29)) [a', b'] 29
  have HR2 := Lib.hid (show Row _ (w.heap.size + 1) _ _ by simpa using hr2)
  clear hr2
  by_cases h1 : fl = fl'
  · have e1 : decide (fl = fl') = true := by simpa using h1
    have H1 := Lib.hid h1
    clear h1
    go_enter Try.func13, Try.ntmps13
    go_wp2_with fail
    refine (HA.out _ HBB.out).mono ?_
    rintro e w1 ⟨rfl, hq⟩
    obtain ⟨⟨b0, b1⟩, -⟩ := (HR1.out.below hq.below HR1.out.lt).two
    obtain ⟨⟨c0, c1⟩, -⟩ := (HR2.out.below hq.below HR2.out.lt).two
    have HQ := Lib.hid (below_step HBB.out hq.below)
    clear hq
    go_wp2_with fail
    refine (HB.out _ HQ.out).mono ?_
    rintro e w2 ⟨rfl, hq2⟩
    have HQ2 := Lib.hid (below_step HQ.out hq2.below)
    clear hq2
    go_wp2
    go_ret
    exact ⟨ret_bool (by simp [sameX, H1.out]), HQ2.out⟩
  · have e1 : decide (fl = fl') = false := by simpa using h1
    have H1 := Lib.hid h1
    clear h1
    go_enter Try.func13, Try.ntmps13
    go_wp2_with fail
    refine (HA.out _ HBB.out).mono ?_
    rintro e w1 ⟨rfl, hq⟩
    have HQ := Lib.hid (below_step HBB.out hq.below)
    clear hq
    go_wp2
    go_ret
    exact ⟨ret_bool (by simp [sameX, H1.out]), HQ.out⟩
end Go.Proofs.Ytnpbfafcfghmcab
