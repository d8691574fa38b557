/-
  Slices of slices of structs of two integers.
-/
import Derived.Test.YtdkalefepdlccaaNMove
import Derived.Test.YtdkalefepdlccaaN2
namespace Go.Proofs.Ytdkalefepdlccaa
open Go.RowKit
theorem infoPsMove : (Try.prog.info? 132).map (fun i => (i.zero, i.size, i.bytes)) = some (some (.slice none 0 0), 1, 24) := by kernel_rfl

set_option maxHeartbeats 400000 in
theorem szMoveSS_any (v : Value) (xs : List (List (Int × Int))) (left : Int) (w : World) (h : RdL RdP w v xs) :
    Calls Try.prog 59 #[v, .int .i64 left] w fun e w' => (∃ n, e = .returned (.int .i64 n)) ∧ w = w' := by
  obtain ⟨A, cap, rfl, h1, h2, h3⟩ := h.open
  unfold maxLen at h2
  go_enter Try.func59, Try.ntmps59
  go_wp2
  · go_ret
    exact ⟨⟨_, rfl⟩, rfl⟩
  · go_loop [1, 5] (fun l i => ∃ k : Nat, ∃ n : Int, k ≤ xs.length ∧ i = .int .i64 k ∧ l = .int .i64 n) (fun _ i => xs.length - (intOf i).toNat)
    case atStart => exact ⟨0, _, Nat.zero_le _, rfl, rfl⟩
    case round =>
      obtain ⟨k, n, hk, rfl, rfl⟩ := hrel
      by_cases hlt : k < xs.length
      · obtain ⟨b, off, u, x, rfl, hx, hc, hR⟩ := h3 k hlt
        have i1 : (0 : Int) ≤ k := by omega
        have i2 : (k : Int) < xs.length := by omega
        have HR := Lib.hid hR; have HX := Lib.hid hx
        clear h3 hR hx
        go_wp2_with (go_at_call 96; refine (szMoveS_any _ _ _ _ HR.out).mono ?_; rintro e w' ⟨⟨m, rfl⟩, rfl⟩)
        · go_ret
          exact ⟨⟨_, rfl⟩, rfl⟩
        · go_round
          case rel => exact ⟨k + 1, _, by omega, by go_num, rfl⟩
          case measure => simp [intOf]; omega
      · go_wp2
        go_ret
        exact ⟨⟨_, rfl⟩, rfl⟩

set_option maxHeartbeats 800000 in
theorem toMoveSS_own (v : Value) (xs : List (List (Int × Int))) (w : World) (h : RdL RdP w v xs) (hr : 24 * xs.length ≤ 281474976710656) (hr2 : ∀ x ∈ xs, 16 * x.length ≤ 281474976710656) :
    Calls Try.prog 62 #[v] w fun e w' => ∃ u bs, e = .returned u ∧ OwL (OwP 96) 132 w' w.heap.size u xs bs ∧ Below w.heap.size w w' := by
  obtain ⟨A, cap, rfl, h1, h2, h3⟩ := h.open
  unfold maxLen at h2
  have hmk := run_make_row' (P := Try.prog) 29 132 (.slice none 0 0) 24 Try.underlying29 infoPsMove rfl .i64 .i64 xs.length hr (by omega)
  go_enter Try.func62, Try.ntmps62
  go_wp2
  clear hmk
  have hM := Row.made w (.slice none 0 0) xs.length 132
  go_loopw [4] (fun i wr => ∃ k : Nat, ∃ us : List Value, ∃ bss : List (List Nat), k ≤ xs.length ∧ i = .int .i64 k ∧ Below w.heap.size w wr ∧ us.length = k ∧ Row wr w.heap.size 132 (us ++ List.replicate (xs.length - us.length) (.slice none 0 0)) ∧
      (∀ (i : Nat) u x b, us[i]? = some u → xs[i]? = some x → bss[i]? = some b → (OwP 96) wr (w.heap.size + 1) u x b) ∧ us.length = bss.length ∧ bss.flatten.Nodup) (fun i _ => xs.length - (intOf i).toNat)
  case atStart => exact ⟨0, [], [], Nat.zero_le _, rfl, below_alloc _ _, rfl, by simpa using hM, by simp, rfl, by simp⟩
  case round =>
    clear hM
    obtain ⟨k, us, bss, hk, rfl, hb, hl, hR, hO, hbl, hN⟩ := hrel
    by_cases hlt : k < xs.length
    · obtain ⟨b, off, p, x, rfl, hx, hc, hP⟩ := h3 k hlt
      have hc' := (hb.cell (p := ⟨b, off + k, none⟩) (World.block_lt_of_cell? _ _ hc)).trans hc
      have HC := Lib.hid (toMoveS_own p x wr (keepsP _ _ _ _ hP hb) (hr2 x (List.mem_of_getElem? hx)))
      clear hc h3 hP
      have i1 : (0 : Int) ≤ k := by omega
      have i2 : (k : Int) < xs.length := by omega
      have HH := Lib.hid (show Row wr w.heap.size 132 (us ++ List.replicate (xs.length - us.length) (.slice none 0 0)) ∧ Below w.heap.size w wr ∧
        (∀ (i : Nat) u x b, us[i]? = some u → xs[i]? = some x → bss[i]? = some b → (OwP 96) wr (w.heap.size + 1) u x b) ∧ us.length = bss.length ∧ bss.flatten.Nodup ∧ us.length = k ∧ xs[k]? = some x from ⟨hR, hb, hO, hbl, hN, hl, hx⟩)
      clear hR hb hO hbl hN hl hx
      go_wp2_with fail
      refine HC.out.mono ?_
      rintro e w1 ⟨u0, b0, rfl, hu0, hB⟩
      obtain ⟨C, c, rfl⟩ := owP_shape hu0
      obtain ⟨hR, hb, hO, hbl, hN, hl, hx⟩ := HH.out
      subst hl
      have hR1 := hR.below hB hR.lt
      have hd' := (hR1.cell us.length).trans (replicate_snoc_get hlt)
      have hf' := hR1.free us.length
      have HS := Lib.hid (replicate_snoc_set (z := .slice none 0 0) (u := .slice C x.length c) hlt ▸ hR1.stored us.length (.slice C x.length c))
      have HG := Lib.hid (show _ ∧ Below wr.heap.size wr w1 ∧ w.heap.size < wr.heap.size from ⟨hu0, hB, hR.lt⟩)
      clear hR1 hR hb hO hbl hN hx hB hu0
      go_wp2
      obtain ⟨hu0, hB, hlt2⟩ := HG.out
      obtain ⟨hR, hb, hO, hbl, hN, hl, hx⟩ := HH.out
      have hst := fam_snoc (goodP 96) hO hbl (by omega) hN hB ((goodP 96).mono hu0 (by omega)) (fun b hb => ((goodP 96).lt hu0 hb).1) hx (a := ⟨w.heap.size, us.length, none⟩) (Nat.lt_succ_self _) (.slice C x.length c)
      have hbel := (hb.trans (hB.mono hb.size)).setCell (p := ⟨w.heap.size, us.length, none⟩) (Nat.le_refl _) (.slice C x.length c)
      go_roundw
      case rel => exact ⟨us.length + 1, us ++ [.slice C x.length c], bss ++ [b0], by omega, by go_num, hbel, by simp, HS.out, hst.1, hst.2.1, hst.2.2⟩
      case measure => simp [intOf]; omega
    · have hR' : Row wr w.heap.size 132 us := by rw [show xs.length - us.length = 0 by omega] at hR; simpa using hR
      have HR := Lib.hid (fam_whole (lo := w.heap.size) (goodP 96) hR' (by omega) hbl (by unfold maxLen; omega) hO hN (Nat.le_refl _))
      clear hR hR' hO hN hbl
      go_wp2
      go_ret
      exact ⟨_, _, rfl, HR.out, hb⟩

set_option maxHeartbeats 800000 in
theorem eqMoveSS_any (v u : Value) (xs ys : List (List (Int × Int))) (w : World) (h : RdL RdP w v xs) (hu : RdL RdP w u ys) :
    Calls Try.prog 66 #[v, u] w fun e w' => e = .returned (.bool (decide (xs = ys))) ∧ Below w.heap.size w w' := by
  obtain ⟨A, cap, rfl, h1, h2, h3⟩ := h.open
  obtain ⟨B, cap', rfl, k1, k2, k3⟩ := hu.open
  unfold maxLen at h2 k2
  by_cases hl : xs.length = ys.length
  · have hl' : ((xs.length : Int) != (ys.length : Int)) = false := by simp [hl]
    have HL := Lib.hid hl; clear hl
    go_enter Try.func66, Try.ntmps66
    go_wp2
    go_loopw [5] (fun i wr => ∃ k : Nat, k ≤ xs.length ∧ i = .int .i64 k ∧ Below w.heap.size w wr ∧ xs.take k = ys.take k) (fun i _ => xs.length - (intOf i).toNat)
    case atStart => exact ⟨0, Nat.zero_le _, rfl, Below.refl _ _, by simp⟩
    case round =>
      obtain ⟨k, hk, rfl, hb, hp⟩ := hrel
      have HP := Lib.hid hp; clear hp
      have HB := Lib.hid hb
      by_cases hlt : k < xs.length
      · obtain ⟨b, off, p, x, rfl, hx, hc, hR⟩ := h3 k hlt
        obtain ⟨b', off', q, y, rfl, hy, hd, hS⟩ := k3 k (by have := HL.out; omega)
        have hc' := below_keep hb hc
        have hd' := below_keep hb hd
        have HC := Lib.hid (fun (W : World) (hw : Below wr.heap.size wr W) => eqMoveS_any p q x y W (keepsP _ _ _ _ hR (below_step hb hw)) (keepsP _ _ _ _ hS (below_step hb hw)))
        clear hc hd h3 k3 hb hR hS
        have HX := Lib.hid hx; clear hx
        have HY := Lib.hid hy; clear hy
        have i1 : (0 : Int) ≤ k := by omega
        have i2 : (k : Int) < xs.length := by omega
        have i3 : (k : Int) < ys.length := by have := HL.out; omega
        by_cases hxy : x = y
        · subst hxy
          have hd1 : decide (x = x) = true := by simp
          go_wp2_with fail
          go_region_held3 (fun W => W.cell? ⟨b, off + k, none⟩ = some p ∧ W.cell? ⟨b', off' + k, none⟩ = some q)
            (first | go_keep | (go_split_ands; refine ⟨?_, ?_⟩ <;> exact below_keep hbk (by assumption)))
            (first
              | (go_at_call 104; (with_reducible refine (HC.out _ (by first | exact Below.refl _ _ | exact below_drew _ | exact below_drewN (Below.refl _ _) _ | exact (below_drewN (Below.refl _ _) _).drew)).mono ?_); rintro e wz ⟨rfl, hbk⟩; have HCz := Lib.hid (show Below wr.heap.size wr wz from below_step (by first | exact Below.refl _ _ | exact below_drew _ | exact below_drewN (Below.refl _ _) _ | exact (below_drewN (Below.refl _ _) _).drew) hbk)))
          go_wp2
          go_roundw
          case rel => exact ⟨k + 1, by omega, by go_num, below_step HB.out HCz.out, takes_succ HP.out HX.out HY.out⟩
          case measure => simp [intOf]; omega
        · have hd1 : decide (x = y) = false := by simpa using hxy
          have HXY := Lib.hid hxy; clear hxy
          go_wp2_with fail
          go_region_held3 (fun W => W.cell? ⟨b, off + k, none⟩ = some p ∧ W.cell? ⟨b', off' + k, none⟩ = some q)
            (first | go_keep | (go_split_ands; refine ⟨?_, ?_⟩ <;> exact below_keep hbk (by assumption)))
            (first
              | (go_at_call 104; (with_reducible refine (HC.out _ (by first | exact Below.refl _ _ | exact below_drew _ | exact below_drewN (Below.refl _ _) _ | exact (below_drewN (Below.refl _ _) _).drew)).mono ?_); rintro e wz ⟨rfl, hbk⟩; have HCz := Lib.hid (show Below wr.heap.size wr wz from below_step (by first | exact Below.refl _ _ | exact below_drew _ | exact below_drewN (Below.refl _ _) _ | exact (below_drewN (Below.refl _ _) _).drew) hbk)))
          go_wp2
          go_ret
          exact ⟨ret_bool (decide_eq_false (ne_at HX.out HY.out HXY.out)).symm, below_step HB.out HCz.out⟩
      · clear hb
        go_wp2
        go_ret
        exact ⟨ret_bool (decide_eq_true (eq_of_takes HL.out hlt HP.out)).symm, HB.out⟩
  · have hl' : ((xs.length : Int) != (ys.length : Int)) = true := by simp; omega
    have HL := Lib.hid hl; clear hl
    go_enter Try.func66, Try.ntmps66
    go_wp2
    go_ret
    exact ⟨ret_bool (decide_eq_false (fun e => HL.out (by rw [e]))).symm, Below.refl _ _⟩

end Go.Proofs.Ytdkalefepdlccaa
