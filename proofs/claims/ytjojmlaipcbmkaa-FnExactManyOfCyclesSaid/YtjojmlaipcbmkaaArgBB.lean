/-
  Lists of lists of bools as arguments of the laws: what they read as; their sizes, copies, comparisons and marks.
-/
import Derived.Test.YtjojmlaipcbmkaaArg
namespace Go.Proofs.Ytjojmlaipcbmkaa
open Go.RowKit Go.ChangeShapes Go.WideShapes Go.Deep Go.Joins

def RdBB : World → Value → List (List Bool) → Prop := RdL RdB
theorem keepsBB : Keeps RdBB := keepsL keepsB
def BBSmall (xs : List (List Bool)) : Prop := 24 * xs.length ≤ 281474976710656 ∧ ∀ x ∈ xs, x.length ≤ 281474976710656
def numBB (xs : List (List Bool)) : Nat := numL (fun x : List Bool => x.length) xs
theorem infoBs : (Try.prog.info? 22).map (fun i => (i.zero, i.size, i.bytes)) = some (some (.slice none 0 0), 1, 24) := by kernel_rfl

set_option maxHeartbeats 400000 in
theorem szBoolSS_tot (v : Value) (xs : List (List Bool)) (left : Int) (w : World) (h : RdL RdB w v xs) (h0 : 0 ≤ left) (hb : left ≤ 4611686018427387904) :
    Calls Try.prog 39 #[v, .int .i64 left] w fun e w' => (∃ n : Int, e = .returned (.int .i64 n) ∧ (n < 0 ∨ n + ((xs.length + numL (fun x : List Bool => x.length) xs : Nat) : Int) = left)) ∧ w = w' := by
  obtain ⟨A, cap, rfl, h1, h2, h3⟩ := h.open
  unfold maxLen at h2
  by_cases hl : left - (xs.length : Int) < 0
  · clear h3
    go_enter Try.func39, Try.ntmps39
    go_wp2
    go_ret
    exact ⟨⟨_, rfl, .inl (by decide)⟩, rfl⟩
  · go_enter Try.func39, Try.ntmps39
    go_wp2
    go_loop [1, 5] (fun l i => ∃ k : Nat, ∃ n : Int, k ≤ xs.length ∧ i = .int .i64 k ∧ l = .int .i64 n ∧ 0 ≤ n ∧ n + ((xs.length + numL (fun x : List Bool => x.length) (xs.take k) : Nat) : Int) = left) (fun _ i => xs.length - (intOf i).toNat)
    case atStart => exact ⟨0, _, Nat.zero_le _, rfl, rfl, by omega, by simp [numL]⟩
    case round =>
      obtain ⟨k, n, hk, rfl, rfl, hn0, hn⟩ := hrel
      have HN := Lib.hid hn
      by_cases hlt : k < xs.length
      · obtain ⟨b, off, u, x, rfl, hx, hc, hR⟩ := h3 k hlt
        have i1 : (0 : Int) ≤ k := by omega
        have i2 : (k : Int) < xs.length := by omega
        have HT := Lib.hid (numL_take (n := fun x : List Bool => x.length) hx)
        have HR := Lib.hid (szBoolS_tot u x n w hR hn0 (by omega))
        clear h3 hR hx hn
        go_wp2_with fail
        refine HR.out.mono ?_
        rintro e w' ⟨⟨m, rfl, hm⟩, rfl⟩
        have HM := Lib.hid hm
        clear hm HR
        by_cases hm0 : m < 0
        · go_wp2
          go_ret
          exact ⟨⟨_, rfl, .inl (by decide)⟩, rfl⟩
        · go_wp2
          go_round
          case rel => exact ⟨k + 1, _, by omega, by go_num, rfl, by omega, by have a := HN.out; have b := HT.out; have c := HM.out; omega⟩
          case measure => simp [intOf]; omega
      · have ej : k = xs.length := by omega
        subst ej
        clear h3 hn
        go_wp2
        go_ret
        exact ⟨⟨_, rfl, .inr (by have := HN.out; simpa using this)⟩, rfl⟩

set_option maxHeartbeats 800000 in
theorem toBoolSS_own (v : Value) (xs : List (List Bool)) (w : World) (h : RdL RdB w v xs) (hr : 24 * xs.length ≤ 281474976710656) (hr2 : ∀ x ∈ xs, 1 * x.length ≤ 281474976710656) :
    Calls Try.prog 41 #[v] w fun e w' => ∃ u bs, e = .returned u ∧ OwL (OwV bools 4) 22 w' w.heap.size u xs bs ∧ Below w.heap.size w w' := by
  obtain ⟨A, cap, rfl, h1, h2, h3⟩ := h.open
  unfold maxLen at h2
  have hmk := run_make_row' (P := Try.prog) 56 22 (.slice none 0 0) 24 Try.underlying56 infoBs rfl .i64 .i64 xs.length hr (by omega)
  go_enter Try.func41, Try.ntmps41
  go_wp2
  clear hmk
  have hM := Row.made w (.slice none 0 0) xs.length 22
  go_loopw [4] (fun i wr => ∃ k : Nat, ∃ us : List Value, ∃ bss : List (List Nat), k ≤ xs.length ∧ i = .int .i64 k ∧ Below w.heap.size w wr ∧ us.length = k ∧ Row wr w.heap.size 22 (us ++ List.replicate (xs.length - us.length) (.slice none 0 0)) ∧
      (∀ (i : Nat) u x b, us[i]? = some u → xs[i]? = some x → bss[i]? = some b → (OwV bools 4) wr (w.heap.size + 1) u x b) ∧ us.length = bss.length ∧ bss.flatten.Nodup) (fun i _ => xs.length - (intOf i).toNat)
  case atStart => exact ⟨0, [], [], Nat.zero_le _, rfl, below_alloc _ _, rfl, by simpa using hM, by simp, rfl, by simp⟩
  case round =>
    clear hM
    obtain ⟨k, us, bss, hk, rfl, hb, hl, hR, hO, hbl, hN⟩ := hrel
    by_cases hlt : k < xs.length
    · obtain ⟨b, off, p, x, rfl, hx, hc, hP⟩ := h3 k hlt
      have hc' := (hb.cell (p := ⟨b, off + k, none⟩) (World.block_lt_of_cell? _ _ hc)).trans hc
      have HC := Lib.hid (toBoolS_own p x wr (keepsB _ _ _ _ hP hb) (hr2 x (List.mem_of_getElem? hx)))
      clear hc h3 hP
      have i1 : (0 : Int) ≤ k := by omega
      have i2 : (k : Int) < xs.length := by omega
      have HH := Lib.hid (show Row wr w.heap.size 22 (us ++ List.replicate (xs.length - us.length) (.slice none 0 0)) ∧ Below w.heap.size w wr ∧
        (∀ (i : Nat) u x b, us[i]? = some u → xs[i]? = some x → bss[i]? = some b → (OwV bools 4) wr (w.heap.size + 1) u x b) ∧ us.length = bss.length ∧ bss.flatten.Nodup ∧ us.length = k ∧ xs[k]? = some x from ⟨hR, hb, hO, hbl, hN, hl, hx⟩)
      clear hR hb hO hbl hN hl hx
      go_wp2_with fail
      refine HC.out.mono ?_
      rintro e w1 ⟨u0, b0, rfl, hu0, hB⟩
      obtain ⟨C, c, rfl⟩ := owB_shape hu0
      obtain ⟨hR, hb, hO, hbl, hN, hl, hx⟩ := HH.out
      subst hl
      have hR1 := hR.below hB hR.lt
      have hd' := (hR1.cell us.length).trans (replicate_snoc_get hlt)
      have hf' := hR1.free us.length
      have HS := Lib.hid (replicate_snoc_set (z := .slice none 0 0) (u := .slice C x.length c) hlt ▸ hR1.stored us.length (.slice C x.length c))
      have HG := Lib.hid (show _ ∧ Below wr.heap.size wr w1 ∧ w.heap.size < wr.heap.size from ⟨hu0, hB, hR.lt⟩)
      clear hR1 hR hb hO hbl hN hx hB hu0
      go_wp2
      obtain ⟨hu0, hB, hlt2⟩ := HG.out
      obtain ⟨hR, hb, hO, hbl, hN, hl, hx⟩ := HH.out
      have hst := fam_snoc (goodV bools 4) hO hbl (by omega) hN hB ((goodV bools 4).mono hu0 (by omega)) (fun b hb => ((goodV bools 4).lt hu0 hb).1) hx (a := ⟨w.heap.size, us.length, none⟩) (Nat.lt_succ_self _) (.slice C x.length c)
      have hbel := (hb.trans (hB.mono hb.size)).setCell (p := ⟨w.heap.size, us.length, none⟩) (Nat.le_refl _) (.slice C x.length c)
      go_roundw
      case rel => exact ⟨us.length + 1, us ++ [.slice C x.length c], bss ++ [b0], by omega, by go_num, hbel, by simp, HS.out, hst.1, hst.2.1, hst.2.2⟩
      case measure => simp [intOf]; omega
    · have hR' : Row wr w.heap.size 22 us := by rw [show xs.length - us.length = 0 by omega] at hR; simpa using hR
      have HR := Lib.hid (fam_whole (lo := w.heap.size) (goodV bools 4) hR' (by omega) hbl (by unfold maxLen; omega) hO hN (Nat.le_refl _))
      clear hR hR' hO hN hbl
      go_wp2
      go_ret
      exact ⟨_, _, rfl, HR.out, hb⟩

set_option maxHeartbeats 800000 in
theorem markBoolSS_own (v : Value) (xs : List (List Bool)) (bs : List Nat) (lo : Nat) (k : Int) (w : World) (h : OwL (OwV bools 4) 22 w lo v xs bs) (hk0 : 0 ≤ k) (hk : k + (numL (fun x : List Bool => x.length) xs : Int) ≤ 4611686018427387904) :
    Calls Try.prog 45 #[v, .int .i64 k] w fun e w' => e = .returned (.int .i64 (k + (numL (fun x : List Bool => x.length) xs : Int))) ∧ OwL (OwV bools 4) 22 w' lo v (mkL (mkB) (fun x : List Bool => x.length) k xs) bs ∧ Only bs w w' := by
  have hlen : xs.length ≤ maxLen := by obtain ⟨vs, bss, ho, h1, _⟩ := h; rw [← h1]; exact own_len ho
  unfold maxLen at hlen
  have hsh : ∃ A cap, v = .slice A xs.length cap := OwL.shape h
  obtain ⟨A, cap, rfl⟩ := hsh
  have HO := Lib.hid h
  clear h
  go_enter Try.func45, Try.ntmps45
  go_wp2
  go_loopw [1, 5] (fun q i wr => ∃ j : Nat, j ≤ xs.length ∧ i = .int .i64 j ∧ q = .int .i64 (k + (numL (fun x : List Bool => x.length) (xs.take j) : Int)) ∧ OwL (OwV bools 4) 22 wr lo (.slice A xs.length cap) ((mkL (mkB) (fun x : List Bool => x.length) k xs).take j ++ xs.drop j) bs ∧ Only bs w wr) (fun _ i _ => xs.length - (intOf i).toNat)
  case atStart => exact ⟨0, Nat.zero_le _, rfl, by simp [numL], by simpa using HO.out, Only.refl _ _⟩
  case round =>
    obtain ⟨j, hj, rfl, rfl, hO, hB⟩ := hrel
    by_cases hlt : j < xs.length
    · have hx0 : xs[j]? = some xs[j] := List.getElem?_eq_getElem hlt
      have hx : ((mkL (mkB) (fun x : List Bool => x.length) k xs).take j ++ xs.drop j)[j]? = some xs[j] := by
        rw [List.getElem?_append_right (by simp [mkL_len]; omega)]
        simp [mkL_len, Nat.min_eq_left (Nat.le_of_lt hlt), hlt]
      obtain ⟨g, cap', u, b, hv, hc, hR, hbb, hset⟩ := OwL.member (goodV bools 4) hO hx
      have hl0 : ((mkL (mkB) (fun x : List Bool => x.length) k xs).take j ++ xs.drop j).length = xs.length := part_len (mkL_len _ _ k xs) hj
      rw [hl0] at hv
      cases hv
      have hn1 := numL_take (n := (fun x : List Bool => x.length)) hx0
      have hn2 := numL_le (n := (fun x : List Bool => x.length)) xs (j + 1)
      have HC := Lib.hid (markBoolS_own u xs[j] b lo (k + (numL (fun x : List Bool => x.length) (xs.take j) : Int)) wr hR (by omega) (by omega))
      have HM := Lib.hid (part_step (mkL_len (mkB) (fun x : List Bool => x.length) k xs) hlt (mkL_get (mkB) (fun x : List Bool => x.length) k xs hx0))
      have HN := Lib.hid hn1
      have HH := Lib.hid (show _ ∧ _ ∧ _ from ⟨hset, hB, hbb⟩)
      have i1 : (0 : Int) ≤ j := by omega
      have i2 : (j : Int) < xs.length := by omega
      clear hx0 hx hR hset hB hbb hl0 hn1 hn2 hO
      go_wp2_with fail
      refine HC.out.mono ?_
      rintro e w1 ⟨rfl, hR1, hO1⟩
      obtain ⟨hset, hB, hbb⟩ := HH.out
      have hnew := hset w1 _ hR1 hO1
      rw [HM.out] at hnew
      have HW := Lib.hid (show _ ∧ _ from ⟨hnew, hB.trans (hO1.mono hbb)⟩)
      clear hset hB hbb hR1 hO1 hnew HC HM HH
      go_wp2
      go_roundw
      case rel => exact ⟨j + 1, by omega, by go_num, by have := HN.out; rw [this]; go_num, HW.out.1, HW.out.2⟩
      case measure => simp [intOf]; omega
    · have ej : j = xs.length := by omega
      subst ej
      have HW := Lib.hid (show _ ∧ _ from ⟨hO, hB⟩)
      clear hO hB
      go_wp2
      go_ret
      exact ⟨ret_int (by simp), by have := HW.out.1; rwa [part_done (mkL_len _ _ k xs) hlt] at this, HW.out.2⟩

set_option maxHeartbeats 400000 in
theorem eqBoolSS_any (v u : Value) (xs ys : List (List Bool)) (w : World) (h : RdL RdB w v xs) (hu : RdL RdB w u ys) :
    Calls Try.prog 44 #[v, u] w fun e w' => e = .returned (.bool (decide (xs = ys))) ∧ Qt w w' := by
  obtain ⟨A, cap, rfl, h1, h2, h3⟩ := h.open
  obtain ⟨B, cap', rfl, k1, k2, k3⟩ := hu.open
  unfold maxLen at h2 k2
  by_cases hl : xs.length = ys.length
  · have hl' : ((xs.length : Int) != (ys.length : Int)) = false := by simp [hl]
    have HL := Lib.hid hl; clear hl
    go_enter Try.func44, Try.ntmps44
    go_wp2
    go_loopw [5] (fun i wr => ∃ k : Nat, k ≤ xs.length ∧ i = .int .i64 k ∧ Qt w wr ∧ xs.take k = ys.take k) (fun i _ => xs.length - (intOf i).toNat)
    case atStart => exact ⟨0, Nat.zero_le _, rfl, Qt.refl _, by simp⟩
    case round =>
      obtain ⟨k, hk, rfl, hb, hp⟩ := hrel
      have HP := Lib.hid hp; clear hp
      have HB := Lib.hid hb
      by_cases hlt : k < xs.length
      · obtain ⟨b, off, p, x, rfl, hx, hc, hR⟩ := h3 k hlt
        obtain ⟨b', off', q, y, rfl, hy, hd, hS⟩ := k3 k (by have := HL.out; omega)
        have hc' := (hb.cell _).trans hc
        have hd' := (hb.cell _).trans hd
        have HC := Lib.hid (fun n => eqBoolS_any p q x y (wr.drewN n) (keepsB _ _ _ _ hR (hb.drewN n).below) (keepsB _ _ _ _ hS (hb.drewN n).below))
        clear hc hd h3 k3 hb hR hS
        have HX := Lib.hid hx; clear hx
        have HY := Lib.hid hy; clear hy
        have i1 : (0 : Int) ≤ k := by omega
        have i2 : (k : Int) < xs.length := by omega
        have i3 : (k : Int) < ys.length := by have := HL.out; omega
        by_cases hxy : x = y
        · subst hxy
          have hd1 : decide (x = x) = true := by simp
          go_wp2_with fail
          go_quiet ((go_at_call 23; exact Calls.quiet_of (HC.out _)))
          go_wp2
          go_roundw
          case rel => exact ⟨k + 1, by omega, by go_num, HB.out.drewN _, takes_succ HP.out HX.out HY.out⟩
          case measure => simp [intOf]; omega
        · have hd1 : decide (x = y) = false := by simpa using hxy
          go_wp2_with fail
          go_quiet ((go_at_call 23; exact Calls.quiet_of (HC.out _)))
          go_wp2
          go_ret
          exact ⟨ret_bool (decide_eq_false (ne_at HX.out HY.out hxy)).symm, HB.out.drewN _⟩
      · clear hb
        go_wp2
        go_ret
        exact ⟨ret_bool (decide_eq_true (eq_of_takes HL.out hlt HP.out)).symm, HB.out⟩
  · have hl' : ((xs.length : Int) != (ys.length : Int)) = true := by simp; omega
    have HL := Lib.hid hl; clear hl
    go_enter Try.func44, Try.ntmps44
    go_wp2
    go_ret
    exact ⟨ret_bool (decide_eq_false (fun e => HL.out (by rw [e]))).symm, Qt.refl _⟩


theorem toBB_arg (v : Value) (xs : List (List Bool)) (w : World) (h : RdBB w v xs) (hs : BBSmall xs) :
    Calls Try.prog 41 #[v] w fun e w' => ∃ u bs, e = .returned u ∧ OwL (OwV bools 4) 22 w' w.heap.size u xs bs ∧ Below w.heap.size w w' := toBoolSS_own v xs w h hs.1 (fun x hx => by have := hs.2 x hx; omega)
theorem eqBB_arg (v u : Value) (xs : List (List Bool)) (w : World) (h : RdBB w v xs) (k : RdBB w u xs) :
    Calls Try.prog 44 #[v, u] w fun e w' => e = .returned (.bool true) ∧ Below w.heap.size w w' :=
  (eqBoolSS_any v u xs xs w h k).mono fun e w' ⟨he, hq⟩ => ⟨by simpa using he, hq.below⟩
theorem szBB_arg (v : Value) (xs : List (List Bool)) (left : Int) (w : World) (h : RdBB w v xs) (hs : BBSmall xs) (h0 : 0 ≤ left) (hb : left ≤ 4611686018427387904) :
    Calls Try.prog 39 #[v, .int .i64 left] w fun e w' => (∃ n : Int, e = .returned (.int .i64 n) ∧ (n < 0 ∨ n + (numBB xs : Int) ≤ left)) ∧ Below w.heap.size w w' :=
  (szBoolSS_tot v xs left w h h0 hb).mono fun e w' ⟨⟨n, he, hn⟩, hq⟩ => ⟨⟨n, he, by rcases hn with h | h; exact .inl h; right; unfold numBB; omega⟩, by first | exact hq.below | (subst hq; exact Below.refl _ _)⟩
theorem markBB_arg (v : Value) (xs : List (List Bool)) (bs : List Nat) (lo : Nat) (k : Int) (w : World) (h : OwL (OwV bools 4) 22 w lo v xs bs) (hk0 : 0 ≤ k) (hk : k + (numBB xs : Int) ≤ 4611686018427387904) :
    Calls Try.prog 45 #[v, .int .i64 k] w fun e w' => e = .returned (.int .i64 (k + (numBB xs : Int))) ∧ Turned bs w w' :=
  (markBoolSS_own v xs bs lo k w h hk0 hk).mono fun e w' ⟨he, _, ho⟩ => ⟨he, ho.turned⟩
end Go.Proofs.Ytjojmlaipcbmkaa
