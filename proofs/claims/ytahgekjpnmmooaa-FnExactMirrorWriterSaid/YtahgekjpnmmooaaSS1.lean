/-
  Lists of lists of strings: what they read as, their copies, sizes and comparisons.
-/
import Derived.Test.YtahgekjpnmmooaaArg
import Derived.Test.YtahgekjpnmmooaaMk
namespace Go.Proofs.Ytahgekjpnmmooaa
open Go.RowKit Go.ChangeShapes Go.WideShapes Go.Deep Go.Joins

abbrev RdSS : World → Value → List (List ByteArray) → Prop := RdL RdS
theorem keepsSS : Keeps RdSS := keepsL keepsS
def SSSmall (xs : List (List ByteArray)) : Prop := 24 * xs.length ≤ 281474976710656 ∧ ∀ x ∈ xs, SSmall x
def numSS (xs : List (List ByteArray)) : Nat := numL (fun x : List ByteArray => x.length) xs
theorem infoSs : (Try.prog.info? 44).map (fun i => (i.zero, i.size, i.bytes)) = some (some (.slice none 0 0), 1, 24) := by kernel_rfl

theorem numSS_take {xs : List (List ByteArray)} {k : Nat} {x : List ByteArray} (hx : xs[k]? = some x) : numSS (xs.take (k + 1)) = numSS (xs.take k) + x.length := numL_take (n := fun x : List ByteArray => x.length) hx

set_option maxHeartbeats 800000 in
theorem toStringSS_own (v : Value) (xs : List (List ByteArray)) (w : World) (h : RdL RdS w v xs) (hr : 24 * xs.length ≤ 281474976710656) (hr2 : ∀ x ∈ xs, SSmall x) :
    Calls Try.prog 50 #[v] w fun e w' => ∃ u bs, e = .returned u ∧ OwL (OwV strs 9) 44 w' w.heap.size u xs bs ∧ Below w.heap.size w w' := by
  obtain ⟨A, cap, rfl, h1, h2, h3⟩ := h.open
  unfold maxLen at h2
  have hmk := run_make_row' (P := Try.prog) 25 44 (.slice none 0 0) 24 Try.underlying25 infoSs rfl .i64 .i64 xs.length hr (by omega)
  go_enter Try.func50, Try.ntmps50
  go_wp2
  clear hmk
  have hM := Row.made w (.slice none 0 0) xs.length 44
  go_loopw [4] (fun i wr => ∃ k : Nat, ∃ us : List Value, ∃ bss : List (List Nat), k ≤ xs.length ∧ i = .int .i64 k ∧ Below w.heap.size w wr ∧ us.length = k ∧ Row wr w.heap.size 44 (us ++ List.replicate (xs.length - us.length) (.slice none 0 0)) ∧
      (∀ (i : Nat) u x b, us[i]? = some u → xs[i]? = some x → bss[i]? = some b → (OwV strs 9) wr (w.heap.size + 1) u x b) ∧ us.length = bss.length ∧ bss.flatten.Nodup) (fun i _ => xs.length - (intOf i).toNat)
  case atStart => exact ⟨0, [], [], Nat.zero_le _, rfl, below_alloc _ _, rfl, by simpa using hM, by simp, rfl, by simp⟩
  case round =>
    clear hM
    obtain ⟨k, us, bss, hk, rfl, hb, hl, hR, hO, hbl, hN⟩ := hrel
    by_cases hlt : k < xs.length
    · obtain ⟨b, off, p, x, rfl, hx, hc, hP⟩ := h3 k hlt
      have hc' := (hb.cell (p := ⟨b, off + k, none⟩) (World.block_lt_of_cell? _ _ hc)).trans hc
      have HC := Lib.hid (toStringS_own p x wr (keepsS _ _ _ _ hP hb) (hr2 x (List.mem_of_getElem? hx)))
      clear hc h3 hP
      have i1 : (0 : Int) ≤ k := by omega
      have i2 : (k : Int) < xs.length := by omega
      have HH := Lib.hid (show Row wr w.heap.size 44 (us ++ List.replicate (xs.length - us.length) (.slice none 0 0)) ∧ Below w.heap.size w wr ∧
        (∀ (i : Nat) u x b, us[i]? = some u → xs[i]? = some x → bss[i]? = some b → (OwV strs 9) wr (w.heap.size + 1) u x b) ∧ us.length = bss.length ∧ bss.flatten.Nodup ∧ us.length = k ∧ xs[k]? = some x from ⟨hR, hb, hO, hbl, hN, hl, hx⟩)
      clear hR hb hO hbl hN hl hx
      go_wp2_with fail
      refine HC.out.mono ?_
      rintro e w1 ⟨u0, b0, rfl, hu0, hB⟩
      obtain ⟨C, c, rfl⟩ := owS_shape hu0
      obtain ⟨hR, hb, hO, hbl, hN, hl, hx⟩ := HH.out
      subst hl
      have hR1 := hR.below hB hR.lt
      have hd' := (hR1.cell us.length).trans (replicate_snoc_get hlt)
      have hf' := hR1.free us.length
      have HS := Lib.hid (replicate_snoc_set (z := .slice none 0 0) (u := .slice C x.length c) hlt ▸ hR1.stored us.length (.slice C x.length c))
      have HG := Lib.hid (show _ ∧ Below wr.heap.size wr w1 ∧ w.heap.size < wr.heap.size from ⟨hu0, hB, hR.lt⟩)
      clear hR1 hR hb hO hbl hN hx hB hu0
      go_wp2
      obtain ⟨hu0, hB, hlt2⟩ := HG.out
      obtain ⟨hR, hb, hO, hbl, hN, hl, hx⟩ := HH.out
      have hst := fam_snoc (goodV strs 9) hO hbl (by omega) hN hB ((goodV strs 9).mono hu0 (by omega)) (fun b hb => ((goodV strs 9).lt hu0 hb).1) hx (a := ⟨w.heap.size, us.length, none⟩) (Nat.lt_succ_self _) (.slice C x.length c)
      have hbel := (hb.trans (hB.mono hb.size)).setCell (p := ⟨w.heap.size, us.length, none⟩) (Nat.le_refl _) (.slice C x.length c)
      go_roundw
      case rel => exact ⟨us.length + 1, us ++ [.slice C x.length c], bss ++ [b0], by omega, by go_num, hbel, by simp, HS.out, hst.1, hst.2.1, hst.2.2⟩
      case measure => simp [intOf]; omega
    · have hR' : Row wr w.heap.size 44 us := by rw [show xs.length - us.length = 0 by omega] at hR; simpa using hR
      have HR := Lib.hid (fam_whole (lo := w.heap.size) (goodV strs 9) hR' (by omega) hbl (by unfold maxLen; omega) hO hN (Nat.le_refl _))
      clear hR hR' hO hN hbl
      go_wp2
      go_ret
      exact ⟨_, _, rfl, HR.out, hb⟩

set_option maxHeartbeats 800000 in
theorem szSS_tot (v : Value) (xs : List (List ByteArray)) (left : Int) (w : World) (h : RdSS w v xs) (hs : SSSmall xs) (h0 : 0 ≤ left) (hb : left ≤ 4611686018427387904) :
    Calls Try.prog 45 #[v, .int .i64 left] w fun e w' => (∃ n : Int, e = .returned (.int .i64 n) ∧ (n < 0 ∨ n + ((xs.length + numSS xs : Nat) : Int) ≤ left)) ∧ Below w.heap.size w w' := by
  obtain ⟨A, cap, rfl, h1, h2, h3⟩ := h.open
  unfold maxLen at h2
  have hs2 := hs.2
  clear h hs
  by_cases hl : left - (xs.length : Int) < 0
  · clear h3
    go_enter Try.func45, Try.ntmps45
    go_wp2
    go_ret
    exact ⟨⟨_, rfl, .inl (by decide)⟩, Below.refl _ _⟩
  · go_enter Try.func45, Try.ntmps45
    go_wp2
    go_loopw [1, 5] (fun q i wr => ∃ k : Nat, ∃ m : Int, k ≤ xs.length ∧ i = .int .i64 k ∧ q = .int .i64 m ∧ 0 ≤ m ∧ m + ((xs.length + numSS (xs.take k) : Nat) : Int) ≤ left ∧ Below w.heap.size w wr) (fun _ i _ => xs.length - (intOf i).toNat)
    case atStart => exact ⟨0, _, Nat.zero_le _, rfl, rfl, by omega, by simp [numSS, numL], Below.refl _ _⟩
    case round =>
      obtain ⟨k, m, hk, rfl, rfl, hm0, hm, hq⟩ := hrel
      have HQ := Lib.hid hq
      have HM := Lib.hid hm
      have hm1 : m ≤ left := by omega
      clear hm
      by_cases hlt : k < xs.length
      · obtain ⟨b, off, u, x, rfl, hx, hc, hR⟩ := h3 k hlt
        have hc' := below_keep hq hc
        have HT := Lib.hid (numSS_take hx)
        have HS := Lib.hid (szS_arg u x m wr (keepsS _ _ _ _ hR hq) (hs2 x (List.mem_of_getElem? hx)) hm0 (by omega))
        have i1 : (0 : Int) ≤ k := by omega
        have i2 : (k : Int) < xs.length := by omega
        clear hc h3 hx hq hs2 hR
        go_wp2_with fail
        refine HS.out.mono ?_
        rintro e w1 ⟨⟨n, rfl, hn⟩, hb1⟩
        have HB1 := Lib.hid (below_step HQ.out hb1)
        have HN := Lib.hid hn
        clear hb1 hn HS
        by_cases hneg : n < 0
        · go_wp2
          go_ret
          exact ⟨⟨_, rfl, .inl (by decide)⟩, HB1.out⟩
        · go_wp2
          go_roundw
          case rel => exact ⟨k + 1, n, by omega, by go_num, rfl, by omega, by have a := HN.out; have b := HT.out; have c := HM.out; rcases a with a | a <;> omega, HB1.out⟩
          case measure => simp [intOf]; omega
      · have ej : k = xs.length := by omega
        subst ej
        clear hq h3
        go_wp2
        go_ret
        exact ⟨⟨_, rfl, .inr (by have := HM.out; simpa using this)⟩, HQ.out⟩

set_option maxHeartbeats 400000 in
theorem eqStringS_qt (v u : Value) (xs : List ByteArray) (w : World) (h : RdS w v xs) (hu : RdS w u xs) :
    Calls Try.prog 22 #[v, u] w fun e w' => e = .returned (.bool true) ∧ Qt w w' := by
  obtain ⟨A, cap, rfl, h1, h2, h3⟩ := RdS.open h
  obtain ⟨B, cap', rfl, k1, k2, k3⟩ := RdS.open hu
  unfold maxLen at h2 k2
  have hl' : ((xs.length : Int) != (xs.length : Int)) = false := by simp
  clear h hu
  go_enter Try.func22, Try.ntmps22
  go_wp2
  go_loopw [5] (fun i wr => ∃ k : Nat, k ≤ xs.length ∧ i = .int .i64 k ∧ Qt w wr) (fun i _ => xs.length - (intOf i).toNat)
  case atStart => exact ⟨0, Nat.zero_le _, rfl, Qt.refl _⟩
  case round =>
    obtain ⟨k, hk, rfl, hb⟩ := hrel
    have HB := Lib.hid hb
    by_cases hlt : k < xs.length
    · obtain ⟨b, off, x, rfl, hx, hc⟩ := h3 k hlt
      obtain ⟨b', off', y, rfl, hy, hd⟩ := k3 k hlt
      obtain rfl := Option.some.inj (hx.symm.trans hy)
      have hc' := (hb.cell _).trans hc
      have hd' := (hb.cell _).trans hd
      clear hc hd h3 k3 hb hx hy
      have i1 : (0 : Int) ≤ k := by omega
      have i2 : (k : Int) < xs.length := by omega
      have hxy' : (!(x.toList == x.toList)) = false := by simp
      go_wp2
      go_quiet (fail)
      go_wp2
      go_roundw
      case rel => exact ⟨k + 1, by omega, by go_num, HB.out.drewN _⟩
      case measure => simp [intOf]; omega
    · clear hb
      go_wp2
      go_ret
      exact ⟨rfl, HB.out⟩

set_option maxHeartbeats 800000 in
theorem eqSS_qt (v u : Value) (xs : List (List ByteArray)) (w : World) (h : RdSS w v xs) (hu : RdSS w u xs) :
    Calls Try.prog 35 #[v, u] w fun e w' => e = .returned (.bool true) ∧ Qt w w' := by
  obtain ⟨A, cap, rfl, h1, h2, h3⟩ := h.open
  obtain ⟨B, cap', rfl, k1, k2, k3⟩ := hu.open
  unfold maxLen at h2 k2
  have hl' : ((xs.length : Int) != (xs.length : Int)) = false := by simp
  clear h hu
  go_enter Try.func35, Try.ntmps35
  go_wp2
  go_loopw [5] (fun i wr => ∃ k : Nat, k ≤ xs.length ∧ i = .int .i64 k ∧ Qt w wr) (fun i _ => xs.length - (intOf i).toNat)
  case atStart => exact ⟨0, Nat.zero_le _, rfl, Qt.refl _⟩
  case round =>
    obtain ⟨k, hk, rfl, hb⟩ := hrel
    have HB := Lib.hid hb
    by_cases hlt : k < xs.length
    · obtain ⟨b, off, p, x, rfl, hx, hc, hR⟩ := h3 k hlt
      obtain ⟨b', off', q, y, rfl, hy, hd, hS⟩ := k3 k hlt
      obtain rfl := Option.some.inj (hx.symm.trans hy)
      have hc' := (hb.cell _).trans hc
      have hd' := (hb.cell _).trans hd
      have HC := Lib.hid (fun n => eqStringS_qt p q x (wr.drewN n) (keepsS _ _ _ _ hR (hb.drewN n).below) (keepsS _ _ _ _ hS (hb.drewN n).below))
      clear hc hd h3 k3 hb hx hy hR hS
      have i1 : (0 : Int) ≤ k := by omega
      have i2 : (k : Int) < xs.length := by omega
      go_wp2_with fail
      go_quiet ((go_at_call 22; exact Calls.quiet_of (HC.out _)))
      go_wp2
      go_roundw
      case rel => exact ⟨k + 1, by omega, by go_num, HB.out.drewN _⟩
      case measure => simp [intOf]; omega
    · clear hb
      go_wp2
      go_ret
      exact ⟨rfl, HB.out⟩
theorem eqSS_same (v u : Value) (xs : List (List ByteArray)) (w : World) (h : RdSS w v xs) (hu : RdSS w u xs) :
    Calls Try.prog 35 #[v, u] w fun e w' => e = .returned (.bool true) ∧ Below w.heap.size w w' := (eqSS_qt v u xs w h hu).mono fun e w' ⟨he, hq⟩ => ⟨he, hq.below⟩
end Go.Proofs.Ytahgekjpnmmooaa
