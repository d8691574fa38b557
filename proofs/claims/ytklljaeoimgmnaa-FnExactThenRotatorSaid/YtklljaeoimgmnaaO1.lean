/-
  Lists of integers and bools, and lists of these: their copies are owned.
-/
import Derived.Test.YtklljaeoimgmnaaT3
import Derived.Test.YtklljaeoimgmnaaOwn
namespace Go.Proofs.Ytklljaeoimgmnaa
open Go.RowKit
theorem RdL.shape {α : Type} {R : World → Value → α → Prop} {w : World} {v : Value} {xs : List α} (h : RdL R w v xs) : ∃ B c, v = .slice B xs.length c := by
  obtain ⟨vs, h, hl, _⟩ := h
  rw [← hl]; exact h.shape

theorem toInt64S_own (v : Value) (xs : List Int) (w : World) (h : RdI w v xs) (hr : 8 * xs.length ≤ 281474976710656) :
    Calls Try.prog 41 #[v] w fun e w' => ∃ u bs, e = .returned u ∧ OwV ints 2 w' w.heap.size u xs bs ∧ Below w.heap.size w w' :=
  (toInt64S_any v xs w h hr).mono fun e w' ⟨g, he, hg, hl, hb⟩ => ⟨_, _, he, ⟨by have := hg.own hl (by rw [ints_len]; unfold maxLen; omega); rwa [ints_len] at this, rfl⟩, hb⟩

set_option maxHeartbeats 800000 in
theorem toInt64SS_own (v : Value) (xs : List (List Int)) (w : World) (h : RdL RdI w v xs) (hr : 24 * xs.length ≤ 281474976710656) (hr2 : ∀ x ∈ xs, 8 * x.length ≤ 281474976710656) :
    Calls Try.prog 40 #[v] w fun e w' => ∃ u bs, e = .returned u ∧ OwL (OwV ints 2) 36 w' w.heap.size u xs bs ∧ Below w.heap.size w w' := by
  obtain ⟨A, cap, rfl, h1, h2, h3⟩ := h.open
  unfold maxLen at h2
  have hmk := run_make_row' (P := Try.prog) 35 36 (.slice none 0 0) 24 Try.underlying35 infoIs rfl .i64 .i64 xs.length hr (by omega)
  go_enter Try.func40, Try.ntmps40
  go_wp2
  clear hmk
  have hM := Row.made w (.slice none 0 0) xs.length 36
  go_loopw [4] (fun i wr => ∃ k : Nat, ∃ us : List Value, ∃ bss : List (List Nat), k ≤ xs.length ∧ i = .int .i64 k ∧ Below w.heap.size w wr ∧ us.length = k ∧ Row wr w.heap.size 36 (us ++ List.replicate (xs.length - us.length) (.slice none 0 0)) ∧
      (∀ (i : Nat) u x b, us[i]? = some u → xs[i]? = some x → bss[i]? = some b → (OwV ints 2) wr (w.heap.size + 1) u x b) ∧ us.length = bss.length ∧ bss.flatten.Nodup) (fun i _ => xs.length - (intOf i).toNat)
  case atStart => exact ⟨0, [], [], Nat.zero_le _, rfl, below_alloc _ _, rfl, by simpa using hM, by simp, rfl, by simp⟩
  case round =>
    clear hM
    obtain ⟨k, us, bss, hk, rfl, hb, hl, hR, hO, hbl, hN⟩ := hrel
    by_cases hlt : k < xs.length
    · obtain ⟨b, off, p, x, rfl, hx, hc, hP⟩ := h3 k hlt
      have hc' := (hb.cell (p := ⟨b, off + k, none⟩) (World.block_lt_of_cell? _ _ hc)).trans hc
      have HC := Lib.hid (toInt64S_own p x wr (keepsI _ _ _ _ hP hb) (hr2 x (List.mem_of_getElem? hx)))
      clear hc h3 hP
      have i1 : (0 : Int) ≤ k := by omega
      have i2 : (k : Int) < xs.length := by omega
      have HH := Lib.hid (show Row wr w.heap.size 36 (us ++ List.replicate (xs.length - us.length) (.slice none 0 0)) ∧ Below w.heap.size w wr ∧
        (∀ (i : Nat) u x b, us[i]? = some u → xs[i]? = some x → bss[i]? = some b → (OwV ints 2) wr (w.heap.size + 1) u x b) ∧ us.length = bss.length ∧ bss.flatten.Nodup ∧ us.length = k ∧ xs[k]? = some x from ⟨hR, hb, hO, hbl, hN, hl, hx⟩)
      clear hR hb hO hbl hN hl hx
      go_wp2_with fail
      refine HC.out.mono ?_
      rintro e w1 ⟨u0, b0, rfl, hu0, hB⟩
      obtain ⟨C, c, rfl⟩ := owI_shape hu0
      obtain ⟨hR, hb, hO, hbl, hN, hl, hx⟩ := HH.out
      subst hl
      have hR1 := hR.below hB hR.lt
      have hd' := (hR1.cell us.length).trans (replicate_snoc_get hlt)
      have hf' := hR1.free us.length
      have HS := Lib.hid (replicate_snoc_set (z := .slice none 0 0) (u := .slice C x.length c) hlt ▸ hR1.stored us.length (.slice C x.length c))
      have HG := Lib.hid (show _ ∧ Below wr.heap.size wr w1 ∧ w.heap.size < wr.heap.size from ⟨hu0, hB, hR.lt⟩)
      clear hR1 hR hb hO hbl hN hx hB hu0
      go_wp2
      obtain ⟨hu0, hB, hlt2⟩ := HG.out
      obtain ⟨hR, hb, hO, hbl, hN, hl, hx⟩ := HH.out
      have hst := fam_snoc (goodV ints 2) hO hbl (by omega) hN hB ((goodV ints 2).mono hu0 (by omega)) (fun b hb => ((goodV ints 2).lt hu0 hb).1) hx (a := ⟨w.heap.size, us.length, none⟩) (Nat.lt_succ_self _) (.slice C x.length c)
      have hbel := (hb.trans (hB.mono hb.size)).setCell (p := ⟨w.heap.size, us.length, none⟩) (Nat.le_refl _) (.slice C x.length c)
      go_roundw
      case rel => exact ⟨us.length + 1, us ++ [.slice C x.length c], bss ++ [b0], by omega, by go_num, hbel, by simp, HS.out, hst.1, hst.2.1, hst.2.2⟩
      case measure => simp [intOf]; omega
    · have hR' : Row wr w.heap.size 36 us := by rw [show xs.length - us.length = 0 by omega] at hR; simpa using hR
      have HR := Lib.hid (fam_whole (lo := w.heap.size) (goodV ints 2) hR' (by omega) hbl (by unfold maxLen; omega) hO hN (Nat.le_refl _))
      clear hR hR' hO hN hbl
      go_wp2
      go_ret
      exact ⟨_, _, rfl, HR.out, hb⟩

end Go.Proofs.Ytklljaeoimgmnaa
