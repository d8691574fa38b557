import Derived.Test.YtgeopkjohijegaaT3
namespace Go.Proofs.Ytgeopkjohijegaa
open Go.RowKit

/-- A slice of slices of integers that a call owns. -/
def OwnII (w : World) (lo : Nat) (v : Value) (xss : List (List Int)) : Prop := ∃ vs, OwnL (fun w lo u xs => Own w 2 lo u (ints xs)) blks 58 w lo v xss vs

set_option maxHeartbeats 400000 in
theorem toInt64SS_any (v : Value) (xs : List (List Int)) (w : World) (h : RdII w v xs) (hr : 24 * xs.length ≤ 281474976710656) (hr2 : ∀ x ∈ xs, 8 * x.length ≤ 281474976710656) :
    Calls Try.prog 64 #[v] w fun e w' => ∃ u, e = .returned u ∧ OwnII w' w.heap.size u xs ∧ Below w.heap.size w w' := by
  obtain ⟨A, cap, rfl, h1, h2, h3⟩ := RdL.open h
  unfold maxLen at h2
  have hmk := run_make_row' (P := Try.prog) 26 58 (.slice none 0 0) 24 Try.underlying26 infoIs rfl .i64 .i64 xs.length hr (by omega)
  go_enter Try.func64, Try.ntmps64
  go_wp2
  clear hmk
  have hM := Row.made w (.slice none 0 0) xs.length 58
  go_loopw [4] (fun i wr => ∃ k : Nat, ∃ us : List Value, k ≤ xs.length ∧ i = .int .i64 k ∧ Below w.heap.size w wr ∧ us.length = k ∧ Row wr w.heap.size 58 (us ++ List.replicate (xs.length - us.length) (.slice none 0 0)) ∧
      (∀ (i : Nat) u x, us[i]? = some u → xs[i]? = some x → Own wr 2 (w.heap.size + 1) u (ints x)) ∧ (us.flatMap blks).Nodup) (fun i _ => xs.length - (intOf i).toNat)
  case atStart => exact ⟨0, [], Nat.zero_le _, rfl, below_alloc _ _, rfl, by simpa using hM, by simp, by simp⟩
  case round =>
    clear hM
    obtain ⟨k, us, hk, rfl, hb, hl, hR, hO, hN⟩ := hrel
    by_cases hlt : k < xs.length
    · obtain ⟨b, off, p, x, rfl, hx, hc, hP⟩ := h3 k hlt
      have hc' := (hb.cell (p := ⟨b, off + k, none⟩) (World.block_lt_of_cell? _ _ hc)).trans hc
      have HC := Lib.hid (toInt64S_any p x wr (keepsI _ _ _ _ hP hb) (hr2 x (List.mem_of_getElem? hx)))
      clear hc h3 hP
      have i1 : (0 : Int) ≤ k := by omega
      have i2 : (k : Int) < xs.length := by omega
      have HH := Lib.hid (show Row wr w.heap.size 58 (us ++ List.replicate (xs.length - us.length) (.slice none 0 0)) ∧ Below w.heap.size w wr ∧
        (∀ (i : Nat) u x, us[i]? = some u → xs[i]? = some x → Own wr 2 (w.heap.size + 1) u (ints x)) ∧ (us.flatMap blks).Nodup ∧ us.length = k ∧ xs[k]? = some x from ⟨hR, hb, hO, hN, hl, hx⟩)
      clear hR hb hO hN hl hx
      go_wp2_with fail
      refine HC.out.mono ?_
      rintro e w1 ⟨g, rfl, hG, hg, hB⟩
      obtain ⟨hR, hb, hO, hN, hl, hx⟩ := HH.out
      subst hl
      have hR1 := hR.below hB hR.lt
      have hd' := (hR1.cell us.length).trans (replicate_snoc_get hlt)
      have hf' := hR1.free us.length
      have HS := Lib.hid (replicate_snoc_set (z := .slice none 0 0) (u := .slice (some ⟨g, 0, none⟩) x.length x.length) hlt ▸ hR1.stored us.length (.slice (some ⟨g, 0, none⟩) x.length x.length))
      have HG := Lib.hid (show Row w1 g 2 (ints x) ∧ wr.heap.size ≤ g ∧ Below wr.heap.size wr w1 ∧ w.heap.size < wr.heap.size from ⟨hG, hg, hB, hR.lt⟩)
      clear hR1 hG hR hb hO hN hx hB hg
      go_wp2
      obtain ⟨hG, hg, hB, hlt2⟩ := HG.out
      obtain ⟨hR, hb, hO, hN, hl, hx⟩ := HH.out
      have hm : x.length ≤ maxLen := by have := hr2 x (List.mem_of_getElem? hx); unfold maxLen; omega
      have hU : Own w1 2 (w.heap.size + 1) (.slice (some ⟨g, 0, none⟩) x.length x.length) (ints x) := by
        have := hG.own (lo := w.heap.size + 1) (by omega) (by rw [ints_len]; exact hm)
        rwa [ints_len] at this
      have hst := own_snoc (f := ints) hO hN (by omega) hB hU (fun b hb => by rw [blks_some] at hb; simp at hb; omega) hx (a := ⟨w.heap.size, us.length, none⟩) (Nat.lt_succ_self _) (.slice (some ⟨g, 0, none⟩) x.length x.length)
      have hbel := (hb.trans (hB.mono hb.size)).setCell (p := ⟨w.heap.size, us.length, none⟩) (Nat.le_refl _) (.slice (some ⟨g, 0, none⟩) x.length x.length)
      go_roundw
      case rel => exact ⟨us.length + 1, us ++ [.slice (some ⟨g, 0, none⟩) x.length x.length], by omega, by go_num, hbel, by simp, HS.out, hst.1, hst.2⟩
      case measure => simp [intOf]; omega
    · have hR' : Row wr w.heap.size 58 us := by rw [show xs.length - us.length = 0 by omega] at hR; simpa using hR
      have HR := Lib.hid (own_family (lo := w.heap.size) (f := ints) hR' (by omega) (by unfold maxLen; omega) hO hN (Nat.le_refl _))
      clear hR hR' hO hN
      go_wp2
      go_ret
      exact ⟨_, rfl, ⟨us, HR.out⟩, hb⟩
end Go.Proofs.Ytgeopkjohijegaa
