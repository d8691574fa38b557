/-
  The laws' own helpers for readers: sizes (any number), copies (they read as what is copied), and comparisons of lists (true just if they are equal).
-/
import Derived.Test.YtdkalefepdlccaaT1
namespace Go.Proofs.Ytdkalefepdlccaa
open Go.RowKit

theorem infoI64 : (Try.prog.info? 2).map (fun i => (i.zero, i.size, i.bytes)) = some (some (.int .i64 0), 1, 8) := by kernel_rfl
theorem infoBool : (Try.prog.info? 4).map (fun i => (i.zero, i.size, i.bytes)) = some (some (.bool false), 1, 1) := by kernel_rfl
theorem infoIs : (Try.prog.info? 42).map (fun i => (i.zero, i.size, i.bytes)) = some (some (.slice none 0 0), 1, 24) := by kernel_rfl

set_option maxHeartbeats 400000 in
theorem toInt64S_any (v : Value) (xs : List Int) (w : World) (h : RdI w v xs) (hr : 8 * xs.length ≤ 281474976710656) :
    Calls Try.prog 85 #[v] w fun e w' => ∃ g, e = .returned (.slice (some ⟨g, 0, none⟩) xs.length xs.length) ∧ Row w' g 2 (ints xs) ∧ w.heap.size ≤ g ∧ Below w.heap.size w w' := by
  obtain ⟨A, cap, rfl, h1, h2, h3⟩ := h.open
  unfold maxLen at h2
  have hmk := run_make_row' (P := Try.prog) 42 2 (.int .i64 0) 8 Try.underlying42 infoI64 rfl .i64 .i64 xs.length hr (by omega)
  go_enter Try.func85, Try.ntmps85
  go_wp2
  clear hmk
  have hM := Row.made w (.int .i64 0) xs.length 2
  rw [← ints_len xs, ← part_zero, ints_len] at hM
  go_loopw [4] (fun i wr => ∃ k : Nat, k ≤ xs.length ∧ i = .int .i64 k ∧ Below w.heap.size w wr ∧ Row wr w.heap.size 2 (part (ints xs) k (.int .i64 0))) (fun i _ => xs.length - (intOf i).toNat)
  case atStart => exact ⟨0, Nat.zero_le _, rfl, below_alloc _ _, hM⟩
  case round =>
    clear hM
    obtain ⟨k, hk, rfl, hb, hR⟩ := hrel
    by_cases hlt : k < xs.length
    · obtain ⟨b, off, x, rfl, hx, hc⟩ := h3 k hlt
      have hc' := (hb.cell (p := ⟨b, off + k, none⟩) (World.block_lt_of_cell? _ _ hc)).trans hc
      have hd' := (hR.cell k).trans (part_get (by rw [ints_len]; exact hlt))
      have hf' := hR.free k
      have hN := part_set (z := .int .i64 0) (show (ints xs)[k]? = some (.int .i64 x) by simp [ints, hx])
      have HN := Lib.hid hN
      have HS := Lib.hid (hR.stored k (.int .i64 x))
      clear hN hc h3 hx
      go_wp2
      go_roundw
      case rel => exact ⟨k + 1, by omega, by go_num, hb.setCell (Nat.le_refl _) _, by rw [← HN.out]; exact HS.out⟩
      case measure => simp [intOf]; omega
    · have hR' : Row wr w.heap.size 2 (ints xs) := by rw [part_full (by rw [ints_len]; exact hlt)] at hR; exact hR
      have HR := Lib.hid hR'
      clear hR hR'
      go_wp2
      go_ret
      exact ⟨_, rfl, HR.out, Nat.le_refl _, hb⟩

end Go.Proofs.Ytdkalefepdlccaa
