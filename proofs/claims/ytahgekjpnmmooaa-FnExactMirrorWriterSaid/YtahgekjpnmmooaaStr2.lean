/-
  Marks of lists of strings: the laws' own texts for numbers.
-/
import Derived.Test.YtahgekjpnmmooaaStr1
import Derived.Test.YtahgekjpnmmooaaZ
import Derived.Laws.BytesArg
namespace Go.Proofs.Ytahgekjpnmmooaa
open Go.RowKit

theorem Turned.after {bs : List Nat} {a b c : World} (h : Turned bs a b) (k : Below b.heap.size b c) : Turned bs a c :=
  ⟨k.os.trans h.os, k.tape.trans h.tape, k.output.trans h.output, Nat.le_trans h.size k.size, fun i hi hn => (k.block i (by have := h.size; omega)).trans (h.block i hi hn)⟩
theorem Turned.setCell {bs : List Nat} {a w : World} (h : Turned bs a w) {p : Addr} (hp : p.block ∈ bs) (u : Value) : Turned bs a (w.setCell p u) :=
  (h.only ((Only.refl bs w).setCell hp u)).mono (by simp)
theorem Turned.refl (bs : List Nat) (w : World) : Turned bs w w := (Only.refl bs w).turned

theorem ten_pow {j : Nat} (h : 10 ^ j ≤ 4611686018427387904) : j ≤ 18 := by
  rcases Nat.lt_or_ge 18 j with h1 | h1
  · have : 10 ^ 19 ≤ 10 ^ j := Nat.pow_le_pow_right (by omega) (by omega)
    omega
  · exact h1

set_option maxRecDepth 100000 in
set_option maxHeartbeats 800000 in
theorem markText_any (k : Int) (w : World) (h0 : 0 ≤ k) (hk : k ≤ 4611686018427387904) :
    Calls Try.prog 66 #[.int .i64 k] w fun e w' => (∃ s, e = .returned (.string s)) ∧ Below w.heap.size w w' := by
  by_cases hz : k ≤ 0
  · go_enter Try.func66, Try.ntmps66
    go_wp2
    go_ret
    exact ⟨⟨_, rfl⟩, Below.refl _ _⟩
  · obtain ⟨n, rfl⟩ := Int.eq_ofNat_of_zero_le h0
    go_enter Try.func66, Try.ntmps66
    go_wp2
    go_loopw [0, 3] (fun q s wr => ∃ m : Nat, ∃ t : ByteArray, q = .int .i64 m ∧ s = .string t ∧ Below w.heap.size w wr ∧ m * 10 ^ t.size ≤ 4611686018427387904 ∧ t.size ≤ 19) (fun q _ _ => (intOf q).toNat)
    case atStart => exact ⟨n, _, rfl, rfl, Below.refl _ _, by show n * 10 ^ 0 ≤ _; omega, by show 0 ≤ 19; omega⟩
    case round =>
      obtain ⟨m, t, rfl, rfl, hb, hp, ht⟩ := hrel
      have HB := Lib.hid hb
      by_cases hm : (0 : Int) < m
      · have h18 : t.size ≤ 18 := ten_pow (Nat.le_trans (by have : 1 * 10 ^ t.size ≤ m * 10 ^ t.size := Nat.mul_le_mul_right _ (by omega); omega) hp)
        have hml : m ≤ 4611686018427387904 := Nat.le_trans (by have : m * 1 ≤ m * 10 ^ t.size := Nat.mul_le_mul_left _ (Nat.pos_of_ne_zero (by simp)); omega) hp
        have HP := Lib.hid (show m / 10 * 10 ^ (1 + t.size) ≤ 4611686018427387904 from by
          rw [Nat.pow_add, Nat.pow_one, ← Nat.mul_assoc]
          exact Nat.le_trans (Nat.mul_le_mul_right _ (Nat.div_mul_le_self _ _)) hp)
        have m0 : (0 : Int) ≤ (m : Int) % 10 := by omega
        have m1 : (m : Int) % 10 ≤ 9 := by omega
        have hcv := run_convert_bytes_arg (P := Try.prog) (wr.alloc (.cells #[.int .u8 (48 + (m : Int) % 10)] 5)) 90 5 Try.underlying90 Try.underlying5 wr.heap.size 0 1 1 [48 + (m : Int) % 10] rfl (fun i hi => by
          obtain rfl : i = 0 := by omega
          simp [(Row.new wr [.int .u8 (48 + (m : Int) % 10)] 5).cell 0]) 9 Try.underlying9
        obtain ⟨x, hx⟩ : ∃ x, strOfNums [48 + (m : Int) % 10] = x := ⟨_, rfl⟩
        have hxs : x.size = 1 := by rw [← hx]; simp [strOfNums, ByteArray.size]
        rw [hx] at hcv
        have hsum : (x ++ t).size = 1 + t.size := by rw [ByteArray.size_append, hxs]
        have HB2 := Lib.hid (below_step hb (below_alloc wr (.cells #[.int .u8 (48 + (m : Int) % 10)] 5)))
        clear hp hb hx
        go_wp2
        go_roundw
        case rel => exact ⟨m / 10, x ++ t, by go_num, rfl, HB2.out, by rw [hsum]; exact HP.out, by rw [hsum]; omega⟩
        case measure => simp [intOf]; omega
      · have hsum : ((⟨#[109]⟩ : ByteArray) ++ t).size = 1 + t.size := by rw [ByteArray.size_append]; rfl
        clear hp hb
        go_wp2
        go_ret
        exact ⟨⟨_, rfl⟩, HB.out⟩

set_option maxHeartbeats 800000 in
theorem markS_arg (v : Value) (xs : List ByteArray) (bs : List Nat) (lo : Nat) (k : Int) (w : World) (h : OwV strs 9 w lo v xs bs) (hk0 : 0 ≤ k) (hk : k + (xs.length : Int) ≤ 4611686018427387904) :
    Calls Try.prog 23 #[v, .int .i64 k] w fun e w' => e = .returned (.int .i64 (k + (xs.length : Int))) ∧ Turned bs w w' := by
  obtain ⟨ho, rfl⟩ := h
  rcases ho.nil_or with ⟨rfl, hx⟩ | ⟨g, cap, rfl, hg⟩
  · have hx0 : xs = [] := by simpa [strs] using hx
    subst hx0
    go_enter Try.func23, Try.ntmps23
    go_wp2
    refine wp_loop_rounds 1 ?_
    rw [rounds_succ]
    go_wp2
    go_ret
    exact ⟨ret_int (by simp), Turned.refl _ _⟩
  · rw [strs_len]
    rw [strs_len] at ho
    have HO := Lib.hid ho
    clear hg ho
    go_enter Try.func23, Try.ntmps23
    go_wp2
    go_loopw [1, 5] (fun q i wr => ∃ j : Nat, ∃ ys : List ByteArray, j ≤ xs.length ∧ i = .int .i64 j ∧ q = .int .i64 (k + j) ∧ ys.length = xs.length ∧ Own wr 9 lo (.slice (some ⟨g, 0, none⟩) xs.length cap) (strs ys) ∧ Turned [g] w wr) (fun _ i _ => xs.length - (intOf i).toNat)
    case atStart => exact ⟨0, xs, Nat.zero_le _, rfl, by go_num, rfl, HO.out, Turned.refl _ _⟩
    case round =>
      obtain ⟨j, ys, hj, rfl, rfl, hyl, hO, hB⟩ := hrel
      by_cases hlt : j < xs.length
      · have HM := Lib.hid (markText_any (k + (j : Int)) wr (by omega) (by omega))
        have HI := Lib.hid (show _ ∧ _ from ⟨hO, hB⟩)
        have i1 : (0 : Int) ≤ j := by omega
        have i2 : (j : Int) < xs.length := by omega
        clear hO hB
        go_wp2_with fail
        refine HM.out.mono ?_
        rintro e w1 ⟨⟨s, rfl⟩, hb⟩
        have hO1 := HI.out.1.below hb
        have hB1 := HI.out.2.after hb
        have hl : (strs ys).length = xs.length := by rw [strs_len, hyl]
        have hO' : w1.ownsRow lo 9 1 (.slice (some ⟨g, 0, none⟩) xs.length cap) xs.length (strs ys) := by have := hO1; unfold Own at this; rwa [hl] at this
        have hc := hO'.cellAt j (by omega)
        have hf := hO'.frozenAt j
        obtain ⟨old, hold⟩ : ∃ u, (strs ys)[j]? = some u := ⟨_, List.getElem?_eq_getElem (by omega)⟩
        rw [hold] at hc
        have hst := hO'.stored j (.string s)
        have es : (strs ys).set j (.string s) = strs (ys.set j s) := by unfold strs; rw [List.map_set]
        have HS := Lib.hid (show _ ∧ _ ∧ _ ∧ _ ∧ _ from ⟨hst.1, es, hB1, hl, hyl⟩)
        clear hO' hold hst es hB1 hO1 hl hb hyl
        go_wp2
        obtain ⟨s1, s2, s3, s4, s5⟩ := HS.out
        go_roundw
        case rel => exact ⟨j + 1, ys.set j s, by omega, by go_num, by go_num, by simp [s5], by rw [← s2]; unfold Own; rw [List.length_set, s4]; exact s1, s3.setCell (List.mem_singleton.2 rfl) _⟩
        case measure => simp [intOf]; omega
      · have HB2 := Lib.hid hB
        have ej : j = xs.length := by omega
        subst ej
        clear hO hB
        go_wp2
        go_ret
        exact ⟨rfl, by rw [blks_some]; exact HB2.out⟩
end Go.Proofs.Ytahgekjpnmmooaa
