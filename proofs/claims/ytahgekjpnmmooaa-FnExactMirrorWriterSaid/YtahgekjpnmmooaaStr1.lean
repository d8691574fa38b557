/-
  Lists of strings: what they read as, and their sizes, copies and comparisons by the laws' own helpers.
-/
import Derived.Test.YtahgekjpnmmooaaO1
import Derived.Test.YtahgekjpnmmooaaOpen
namespace Go.Proofs.Ytahgekjpnmmooaa
open Go.RowKit Go.ChangeShapes Go.WideShapes Go.Deep Go.Joins

def strs (ss : List ByteArray) : List Value := ss.map Value.string
def RdS (w : World) (v : Value) (ss : List ByteArray) : Prop := Rd w v (strs ss)
theorem keepsS : Keeps RdS := fun _ _ _ _ h hb => Rd.below h hb
theorem strs_len (ss : List ByteArray) : (strs ss).length = ss.length := by simp [strs]
theorem RdS.open {w : World} {v : Value} {zs : List ByteArray} (h : RdS w v zs) :
    ∃ A cap, v = .slice A zs.length cap ∧ zs.length ≤ cap ∧ cap ≤ maxLen ∧ ∀ i, i < zs.length → ∃ b off z, A = some ⟨b, off, none⟩ ∧ zs[i]? = some z ∧ w.cell? ⟨b, off + i, none⟩ = some (.string z) := by
  obtain ⟨A, cap, rfl, h1, h2, h3⟩ := h
  rw [strs_len] at h1
  refine ⟨A, cap, by rw [strs_len], h1, h2, fun i hi => ?_⟩
  obtain ⟨b, off, hA, hc⟩ := h3 i (.string zs[i]) (by simp [strs, hi])
  exact ⟨b, off, zs[i], hA, by simp [hi], hc⟩
theorem rdS_shape {w : World} {v : Value} {xs : List ByteArray} (h : RdS w v xs) : ∃ B c, v = .slice B xs.length c := by
  obtain ⟨A, cap, rfl, _⟩ := RdS.open h; exact ⟨_, _, rfl⟩
theorem RdS.shape {w : World} {v : Value} {xs : List ByteArray} (h : RdS w v xs) : ∃ B c, v = .slice B xs.length c := rdS_shape h
theorem owS_shape {e : TypeId} {w : World} {lo : Nat} {v : Value} {xs : List ByteArray} {bs : List Nat} (h : OwV strs e w lo v xs bs) : ∃ B c, v = .slice B xs.length c := by
  have : RdS w v xs := h.1.rd
  exact rdS_shape this

/-- What a list of strings as an argument is bounded by. -/
def SSmall (ss : List ByteArray) : Prop := 16 * ss.length ≤ 281474976710656 ∧ ∀ s ∈ ss, s.size ≤ 140737488351232
/-- How much the laws count a list of strings as. -/
def sumSz (ss : List ByteArray) : Nat := (ss.map ByteArray.size).sum

section
variable {H : Type} {enc : TypeId × Value → H} {P : Program} {w : World} {base : Nat} {held : Bool}
theorem opens_string {t : TypeId} (ht : P.underlying t = some .string) : Opens enc P w base held t (fun _ v (s : ByteArray) => v = .string s) (fun s => s.size ≤ 140737488351232) := fun fuel v x h hf => by
  obtain ⟨s, h1, h2, _⟩ := DataW.trod_string ht h
  obtain rfl : v = .string s := by simpa using h1
  subst h2
  exact ⟨s, rfl, fit_string hf⟩
theorem rdL_strs {w : World} {v : Value} {zs : List ByteArray} (h : RdL (fun _ v (n : ByteArray) => v = .string n) w v zs) : RdS w v zs := by
  obtain ⟨vs, h1, h2, h3⟩ := h
  have : vs = strs zs := by
    apply List.ext_getElem?
    intro i
    by_cases hi : i < vs.length
    · have hz : i < zs.length := by omega
      have := h3 i vs[i] zs[i] (by simp [hi]) (by simp [hz])
      simp [strs, hi, hz, this]
    · simp [strs, hi, show ¬ i < zs.length by omega]
  subst this
  exact h1
theorem opens_strs {t e : TypeId} (ht : P.underlying t = some (.slice e)) (he : P.underlying e = some .string) (hc : P.cellsOf e = 1) (hb : P.bytesOf e = 16) : Opens enc P w base held t RdS SSmall :=
  opens_mono (opens_slice ht hc (opens_string he)) (fun _ _ h => rdL_strs h) (fun ys h => ⟨by have := h.1; rw [hb] at this; unfold reachBytes at this; omega, h.2⟩)
end

theorem infoStr : (Try.prog.info? 9).map (fun i => (i.zero, i.size, i.bytes)) = some (some (.string (ByteArray.mk #[])), 1, 16) := by kernel_rfl

set_option maxHeartbeats 800000 in
theorem szStringS_any (v : Value) (xs : List ByteArray) (left : Int) (w : World) (h : RdS w v xs) (hsm : SSmall xs) (h0 : 0 ≤ left) (hb : left ≤ 4611686018427387904) :
    Calls Try.prog 18 #[v, .int .i64 left] w fun e w' => (∃ n : Int, e = .returned (.int .i64 n) ∧ (n < 0 ∨ n + (xs.length : Int) ≤ left)) ∧ Below w.heap.size w w' := by
  obtain ⟨A, cap, rfl, h1, h2, h3⟩ := RdS.open h
  unfold maxLen at h2
  have hsm2 := hsm.2
  clear h hsm
  by_cases hl : left - (xs.length : Int) < 0
  · clear h3
    go_enter Try.func18, Try.ntmps18
    go_wp2
    go_ret
    exact ⟨⟨_, rfl, .inl (by decide)⟩, Below.refl _ _⟩
  · go_enter Try.func18, Try.ntmps18
    go_wp2
    go_loopw [1, 5] (fun q i wr => ∃ k : Nat, ∃ m : Int, k ≤ xs.length ∧ i = .int .i64 k ∧ q = .int .i64 m ∧ 0 ≤ m ∧ m + (xs.length : Int) ≤ left ∧ Qt w wr) (fun _ i _ => xs.length - (intOf i).toNat)
    case atStart => exact ⟨0, _, Nat.zero_le _, rfl, rfl, by omega, by omega, Qt.refl _⟩
    case round =>
      obtain ⟨k, m, hk, rfl, rfl, hm0, hm, hq⟩ := hrel
      have HQ := Lib.hid hq
      by_cases hlt : k < xs.length
      · obtain ⟨b, off, x, rfl, hx, hc⟩ := h3 k hlt
        have hc' := (hq.cell _).trans hc
        have hxs := hsm2 x (List.mem_of_getElem? hx)
        have i1 : (0 : Int) ≤ k := by omega
        have i2 : (k : Int) < xs.length := by omega
        clear hc h3 hx hq hsm2
        by_cases hneg : m - (x.size : Int) < 0
        · have hd : decide (m - (x.size : Int) < 0) = true := by simpa using hneg
          go_wp2
          go_ret
          exact ⟨⟨_, rfl, .inl (by decide)⟩, HQ.out.below⟩
        · have hd : decide (m - (x.size : Int) < 0) = false := by simpa using hneg
          go_wp2
          go_roundw
          case rel => exact ⟨k + 1, m - (x.size : Int), by omega, by go_num, rfl, by omega, by omega, HQ.out⟩
          case measure => simp [intOf]; omega
      · clear hq h3
        go_wp2
        go_ret
        exact ⟨⟨_, rfl, .inr (by omega)⟩, HQ.out.below⟩

set_option maxHeartbeats 400000 in
theorem eqStringS_same (v u : Value) (xs : List ByteArray) (w : World) (h : RdS w v xs) (hu : RdS w u xs) :
    Calls Try.prog 22 #[v, u] w fun e w' => e = .returned (.bool true) ∧ Below w.heap.size w w' := by
  obtain ⟨A, cap, rfl, h1, h2, h3⟩ := RdS.open h
  obtain ⟨B, cap', rfl, k1, k2, k3⟩ := RdS.open hu
  unfold maxLen at h2 k2
  have hl' : ((xs.length : Int) != (xs.length : Int)) = false := by simp
  clear h hu
  go_enter Try.func22, Try.ntmps22
  go_wp2
  go_loopw [5] (fun i wr => ∃ k : Nat, k ≤ xs.length ∧ i = .int .i64 k ∧ Qt w wr) (fun i _ => xs.length - (intOf i).toNat)
  case atStart => exact ⟨0, Nat.zero_le _, rfl, Qt.refl _⟩
  case round =>
    obtain ⟨k, hk, rfl, hb⟩ := hrel
    have HB := Lib.hid hb
    by_cases hlt : k < xs.length
    · obtain ⟨b, off, x, rfl, hx, hc⟩ := h3 k hlt
      obtain ⟨b', off', y, rfl, hy, hd⟩ := k3 k hlt
      obtain rfl := Option.some.inj (hx.symm.trans hy)
      have hc' := (hb.cell _).trans hc
      have hd' := (hb.cell _).trans hd
      clear hc hd h3 k3 hb hx hy
      have i1 : (0 : Int) ≤ k := by omega
      have i2 : (k : Int) < xs.length := by omega
      have hxy' : (!(x.toList == x.toList)) = false := by simp
      go_wp2
      go_quiet (fail)
      go_wp2
      go_roundw
      case rel => exact ⟨k + 1, by omega, by go_num, HB.out.drewN _⟩
      case measure => simp [intOf]; omega
    · clear hb
      go_wp2
      go_ret
      exact ⟨rfl, HB.out.below⟩

set_option maxHeartbeats 400000 in
theorem toStringS_any (v : Value) (xs : List ByteArray) (w : World) (h : RdS w v xs) (hr : 16 * xs.length ≤ 281474976710656) :
    Calls Try.prog 20 #[v] w fun e w' => ∃ g, e = .returned (.slice (some ⟨g, 0, none⟩) xs.length xs.length) ∧ Row w' g 9 (strs xs) ∧ w.heap.size ≤ g ∧ Below w.heap.size w w' := by
  obtain ⟨A, cap, rfl, h1, h2, h3⟩ := RdS.open h
  unfold maxLen at h2
  have hmk := run_make_row' (P := Try.prog) 44 9 (.string (ByteArray.mk #[])) 16 Try.underlying44 infoStr rfl .i64 .i64 xs.length hr (by omega)
  go_enter Try.func20, Try.ntmps20
  go_wp2
  clear hmk
  have hM := Row.made w (.string (ByteArray.mk #[])) xs.length 9
  rw [← strs_len xs, ← part_zero, strs_len] at hM
  go_loopw [4] (fun i wr => ∃ k : Nat, k ≤ xs.length ∧ i = .int .i64 k ∧ Below w.heap.size w wr ∧ Row wr w.heap.size 9 (part (strs xs) k (.string (ByteArray.mk #[])))) (fun i _ => xs.length - (intOf i).toNat)
  case atStart => exact ⟨0, Nat.zero_le _, rfl, below_alloc _ _, hM⟩
  case round =>
    clear hM
    obtain ⟨k, hk, rfl, hb, hR⟩ := hrel
    by_cases hlt : k < xs.length
    · obtain ⟨b, off, x, rfl, hx, hc⟩ := h3 k hlt
      have hc' := (hb.cell (p := ⟨b, off + k, none⟩) (World.block_lt_of_cell? _ _ hc)).trans hc
      have hd' := (hR.cell k).trans (part_get (by rw [strs_len]; exact hlt))
      have hf' := hR.free k
      have hN := part_set (z := .string (ByteArray.mk #[])) (show (strs xs)[k]? = some (.string x) by simp [strs, hx])
      have HN := Lib.hid hN
      have HS := Lib.hid (hR.stored k (.string x))
      clear hN hc h3 hx
      go_wp2
      go_roundw
      case rel => exact ⟨k + 1, by omega, by go_num, hb.setCell (Nat.le_refl _) _, by rw [← HN.out]; exact HS.out⟩
      case measure => simp [intOf]; omega
    · have hR' : Row wr w.heap.size 9 (strs xs) := by rw [part_full (by rw [strs_len]; exact hlt)] at hR; exact hR
      have HR := Lib.hid hR'
      clear hR hR'
      go_wp2
      go_ret
      exact ⟨_, rfl, HR.out, Nat.le_refl _, hb⟩

theorem toStringS_own (v : Value) (xs : List ByteArray) (w : World) (h : RdS w v xs) (hr : SSmall xs) :
    Calls Try.prog 20 #[v] w fun e w' => ∃ u bs, e = .returned u ∧ OwV strs 9 w' w.heap.size u xs bs ∧ Below w.heap.size w w' :=
  (toStringS_any v xs w h hr.1).mono fun e w' ⟨g, he, hg, hl, hb⟩ => ⟨_, _, he, ⟨by have := hg.own hl (by rw [strs_len]; unfold maxLen; have := hr.1; omega); rwa [strs_len] at this, rfl⟩, hb⟩
end Go.Proofs.Ytahgekjpnmmooaa
