/-
  Marks of texts: what the laws write into lists of strings, and into lists of such lists, and what they look for there.
-/
import Derived.Test.YtahgekjpnmmooaaSS1
import Derived.Test.YtahgekjpnmmooaaStr2
import Derived.Test.YtahgekjpnmmooaaN2
namespace Go.Proofs.Ytahgekjpnmmooaa
open Go.RowKit

def mtGo : Nat → Nat → ByteArray → ByteArray
  | 0, _, t => t
  | f + 1, m, t => if m = 0 then t else mtGo f (m / 10) (strOfNums [48 + (m : Int) % 10] ++ t)
theorem mtGo_zero (f : Nat) (t : ByteArray) : mtGo f 0 t = t := by
  cases f
  · rfl
  · show (if 0 = 0 then t else _) = t
    rw [if_pos rfl]
/-- The text of the mark k. -/
def mtext (k : Int) : ByteArray := if k ≤ 0 then ⟨#[109, 48]⟩ else (⟨#[109]⟩ : ByteArray) ++ mtGo 20 k.toNat ⟨#[]⟩
theorem mtext_low {k : Int} (h : k ≤ 0) : mtext k = ⟨#[109, 48]⟩ := by rw [mtext, if_pos h]
theorem mtext_go {n : Nat} (h : ¬ (n : Int) ≤ 0) : mtext (n : Int) = (⟨#[109]⟩ : ByteArray) ++ mtGo 20 n ⟨#[]⟩ := by rw [mtext, if_neg h]; rfl

set_option maxRecDepth 100000 in
set_option maxHeartbeats 800000 in
theorem markText_eq (k : Int) (w : World) (h0 : 0 ≤ k) (hk : k ≤ 4611686018427387904) :
    Calls Try.prog 66 #[.int .i64 k] w fun e w' => e = .returned (.string (mtext k)) ∧ Below w.heap.size w w' := by
  by_cases hz : k ≤ 0
  · go_enter Try.func66, Try.ntmps66
    go_wp2
    go_ret
    exact ⟨by rw [mtext_low hz]; rfl, Below.refl _ _⟩
  · obtain ⟨n, rfl⟩ := Int.eq_ofNat_of_zero_le h0
    go_enter Try.func66, Try.ntmps66
    go_wp2
    go_loopw [0, 3] (fun q s wr => ∃ m : Nat, ∃ t : ByteArray, q = .int .i64 m ∧ s = .string t ∧ Below w.heap.size w wr ∧ m * 10 ^ t.size ≤ 4611686018427387904 ∧ t.size ≤ 19 ∧ mtGo 20 n ⟨#[]⟩ = mtGo (20 - t.size) m t) (fun q _ _ => (intOf q).toNat)
    case atStart => exact ⟨n, _, rfl, rfl, Below.refl _ _, by show n * 10 ^ 0 ≤ _; omega, by show 0 ≤ 19; omega, rfl⟩
    case round =>
      obtain ⟨m, t, rfl, rfl, hb, hp, ht, hgo⟩ := hrel
      have HGO := Lib.hid hgo
      clear hgo
      have HB := Lib.hid hb
      by_cases hm : (0 : Int) < m
      · have h18 : t.size ≤ 18 := ten_pow (Nat.le_trans (by have : 1 * 10 ^ t.size ≤ m * 10 ^ t.size := Nat.mul_le_mul_right _ (by omega); omega) hp)
        have hml : m ≤ 4611686018427387904 := Nat.le_trans (by have : m * 1 ≤ m * 10 ^ t.size := Nat.mul_le_mul_left _ (Nat.pos_of_ne_zero (by simp)); omega) hp
        have HP := Lib.hid (show m / 10 * 10 ^ (1 + t.size) ≤ 4611686018427387904 from by
          rw [Nat.pow_add, Nat.pow_one, ← Nat.mul_assoc]
          exact Nat.le_trans (Nat.mul_le_mul_right _ (Nat.div_mul_le_self _ _)) hp)
        have m0 : (0 : Int) ≤ (m : Int) % 10 := by omega
        have m1 : (m : Int) % 10 ≤ 9 := by omega
        have hcv := run_convert_bytes_arg (P := Try.prog) (wr.alloc (.cells #[.int .u8 (48 + (m : Int) % 10)] 5)) 90 5 Try.underlying90 Try.underlying5 wr.heap.size 0 1 1 [48 + (m : Int) % 10] rfl (fun i hi => by
          obtain rfl : i = 0 := by omega
          simp [(Row.new wr [.int .u8 (48 + (m : Int) % 10)] 5).cell 0]) 9 Try.underlying9
        obtain ⟨x, hx⟩ : ∃ x, strOfNums [48 + (m : Int) % 10] = x := ⟨_, rfl⟩
        have hxs : x.size = 1 := by rw [← hx]; simp [strOfNums, ByteArray.size]
        rw [hx] at hcv
        have HST := Lib.hid (show mtGo (20 - t.size) m t = mtGo (20 - (1 + t.size)) (m / 10) (x ++ t) by
          rw [show 20 - t.size = (20 - (1 + t.size)) + 1 by omega]
          show (if m = 0 then t else _) = _
          rw [if_neg (by omega), hx])
        have hsum : (x ++ t).size = 1 + t.size := by rw [ByteArray.size_append, hxs]
        have HB2 := Lib.hid (below_step hb (below_alloc wr (.cells #[.int .u8 (48 + (m : Int) % 10)] 5)))
        clear hp hb hx
        go_wp2
        go_roundw
        case rel => exact ⟨m / 10, x ++ t, by go_num, rfl, HB2.out, by rw [hsum]; exact HP.out, by rw [hsum]; omega, by rw [hsum, HGO.out, HST.out]⟩
        case measure => simp [intOf]; omega
      · have hsum : ((⟨#[109]⟩ : ByteArray) ++ t).size = 1 + t.size := by rw [ByteArray.size_append]; rfl
        clear hp hb
        go_wp2
        go_ret
        exact ⟨by show Ending.returned (Value.string ((⟨#[109]⟩ : ByteArray) ++ t)) = _; rw [mtext_go (by omega), HGO.out, show m = 0 by omega, mtGo_zero], HB.out⟩


def mkS (k : Int) (xs : List ByteArray) : List ByteArray := (List.range xs.length).map fun (i : Nat) => mtext (k + (i : Int))
theorem mkS_len (k : Int) (xs : List ByteArray) : (mkS k xs).length = xs.length := by simp [mkS]
theorem mkS_get {k : Int} {i : Nat} {xs : List ByteArray} (h : i < xs.length) : (mkS k xs)[i]? = some (mtext (k + (i : Int))) := by simp [mkS, h]
def partS (k : Int) (i : Nat) (xs : List ByteArray) : List ByteArray := (mkS k xs).take i ++ xs.drop i
theorem Turned.trans {bs : List Nat} {a b c : World} (h : Turned bs a b) (k : Turned bs b c) : Turned bs a c :=
  ⟨k.os.trans h.os, k.tape.trans h.tape, k.output.trans h.output, Nat.le_trans h.size k.size, fun i hi hn => (k.block i (by have := h.size; omega) hn).trans (h.block i hi hn)⟩

set_option maxHeartbeats 800000 in
theorem markStringS_own (v : Value) (xs : List ByteArray) (bs : List Nat) (lo : Nat) (k : Int) (w : World) (h : OwV strs 9 w lo v xs bs) (hk0 : 0 ≤ k) (hk : k + (xs.length : Int) ≤ 4611686018427387904) :
    Calls Try.prog 23 #[v, .int .i64 k] w fun e w' => e = .returned (.int .i64 (k + (xs.length : Int))) ∧ OwV strs 9 w' lo v (mkS k xs) bs ∧ Turned bs w w' := by
  obtain ⟨ho, rfl⟩ := h
  rcases ho.nil_or with ⟨rfl, hx⟩ | ⟨g, cap, rfl, hg⟩
  · have hx0 : xs = [] := by simpa [strs] using hx
    subst hx0
    go_enter Try.func23, Try.ntmps23
    go_wp2
    refine wp_loop_rounds 1 ?_
    rw [rounds_succ]
    go_wp2
    go_ret
    exact ⟨ret_int (by simp), ⟨ho, rfl⟩, Turned.refl _ _⟩
  · rw [strs_len]
    rw [strs_len] at ho
    have HO := Lib.hid ho
    clear hg ho
    go_enter Try.func23, Try.ntmps23
    go_wp2
    go_loopw [1, 5] (fun q i wr => ∃ j : Nat, j ≤ xs.length ∧ i = .int .i64 j ∧ q = .int .i64 (k + j) ∧ Own wr 9 lo (.slice (some ⟨g, 0, none⟩) xs.length cap) (strs (partS k j xs)) ∧ Turned [g] w wr) (fun _ i _ => xs.length - (intOf i).toNat)
    case atStart => exact ⟨0, Nat.zero_le _, rfl, by go_num, by simpa [partS] using HO.out, Turned.refl _ _⟩
    case round =>
      obtain ⟨j, hj, rfl, rfl, hO, hB⟩ := hrel
      by_cases hlt : j < xs.length
      · have HM := Lib.hid (markText_eq (k + (j : Int)) wr (by omega) (by omega))
        have HI := Lib.hid (show _ ∧ _ from ⟨hO, hB⟩)
        have i1 : (0 : Int) ≤ j := by omega
        have i2 : (j : Int) < xs.length := by omega
        clear hO hB
        go_wp2_with fail
        refine HM.out.mono ?_
        rintro e w1 ⟨rfl, hb⟩
        have hO1 := HI.out.1.below hb
        have hB1 := HI.out.2.after hb
        have hl : (strs (partS k j xs)).length = xs.length := by rw [strs_len]; exact part_len (mkS_len k xs) hj
        have hO' : w1.ownsRow lo 9 1 (.slice (some ⟨g, 0, none⟩) xs.length cap) xs.length (strs (partS k j xs)) := by have := hO1; unfold Own at this; rwa [hl] at this
        have hc := hO'.cellAt j (by omega)
        have hf := hO'.frozenAt j
        obtain ⟨old, hold⟩ : ∃ u, (strs (partS k j xs))[j]? = some u := ⟨_, List.getElem?_eq_getElem (by omega)⟩
        rw [hold] at hc
        have hst := hO'.stored j (.string (mtext (k + (j : Int))))
        have es : (strs (partS k j xs)).set j (.string (mtext (k + (j : Int)))) = strs (partS k (j + 1) xs) := by unfold strs partS; rw [← part_step (mkS_len k xs) hlt (mkS_get hlt), List.map_set]
        have HS := Lib.hid (show _ ∧ _ ∧ _ ∧ _ from ⟨hst.1, es, hB1, hl⟩)
        clear hO' hold hst es hB1 hO1 hl hb
        go_wp2
        obtain ⟨s1, s2, s3, s4⟩ := HS.out
        go_roundw
        case rel => exact ⟨j + 1, by omega, by go_num, by go_num, by rw [← s2]; unfold Own; rw [List.length_set, s4]; exact s1, s3.setCell (List.mem_singleton.2 rfl) _⟩
        case measure => simp [intOf]; omega
      · have HB2 := Lib.hid hB
        have HO2 := Lib.hid hO
        have ej : j = xs.length := by omega
        subst ej
        clear hO hB
        go_wp2
        go_ret
        exact ⟨rfl, ⟨by have := HO2.out; rwa [partS, part_done (mkS_len k xs) hlt] at this, rfl⟩, by rw [blks_some]; exact HB2.out⟩

set_option maxHeartbeats 1600000 in
theorem heldStringS_any (v : Value) (xs : List ByteArray) (k : Int) (w : World) (h : RdS w v (mkS k xs)) (hk0 : 0 ≤ k) (hk : k + xs.length ≤ 4611686018427387904) :
    Calls Try.prog 72 #[v, .int .i64 k] w fun e w' => e = .returned (.int .i64 (k + xs.length)) ∧ Below w.heap.size w w' := by
  obtain ⟨A, cap, rfl, h1, h2, h3⟩ := RdS.open h
  rw [mkS_len] at h1 h3 ⊢
  unfold maxLen at h2
  clear h
  go_enter Try.func72, Try.ntmps72
  go_wp2
  go_loopw [1, 5] (fun q i wr => ∃ j : Nat, j ≤ xs.length ∧ i = .int .i64 j ∧ q = .int .i64 (k + j) ∧ Below w.heap.size w wr) (fun _ i _ => xs.length - (intOf i).toNat)
  case atStart => exact ⟨0, Nat.zero_le _, rfl, by go_num, Below.refl _ _⟩
  case round =>
    obtain ⟨j, hj, rfl, rfl, hb⟩ := hrel
    have HB := Lib.hid hb
    by_cases hlt : j < xs.length
    · obtain ⟨b, off, z, rfl, hz, hc⟩ := h3 j hlt
      have e := Option.some.inj ((mkS_get hlt).symm.trans hz)
      subst e
      have gc := below_keep hb hc
      have HM := Lib.hid (fun W => markText_eq (k + (j : Int)) W (by omega) (by omega))
      obtain ⟨y, hy⟩ : ∃ y, mtext (k + (j : Int)) = y := ⟨_, rfl⟩
      rw [hy] at HM gc
      have i1 : (0 : Int) ≤ j := by omega
      have i2 : (j : Int) < xs.length := by omega
      have hne : (!(y.toList == y.toList)) = false := by simp
      clear h3 hz hc hb hy
      go_wp2_with fail
      go_region_held3 (fun W => W.cell? ⟨b, off + j, none⟩ = some (.string y))
        (first | go_keep | exact below_keep hbk (by assumption))
        (first | (go_at_call 66; (with_reducible refine (HM.out _).mono ?_); rintro e wz ⟨rfl, hbk⟩; have HCz := Lib.hid (show Below wr.heap.size wr wz from below_step (by first | exact Below.refl _ _ | exact below_drew _ | exact below_drewN' _ _) hbk)))
      all_goals go_wp2
      all_goals go_roundw
      case rel => exact ⟨j + 1, by omega, by go_num, by go_num, by first | exact below_step HB.out HCz.out | exact below_drewN (below_step HB.out HCz.out) _⟩
      case measure => simp [intOf]; omega
    · have ej : j = xs.length := by omega
      subst ej
      clear h3 hb
      go_wp2
      go_ret
      exact ⟨rfl, HB.out⟩

theorem OwL.memberT {α : Type} {R : World → Nat → Value → α → List Nat → Prop} (gd : Good R) {e : TypeId} {w : World} {lo : Nat} {v : Value} {ys : List α} {bs : List Nat} (h : OwL R e w lo v ys bs) {j : Nat} {x : α} (hx : ys[j]? = some x) :
    ∃ g cap u b, v = .slice (some ⟨g, 0, none⟩) ys.length cap ∧ w.cell? ⟨g, j, none⟩ = some u ∧ R w lo u x b ∧ (∀ c ∈ b, c ∈ bs) ∧ ∀ w' x', R w' lo u x' b → Turned b w w' → OwL R e w' lo v (ys.set j x') bs := by
  obtain ⟨vs, bss, h, h1, h2, h3, h4, h5⟩ := h
  have hj := (List.getElem?_eq_some_iff.1 hx).1
  have hu : vs[j]? = some vs[j] := List.getElem?_eq_getElem (by omega)
  have hb : bss[j]? = some bss[j] := List.getElem?_eq_getElem (by omega)
  rcases h.nil_or with ⟨_, hn⟩ | ⟨g, cap, hv, hg⟩
  · subst hn; simp at h1; omega
  subst h4
  have hN := List.nodup_append.1 h5
  have hc : w.cell? ⟨g, j, none⟩ = some vs[j] := by
    have h0 := h
    unfold Own at h0
    rw [hv] at h0
    rw [World.ownsRow.cellAt h0 j (by omega)]
    exact hu
  refine ⟨g, cap, vs[j], bss[j], by rw [hv, h1], hc, h3 j _ _ _ hu hx hb, fun c hc => List.mem_append_right _ (mem_bss hb hc), fun w' x' hR hO => ?_⟩
  refine ⟨vs, bss, h.same (fun b hb' => hO.block b (h.lt hb').2 (fun hm => hN.2.2 b hb' b (mem_bss hb hm) rfl)), by simpa using h1, by simpa using h2, ?_, rfl, h5⟩
  intro i p y b hp hy hbi
  by_cases hij : i = j
  · subst hij
    rw [hu] at hp; rw [hb] at hbi
    cases hp; cases hbi
    rw [List.getElem?_set_self (by omega)] at hy
    cases hy
    exact hR
  · rw [List.getElem?_set_ne (fun e => hij e.symm)] at hy
    exact hO.keep gd (h3 i p y b hp hy hbi) (fun c hc => flat_apart hN.2.1 hbi hb hij c hc)

def mkSS (k : Int) (xs : List (List ByteArray)) : List (List ByteArray) := mkL mkS (fun x : List ByteArray => x.length) k xs

set_option maxHeartbeats 800000 in
theorem markStringSS_own (v : Value) (xs : List (List ByteArray)) (bs : List Nat) (lo : Nat) (k : Int) (w : World) (h : OwL (OwV strs 9) 44 w lo v xs bs) (hk0 : 0 ≤ k) (hk : k + (numL (fun x : List ByteArray => x.length) xs : Int) ≤ 4611686018427387904) :
    Calls Try.prog 37 #[v, .int .i64 k] w fun e w' => e = .returned (.int .i64 (k + (numL (fun x : List ByteArray => x.length) xs : Int))) ∧ OwL (OwV strs 9) 44 w' lo v (mkL (mkS) (fun x : List ByteArray => x.length) k xs) bs ∧ Turned bs w w' := by
  have hlen : xs.length ≤ maxLen := by obtain ⟨vs, bss, ho, h1, _⟩ := h; rw [← h1]; exact own_len ho
  unfold maxLen at hlen
  have hsh : ∃ A cap, v = .slice A xs.length cap := OwL.shape h
  obtain ⟨A, cap, rfl⟩ := hsh
  have HO := Lib.hid h
  clear h
  go_enter Try.func37, Try.ntmps37
  go_wp2
  go_loopw [1, 5] (fun q i wr => ∃ j : Nat, j ≤ xs.length ∧ i = .int .i64 j ∧ q = .int .i64 (k + (numL (fun x : List ByteArray => x.length) (xs.take j) : Int)) ∧ OwL (OwV strs 9) 44 wr lo (.slice A xs.length cap) ((mkL (mkS) (fun x : List ByteArray => x.length) k xs).take j ++ xs.drop j) bs ∧ Turned bs w wr) (fun _ i _ => xs.length - (intOf i).toNat)
  case atStart => exact ⟨0, Nat.zero_le _, rfl, by simp [numL], by simpa using HO.out, Turned.refl _ _⟩
  case round =>
    obtain ⟨j, hj, rfl, rfl, hO, hB⟩ := hrel
    by_cases hlt : j < xs.length
    · have hx0 : xs[j]? = some xs[j] := List.getElem?_eq_getElem hlt
      have hx : ((mkL (mkS) (fun x : List ByteArray => x.length) k xs).take j ++ xs.drop j)[j]? = some xs[j] := by
        rw [List.getElem?_append_right (by simp [mkL_len]; omega)]
        simp [mkL_len, Nat.min_eq_left (Nat.le_of_lt hlt), hlt]
      obtain ⟨g, cap', u, b, hv, hc, hR, hbb, hset⟩ := OwL.memberT (goodV strs 9) hO hx
      have hl0 : ((mkL (mkS) (fun x : List ByteArray => x.length) k xs).take j ++ xs.drop j).length = xs.length := part_len (mkL_len _ _ k xs) hj
      rw [hl0] at hv
      cases hv
      have hn1 := numL_take (n := (fun x : List ByteArray => x.length)) hx0
      have hn2 := numL_le (n := (fun x : List ByteArray => x.length)) xs (j + 1)
      have HC := Lib.hid (markStringS_own u xs[j] b lo (k + (numL (fun x : List ByteArray => x.length) (xs.take j) : Int)) wr hR (by omega) (by omega))
      have HM := Lib.hid (part_step (mkL_len (mkS) (fun x : List ByteArray => x.length) k xs) hlt (mkL_get (mkS) (fun x : List ByteArray => x.length) k xs hx0))
      have HN := Lib.hid hn1
      have HH := Lib.hid (show _ ∧ _ ∧ _ from ⟨hset, hB, hbb⟩)
      have i1 : (0 : Int) ≤ j := by omega
      have i2 : (j : Int) < xs.length := by omega
      clear hx0 hx hR hset hB hbb hl0 hn1 hn2 hO
      go_wp2_with fail
      refine HC.out.mono ?_
      rintro e w1 ⟨rfl, hR1, hO1⟩
      obtain ⟨hset, hB, hbb⟩ := HH.out
      have hnew := hset w1 _ hR1 hO1
      rw [HM.out] at hnew
      have HW := Lib.hid (show _ ∧ _ from ⟨hnew, hB.trans (hO1.mono hbb)⟩)
      clear hset hB hbb hR1 hO1 hnew HC HM HH
      go_wp2
      go_roundw
      case rel => exact ⟨j + 1, by omega, by go_num, by have := HN.out; rw [this]; go_num, HW.out.1, HW.out.2⟩
      case measure => simp [intOf]; omega
    · have ej : j = xs.length := by omega
      subst ej
      have HW := Lib.hid (show _ ∧ _ from ⟨hO, hB⟩)
      clear hO hB
      go_wp2
      go_ret
      exact ⟨ret_int (by simp), by have := HW.out.1; rwa [part_done (mkL_len _ _ k xs) hlt] at this, HW.out.2⟩

set_option maxHeartbeats 800000 in
theorem heldStringSS_any (v : Value) (xs : List (List ByteArray)) (k : Int) (w : World) (h : RdL RdS w v (mkL (mkS) (fun x : List ByteArray => x.length) k xs)) (hk0 : 0 ≤ k) (hk : k + (numL (fun x : List ByteArray => x.length) xs : Int) ≤ 4611686018427387904) :
    Calls Try.prog 39 #[v, .int .i64 k] w fun e w' => e = .returned (.int .i64 (k + (numL (fun x : List ByteArray => x.length) xs : Int))) ∧ Below w.heap.size w w' := by
  obtain ⟨A, cap, rfl, h1, h2, h3⟩ := h.open
  rw [mkL_len] at h1 h3 ⊢
  unfold maxLen at h2
  go_enter Try.func39, Try.ntmps39
  go_wp2
  go_loopw [1, 5] (fun q i wr => ∃ j : Nat, j ≤ xs.length ∧ i = .int .i64 j ∧ q = .int .i64 (k + (numL (fun x : List ByteArray => x.length) (xs.take j) : Int)) ∧ Below w.heap.size w wr) (fun _ i _ => xs.length - (intOf i).toNat)
  case atStart => exact ⟨0, Nat.zero_le _, rfl, by simp [numL], Below.refl _ _⟩
  case round =>
    obtain ⟨j, hj, rfl, rfl, hb⟩ := hrel
    have HB := Lib.hid hb
    by_cases hlt : j < xs.length
    · have hx0 : xs[j]? = some xs[j] := List.getElem?_eq_getElem hlt
      obtain ⟨b, off, u, z, rfl, hz, hc, hR⟩ := h3 j hlt
      have e := Option.some.inj ((mkL_get (mkS) (fun x : List ByteArray => x.length) k xs hx0).symm.trans hz)
      subst e
      have gc := below_keep hb hc
      have hn1 := numL_take (n := (fun x : List ByteArray => x.length)) hx0
      have hn2 := numL_le (n := (fun x : List ByteArray => x.length)) xs (j + 1)
      have HC := Lib.hid (heldStringS_any u xs[j] (k + (numL (fun x : List ByteArray => x.length) (xs.take j) : Int)) wr (keepsS _ _ _ _ hR hb) (by omega) (by omega))
      have HN := Lib.hid hn1
      have i1 : (0 : Int) ≤ j := by omega
      have i2 : (j : Int) < xs.length := by omega
      have i3 : (0 : Int) ≤ k + (numL (fun x : List ByteArray => x.length) (xs.take j) : Int) := by omega
      have i4 : (0 : Int) ≤ k + (numL (fun x : List ByteArray => x.length) (xs.take j) : Int) + ((fun x : List ByteArray => x.length) xs[j] : Int) := by omega
      clear h3 hz hc hb hR hx0 hn1 hn2
      go_wp2_with (go_at_call 72; refine HC.out.mono ?_; rintro e w' ⟨rfl, hb1⟩; have HB1 := Lib.hid (below_step HB.out hb1); clear hb1)
      go_roundw
      case rel => exact ⟨j + 1, by omega, by go_num, by have := HN.out; rw [this]; go_num, HB1.out⟩
      case measure => simp [intOf]; omega
    · have ej : j = xs.length := by omega
      subst ej
      clear h3 hb
      go_wp2
      go_ret
      exact ⟨ret_int (by simp), HB.out⟩

end Go.Proofs.Ytahgekjpnmmooaa
