/-
  The least word behind all cuts: the program's and the model's answers.
-/
import Derived.Test.YtjkkppmpakaagaaLc1
namespace Go.Proofs.Ytjkkppmpakaagaa
open Go.RowKit

def leastF (t : TData) : Nat → ByteArray → ByteArray × Int
  | 0, s => (s, 0)
  | f + 1, s =>
    if (crossRes t s).2 = 0 then (match firstEq (crossRes t s).1 with
      | some p => leastF t f (s.extract 0 p.1 ++ s.extract p.2 s.size)
      | none => (s, 0))
    else (⟨#[]⟩, (crossRes t s).2)
def leastRes (t : TData) (s : ByteArray) : ByteArray × Int := leastF t (s.size + 1) s
theorem leastF_code {t : TData} {s : ByteArray} {f : Nat} (h : ¬ (crossRes t s).2 = 0) : leastF t (f + 1) s = (⟨#[]⟩, (crossRes t s).2) := by rw [leastF, if_neg h]
theorem leastF_done {t : TData} {s : ByteArray} {f : Nat} (h : (crossRes t s).2 = 0) (hn : firstEq (crossRes t s).1 = none) : leastF t (f + 1) s = (s, 0) := by rw [leastF, if_pos h, hn]
theorem leastF_cut {t : TData} {s : ByteArray} {f : Nat} {p : Nat × Nat} (h : (crossRes t s).2 = 0) (hn : firstEq (crossRes t s).1 = some p) : leastF t (f + 1) s = leastF t f (s.extract 0 p.1 ++ s.extract p.2 s.size) := by rw [leastF, if_pos h, hn]
theorem cut_size {s : ByteArray} {i j : Nat} (hij : i < j) (hj : j ≤ s.size) : (s.extract 0 i ++ s.extract j s.size).size < s.size := by
  rw [ByteArray.size_append, ByteArray.size_extract, ByteArray.size_extract]; omega
theorem firstEq_lt {xs : List (List Int)} {p : Nat × Nat} (h : firstEq xs = some p) : p.1 < p.2 ∧ p.2 ≤ xs.length - 1 := upF_lt h

set_option maxRecDepth 100000 in
set_option maxHeartbeats 3200000 in
theorem implLeast_any (v : Value) (t : TData) (s : ByteArray) (w : World) (h : RdT w v t) (hs : s.size ≤ maxLen) :
    Calls Try.prog 29 #[v, .string s] w fun e w' => e = .returned (.tuple #[.string (leastRes t s).1, .int .i64 (leastRes t s).2]) ∧ Below w.heap.size w w' := by
  have HG := Lib.hid (fun W s' (hb : Below w.heap.size w W) (h' : s'.size ≤ s.size) => implCrossings_own v t s' W (keepsT _ _ _ _ h hb) (by omega))
  obtain ⟨A, c, rfl⟩ := h.shape
  have HB := Lib.hid (below_alloc w (.cells #[.int .i64 t.L, .int .i64 t.S, .slice A t.mv.length c] 33))
  have HR := Lib.hid (Row.new w [.int .i64 t.L, .int .i64 t.S, .slice A t.mv.length c] 33)
  clear h
  go_enter Try.func29, Try.ntmps29
  go_wp2_with fail
  generalize w.alloc (.cells #[.int .i64 t.L, .int .i64 t.S, .slice A t.mv.length c] 33) = W0 at *
  go_loopg [1] (s.size + 1) (fun k sv wr => ∃ s' : ByteArray, sv = .string s' ∧ s'.size < k ∧ s'.size ≤ s.size ∧ Below W0.heap.size W0 wr ∧ leastF t k s' = leastRes t s)
  case atStart => exact ⟨s, rfl, by omega, Nat.le_refl _, Below.refl _ _, rfl⟩
  case round =>
    obtain ⟨s', rfl, hk, hle, hb, hp⟩ := hrel
    obtain ⟨f, rfl⟩ : ∃ f, gk = f + 1 := ⟨gk - 1, by omega⟩
    have HP := Lib.hid hp
    have HQ := Lib.hid hb
    have HC := Lib.hid (HG.out wr s' (below_step HB.out hb) hle)
    obtain ⟨⟨b0, b1, b2⟩, -⟩ := (HR.out.below hb HR.out.lt).three
    clear hp hb
    go_wp2_with fail
    refine HC.out.mono ?_
    rintro e w1 ⟨u, bs, rfl, hu, hb1⟩
    have hrd : RdII w1 u (crossRes t s').1 := OwL.rd (fun h => h.1.rd) hu
    have HB1 := Lib.hid (below_step HQ.out hb1)
    clear hu hb1 b0 b1 b2
    by_cases hcd : (crossRes t s').2 = 0
    · have hlen := crossRes_len hcd
      have hl61 : (crossRes t s').1.length ≤ 61 := by
        rcases crossRes_or t s' with ⟨_, _, h⟩ | ⟨h, _⟩
        · exact h
        · rw [h]; simp
      have hz : s'.size ≤ 60 := by omega
      have HFE := Lib.hid (firstEqual_any u _ w1 hrd hl61)
      have d0 : ((crossRes t s').2 != 0) = false := by simp [hcd]
      have HCD := Lib.hid hcd
      cases hfe : firstEq (crossRes t s').1 with
      | none =>
        rw [hfe] at HFE
        have HRES := Lib.hid (show leastRes t s = (s', 0) by rw [← HP.out]; exact leastF_done hcd hfe)
        clear hcd hfe hlen hrd
        go_wp2_with fail
        refine HFE.out.mono ?_
        rintro e w2 ⟨rfl, hq⟩
        have HQ2 := Lib.hid hq
        clear hq
        unfold firstV
        go_wp2
        refine bodyPost_ret (v := .tuple #[.string s', .int .i64 0]) (by simp [results, Try.results29, go_sem]) rfl ?_
        rw [HRES.out]
        exact ⟨rfl, below_step HB.out (below_step HB1.out HQ2.out.below)⟩
      | some p =>
        rw [hfe] at HFE
        obtain ⟨i, j⟩ := p
        have hij := firstEq_lt hfe
        simp only at hij
        have HN := Lib.hid (show leastF t f (s'.extract 0 i ++ s'.extract j s'.size) = leastRes t s by rw [← HP.out]; exact (leastF_cut hcd hfe).symm)
        have hsz := cut_size (s := s') hij.1 (by omega)
        have HSZ := Lib.hid hsz
        have i1 : (0 : Int) ≤ i := by omega
        have i2 : (i : Int) ≤ s'.size := by omega
        have i3 : (0 : Int) ≤ j := by omega
        have i4 : (j : Int) ≤ s'.size := by omega
        clear hcd hfe hlen hrd hsz
        go_wp2_with fail
        refine HFE.out.mono ?_
        rintro e w2 ⟨rfl, hq⟩
        have HQ2 := Lib.hid hq
        clear hq
        unfold firstV
        simp only
        go_wp2
        go_quiet (fail)
        go_wp2
        go_roundg f
        case measure => omega
        case rel => exact ⟨s'.extract 0 i ++ s'.extract j s'.size, rfl, by have := HSZ.out; omega, by have := HSZ.out; omega, below_step HB1.out (HQ2.out.drewN _).below, HN.out⟩
    · have d0 : ((crossRes t s').2 != 0) = true := by simpa using hcd
      have HRES := Lib.hid (show leastRes t s = (⟨#[]⟩, (crossRes t s').2) by rw [← HP.out]; exact leastF_code hcd)
      clear hcd hrd
      go_wp2
      refine bodyPost_ret (v := .tuple #[.string ⟨#[]⟩, .int .i64 (crossRes t s').2]) (by simp [results, Try.results29, go_sem]) rfl ?_
      rw [HRES.out]
      exact ⟨rfl, below_step HB.out HB1.out⟩

set_option maxRecDepth 100000 in
set_option maxHeartbeats 12800000 in
theorem specLeast_any (v : Value) (t : TData) (s : ByteArray) (w : World) (h : RdT w v t) (hs : s.size ≤ maxLen) :
    Calls Try.prog 28 #[v, .string s] w fun e w' => e = .returned (.tuple #[.string (leastRes t s).1, .int .i64 (leastRes t s).2]) ∧ Below w.heap.size w w' := by
  obtain ⟨vm, rfl, hA⟩ := atT_box h 33
  have HG := Lib.hid (fun W s' (hb : Below (w.alloc (.cells #[.int .i64 t.L, .int .i64 t.S, vm] 33)).heap.size (w.alloc (.cells #[.int .i64 t.L, .int .i64 t.S, vm] 33)) W) (h' : s'.size ≤ s.size) => l04Crossings_own _ t s' W (hA.below hb) (by omega))
  have HB := Lib.hid (below_alloc w (.cells #[.int .i64 t.L, .int .i64 t.S, vm] 33))
  clear h hA
  go_enter Try.func28, Try.ntmps28
  go_wp2_with fail
  generalize w.alloc (.cells #[.int .i64 t.L, .int .i64 t.S, vm] 33) = W0 at *
  go_loopg [1] (s.size + 1) (fun k sv wr => ∃ s' : ByteArray, sv = .string s' ∧ s'.size < k ∧ s'.size ≤ s.size ∧ Below W0.heap.size W0 wr ∧ leastF t k s' = leastRes t s)
  case atStart => exact ⟨s, rfl, by omega, Nat.le_refl _, Below.refl _ _, rfl⟩
  case round =>
    obtain ⟨s', rfl, hk, hle, hb, hp⟩ := hrel
    obtain ⟨f, rfl⟩ : ∃ f, gk = f + 1 := ⟨gk - 1, by omega⟩
    have HP := Lib.hid hp
    have HQ := Lib.hid hb
    have HC := Lib.hid (HG.out wr s' hb hle)
    clear hp hb
    go_wp2_with fail
    refine HC.out.mono ?_
    rintro e w1 ⟨u, bs, rfl, hu, hb1⟩
    have hrd : RdII w1 u (crossRes t s').1 := OwL.rd (fun h => h.1.rd) hu
    have HB1 := Lib.hid (below_step HQ.out hb1)
    clear hu hb1
    by_cases hcd : (crossRes t s').2 = 0
    · have hlen := crossRes_len hcd
      have hl61 : (crossRes t s').1.length ≤ 61 := by
        rcases crossRes_or t s' with ⟨_, _, h⟩ | ⟨h, _⟩
        · exact h
        · rw [h]; simp
      have hz : s'.size ≤ 60 := by omega
      have d0 : ((crossRes t s').2 != 0) = false := by simp [hcd]
      have HRC := Lib.hid (show ∀ p, firstEq (crossRes t s').1 = some p → leastF t f (s'.extract 0 p.1 ++ s'.extract p.2 s'.size) = leastRes t s from fun p hp => by rw [← HP.out]; exact (leastF_cut hcd hp).symm)
      have HRN := Lib.hid (show firstEq (crossRes t s').1 = none → leastRes t s = (s', 0) from fun hp => by rw [← HP.out]; exact leastF_done hcd hp)
      generalize crossRes t s' = rr at *
      obtain ⟨xs, cd⟩ := rr
      simp only at *
      obtain ⟨B, cap, rfl, a1, a2, a3⟩ := RdL.open hrd
      unfold maxLen at a2
      have HLEN := Lib.hid hlen
      clear hcd hrd hlen
      go_wp2
      go_loopw [8, 9, 10] (fun fr tv iv wr => ∃ k : Nat, k ≤ xs.length ∧ iv = .int .i64 k ∧ Qt w1 wr ∧ ((fr = .int .i64 (-1) ∧ tv = .int .i64 (-1) ∧ upF xs (xs.length - k) k = firstEq xs) ∨ (∃ i j : Nat, fr = .int .i64 i ∧ tv = .int .i64 j ∧ firstEq xs = some (i, j)))) (fun _ _ iv _ => xs.length - (intOf iv).toNat)
      case atStart => exact ⟨0, Nat.zero_le _, rfl, Qt.refl _, .inl ⟨rfl, rfl, rfl⟩⟩
      case round =>
        obtain ⟨wo, hwo⟩ : ∃ wo, wo = wr := ⟨wr, rfl⟩
        subst hwo
        obtain ⟨k, hk2, rfl, hq, ho⟩ := hrel
        have HQ3 := Lib.hid hq
        rcases ho with ⟨rfl, rfl, hp⟩ | ⟨i, j, rfl, rfl, hp⟩
        · have HPU := Lib.hid hp
          clear hp
          by_cases hlt : k < xs.length
          · obtain ⟨b, off, ux, x, rfl, hx, hc, hR⟩ := a3 k hlt
            have HX := Lib.hid (show _ ∧ _ ∧ _ from ⟨hx, hc, hR⟩)
            obtain ⟨Bx, cx, rfl⟩ := rdI_shape hR
            have i1 : (0 : Int) ≤ k := by omega
            have i2 : (k : Int) < xs.length := by omega
            clear hx hc hR hq
            go_wp2
            go_loopw [8, 9, 11] (fun fr tv jv wr => ∃ m : Nat, m < xs.length ∧ Qt w1 wr ∧ ((k ≤ m ∧ jv = .int .i64 m ∧ fr = .int .i64 (-1) ∧ tv = .int .i64 (-1) ∧ downF xs k m = downF xs k (xs.length - 1)) ∨ (jv = .int .i64 ((m : Int) - 1) ∧ fr = .int .i64 k ∧ tv = .int .i64 m ∧ firstEq xs = some (k, m)))) (fun _ _ jv _ => (intOf jv + 1).toNat)
            case atStart => exact ⟨xs.length - 1, by omega, HQ3.out, .inl ⟨by omega, by congr 1; omega, rfl, rfl, rfl⟩⟩
            case round =>
              obtain ⟨m, hm2, hq, ho⟩ := hrel
              have HQI := Lib.hid hq
              rcases ho with ⟨hm1, rfl, rfl, rfl, hp⟩ | ⟨rfl, rfl, rfl, hp⟩
              · have HPI := Lib.hid hp
                clear hp
                by_cases hlm : k < m
                · obtain ⟨b', off', u', y, hA2, hy, hd, hS⟩ := a3 m hm2
                  cases hA2
                  obtain ⟨By, cy, rfl⟩ := rdI_shape hS
                  have gc := (hq.cell _).trans HX.out.2.1
                  have gd := (hq.cell _).trans hd
                  have HCL := Lib.hid (fun n => l00Same_any _ _ x y (wr.drewN n) (keepsI _ _ _ _ HX.out.2.2 (hq.drewN n).below) (keepsI _ _ _ _ hS (hq.drewN n).below))
                  have HE := Lib.hid (eqAt_of HX.out.1 hy)
                  clear hy hd hS hq
                  have j1 : (0 : Int) ≤ m := by omega
                  have j2 : (m : Int) < xs.length := by omega
                  have j3 : (k : Int) < (m : Int) := by omega
                  by_cases hxy : x = y
                  · have hd1 : decide (x = y) = true := by simpa using hxy
                    have HF := Lib.hid (show firstEq xs = some (k, m) by rw [← HPU.out]; exact upF_yes hlt (by rw [← HPI.out]; exact downF_yes hlm (by rw [HE.out]; exact hd1)))
                    subst hxy
                    go_wp2_with fail
                    go_quiet ((go_at_call 52; exact Calls.quiet_of (HCL.out _)))
                    go_wp2
                    go_roundw
                    case rel => exact ⟨m, by omega, HQI.out.drewN _, .inr ⟨rfl, rfl, rfl, HF.out⟩⟩
                    case measure => simp [intOf]
                  · have hd1 : decide (x = y) = false := by simpa using hxy
                    have HN := Lib.hid (downF_no (xs := xs) hlm (by rw [HE.out]; exact hd1))
                    go_wp2_with fail
                    go_quiet ((go_at_call 52; exact Calls.quiet_of (HCL.out _)))
                    go_wp2
                    go_roundw
                    case rel => exact ⟨m - 1, by omega, HQI.out.drewN _, .inl ⟨by omega, by congr 1; omega, rfl, rfl, by rw [← HN.out]; exact HPI.out⟩⟩
                    case measure => first | (simp [intOf]; omega) | simp [intOf]
                · have j3 : ¬ (k : Int) < (m : Int) := by omega
                  have HQJ := Lib.hid hq
                  clear hq
                  go_wp2
                  go_roundw
                  case rel => exact ⟨k + 1, by omega, by go_num, HQJ.out, .inl ⟨rfl, rfl, by rw [← HPU.out]; exact (upF_no hlt (by rw [← HPI.out]; exact downF_stop hlm)).symm⟩⟩
                  case measure => simp [intOf]; omega
              · have HF := Lib.hid hp
                have HQJ := Lib.hid hq
                have j4 : ¬ (k : Int) < 0 := by omega
                clear hq hp
                by_cases hjm : (k : Int) < (m : Int) - 1
                · go_wp2
                  go_roundw
                  case rel => exact ⟨k + 1, by omega, by go_num, HQJ.out, .inr ⟨k, m, rfl, rfl, HF.out⟩⟩
                  case measure => simp [intOf]; omega
                · go_wp2
                  go_roundw
                  case rel => exact ⟨k + 1, by omega, by go_num, HQJ.out, .inr ⟨k, m, rfl, rfl, HF.out⟩⟩
                  case measure => simp [intOf]; omega
          · obtain rfl : k = xs.length := by omega
            have HRES := Lib.hid (HRN.out (by have := HPU.out; rw [Nat.sub_self, upF] at this; exact this.symm))
            clear hq a3
            go_wp2
            refine bodyPost_ret (v := .tuple #[.string s', .int .i64 0]) (by simp [results, Try.results28, go_sem]) rfl ?_
            rw [HRES.out]
            exact ⟨rfl, below_step HB.out (below_step HB1.out HQ3.out.below)⟩
        · have HF := Lib.hid hp
          have hij := firstEq_lt hp
          simp only at hij
          have hl := HLEN.out
          have HSZ := Lib.hid (cut_size (s := s') hij.1 (by omega))
          have i1 : (0 : Int) ≤ i := by omega
          have i2 : (i : Int) ≤ s'.size := by omega
          have i3 : (0 : Int) ≤ j := by omega
          have i4 : (j : Int) ≤ s'.size := by omega
          have i5 : ¬ (i : Int) < 0 := by omega
          clear hp hq hij hl
          by_cases hlt : (k : Int) < xs.length
          · go_wp2
            go_quiet (fail)
            go_wp2
            go_roundg f
            case measure => omega
            case rel => exact ⟨s'.extract 0 i ++ s'.extract j s'.size, rfl, by have := HSZ.out; omega, by have := HSZ.out; omega, below_step HB1.out (HQ3.out.drewN _).below, HRC.out _ HF.out⟩
          · go_wp2
            go_quiet (fail)
            go_wp2
            go_roundg f
            case measure => omega
            case rel => exact ⟨s'.extract 0 i ++ s'.extract j s'.size, rfl, by have := HSZ.out; omega, by have := HSZ.out; omega, below_step HB1.out (HQ3.out.drewN _).below, HRC.out _ HF.out⟩
    · have d0 : ((crossRes t s').2 != 0) = true := by simpa using hcd
      have HRES := Lib.hid (show leastRes t s = (⟨#[]⟩, (crossRes t s').2) by rw [← HP.out]; exact leastF_code hcd)
      clear hcd hrd
      go_wp2
      refine bodyPost_ret (v := .tuple #[.string ⟨#[]⟩, .int .i64 (crossRes t s').2]) (by simp [results, Try.results28, go_sem]) rfl ?_
      rw [HRES.out]
      exact ⟨rfl, below_step HB.out HB1.out⟩
end Go.Proofs.Ytjkkppmpakaagaa
