/-
  How many words of a length a reader takes: the program's answer.
-/
import Derived.Test.YtdnobbagcnbjiaaCt1
namespace Go.Proofs.Ytdnobbagcnbjiaa
open Go.RowKit

def wordsAt (r : RData) : Nat → List Int
  | 0 => (zeros r.acc.length).set r.S.toNat 1
  | k + 1 => oneOn r.next (wordsAt r k)
def sumTo (acc : List Bool) (ws : List Int) : Nat → Int
  | 0 => 0
  | s + 1 => if acc.getD s false then wrap64 (sumTo acc ws s + ws.getD s 0) else sumTo acc ws s
def countRes (r : RData) (n : Int) : Int × Int :=
  if okR r then (if within n 0 30 then (sumTo r.acc (wordsAt r n.toNat) r.acc.length, 0) else (0, 2)) else (0, 1)
theorem wordsAt_len (r : RData) (k : Nat) : (wordsAt r k).length = r.acc.length := by
  induction k with
  | zero => simp [wordsAt, zeros]
  | succ k ih => rw [wordsAt, oneOn_len, ih]
theorem sumTo_yes {acc : List Bool} {ws : List Int} {s : Nat} {x : Int} (h : acc[s]? = some true) (hx : ws[s]? = some x) : sumTo acc ws (s + 1) = wrap64 (sumTo acc ws s + x) := by
  simp [sumTo, List.getD, h, hx]
theorem sumTo_no {acc : List Bool} {ws : List Int} {s : Nat} (h : acc[s]? = some false) : sumTo acc ws (s + 1) = sumTo acc ws s := by
  simp [sumTo, List.getD, h]

theorem madeCells_eq (z : Value) (n : Nat) : madeCells #[z] n = (List.replicate n z).toArray := by
  apply Array.ext
  · simp [madeCells]
  · intro i h1 h2
    simp [madeCells, Nat.mod_one]
theorem made_get {n m : Nat} (h : m < n) : (madeCells #[Value.int .i64 0] n)[m]? = some (.int .i64 0) := by
  rw [madeCells_eq]; simp [h]
theorem made_one (n m : Nat) : (madeCells #[Value.int .i64 0] n).setIfInBounds m (.int .i64 1) = (ints ((zeros n).set m 1)).toArray := by
  rw [madeCells_eq, List.setIfInBounds_toArray]; congr 1; simp [ints, zeros, List.map_set]

set_option maxRecDepth 100000 in
set_option maxHeartbeats 1600000 in
theorem implCountTaken_any (v : Value) (r : RData) (n : Int) (w : World) (h : RdR w v r) :
    Calls Try.prog 22 #[v, .int .i64 n] w fun e w' => e = .returned (.tuple #[.int .i64 (countRes r n).1, .int .i64 (countRes r n).2]) ∧ Below w.heap.size w w' := by
  have hV := fun W (hb : Below w.heap.size w W) => ValidReader_any v r W (keepsR _ _ _ _ h hb)
  have hO := fun W u ws (hb : Below w.heap.size w W) => oneLetterOn_own v u r ws W (keepsR _ _ _ _ h hb)
  obtain ⟨L, S, acc, next⟩ := r
  obtain ⟨va, vn, rfl, ha, hn⟩ := h
  obtain ⟨A, ca, rfl, a1, a2, a3⟩ := ha.open
  obtain ⟨B, cb, rfl, b1, b2, b3⟩ := RdL.open hn
  unfold maxLen at a2 b2
  simp only at *
  have HV := Lib.hid hV
  have HO := Lib.hid hO
  clear hV hO ha hn
  have hx := Row.new w [.int .i64 L, .int .i64 S, .slice A acc.length ca, .slice B next.length cb] 27
  have HR := Lib.hid hx
  have HB := Lib.hid (below_alloc w (.cells #[.int .i64 L, .int .i64 S, .slice A acc.length ca, .slice B next.length cb] 27))
  clear hx
  by_cases hok : okR ⟨L, S, acc, next⟩ = true
  · have HK := Lib.hid (okR_out hok)
    have HOK := Lib.hid hok
    go_enter Try.func22, Try.ntmps22
    go_wp2_with fail
    refine (HV.out _ HB.out).mono ?_
    generalize w.alloc (.cells #[.int .i64 L, .int .i64 S, .slice A acc.length ca, .slice B next.length cb] 27) = W0 at *
    rintro e w1 ⟨rfl, hb1⟩
    have HB1 := Lib.hid hb1
    obtain ⟨⟨b0, b1', b2', b3'⟩, -⟩ := (HR.out.below hb1 HR.out.lt).four
    have lt1 : w.heap.size < w1.heap.size := Nat.lt_of_lt_of_le HR.out.lt hb1.size
    clear hb1
    by_cases hr : 0 ≤ n ∧ n ≤ 30
    · obtain ⟨r1, r2⟩ := hr
      have e1 := HK.out.n1
      have e2 := HK.out.n2
      have e3 := HK.out.s1
      have e4 := HK.out.s2
      simp only at e1 e2 e3 e4
      have hmk := run_make_row' (P := Try.prog) 34 2 (.int .i64 0) 8 Try.underlying34 infoI64 rfl .i64 .i64 acc.length (by omega) (by omega)
      obtain ⟨m, rfl⟩ := Int.eq_ofNat_of_zero_le e3
      have t1 : decide (n < 0) = false := by simpa using r1
      have t2 : decide (30 < n) = false := by simpa using r2
      have e5 : (m : Int) < acc.length := by omega
      have e6 : m < acc.length := by omega
      have hmc := made_get e6
      go_wp2
      clear hmk hmc
      clear b0 b1' b2' b3' hok
      obtain ⟨N, rfl⟩ := Int.eq_ofNat_of_zero_le r1
      rw [made_one]
      have HM := Lib.hid (Row.new w1 (ints ((zeros acc.length).set m 1)) 2)
      have HBM := Lib.hid (HB1.out.trans ((below_alloc w1 (.cells (ints ((zeros acc.length).set m 1)).toArray 2)).mono HB1.out.size))
      generalize w1.alloc (.cells (ints ((zeros acc.length).set m 1)).toArray 2) = w2 at *
      go_loopw [6, 28] (fun u i wr => ∃ k g : Nat, k ≤ N ∧ i = .int .i64 k ∧ u = .slice (some ⟨g, 0, none⟩) acc.length acc.length ∧ Below W0.heap.size W0 wr ∧ Row wr g 2 (ints (wordsAt ⟨L, m, acc, next⟩ k))) (fun _ i _ => N - (intOf i).toNat)
      case atStart => exact ⟨0, _, Nat.zero_le _, rfl, rfl, HBM.out, HM.out⟩
      case round =>
        obtain ⟨k, g, hk, rfl, rfl, hb, hW⟩ := hrel
        have hwl := wordsAt_len ⟨L, m, acc, next⟩ k
        simp only at hwl
        obtain ⟨⟨b0, b1', b2', b3'⟩, -⟩ := (HR.out.below hb HR.out.lt).four
        have HQ := Lib.hid hb
        have HW := Lib.hid hW
        have HWL := Lib.hid hwl
        have HRD := Lib.hid (show RdI wr (.slice (some ⟨g, 0, none⟩) acc.length acc.length) (wordsAt ⟨L, m, acc, next⟩ k) from by have := hW.rd (by rw [ints_len, hwl]; unfold maxLen; omega); rw [ints_len, hwl] at this; exact this)
        clear hb hW hwl
        by_cases hlt : k < N
        · go_wp2_with fail
          refine (HO.out _ _ _ (below_step HB.out HQ.out) HRD.out HK.out HWL.out).mono ?_
          rintro e w3 ⟨g2, rfl, hR3, hg3, hb3⟩
          rw [HWL.out]
          have HR3 := Lib.hid (show _ ∧ _ from ⟨below_step HQ.out hb3, hR3⟩)
          clear hR3 hb3
          go_wp2
          go_roundw
          case rel => exact ⟨k + 1, g2, by omega, by go_num, rfl, HR3.out.1, HR3.out.2⟩
          case measure => simp [intOf]; omega
        · have ek : k = N := by omega
          subst ek
          go_wp2
          go_loop [7, 36] (fun t i => ∃ s : Nat, s ≤ acc.length ∧ i = .int .i64 s ∧ t = .int .i64 (sumTo acc (wordsAt ⟨L, m, acc, next⟩ k) s)) (fun _ i => acc.length - (intOf i).toNat)
          case atStart => exact ⟨0, Nat.zero_le _, rfl, rfl⟩
          case round =>
            obtain ⟨s, hs, rfl, rfl⟩ := hrel
            by_cases hlt : s < acc.length
            · obtain ⟨b, off, z, rfl, hz, hc⟩ := a3 s hlt
              obtain ⟨y, hy⟩ : ∃ y, (wordsAt ⟨L, m, acc, next⟩ k)[s]? = some y := ⟨_, List.getElem?_eq_getElem (by have := HWL.out; omega)⟩
              have gc := below_keep (below_step HB.out HQ.out) hc
              have gy := (HW.out.cell s).trans (ints_get hy)
              have i1 : (0 : Int) ≤ s := by omega
              have i2 : (s : Int) < acc.length := by omega
              cases z
              · have HZ := Lib.hid hz
                clear hc hz hy a3 b3
                go_wp2
                go_round
                case rel => exact ⟨s + 1, by omega, by go_num, by rw [sumTo_no HZ.out]⟩
                case measure => simp [intOf]; omega
              · have HZ := Lib.hid (show _ ∧ _ from ⟨hz, hy⟩)
                clear hc hz hy a3 b3
                go_wp2
                go_round
                case rel => exact ⟨s + 1, by omega, by go_num, by rw [sumTo_yes HZ.out.1 HZ.out.2]⟩
                case measure => simp [intOf]; omega
            · have es : s = acc.length := by omega
              subst es
              clear a3 b3
              go_wp2
              go_ret2
              have hw : within (k : Int) 0 30 = true := by simpa [within] using r2
              have hres : countRes ⟨L, m, acc, next⟩ k = (sumTo acc (wordsAt ⟨L, m, acc, next⟩ k) acc.length, 0) := by simp [countRes, HOK.out, hw]
              rw [hres]
              exact ⟨rfl, below_step HB.out HQ.out⟩
    · have hw : within n 0 30 = false := by simpa [within] using hr
      have HW := Lib.hid hw
      clear hw
      by_cases h0 : n < 0
      · go_wp2
        go_ret2
        have hres : countRes ⟨L, S, acc, next⟩ n = (0, 2) := by simp [countRes, HOK.out, HW.out]
        rw [hres]
        exact ⟨rfl, below_step HB.out HB1.out⟩
      · have h1 : 30 < n := by omega
        clear hr
        go_wp2
        go_ret2
        have hres : countRes ⟨L, S, acc, next⟩ n = (0, 2) := by simp [countRes, HOK.out, HW.out]
        rw [hres]
        exact ⟨rfl, below_step HB.out HB1.out⟩
  · have hok' : okR ⟨L, S, acc, next⟩ = false := by simpa using hok
    clear hok a3 b3
    have HOK := Lib.hid hok'
    go_enter Try.func22, Try.ntmps22
    go_wp2_with fail
    refine (HV.out _ HB.out).mono ?_
    generalize w.alloc (.cells #[.int .i64 L, .int .i64 S, .slice A acc.length ca, .slice B next.length cb] 27) = W0 at *
    rintro e w1 ⟨rfl, hb1⟩
    have HB1 := Lib.hid hb1
    clear hb1
    go_wp2
    go_ret2
    have hres : countRes ⟨L, S, acc, next⟩ n = (0, 1) := by simp [countRes, HOK.out]
    rw [hres]
    exact ⟨rfl, below_step HB.out HB1.out⟩
end Go.Proofs.Ytdnobbagcnbjiaa
