/-
  Rows of servers: the program's test of a row.
-/
import Derived.Test.YtpkbpflnjbeedaaRw1
import Derived.Test.YtpkbpflnjbeedaaSt2
import Derived.Deep.RegionLaw
namespace Go.Proofs.Ytpkbpflnjbeedaa
open Go.RowKit

/-- The last cut ahead of number k, or 0. -/
def lastCut (l : List Int) (k : Nat) : Int := if k = 0 then 0 else l.getD (k - 1) 0
theorem lastCut_succ {l : List Int} {k : Nat} {x : Int} (h : l[k]? = some x) : lastCut l (k + 1) = x := by simp [lastCut, List.getD, h]
theorem lastCut_pos {n : Int} {l : List Int} {k : Nat} (h : (List.range k).all (cutAt n l) = true) : 0 ≤ lastCut l k := by
  unfold lastCut
  by_cases h0 : k = 0
  · simp [h0]
  · have := List.all_eq_true.1 h (k - 1) (List.mem_range.2 (by omega))
    simp only [cutAt, within, Bool.and_eq_true, decide_eq_true_eq] at this
    rw [if_neg h0]; omega
theorem cutAt_prog {s : ByteArray} {l : List Int} {k : Nat} {x : Int} (h : (List.range k).all (cutAt ((s.size : Int) + 1) l) = true) (hx : l[k]? = some x) :
    cutAt ((s.size : Int) + 1) l k = (!decide (x ≤ lastCut l k) && cellOk x s) := by
  have hp := lastCut_pos h
  rw [cutAt_eq hx]
  by_cases h0 : k = 0
  · subst h0
    simp only [lastCut, if_true, within, cellOk]
    rw [Bool.eq_iff_iff]
    simp
    omega
  · have e : lastCut l k = l.getD (k - 1) 0 := by simp [lastCut, h0]
    rw [e] at hp ⊢
    generalize l.getD (k - 1) 0 = y at hp ⊢
    simp only [within, cellOk]
    rw [Bool.eq_iff_iff]
    simp [h0]
    omega

theorem givenC_zeroR {t : TData} {s : ByteArray} (h : givenC t s = 0) : okT t = true ∧ okWord t.L s = true := by
  unfold givenC at h
  by_cases hh : okT t = true ∧ okWord t.L s = true
  · exact hh
  · rw [if_neg hh] at h; cases h

set_option maxHeartbeats 1600000 in
theorem ValidRow_any (v : Value) (r : RwData) (w : World) (h : RdRw w v r) (hs : r.wd.size ≤ maxLen) :
    Calls Try.prog 11 #[v] w fun e w' => e = .returned (.bool (okRw r)) ∧ Below w.heap.size w w' := by
  obtain ⟨L, S, mv, wd, cu⟩ := r
  obtain ⟨m, c, rfl, hm, hc⟩ := h
  simp only at hm hc hs
  obtain ⟨A, kc, rfl, a1, a2, -⟩ := hc.open
  unfold maxLen at a2
  have HG := Lib.hid (fun W (hb : Below w.heap.size w W) => wordCode_any (.agg #[.int .i64 L, .int .i64 S, m]) ⟨L, S, mv⟩ wd W ⟨m, rfl, keepsPP _ _ _ _ hm hb⟩ hs)
  have HCC := Lib.hid (fun W (hb : Below w.heap.size w W) => (keepsI _ _ _ _ hc hb).open)
  have HR := Lib.hid (Row.new w [.int .i64 L, .int .i64 S, m, .string wd, .slice A cu.length kc] 34)
  have HB := Lib.hid (below_alloc w (.cells #[.int .i64 L, .int .i64 S, m, .string wd, .slice A cu.length kc] 34))
  clear hm hc
  by_cases hg : givenC ⟨L, S, mv⟩ wd = 0
  · have hok := givenC_zeroR hg
    have s6 : (wd.size : Int) ≤ 60 := (okWord_parts8 hok.2).1
    have HOK := Lib.hid hok
    have HG1 := Lib.hid (fun W (hb : Below w.heap.size w W) => (HG.out W hb).mono (fun e w' (h : _ ∧ _) => (⟨by rw [h.1, hg], h.2⟩ : e = .returned (.int .i64 0) ∧ Below W.heap.size W w')))
    clear hg hok HG
    by_cases hl : (cu.length : Int) < 4
    · have d : decide (3 < (cu.length : Int)) = false := by simp; omega
      have HIC := Lib.hid (fun a W => isCell_any a wd W (by omega))
      have HL := Lib.hid hl
      clear hl
      go_enter Try.func11, Try.ntmps11
      go_wp2_with fail
      refine (HG1.out _ HB.out).mono ?_
      rintro e w1 ⟨rfl, hb1⟩
      generalize w.alloc (.cells #[.int .i64 L, .int .i64 S, m, .string wd, .slice A cu.length kc] 34) = W0 at *
      have HC1 := Lib.hid hb1
      clear hb1
      have HR1 := Lib.hid (HR.out.below HC1.out HR.out.lt)
      have HB1 := Lib.hid (below_step HB.out HC1.out)
      obtain ⟨⟨c0, c1, c2, c3, c4⟩, -⟩ := HR1.out.five
      go_wp2
      go_loopw [21, 3] (fun i z wr => ∃ s : Nat, s ≤ cu.length ∧ i = .int .i64 s ∧ z = .int .i64 (lastCut cu s) ∧ Below w.heap.size w wr ∧ Row wr w.heap.size 34 [.int .i64 L, .int .i64 S, m, .string wd, .slice A cu.length kc] ∧ (List.range s).all (cutAt ((wd.size : Int) + 1) cu) = true) (fun i _ _ => cu.length - (intOf i).toNat)
      case atStart => exact ⟨0, Nat.zero_le _, rfl, rfl, HB1.out, HR1.out, by simp⟩
      case round =>
        clear c0 c1 c2 c3 c4
        obtain ⟨s, hs, rfl, rfl, hb, hR, hp⟩ := hrel
        have HP := Lib.hid hp; clear hp
        have HB2 := Lib.hid hb
        have HR2 := Lib.hid hR
        obtain ⟨⟨c0, c1, c2, c3, c4⟩, -⟩ := HR2.out.five
        by_cases hlt : s < cu.length
        · obtain ⟨A2, cap2, hA2, x1, x2, h3⟩ := HCC.out wr hb
          cases hA2
          obtain ⟨b, off, x, rfl, hx, hcx⟩ := h3 s hlt
          have i1 : (0 : Int) ≤ s := by omega
          have i2 : (s : Int) < cu.length := by omega
          have HQ := Lib.hid (cutAt_prog HP.out hx)
          have HLS := Lib.hid (lastCut_succ hx)
          clear h3 x1 x2 hx hb hR
          by_cases h1 : x ≤ lastCut cu s
          · have d1 : decide (x ≤ lastCut cu s) = true := by simpa using h1
            have HH := Lib.hid (show cutAt ((wd.size : Int) + 1) cu s = false by rw [HQ.out, d1]; rfl)
            clear h1
            go_wp2
            go_ret
            exact ⟨ret_bool (okRw_no4 (cut_not hlt HH.out)).symm, by first | exact HB2.out | exact below_drewN HB2.out _⟩
          · have d1 : decide (x ≤ lastCut cu s) = false := by simpa using h1
            clear h1
            by_cases h2 : cellOk x wd = true
            · have HH := Lib.hid (show cutAt ((wd.size : Int) + 1) cu s = true by rw [HQ.out, d1, h2]; rfl)
              have HIC1 := Lib.hid (fun W => (HIC.out x W).mono (fun e w' (h : _ ∧ _) => (⟨by rw [h.1, h2], h.2⟩ : e = .returned (.bool true) ∧ W = w')))
              clear h2
              go_wp2_with (go_at_call 32; refine (HIC1.out _).mono ?_; rintro e w' ⟨rfl, rfl⟩)
              go_roundw
              case rel => exact ⟨s + 1, by omega, by go_num, by rw [HLS.out], by first | exact HB2.out | exact below_drewN HB2.out _, by first | exact HR2.out | exact HR2.out.drewN _, cut_succ HP.out HH.out⟩
              case measure => simp [intOf]; omega
            · have h2' : cellOk x wd = false := by simpa using h2
              have HH := Lib.hid (show cutAt ((wd.size : Int) + 1) cu s = false by rw [HQ.out, d1, h2']; rfl)
              have HIC1 := Lib.hid (fun W => (HIC.out x W).mono (fun e w' (h : _ ∧ _) => (⟨by rw [h.1, h2'], h.2⟩ : e = .returned (.bool false) ∧ W = w')))
              clear h2 h2'
              go_wp2_with (go_at_call 32; refine (HIC1.out _).mono ?_; rintro e w' ⟨rfl, rfl⟩)
              go_ret
              exact ⟨ret_bool (okRw_no4 (cut_not hlt HH.out)).symm, by first | exact HB2.out | exact below_drewN HB2.out _⟩
        · clear hb hR
          go_wp2
          go_ret
          exact ⟨ret_bool (okRw_yes (r := ⟨L, S, mv, wd, cu⟩) HOK.out.1 HOK.out.2 HL.out (cut_all HP.out hs hlt)).symm, HB2.out⟩
    · have d : decide (3 < (cu.length : Int)) = true := by simp; omega
      have HN := Lib.hid (show okRw ⟨L, S, mv, wd, cu⟩ = false from okRw_no3 (by exact decide_eq_false (by show ¬ ((cu.length : Int) < 4); omega)))
      clear hl
      go_enter Try.func11, Try.ntmps11
      go_wp2_with fail
      refine (HG1.out _ HB.out).mono ?_
      rintro e w1 ⟨rfl, hb1⟩
      obtain ⟨⟨c0, c1, c2, c3, c4⟩, -⟩ := (HR.out.below hb1 HR.out.lt).five
      generalize w.alloc (.cells #[.int .i64 L, .int .i64 S, m, .string wd, .slice A cu.length kc] 34) = W0 at *
      have HC1 := Lib.hid hb1
      clear hb1
      go_wp2
      go_ret
      exact ⟨ret_bool HN.out.symm, below_step HB.out HC1.out⟩
  · have hg1 : givenC ⟨L, S, mv⟩ wd = 1 := by unfold givenC at hg ⊢; split at hg <;> simp_all
    have HN := Lib.hid (show okRw ⟨L, S, mv, wd, cu⟩ = false from by
      unfold givenC at hg
      by_cases h1 : okT ⟨L, S, mv⟩ = true
      · by_cases h2 : okWord L wd = true
        · rw [if_pos ⟨h1, h2⟩] at hg; exact absurd rfl hg
        · exact okRw_no2 (by simpa using h2)
      · exact okRw_no1 (by show okT ⟨L, S, mv⟩ = false; simpa using h1))
    have HG1 := Lib.hid (fun W (hb : Below w.heap.size w W) => (HG.out W hb).mono (fun e w' (h : _ ∧ _) => (⟨by rw [h.1, hg1], h.2⟩ : e = .returned (.int .i64 1) ∧ Below W.heap.size W w')))
    clear hg hg1 HG
    go_enter Try.func11, Try.ntmps11
    go_wp2_with fail
    refine (HG1.out _ HB.out).mono ?_
    rintro e w1 ⟨rfl, hb1⟩
    obtain ⟨⟨c0, c1, c2, c3, c4⟩, -⟩ := (HR.out.below hb1 HR.out.lt).five
    generalize w.alloc (.cells #[.int .i64 L, .int .i64 S, m, .string wd, .slice A cu.length kc] 34) = W0 at *
    have HC1 := Lib.hid hb1
    clear hb1
    go_wp2
    go_ret
    exact ⟨ret_bool HN.out.symm, below_step HB.out HC1.out⟩
end Go.Proofs.Ytpkbpflnjbeedaa
