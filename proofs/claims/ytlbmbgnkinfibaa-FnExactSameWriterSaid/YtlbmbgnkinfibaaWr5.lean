/-
  Equality of writers, by the model.
-/
import Derived.Test.YtlbmbgnkinfibaaWr4
namespace Go.Proofs.Ytlbmbgnkinfibaa
open Go.RowKit Go.ChangeShapes Go.WideShapes Go.Deep Go.Joins

set_option maxHeartbeats 3200000 in
theorem specSameWriter_any (v u : Value) (r s : WrData) (w : World) (h : RdWr w v r) (k : RdWr w u s) :
    Calls Try.prog 14 #[v, u] w fun e w' => e = .returned (.bool (sameWr r s)) ∧ Below w.heap.size w w' := by
  obtain ⟨vm, vo, rfl, hm, ho⟩ := h
  obtain ⟨um, uo, rfl, km, ko⟩ := k
  have HT := Lib.hid (fun W (hb : Below w.heap.size w W) => specSameTurner_any (.agg #[.int .i64 r.L, .int .i64 r.S, vm]) (.agg #[.int .i64 s.L, .int .i64 s.S, um]) r.t s.t W ⟨vm, rfl, keepsPP _ _ _ _ hm hb⟩ ⟨um, rfl, keepsPP _ _ _ _ km hb⟩)
  clear hm km
  obtain ⟨A, ka, rfl, a1, a2, a3⟩ := RdL.open ho
  obtain ⟨B, kb, rfl, b1, b2, b3⟩ := RdL.open ko
  unfold maxLen at a2 b2
  clear ho ko
  have HB := Lib.hid ((below_alloc w (.cells #[.int .i64 r.L, .int .i64 r.S, vm, .slice A r.out.length ka] 34)).alloc (by simp) (.cells #[.int .i64 s.L, .int .i64 s.S, um, .slice B s.out.length kb] 34))
  have HR1 := Lib.hid ((Row.new w [.int .i64 r.L, .int .i64 r.S, vm, .slice A r.out.length ka] 34).alloc (.cells #[.int .i64 s.L, .int .i64 s.S, um, .slice B s.out.length kb] 34))
  have hr2 := Row.new (w.alloc (.cells #[.int .i64 r.L, .int .i64 r.S, vm, .slice A r.out.length ka] 34)) [.int .i64 s.L, .int .i64 s.S, um, .slice B s.out.length kb] 34
  have HR2 := Lib.hid (show Row _ (w.heap.size + 1) _ _ by simpa using hr2)
  clear hr2
  by_cases hs : sameT r.t s.t = true
  · rw [hs] at HT
    have HE := Lib.hid (show sameWr r s = decide (r.out = s.out) by simp [sameWr, hs])
    clear hs
    go_enter Try.func14, Try.ntmps14
    go_wp2_with fail
    refine (HT.out _ HB.out).mono ?_
    rintro e w1 ⟨rfl, hbb⟩
    have HC := Lib.hid (below_step HB.out hbb)
    have HS1 := Lib.hid (HR1.out.below hbb HR1.out.lt)
    have HS2 := Lib.hid (HR2.out.below hbb HR2.out.lt)
    obtain ⟨⟨p0, p1, p2, p3⟩, -⟩ := HS1.out.four
    obtain ⟨⟨q0, q1, q2, q3⟩, -⟩ := HS2.out.four
    clear hbb HR1 HR2 HB HT
    by_cases hl : r.out.length = s.out.length
    · have hl' : ((r.out.length : Int) != (s.out.length : Int)) = false := by simp [hl]
      have HL := Lib.hid hl; clear hl
      go_wp2
      clear hl' p0 p1 p2 p3 q0 q1 q2 q3
      go_loopw [5] (fun i wr => ∃ k : Nat, k ≤ r.out.length ∧ i = .int .i64 k ∧ Qt w1 wr ∧ r.out.take k = s.out.take k) (fun i _ => r.out.length - (intOf i).toNat)
      case atStart => exact ⟨0, Nat.zero_le _, rfl, by first | exact Qt.refl _ | exact (Qt.refl _).drewN _, by simp⟩
      case round =>
        obtain ⟨k, hk, rfl, hb, hp⟩ := hrel
        have HP := Lib.hid hp; clear hp
        have HQ := Lib.hid hb
        obtain ⟨⟨-, -, -, p3⟩, -⟩ := (HS1.out.below hb.below HS1.out.lt).four
        obtain ⟨⟨-, -, -, q3⟩, -⟩ := (HS2.out.below hb.below HS2.out.lt).four
        by_cases hlt : k < r.out.length
        · obtain ⟨b, off, p, x, rfl, hx, hc, hR⟩ := a3 k hlt
          obtain ⟨b', off', q, y, rfl, hy, hd, hS⟩ := b3 k (by have := HL.out; omega)
          obtain ⟨C, kc, rfl, c1, c2, c3⟩ := RdS.open hR
          obtain ⟨D, kd, rfl, d1, d2, d3⟩ := RdS.open hS
          unfold maxLen at c2 d2
          have hc' := below_keep (below_step HC.out hb.below) hc
          have hd' := below_keep (below_step HC.out hb.below) hd
          have HCC := Lib.hid (show _ ∧ _ from ⟨hc, hd⟩)
          clear hc hd a3 b3 hb hR hS
          have HX := Lib.hid hx; clear hx
          have HY := Lib.hid hy; clear hy
          have i1 : (0 : Int) ≤ k := by omega
          have i2 : (k : Int) < r.out.length := by omega
          have i3 : (k : Int) < s.out.length := by have := HL.out; omega
          by_cases hxl : x.length = y.length
          · have hxl' : ((x.length : Int) != (y.length : Int)) = false := by simp [hxl]
            have HXL := Lib.hid hxl; clear hxl
            go_wp2
            go_quiet (fail)
            go_wp2
            clear hxl' p3 q3 hc' hd'
            go_loopw [6] (fun i wi => ∃ j : Nat, j ≤ x.length ∧ i = .int .i64 j ∧ Qt w1 wi ∧ x.take j = y.take j) (fun i _ => x.length - (intOf i).toNat)
            case atStart => exact ⟨0, Nat.zero_le _, rfl, by first | exact HQ.out | exact HQ.out.drewN _, by simp⟩
            case round =>
              obtain ⟨j, hj, rfl, hb, hp⟩ := hrel
              have HP2 := Lib.hid hp; clear hp
              have HQ2 := Lib.hid hb
              obtain ⟨⟨-, -, -, p3⟩, -⟩ := (HS1.out.below hb.below HS1.out.lt).four
              obtain ⟨⟨-, -, -, q3⟩, -⟩ := (HS2.out.below hb.below HS2.out.lt).four
              have hc' := below_keep (below_step HC.out hb.below) HCC.out.1
              have hd' := below_keep (below_step HC.out hb.below) HCC.out.2
              by_cases hjlt : j < x.length
              · obtain ⟨bx, ox, z, rfl, hz, hcz⟩ := c3 j hjlt
                obtain ⟨by', oy, z', rfl, hz', hcz'⟩ := d3 j (by have := HXL.out; omega)
                have gz := below_keep (below_step HC.out hb.below) hcz
                have gz' := below_keep (below_step HC.out hb.below) hcz'
                clear hcz hcz' c3 d3 hb
                have HZ := Lib.hid hz; clear hz
                have HZ' := Lib.hid hz'; clear hz'
                have j1 : (0 : Int) ≤ j := by omega
                have j2 : (j : Int) < x.length := by omega
                have j3 : (j : Int) < y.length := by have := HXL.out; omega
                by_cases hzz : z = z'
                · subst hzz
                  have hzz' : (!(z.toList == z.toList)) = false := by simp
                  go_wp2
                  go_quiet (fail)
                  go_wp2
                  go_roundw
                  case rel => exact ⟨j + 1, by omega, by go_num, HQ2.out.drewN _, takes_succ HP2.out HZ.out HZ'.out⟩
                  case measure => simp [intOf]; omega
                · have hzz' : (!(z.toList == z'.toList)) = true := neq_toList hzz
                  have HZZ := Lib.hid hzz; clear hzz
                  go_wp2
                  go_quiet (fail)
                  go_wp2
                  go_ret
                  exact ⟨ret_bool (HE.out.trans (decide_eq_false (fun e => HZZ.out (by
                    have e1 := HX.out; have e2 := HY.out
                    rw [e] at e1
                    have e3 := Option.some.inj (e1.symm.trans e2)
                    have e4 := HZ.out; have e5 := HZ'.out
                    rw [e3] at e4
                    exact Option.some.inj (e4.symm.trans e5))))).symm, below_step HC.out (HQ2.out.drewN _).below⟩
              · clear c3 d3 hb
                go_wp2
                go_roundw
                case rel => exact ⟨k + 1, by omega, by go_num, HQ2.out, takes_succ HP.out HX.out (by rw [eq_of_takes HXL.out hjlt HP2.out]; exact HY.out)⟩
                case measure => simp [intOf]; omega
          · have hxl' : ((x.length : Int) != (y.length : Int)) = true := by simp; omega
            have HXL := Lib.hid hxl; clear hxl
            go_wp2
            go_quiet (fail)
            go_wp2
            go_ret
            exact ⟨ret_bool (HE.out.trans (decide_eq_false (fun e => HXL.out (by
              have e1 := HX.out; have e2 := HY.out
              rw [e] at e1
              rw [Option.some.inj (e1.symm.trans e2)])))).symm, below_step HC.out (HQ.out.drewN _).below⟩
        · clear a3 b3 hb
          go_wp2
          go_ret
          exact ⟨ret_bool (HE.out.trans (decide_eq_true (eq_of_takes HL.out hlt HP.out))).symm, below_step HC.out HQ.out.below⟩
    · have hl' : ((r.out.length : Int) != (s.out.length : Int)) = true := by simp; omega
      have HL := Lib.hid hl; clear hl
      clear a3 b3
      go_wp2
      go_ret
      exact ⟨ret_bool (HE.out.trans (decide_eq_false (fun e => HL.out (by rw [e])))).symm, by first | exact HC.out | exact below_drewN HC.out _⟩
  · have hs' : sameT r.t s.t = false := by simpa using hs
    rw [hs'] at HT
    have HE := Lib.hid (show sameWr r s = false by simp [sameWr, hs'])
    clear hs hs' a3 b3
    go_enter Try.func14, Try.ntmps14
    go_wp2_with fail
    refine (HT.out _ HB.out).mono ?_
    rintro e w1 ⟨rfl, hbb⟩
    have HC := Lib.hid (below_step HB.out hbb)
    clear hbb
    go_wp2
    go_ret
    exact ⟨ret_bool HE.out.symm, by first | exact HC.out | exact below_drewN HC.out _⟩
end Go.Proofs.Ytlbmbgnkinfibaa
