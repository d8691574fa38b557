/-
  Equality of automata with many ways: by the model and by the program.
-/
import Derived.Test.YtgeopkjohijegabS3
import Derived.Test.YtgeopkjohijegabM2
namespace Go.Proofs.Ytgeopkjohijegab
open Go.RowKit

def sameM (r s : MData) : Bool := decide (r.L = s.L) && (decide (r.st = s.st) && (decide (r.acc = s.acc) && decide (r.next = s.next)))

set_option maxHeartbeats 1600000 in
theorem implSameMany_any (v u : Value) (r s : MData) (w : World) (h : RdM w v r) (k : RdM w u s) :
    Calls Try.prog 37 #[v, u] w fun e w' => e = .returned (.bool (sameM r s)) ∧ Below w.heap.size w w' := by
  obtain ⟨L, st, acc, next⟩ := r
  obtain ⟨L', st', acc', next'⟩ := s
  obtain ⟨vs, a, n, rfl, hst, ha, hn⟩ := h
  obtain ⟨vs', a', n', rfl, hst', ha', hn'⟩ := k
  simp only at *
  have HT := Lib.hid (fun W (hb : Below w.heap.size w W) => slEqualI_any vs vs' st st' W (keepsI _ _ _ _ hst hb) (keepsI _ _ _ _ hst' hb))
  have HA := Lib.hid (fun W (hb : Below w.heap.size w W) => slEqualB_any a a' acc acc' W (keepsB _ _ _ _ ha hb) (keepsB _ _ _ _ ha' hb))
  have HN := Lib.hid (fun W (hb : Below w.heap.size w W) => slEqualFunc2_any n n' next next' W (keepsIII _ _ _ _ hn hb) (keepsIII _ _ _ _ hn' hb))
  have HB := Lib.hid (fun m => below_drewN (((below_alloc w (.cells #[.int .i64 L, vs, a, n] 51)).alloc (by simp) (.cells #[.int .i64 L', vs', a', n'] 51))) m)
  clear hst hst' ha ha' hn hn'
  by_cases h1 : L = L'
  · subst h1
    have d1 : (L == L) = true := by simp
    have d1' : (L != L) = false := by simp
    by_cases h2 : st = st'
    · have d2 : decide (st = st') = true := by simpa using h2
      have H2 := Lib.hid h2; clear h2
      by_cases h3 : acc = acc'
      · have d3 : decide (acc = acc') = true := by simpa using h3
        have H3 := Lib.hid h3; clear h3
        by_cases h4 : next = next'
        · have d4 : decide (next = next') = true := by simpa using h4
          have H4 := Lib.hid h4; clear h4
          go_enter Try.func37, Try.ntmps37
          go_wp2_with (first | (go_at_call 84; refine (HT.out _ (HB.out 0)).mono ?_; rintro e w' ⟨rfl, m1, rfl⟩) | (go_at_call 85; refine (HA.out _ (HB.out _)).mono ?_; rintro e w' ⟨rfl, m2, rfl⟩) | (go_at_call 86; refine (HN.out _ (HB.out _)).mono ?_; rintro e w' ⟨rfl, m3, rfl⟩))
          go_ret
          exact ⟨ret_bool (by simp [sameM, H2.out, H3.out, H4.out]), HB.out _⟩
        · have d4 : decide (next = next') = false := by simpa using h4
          have H4 := Lib.hid h4; clear h4
          go_enter Try.func37, Try.ntmps37
          go_wp2_with (first | (go_at_call 84; refine (HT.out _ (HB.out 0)).mono ?_; rintro e w' ⟨rfl, m1, rfl⟩) | (go_at_call 85; refine (HA.out _ (HB.out _)).mono ?_; rintro e w' ⟨rfl, m2, rfl⟩) | (go_at_call 86; refine (HN.out _ (HB.out _)).mono ?_; rintro e w' ⟨rfl, m3, rfl⟩))
          go_ret
          exact ⟨ret_bool (by simp [sameM, H4.out]), HB.out _⟩
      · have d3 : decide (acc = acc') = false := by simpa using h3
        have H3 := Lib.hid h3; clear h3
        go_enter Try.func37, Try.ntmps37
        go_wp2_with (first | (go_at_call 84; refine (HT.out _ (HB.out 0)).mono ?_; rintro e w' ⟨rfl, m1, rfl⟩) | (go_at_call 85; refine (HA.out _ (HB.out _)).mono ?_; rintro e w' ⟨rfl, m2, rfl⟩) | (go_at_call 86; refine (HN.out _ (HB.out _)).mono ?_; rintro e w' ⟨rfl, m3, rfl⟩))
        go_ret
        exact ⟨ret_bool (by simp [sameM, H3.out]), HB.out _⟩
    · have d2 : decide (st = st') = false := by simpa using h2
      have H2 := Lib.hid h2; clear h2
      go_enter Try.func37, Try.ntmps37
      go_wp2_with (first | (go_at_call 84; refine (HT.out _ (HB.out 0)).mono ?_; rintro e w' ⟨rfl, m1, rfl⟩) | (go_at_call 85; refine (HA.out _ (HB.out _)).mono ?_; rintro e w' ⟨rfl, m2, rfl⟩) | (go_at_call 86; refine (HN.out _ (HB.out _)).mono ?_; rintro e w' ⟨rfl, m3, rfl⟩))
      go_ret
      exact ⟨ret_bool (by simp [sameM, H2.out]), HB.out _⟩
  · have d1 : (L == L') = false := by simpa using h1
    have d1' : (L != L') = true := by simpa using h1
    have H1 := Lib.hid h1; clear h1
    go_enter Try.func37, Try.ntmps37
    go_wp2_with (first | (go_at_call 84; refine (HT.out _ (HB.out 0)).mono ?_; rintro e w' ⟨rfl, m1, rfl⟩) | (go_at_call 85; refine (HA.out _ (HB.out _)).mono ?_; rintro e w' ⟨rfl, m2, rfl⟩) | (go_at_call 86; refine (HN.out _ (HB.out _)).mono ?_; rintro e w' ⟨rfl, m3, rfl⟩))
    go_ret
    exact ⟨ret_bool (by simp [sameM, H1.out]), HB.out 0⟩

set_option maxHeartbeats 1600000 in
theorem specSameMany_any (v u : Value) (r s : MData) (w : World) (h : RdM w v r) (k : RdM w u s) :
    Calls Try.prog 36 #[v, u] w fun e w' => e = .returned (.bool (sameM r s)) ∧ Below w.heap.size w w' := by
  obtain ⟨L, st, acc, next⟩ := r
  obtain ⟨L', st', acc', next'⟩ := s
  obtain ⟨vs, a, n, rfl, hst, ha, hn⟩ := h
  obtain ⟨vs', a', n', rfl, hst', ha', hn'⟩ := k
  simp only at *
  obtain ⟨B, cb, rfl, o1, o2, o3⟩ := RdL.open hn
  obtain ⟨B', cb', rfl, p1, p2, p3⟩ := RdL.open hn'
  unfold maxLen at o2 p2
  have HT := Lib.hid (fun W (hb : Below w.heap.size w W) => l00Same_any vs vs' st st' W (keepsI _ _ _ _ hst hb) (keepsI _ _ _ _ hst' hb))
  have HA := Lib.hid (fun W (hb : Below w.heap.size w W) => l01Bools_any a a' acc acc' W (keepsB _ _ _ _ ha hb) (keepsB _ _ _ _ ha' hb))
  have HB := Lib.hid (fun m => below_drewN (((below_alloc w (.cells #[.int .i64 L, vs, a, .slice B next.length cb] 51)).alloc (by simp) (.cells #[.int .i64 L', vs', a', .slice B' next'.length cb'] 51))) m)
  clear hst hst' ha ha' 
  by_cases h1 : L = L'
  · subst h1
    have d1 : (L == L) = true := by simp
    have d1' : (L != L) = false := by simp
    by_cases h2 : st = st'
    · have d2 : decide (st = st') = true := by simpa using h2
      have H2 := Lib.hid h2; clear h2
      by_cases h3 : acc = acc'
      · have d3 : decide (acc = acc') = true := by simpa using h3
        have H3 := Lib.hid h3; clear h3
        by_cases hl : next.length = next'.length
        · have d4 : ((next.length : Int) != (next'.length : Int)) = false := by simp [hl]
          have HL := Lib.hid hl; clear hl
          have rA : Row ((w.alloc (.cells #[.int .i64 L, vs, a, .slice B next.length cb] 51)).alloc (.cells #[.int .i64 L, vs', a', .slice B' next'.length cb'] 51)) w.heap.size 51 [.int .i64 L, vs, a, .slice B next.length cb] := by
            have := (Row.new w [.int .i64 L, vs, a, .slice B next.length cb] 51).alloc (.cells #[.int .i64 L, vs', a', .slice B' next'.length cb'] 51)
            exact this
          have rB : Row ((w.alloc (.cells #[.int .i64 L, vs, a, .slice B next.length cb] 51)).alloc (.cells #[.int .i64 L, vs', a', .slice B' next'.length cb'] 51)) (w.heap.size + 1) 51 [.int .i64 L, vs', a', .slice B' next'.length cb'] := by
            have := Row.new (w.alloc (.cells #[.int .i64 L, vs, a, .slice B next.length cb] 51)) [.int .i64 L, vs', a', .slice B' next'.length cb'] 51
            simpa using this
          have HR := Lib.hid (show _ ∧ _ from ⟨rA.four.1, rB.four.1⟩)
          have hw0 : Below w.heap.size w ((w.alloc (.cells #[.int .i64 L, vs, a, .slice B next.length cb] 51)).alloc (.cells #[.int .i64 L, vs', a', .slice B' next'.length cb'] 51)) := HB.out 0
          have HW0 := Lib.hid hw0
          clear rA rB hw0
          go_enter Try.func36, Try.ntmps36
          go_wp2_with (first | (go_at_call 81; refine (HT.out _ (HB.out 0)).mono ?_; rintro e w' ⟨rfl, m1, rfl⟩) | (go_at_call 82; refine (HA.out _ (HB.out _)).mono ?_; rintro e w' ⟨rfl, m2, rfl⟩))
          go_loopw [5] (fun i wr => ∃ k : Nat, k ≤ next.length ∧ i = .int .i64 k ∧ Qt ((w.alloc (.cells #[.int .i64 L, vs, a, .slice B next.length cb] 51)).alloc (.cells #[.int .i64 L, vs', a', .slice B' next'.length cb'] 51)) wr ∧ next.take k = next'.take k) (fun i _ => next.length - (intOf i).toNat)
          case atStart => exact ⟨0, Nat.zero_le _, rfl, (Qt.refl _).drewN _, by simp⟩
          case round =>
            obtain ⟨k, hk, rfl, hq, hp⟩ := hrel
            have HP := Lib.hid hp; clear hp
            have HQ := Lib.hid hq
            obtain ⟨⟨a0, a1, a2, a3⟩, ⟨b0, b1, b2, b3⟩⟩ := HR.out
            have ga := (hq.cell _).trans a3
            have gb := (hq.cell _).trans b3
            clear a0 a1 a2 a3 b0 b1 b2 b3
            by_cases hlt : k < next.length
            · obtain ⟨b, off, p, x, rfl, hx, hc, hR⟩ := o3 k hlt
              obtain ⟨b', off', q, y, rfl, hy, hd, hS⟩ := p3 k (by have := HL.out; omega)
              have gc := (hq.cell _).trans (below_keep HW0.out hc)
              have gd := (hq.cell _).trans (below_keep HW0.out hd)
              have HC := Lib.hid (fun m => l01Lists_any p q x y (wr.drewN m) (keepsII _ _ _ _ hR (below_step HW0.out (hq.drewN m).below)) (keepsII _ _ _ _ hS (below_step HW0.out (hq.drewN m).below)))
              clear hc hd o3 p3 hq hR hS
              have HX := Lib.hid hx; clear hx
              have HY := Lib.hid hy; clear hy
              have i1 : (0 : Int) ≤ k := by omega
              have i2 : (k : Int) < next.length := by omega
              have i3 : (k : Int) < next'.length := by have := HL.out; omega
              by_cases hxy : x = y
              · subst hxy
                have e1 : decide (x = x) = true := by simp
                go_wp2_with fail
                go_quiet ((go_at_call 83; exact Calls.quiet_of (HC.out _)))
                go_wp2
                go_roundw
                case rel => exact ⟨k + 1, by omega, by go_num, HQ.out.drewN _, takes_succ HP.out HX.out HY.out⟩
                case measure => simp [intOf]; omega
              · have e1 : decide (x = y) = false := by simpa using hxy
                have HXY := Lib.hid hxy; clear hxy
                go_wp2_with fail
                go_quiet ((go_at_call 83; exact Calls.quiet_of (HC.out _)))
                go_wp2
                go_ret
                exact ⟨ret_bool (by simp [sameM, ne_at HX.out HY.out HXY.out]), below_step HW0.out (HQ.out.drewN _).below⟩
            · clear o3 p3 hq
              have HE := Lib.hid (eq_of_takes HL.out hlt HP.out)
              go_wp2
              go_ret
              exact ⟨ret_bool (by simp [sameM, H2.out, H3.out, HE.out]), below_step HW0.out HQ.out.below⟩
        · have d4 : ((next.length : Int) != (next'.length : Int)) = true := by simp; omega
          have HL := Lib.hid (show ¬ next = next' from fun e => hl (by rw [e])); clear hl
          go_enter Try.func36, Try.ntmps36
          go_wp2_with (first | (go_at_call 81; refine (HT.out _ (HB.out 0)).mono ?_; rintro e w' ⟨rfl, m1, rfl⟩) | (go_at_call 82; refine (HA.out _ (HB.out _)).mono ?_; rintro e w' ⟨rfl, m2, rfl⟩))
          go_ret
          exact ⟨ret_bool (by simp [sameM, HL.out]), HB.out _⟩
      · have d3 : decide (acc = acc') = false := by simpa using h3
        have H3 := Lib.hid h3; clear h3
        go_enter Try.func36, Try.ntmps36
        go_wp2_with (first | (go_at_call 81; refine (HT.out _ (HB.out 0)).mono ?_; rintro e w' ⟨rfl, m1, rfl⟩) | (go_at_call 82; refine (HA.out _ (HB.out _)).mono ?_; rintro e w' ⟨rfl, m2, rfl⟩))
        go_ret
        exact ⟨ret_bool (by simp [sameM, H3.out]), HB.out _⟩
    · have d2 : decide (st = st') = false := by simpa using h2
      have H2 := Lib.hid h2; clear h2
      go_enter Try.func36, Try.ntmps36
      go_wp2_with (first | (go_at_call 81; refine (HT.out _ (HB.out 0)).mono ?_; rintro e w' ⟨rfl, m1, rfl⟩) | (go_at_call 82; refine (HA.out _ (HB.out _)).mono ?_; rintro e w' ⟨rfl, m2, rfl⟩))
      go_ret
      exact ⟨ret_bool (by simp [sameM, H2.out]), HB.out _⟩
  · have d1 : (L == L') = false := by simpa using h1
    have d1' : (L != L') = true := by simpa using h1
    have H1 := Lib.hid h1; clear h1
    go_enter Try.func36, Try.ntmps36
    go_wp2_with (first | (go_at_call 81; refine (HT.out _ (HB.out 0)).mono ?_; rintro e w' ⟨rfl, m1, rfl⟩) | (go_at_call 82; refine (HA.out _ (HB.out _)).mono ?_; rintro e w' ⟨rfl, m2, rfl⟩))
    go_ret
    exact ⟨ret_bool (by simp [sameM, H1.out]), HB.out 0⟩

end Go.Proofs.Ytgeopkjohijegab
