/-
  Equality of turners: by the model and by the program.
-/
import Derived.Test.YtlbmbgnkinfibaaSM
import Derived.Test.YtlbmbgnkinfibaaV4
namespace Go.Proofs.Ytlbmbgnkinfibaa
open Go.RowKit

set_option maxHeartbeats 400000 in
theorem slEqualFuncP_any (v u : Value) (xs ys : List (List (Int × Int))) (w : World) (h : RdL RdP w v xs) (hu : RdL RdP w u ys) :
    Calls Try.prog 87 #[v, u, .func (.func 88) #[] #[]] w fun e w' => e = .returned (.bool (decide (xs = ys))) ∧ Qt w w' := by
  obtain ⟨A, cap, rfl, h1, h2, h3⟩ := h.open
  obtain ⟨B, cap', rfl, k1, k2, k3⟩ := hu.open
  unfold maxLen at h2 k2
  by_cases hl : xs.length = ys.length
  · have hl' : ((xs.length : Int) != (ys.length : Int)) = false := by simp [hl]
    have HL := Lib.hid hl; clear hl
    go_enter Try.func87, Try.ntmps87
    go_wp2
    go_loopw [17] (fun i wr => ∃ k : Nat, k ≤ xs.length ∧ i = .int .i64 k ∧ Qt w wr ∧ xs.take k = ys.take k) (fun i _ => xs.length - (intOf i).toNat)
    case atStart => exact ⟨0, Nat.zero_le _, rfl, Qt.refl _, by simp⟩
    case round =>
      obtain ⟨k, hk, rfl, hb, hp⟩ := hrel
      have HP := Lib.hid hp; clear hp
      have HB := Lib.hid hb
      by_cases hlt : k < xs.length
      · obtain ⟨b, off, p, x, rfl, hx, hc, hR⟩ := h3 k hlt
        obtain ⟨b', off', q, y, rfl, hy, hd, hS⟩ := k3 k (by have := HL.out; omega)
        have hc' := (hb.cell _).trans hc
        have hd' := (hb.cell _).trans hd
        have HC := Lib.hid (slEqualP_any p q x y wr (keepsP _ _ _ _ hR hb.below) (keepsP _ _ _ _ hS hb.below))
        clear hc hd h3 k3 hb hR hS
        have HX := Lib.hid hx; clear hx
        have HY := Lib.hid hy; clear hy
        have i1 : (0 : Int) ≤ k := by omega
        have i2 : (k : Int) < xs.length := by omega
        have i3 : (k : Int) < ys.length := by have := HL.out; omega
        by_cases hxy : x = y
        · subst hxy
          have hd1 : decide (x = x) = true := by simp
          go_wp2_with (go_at_call 88; refine HC.out.mono ?_; rintro e w' ⟨rfl, m, rfl⟩)
          go_roundw
          case rel => exact ⟨k + 1, by omega, by go_num, HB.out.drewN _, takes_succ HP.out HX.out HY.out⟩
          case measure => simp [intOf]; omega
        · have hd1 : decide (x = y) = false := by simpa using hxy
          have HXY := Lib.hid hxy; clear hxy
          go_wp2_with (go_at_call 88; refine HC.out.mono ?_; rintro e w' ⟨rfl, m, rfl⟩)
          go_ret
          exact ⟨ret_bool (decide_eq_false (ne_at HX.out HY.out HXY.out)).symm, HB.out.drewN _⟩
      · clear hb
        go_wp2
        go_ret
        exact ⟨ret_bool (decide_eq_true (eq_of_takes HL.out hlt HP.out)).symm, HB.out⟩
  · have hl' : ((xs.length : Int) != (ys.length : Int)) = true := by simp; omega
    have HL := Lib.hid hl; clear hl
    go_enter Try.func87, Try.ntmps87
    go_wp2
    go_ret
    exact ⟨ret_bool (decide_eq_false (fun e => HL.out (by rw [e]))).symm, Qt.refl _⟩

def sameT (t u : TData) : Bool := decide (t.L = u.L) && (decide (t.S = u.S) && decide (t.mv = u.mv))

set_option maxHeartbeats 800000 in
theorem implSameTurner_any (v u : Value) (r s : TData) (w : World) (h : RdT w v r) (k : RdT w u s) :
    Calls Try.prog 43 #[v, u] w fun e w' => e = .returned (.bool (sameT r s)) ∧ Below w.heap.size w w' := by
  obtain ⟨L, S, mv⟩ := r
  obtain ⟨L', S', mv'⟩ := s
  obtain ⟨n, rfl, hn⟩ := h
  obtain ⟨n', rfl, hn'⟩ := k
  simp only at *
  have HN := Lib.hid (fun W (hb : Below w.heap.size w W) => slEqualFuncP_any n n' mv mv' W (keepsPP _ _ _ _ hn hb) (keepsPP _ _ _ _ hn' hb))
  have HB := Lib.hid (fun m => below_drewN (((below_alloc w (.cells #[.int .i64 L, .int .i64 S, n] 32)).alloc (by simp) (.cells #[.int .i64 L', .int .i64 S', n'] 32))) m)
  clear hn hn'
  by_cases h1 : L = L'
  · subst h1
    have d1 : (L == L) = true := by simp
    by_cases h2 : S = S'
    · subst h2
      have d2 : (S == S) = true := by simp
      by_cases h4 : mv = mv'
      · have d4 : decide (mv = mv') = true := by simpa using h4
        have H4 := Lib.hid h4; clear h4
        (go_enter Try.func43, Try.ntmps43); go_wp2_with (go_at_call 87; refine (HN.out _ (HB.out 0)).mono ?_; rintro e w' ⟨rfl, m1, rfl⟩)
        go_ret
        exact ⟨ret_bool (by simp [sameT, H4.out]), HB.out _⟩
      · have d4 : decide (mv = mv') = false := by simpa using h4
        have H4 := Lib.hid h4; clear h4
        (go_enter Try.func43, Try.ntmps43); go_wp2_with (go_at_call 87; refine (HN.out _ (HB.out 0)).mono ?_; rintro e w' ⟨rfl, m1, rfl⟩)
        go_ret
        exact ⟨ret_bool (by simp [sameT, H4.out]), HB.out _⟩
    · have d2 : (S == S') = false := by simpa using h2
      have H2 := Lib.hid h2; clear h2
      (go_enter Try.func43, Try.ntmps43); go_wp2_with (go_at_call 87; refine (HN.out _ (HB.out 0)).mono ?_; rintro e w' ⟨rfl, m1, rfl⟩)
      go_ret
      exact ⟨ret_bool (by simp [sameT, H2.out]), HB.out 0⟩
  · have d1 : (L == L') = false := by simpa using h1
    have H1 := Lib.hid h1; clear h1
    (go_enter Try.func43, Try.ntmps43); go_wp2_with (go_at_call 87; refine (HN.out _ (HB.out 0)).mono ?_; rintro e w' ⟨rfl, m1, rfl⟩)
    go_ret
    exact ⟨ret_bool (by simp [sameT, H1.out]), HB.out 0⟩

set_option maxHeartbeats 1600000 in
theorem specSameTurner_any (v u : Value) (r s : TData) (w : World) (h : RdT w v r) (k : RdT w u s) :
    Calls Try.prog 42 #[v, u] w fun e w' => e = .returned (.bool (sameT r s)) ∧ Below w.heap.size w w' := by
  obtain ⟨L, S, xs⟩ := r
  obtain ⟨L', S', ys⟩ := s
  obtain ⟨n, rfl, hn⟩ := h
  obtain ⟨n', rfl, hn'⟩ := k
  simp only at *
  obtain ⟨A, cap, rfl, h1, h2, h3⟩ := RdL.open hn
  obtain ⟨B, cap', rfl, k1, k2, k3⟩ := RdL.open hn'
  unfold maxLen at h2 k2
  clear hn hn'
  have HB0 := Lib.hid ((below_alloc w (.cells #[.int .i64 L, .int .i64 S, .slice A xs.length cap] 32)).alloc (by simp) (.cells #[.int .i64 L', .int .i64 S', .slice B ys.length cap'] 32))
  have HR1 := Lib.hid ((Row.new w [.int .i64 L, .int .i64 S, .slice A xs.length cap] 32).alloc (.cells #[.int .i64 L', .int .i64 S', .slice B ys.length cap'] 32))
  have hr2 := Row.new (w.alloc (.cells #[.int .i64 L, .int .i64 S, .slice A xs.length cap] 32)) [.int .i64 L', .int .i64 S', .slice B ys.length cap'] 32
  have HR2 := Lib.hid (show Row _ (w.heap.size + 1) _ _ by simpa using hr2)
  clear hr2
  by_cases g1 : L = L'
  · subst g1
    have d1 : (L != L) = false := by simp
    by_cases g2 : S = S'
    · subst g2
      have d2 : (S != S) = false := by simp
      by_cases hl : xs.length = ys.length
      · have hl' : ((xs.length : Int) != (ys.length : Int)) = false := by simp [hl]
        have HL := Lib.hid hl; clear hl
        go_enter Try.func42, Try.ntmps42
        go_wp2
        go_loopw [5] (fun i wr => ∃ k : Nat, k ≤ xs.length ∧ i = .int .i64 k ∧ Qt ((w.alloc (.cells #[.int .i64 L, .int .i64 S, .slice A xs.length cap] 32)).alloc (.cells #[.int .i64 L, .int .i64 S, .slice B ys.length cap'] 32)) wr ∧ xs.take k = ys.take k) (fun i _ => xs.length - (intOf i).toNat)
        case atStart => exact ⟨0, Nat.zero_le _, rfl, Qt.refl _, by simp⟩
        case round =>
          obtain ⟨k, hk, rfl, hb, hp⟩ := hrel
          have HP := Lib.hid hp; clear hp
          generalize (w.alloc (.cells #[.int .i64 L, .int .i64 S, .slice A xs.length cap] 32)).alloc (.cells #[.int .i64 L, .int .i64 S, .slice B ys.length cap'] 32) = W0 at *
          have HB := Lib.hid hb
          obtain ⟨⟨b0, b1, b2⟩, -⟩ := HR1.out.three
          obtain ⟨⟨e0, e1, e2⟩, -⟩ := HR2.out.three
          have gb := (hb.cell _).trans b2
          have ge := (hb.cell _).trans e2
          clear b0 b1 b2 e0 e1 e2
          by_cases hlt : k < xs.length
          · obtain ⟨b, off, p, x, rfl, hx, hc, hR⟩ := h3 k hlt
            obtain ⟨b', off', q, y, rfl, hy, hd, hS⟩ := k3 k (by have := HL.out; omega)
            obtain ⟨C, capx, rfl, x1, x2, x3⟩ := RdP.open hR
            obtain ⟨D, capy, rfl, y1, y2, y3⟩ := RdP.open hS
            unfold maxLen at x2 y2
            have hW := below_step HB0.out hb.below
            have hc' := below_keep hW hc
            have hd' := below_keep hW hd
            have HCD := Lib.hid (show _ ∧ _ from ⟨hc, hd⟩)
            clear hc hd h3 k3 hb hR hS hW
            have HX := Lib.hid hx; clear hx
            have HY := Lib.hid hy; clear hy
            have i1 : (0 : Int) ≤ k := by omega
            have i2 : (k : Int) < xs.length := by omega
            have i3 : (k : Int) < ys.length := by have := HL.out; omega
            by_cases hxy : x.length = y.length
            · have hxy' : ((x.length : Int) != (y.length : Int)) = false := by simp [hxy]
              have HXY := Lib.hid hxy; clear hxy
              go_wp2
              go_quiet (fail)
              go_wp2
              go_loopw [6] (fun i wi => ∃ j : Nat, j ≤ x.length ∧ i = .int .i64 j ∧ Qt W0 wi ∧ x.take j = y.take j) (fun i _ => x.length - (intOf i).toNat)
              case atStart => exact ⟨0, Nat.zero_le _, rfl, HB.out.drewN _, by simp⟩
              case round =>
                clear gb ge hc' hd'
                obtain ⟨j, hj, rfl, hq, hp⟩ := hrel
                have HP2 := Lib.hid hp; clear hp
                have HQ := Lib.hid hq
                obtain ⟨⟨b0, b1, b2⟩, -⟩ := HR1.out.three
                obtain ⟨⟨e0, e1, e2⟩, -⟩ := HR2.out.three
                have gb := (hq.cell _).trans b2
                have ge := (hq.cell _).trans e2
                clear b0 b1 b2 e0 e1 e2
                have hW := below_step HB0.out hq.below
                obtain ⟨hc, hd⟩ := HCD.out
                have hc' := below_keep hW hc
                have hd' := below_keep hW hd
                clear hc hd
                by_cases hjlt : j < x.length
                · obtain ⟨bx, offx, a1, a2, rfl, ha, hca, hda⟩ := x3 j hjlt
                  obtain ⟨by', offy, a3, a4, rfl, ha', hca', hda'⟩ := y3 j (by have := HXY.out; omega)
                  have q1 := below_keep hW hca
                  have q2 := below_keep hW hda
                  have q3 := below_keep hW hca'
                  have q4 := below_keep hW hda'
                  have HA := Lib.hid ha
                  have HA' := Lib.hid ha'
                  clear hca hda hca' hda' ha ha' x3 y3 hW hq
                  have j1 : (0 : Int) ≤ j := by omega
                  have j2 : (j : Int) < x.length := by omega
                  have j3 : (j : Int) < y.length := by have := HXY.out; omega
                  by_cases hxx : a1 = a3
                  · subst hxx
                    by_cases hyy : a2 = a4
                    · subst hyy
                      go_wp2
                      go_quiet (fail)
                      go_wp2
                      go_roundw
                      case rel => exact ⟨j + 1, by omega, by go_num, HQ.out.drewN _, takes_succ HP2.out HA.out HA'.out⟩
                      case measure => simp [intOf]; omega
                    · have n1 : (a2 == a4) = false := by simpa using hyy
                      have HN := Lib.hid hyy; clear hyy
                      go_wp2
                      go_quiet (fail)
                      go_wp2
                      go_ret
                      exact ⟨ret_bool (by simp only [sameT]; rw [decide_eq_false (ne_at HX.out HY.out (ne_at HA.out HA'.out (by have := HN.out; simp_all))), Bool.and_false, Bool.and_false]), HB0.out.trans (below_drewN HQ.out.below _ |>.mono HB0.out.size)⟩
                  · have n1 : (a1 == a3) = false := by simpa using hxx
                    have HN := Lib.hid hxx; clear hxx
                    go_wp2
                    go_quiet (fail)
                    go_wp2
                    go_ret
                    exact ⟨ret_bool (by simp only [sameT]; rw [decide_eq_false (ne_at HX.out HY.out (ne_at HA.out HA'.out (by have := HN.out; simp_all))), Bool.and_false, Bool.and_false]), HB0.out.trans (below_drewN HQ.out.below _ |>.mono HB0.out.size)⟩
                · clear hq hW x3 y3
                  go_wp2
                  go_roundw
                  case rel => exact ⟨k + 1, by omega, by go_num, HQ.out, takes_succ HP.out HX.out (by rw [HY.out, eq_of_takes HXY.out hjlt HP2.out])⟩
                  case measure => simp [intOf]; omega
            · have hxy' : ((x.length : Int) != (y.length : Int)) = true := by simp; omega
              have HXY := Lib.hid hxy; clear hxy
              go_wp2
              go_quiet (fail)
              go_wp2
              go_ret
              exact ⟨ret_bool (by simp only [sameT]; rw [decide_eq_false (ne_at HX.out HY.out (fun e => HXY.out (by rw [e]))), Bool.and_false, Bool.and_false]), HB0.out.trans (below_drewN HB.out.below _ |>.mono HB0.out.size)⟩
          · clear hb h3 k3
            go_wp2
            go_ret
            exact ⟨ret_bool (by simp only [sameT]; rw [eq_of_takes HL.out hlt HP.out]; simp), below_step HB0.out HB.out.below⟩
      · have hl' : ((xs.length : Int) != (ys.length : Int)) = true := by simp; omega
        have HL := Lib.hid hl; clear hl
        go_enter Try.func42, Try.ntmps42
        go_wp2
        go_ret
        exact ⟨ret_bool (by simp only [sameT]; rw [decide_eq_false (p := xs = ys) (fun e => HL.out (by rw [e])), Bool.and_false, Bool.and_false]), HB0.out⟩
    · have d2 : (S != S') = true := by simpa using g2
      have H2 := Lib.hid g2; clear g2
      go_enter Try.func42, Try.ntmps42
      go_wp2
      go_ret
      exact ⟨ret_bool (by simp [sameT, H2.out]), HB0.out⟩
  · have d1 : (L != L') = true := by simpa using g1
    have H1 := Lib.hid g1; clear g1
    go_enter Try.func42, Try.ntmps42
    go_wp2
    go_ret
    exact ⟨ret_bool (by simp [sameT, H1.out]), HB0.out⟩

end Go.Proofs.Ytlbmbgnkinfibaa
