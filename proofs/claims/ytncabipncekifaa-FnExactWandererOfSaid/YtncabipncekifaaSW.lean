/-
  Equality of wanderers: by the program and by the model.
-/
import Derived.Test.YtncabipncekifaaSM2
import Derived.Test.YtncabipncekifaaS1
import Derived.Test.YtncabipncekifaaKW
namespace Go.Proofs.Ytncabipncekifaa
open Go.RowKit

set_option maxHeartbeats 400000 in
theorem l04SameMoves_any (v u : Value) (xs ys : List (Int × Int)) (w : World) (h : RdP w v xs) (hu : RdP w u ys) :
    Calls Try.prog 49 #[v, u] w fun e w' => e = .returned (.bool (decide (xs = ys))) ∧ Qt w w' := by
  obtain ⟨A, cap, rfl, h1, h2, h3⟩ := h.open
  obtain ⟨B, cap', rfl, k1, k2, k3⟩ := hu.open
  unfold maxLen at h2 k2
  by_cases hl : xs.length = ys.length
  · have hl' : ((xs.length : Int) != (ys.length : Int)) = false := by simp [hl]
    have HL := Lib.hid hl; clear hl
    go_enter Try.func49, Try.ntmps49
    go_wp2
    go_loopw [5] (fun i wr => ∃ k : Nat, k ≤ xs.length ∧ i = .int .i64 k ∧ Qt w wr ∧ xs.take k = ys.take k) (fun i _ => xs.length - (intOf i).toNat)
    case atStart => exact ⟨0, Nat.zero_le _, rfl, Qt.refl _, by simp⟩
    case round =>
      obtain ⟨k, hk, rfl, hb, hp⟩ := hrel
      have HP := Lib.hid hp; clear hp
      have HB := Lib.hid hb
      by_cases hlt : k < xs.length
      · obtain ⟨b, off, x, y, rfl, hx, hc, hd⟩ := h3 k hlt
        obtain ⟨b', off', x', y', rfl, hy, hc', hd'⟩ := k3 k (by have := HL.out; omega)
        have gc := (hb.cell _).trans hc
        have gd := (hb.cell _).trans hd
        have gc' := (hb.cell _).trans hc'
        have gd' := (hb.cell _).trans hd'
        clear hc hd hc' hd' h3 k3 hb
        have HX := Lib.hid hx; clear hx
        have HY := Lib.hid hy; clear hy
        have i1 : (0 : Int) ≤ k := by omega
        have i2 : (k : Int) < xs.length := by omega
        have i3 : (k : Int) < ys.length := by have := HL.out; omega
        by_cases hxx : x = x'
        · subst hxx
          by_cases hyy : y = y'
          · subst hyy
            go_wp2
            go_quiet (fail)
            go_wp2
            go_roundw
            case rel => exact ⟨k + 1, by omega, by go_num, HB.out.drewN _, takes_succ HP.out HX.out HY.out⟩
            case measure => simp [intOf]; omega
          · have n1 : (y == y') = false := by simpa using hyy
            have HN := Lib.hid hyy; clear hyy
            go_wp2
            go_quiet (fail)
            go_wp2
            go_ret
            exact ⟨ret_bool (decide_eq_false (ne_at HX.out HY.out (by have := HN.out; simp_all))).symm, HB.out.drewN _⟩
        · have n1 : (x == x') = false := by simpa using hxx
          have HN := Lib.hid hxx; clear hxx
          go_wp2
          go_quiet (fail)
          go_wp2
          go_ret
          exact ⟨ret_bool (decide_eq_false (ne_at HX.out HY.out (by have := HN.out; simp_all))).symm, HB.out.drewN _⟩
      · clear hb
        go_wp2
        go_ret
        exact ⟨ret_bool (decide_eq_true (eq_of_takes HL.out hlt HP.out)).symm, HB.out⟩
  · have hl' : ((xs.length : Int) != (ys.length : Int)) = true := by simp; omega
    have HL := Lib.hid hl; clear hl
    go_enter Try.func49, Try.ntmps49
    go_wp2
    go_ret
    exact ⟨ret_bool (decide_eq_false (fun e => HL.out (by rw [e]))).symm, Qt.refl _⟩

theorem sameMoveLists_any (v u : Value) (xs ys : List (List (Int × Int))) (w : World) (h : RdPP w v xs) (hu : RdPP w u ys) :
    Calls Try.prog 52 #[v, u] w fun e w' => e = .returned (.bool (decide (xs = ys))) ∧ Qt w w' := by
  have HC := Lib.hid (slEqualFuncP_any v u xs ys w h hu)
  clear h hu
  go_enter Try.func52, Try.ntmps52
  go_wp2_with fail
  refine HC.out.mono ?_
  rintro e w' ⟨rfl, hq⟩
  have HQ := Lib.hid hq
  clear hq
  go_wp2
  go_ret
  exact ⟨rfl, HQ.out⟩

set_option maxHeartbeats 400000 in
theorem slEqualFuncPP_any (v u : Value) (xs ys : List (List (List (Int × Int)))) (w : World) (h : RdL RdPP w v xs) (hu : RdL RdPP w u ys) :
    Calls Try.prog 51 #[v, u, .func (.func 52) #[] #[]] w fun e w' => e = .returned (.bool (decide (xs = ys))) ∧ Qt w w' := by
  obtain ⟨A, cap, rfl, h1, h2, h3⟩ := h.open
  obtain ⟨B, cap', rfl, k1, k2, k3⟩ := hu.open
  unfold maxLen at h2 k2
  by_cases hl : xs.length = ys.length
  · have hl' : ((xs.length : Int) != (ys.length : Int)) = false := by simp [hl]
    have HL := Lib.hid hl; clear hl
    go_enter Try.func51, Try.ntmps51
    go_wp2
    go_loopw [17] (fun i wr => ∃ k : Nat, k ≤ xs.length ∧ i = .int .i64 k ∧ Qt w wr ∧ xs.take k = ys.take k) (fun i _ => xs.length - (intOf i).toNat)
    case atStart => exact ⟨0, Nat.zero_le _, rfl, Qt.refl _, by simp⟩
    case round =>
      obtain ⟨k, hk, rfl, hb, hp⟩ := hrel
      have HP := Lib.hid hp; clear hp
      have HB := Lib.hid hb
      by_cases hlt : k < xs.length
      · obtain ⟨b, off, p, x, rfl, hx, hc, hR⟩ := h3 k hlt
        obtain ⟨b', off', q, y, rfl, hy, hd, hS⟩ := k3 k (by have := HL.out; omega)
        have hc' := (hb.cell _).trans hc
        have hd' := (hb.cell _).trans hd
        have HC := Lib.hid (sameMoveLists_any p q x y wr (keepsPP _ _ _ _ hR hb.below) (keepsPP _ _ _ _ hS hb.below))
        clear hc hd h3 k3 hb hR hS
        have HX := Lib.hid hx; clear hx
        have HY := Lib.hid hy; clear hy
        have i1 : (0 : Int) ≤ k := by omega
        have i2 : (k : Int) < xs.length := by omega
        have i3 : (k : Int) < ys.length := by have := HL.out; omega
        by_cases hxy : x = y
        · subst hxy
          have hd1 : decide (x = x) = true := by simp
          go_wp2_with (go_at_call 52; refine HC.out.mono ?_; rintro e w' ⟨rfl, m, rfl⟩)
          go_roundw
          case rel => exact ⟨k + 1, by omega, by go_num, HB.out.drewN _, takes_succ HP.out HX.out HY.out⟩
          case measure => simp [intOf]; omega
        · have hd1 : decide (x = y) = false := by simpa using hxy
          have HXY := Lib.hid hxy; clear hxy
          go_wp2_with (go_at_call 52; refine HC.out.mono ?_; rintro e w' ⟨rfl, m, rfl⟩)
          go_ret
          exact ⟨ret_bool (decide_eq_false (ne_at HX.out HY.out HXY.out)).symm, HB.out.drewN _⟩
      · clear hb
        go_wp2
        go_ret
        exact ⟨ret_bool (decide_eq_true (eq_of_takes HL.out hlt HP.out)).symm, HB.out⟩
  · have hl' : ((xs.length : Int) != (ys.length : Int)) = true := by simp; omega
    have HL := Lib.hid hl; clear hl
    go_enter Try.func51, Try.ntmps51
    go_wp2
    go_ret
    exact ⟨ret_bool (decide_eq_false (fun e => HL.out (by rw [e]))).symm, Qt.refl _⟩


def sameW (r s : WData) : Bool := decide (r.L = s.L) && (decide (r.st = s.st) && decide (r.mv = s.mv))

set_option maxHeartbeats 1600000 in
theorem implSameWanderer_any (v u : Value) (r s : WData) (w : World) (h : RdW w v r) (k : RdW w u s) :
    Calls Try.prog 15 #[v, u] w fun e w' => e = .returned (.bool (sameW r s)) ∧ Below w.heap.size w w' := by
  obtain ⟨L, st, mv⟩ := r
  obtain ⟨L', st', mv'⟩ := s
  obtain ⟨vs, n, rfl, hst, hn⟩ := h
  obtain ⟨vs', n', rfl, hst', hn'⟩ := k
  simp only at *
  have HT := Lib.hid (fun W (hb : Below w.heap.size w W) => slEqualI_any vs vs' st st' W (keepsI _ _ _ _ hst hb) (keepsI _ _ _ _ hst' hb))
  have HN := Lib.hid (fun W (hb : Below w.heap.size w W) => slEqualFuncPP_any n n' mv mv' W (keepsPPP _ _ _ _ hn hb) (keepsPPP _ _ _ _ hn' hb))
  have HB := Lib.hid (fun m => below_drewN (((below_alloc w (.cells #[.int .i64 L, vs, n] 30)).alloc (by simp) (.cells #[.int .i64 L', vs', n'] 30))) m)
  clear hst hst' hn hn'
  by_cases h1 : L = L'
  · subst h1
    have d1 : (L == L) = true := by simp
    have d1' : (L != L) = false := by simp
    by_cases h2 : st = st'
    · have d2 : decide (st = st') = true := by simpa using h2
      have H2 := Lib.hid h2; clear h2
      by_cases h4 : mv = mv'
      · have d4 : decide (mv = mv') = true := by simpa using h4
        have H4 := Lib.hid h4; clear h4
        go_enter Try.func15, Try.ntmps15
        go_wp2_with (first | (go_at_call 50; refine (HT.out _ (HB.out 0)).mono ?_; rintro e w' ⟨rfl, m1, rfl⟩) | (go_at_call 51; refine (HN.out _ (HB.out _)).mono ?_; rintro e w' ⟨rfl, m3, rfl⟩))
        go_ret
        exact ⟨ret_bool (by simp [sameW, H2.out, H4.out]), HB.out _⟩
      · have d4 : decide (mv = mv') = false := by simpa using h4
        have H4 := Lib.hid h4; clear h4
        go_enter Try.func15, Try.ntmps15
        go_wp2_with (first | (go_at_call 50; refine (HT.out _ (HB.out 0)).mono ?_; rintro e w' ⟨rfl, m1, rfl⟩) | (go_at_call 51; refine (HN.out _ (HB.out _)).mono ?_; rintro e w' ⟨rfl, m3, rfl⟩))
        go_ret
        exact ⟨ret_bool (by simp [sameW, H4.out]), HB.out _⟩
    · have d2 : decide (st = st') = false := by simpa using h2
      have H2 := Lib.hid h2; clear h2
      go_enter Try.func15, Try.ntmps15
      go_wp2_with (first | (go_at_call 50; refine (HT.out _ (HB.out 0)).mono ?_; rintro e w' ⟨rfl, m1, rfl⟩) | (go_at_call 51; refine (HN.out _ (HB.out _)).mono ?_; rintro e w' ⟨rfl, m3, rfl⟩))
      go_ret
      exact ⟨ret_bool (by simp [sameW, H2.out]), HB.out _⟩
  · have d1 : (L == L') = false := by simpa using h1
    have d1' : (L != L') = true := by simpa using h1
    have H1 := Lib.hid h1; clear h1
    go_enter Try.func15, Try.ntmps15
    go_wp2_with (first | (go_at_call 50; refine (HT.out _ (HB.out 0)).mono ?_; rintro e w' ⟨rfl, m1, rfl⟩) | (go_at_call 51; refine (HN.out _ (HB.out _)).mono ?_; rintro e w' ⟨rfl, m3, rfl⟩))
    go_ret
    exact ⟨ret_bool (by simp [sameW, H1.out]), HB.out 0⟩

set_option maxRecDepth 100000 in
set_option maxHeartbeats 3200000 in
theorem specSameWanderer_any (v u : Value) (r s : WData) (w : World) (h : RdW w v r) (k : RdW w u s) :
    Calls Try.prog 14 #[v, u] w fun e w' => e = .returned (.bool (sameW r s)) ∧ Below w.heap.size w w' := by
  obtain ⟨L, st, mv⟩ := r
  obtain ⟨L', st', mv'⟩ := s
  obtain ⟨vs, n, rfl, hst, hn⟩ := h
  obtain ⟨vs', n', rfl, hst', hn'⟩ := k
  simp only at *
  obtain ⟨B, cb, rfl, o1, o2, o3⟩ := RdL.open hn
  obtain ⟨B', cb', rfl, p1, p2, p3⟩ := RdL.open hn'
  unfold maxLen at o2 p2
  have HT := Lib.hid (fun W (hb : Below w.heap.size w W) => l00Same_any vs vs' st st' W (keepsI _ _ _ _ hst hb) (keepsI _ _ _ _ hst' hb))
  have HB := Lib.hid (fun m => below_drewN (((below_alloc w (.cells #[.int .i64 L, vs, .slice B mv.length cb] 30)).alloc (by simp) (.cells #[.int .i64 L', vs', .slice B' mv'.length cb'] 30))) m)
  clear hst hst'
  by_cases h1 : L = L'
  · subst h1
    have d1 : (L == L) = true := by simp
    have d1' : (L != L) = false := by simp
    by_cases h2 : st = st'
    · have d2 : decide (st = st') = true := by simpa using h2
      have H2 := Lib.hid h2; clear h2
      by_cases hl : mv.length = mv'.length
      · have d4 : ((mv.length : Int) != (mv'.length : Int)) = false := by simp [hl]
        have HL := Lib.hid hl; clear hl
        have rA : Row ((w.alloc (.cells #[.int .i64 L, vs, .slice B mv.length cb] 30)).alloc (.cells #[.int .i64 L, vs', .slice B' mv'.length cb'] 30)) w.heap.size 30 [.int .i64 L, vs, .slice B mv.length cb] := by
          have := (Row.new w [.int .i64 L, vs, .slice B mv.length cb] 30).alloc (.cells #[.int .i64 L, vs', .slice B' mv'.length cb'] 30)
          exact this
        have rB : Row ((w.alloc (.cells #[.int .i64 L, vs, .slice B mv.length cb] 30)).alloc (.cells #[.int .i64 L, vs', .slice B' mv'.length cb'] 30)) (w.heap.size + 1) 30 [.int .i64 L, vs', .slice B' mv'.length cb'] := by
          have := Row.new (w.alloc (.cells #[.int .i64 L, vs, .slice B mv.length cb] 30)) [.int .i64 L, vs', .slice B' mv'.length cb'] 30
          simpa using this
        have HR := Lib.hid (show _ ∧ _ from ⟨rA.three.1, rB.three.1⟩)
        have hw0 : Below w.heap.size w ((w.alloc (.cells #[.int .i64 L, vs, .slice B mv.length cb] 30)).alloc (.cells #[.int .i64 L, vs', .slice B' mv'.length cb'] 30)) := HB.out 0
        have HW0 := Lib.hid hw0
        clear rA rB hw0
        go_enter Try.func14, Try.ntmps14
        go_wp2_with (go_at_call 48; refine (HT.out _ (HB.out 0)).mono ?_; rintro e w' ⟨rfl, m1, rfl⟩)
        generalize ((w.alloc (.cells #[.int .i64 L, vs, .slice B mv.length cb] 30)).alloc (.cells #[.int .i64 L, vs', .slice B' mv'.length cb'] 30)) = W0 at *
        go_loopw [5] (fun i wr => ∃ k : Nat, k ≤ mv.length ∧ i = .int .i64 k ∧ Qt W0 wr ∧ mv.take k = mv'.take k) (fun i _ => mv.length - (intOf i).toNat)
        case atStart => exact ⟨0, Nat.zero_le _, rfl, (Qt.refl _).drewN _, by simp⟩
        case round =>
          obtain ⟨wo, hwo⟩ : ∃ wo, wo = wr := ⟨wr, rfl⟩
          subst hwo
          obtain ⟨k, hk, rfl, hq, hp⟩ := hrel
          have HP := Lib.hid hp; clear hp
          have HQ := Lib.hid hq
          obtain ⟨⟨a0, a1, a2⟩, ⟨b0, b1, b2⟩⟩ := HR.out
          have ga := (hq.cell _).trans a2
          have gb := (hq.cell _).trans b2
          clear a0 a1 a2 b0 b1 b2
          by_cases hlt : k < mv.length
          · obtain ⟨b, off, p, x, rfl, hx, hc, hR⟩ := o3 k hlt
            obtain ⟨b', off', q, y, rfl, hy, hd, hS⟩ := p3 k (by have := HL.out; omega)
            have gc := (hq.cell _).trans (below_keep HW0.out hc)
            have gd := (hq.cell _).trans (below_keep HW0.out hd)
            obtain ⟨D, cd, rfl, q1, q2, q3⟩ := RdL.open hR
            obtain ⟨E, ce, rfl, r1, r2, r3⟩ := RdL.open hS
            unfold maxLen at q2 r2
            have HCELL := Lib.hid (show _ ∧ _ from ⟨below_keep HW0.out hc, below_keep HW0.out hd⟩)
            clear hc hd o3 p3 hq hR hS
            have HX := Lib.hid hx; clear hx
            have HY := Lib.hid hy; clear hy
            have i1 : (0 : Int) ≤ k := by omega
            have i2 : (k : Int) < mv.length := by omega
            have i3 : (k : Int) < mv'.length := by have := HL.out; omega
            by_cases hxl : x.length = y.length
            · have e1 : ((x.length : Int) != (y.length : Int)) = false := by simp [hxl]
              have HXL := Lib.hid hxl; clear hxl
              go_wp2
              go_quiet (fail)
              go_wp2
              clear e1
              go_loopw [6] (fun i wr => ∃ c : Nat, c ≤ x.length ∧ i = .int .i64 c ∧ Qt W0 wr ∧ x.take c = y.take c) (fun i _ => x.length - (intOf i).toNat)
              case atStart => exact ⟨0, Nat.zero_le _, rfl, HQ.out.drewN _, by simp⟩
              case round =>
                obtain ⟨c, hc, rfl, hq, hp⟩ := hrel
                have HPI := Lib.hid hp; clear hp
                have HQI := Lib.hid hq
                obtain ⟨⟨a0, a1, a2⟩, ⟨b0, b1, b2⟩⟩ := HR.out
                have ga := (hq.cell _).trans a2
                have gb := (hq.cell _).trans b2
                clear a0 a1 a2 b0 b1 b2
                have gc := (hq.cell _).trans (HCELL.out.1)
                have gd := (hq.cell _).trans (HCELL.out.2)
                by_cases hlc : c < x.length
                · obtain ⟨bb, oo, p2, x2, rfl, hx2, hcc, hR2⟩ := q3 c hlc
                  obtain ⟨bb', oo', q2', y2, rfl, hy2, hdd, hS2⟩ := r3 c (by have := HXL.out; omega)
                  have gcc := (hq.cell _).trans (below_keep HW0.out hcc)
                  have gdd := (hq.cell _).trans (below_keep HW0.out hdd)
                  have HC := Lib.hid (fun m => l04SameMoves_any p2 q2' x2 y2 (wr.drewN m) (keepsP _ _ _ _ hR2 (below_step HW0.out (hq.drewN m).below)) (keepsP _ _ _ _ hS2 (below_step HW0.out (hq.drewN m).below)))
                  clear hcc hdd q3 r3 hq hR2 hS2
                  have HX2 := Lib.hid hx2; clear hx2
                  have HY2 := Lib.hid hy2; clear hy2
                  have j1 : (0 : Int) ≤ c := by omega
                  have j2 : (c : Int) < x.length := by omega
                  have j3 : (c : Int) < y.length := by have := HXL.out; omega
                  by_cases hxy : x2 = y2
                  · have hd1 : decide (x2 = y2) = true := by simpa using hxy
                    have HXY := Lib.hid hxy; clear hxy
                    go_wp2_with fail
                    go_quiet ((go_at_call 49; exact Calls.quiet_of (HC.out _)))
                    go_wp2
                    go_roundw
                    case rel => exact ⟨c + 1, by omega, by go_num, HQI.out.drewN _, takes_succ HPI.out HX2.out (by rw [HXY.out]; exact HY2.out)⟩
                    case measure => simp [intOf]; omega
                  · have hd1 : decide (x2 = y2) = false := by simpa using hxy
                    have HXY := Lib.hid hxy; clear hxy
                    go_wp2_with fail
                    go_quiet ((go_at_call 49; exact Calls.quiet_of (HC.out _)))
                    go_wp2
                    go_ret
                    exact ⟨ret_bool (by simp only [sameW]; rw [decide_eq_false (ne_at HX.out HY.out (ne_at HX2.out HY2.out HXY.out))]; simp), below_step HW0.out (HQI.out.drewN _).below⟩
                · have HXY := Lib.hid (eq_of_takes HXL.out hlc HPI.out)
                  have HQJ := Lib.hid hq
                  clear hq q3 r3
                  go_wp2
                  go_roundw
                  case rel => exact ⟨k + 1, by omega, by go_num, HQJ.out, takes_succ HP.out HX.out (by rw [HXY.out]; exact HY.out)⟩
                  case measure => simp [intOf]; omega
            · have e1 : ((x.length : Int) != (y.length : Int)) = true := by simp; omega
              have HXL := Lib.hid hxl; clear hxl
              go_wp2
              go_quiet (fail)
              go_wp2
              go_ret
              exact ⟨ret_bool (by simp only [sameW]; rw [decide_eq_false (ne_at HX.out HY.out (fun e => HXL.out (by rw [e])))]; simp), below_step HW0.out (HQ.out.drewN _).below⟩
          · have HXY := Lib.hid (eq_of_takes HL.out hlt HP.out)
            clear hq o3 p3
            go_wp2
            go_ret
            exact ⟨ret_bool (by simp [sameW, H2.out, HXY.out]), below_step HW0.out HQ.out.below⟩
      · have d4 : ((mv.length : Int) != (mv'.length : Int)) = true := by simp; omega
        have HL := Lib.hid hl; clear hl o3 p3
        go_enter Try.func14, Try.ntmps14
        go_wp2_with (go_at_call 48; refine (HT.out _ (HB.out 0)).mono ?_; rintro e w' ⟨rfl, m1, rfl⟩)
        go_ret
        exact ⟨ret_bool (by have hne : mv ≠ mv' := fun e => HL.out (by rw [e])
                            simp [sameW, hne]), HB.out _⟩
    · have d2 : decide (st = st') = false := by simpa using h2
      have H2 := Lib.hid h2; clear h2 o3 p3
      go_enter Try.func14, Try.ntmps14
      go_wp2_with (go_at_call 48; refine (HT.out _ (HB.out 0)).mono ?_; rintro e w' ⟨rfl, m1, rfl⟩)
      go_ret
      exact ⟨ret_bool (by simp [sameW, H2.out]), HB.out _⟩
  · have d1 : (L == L') = false := by simpa using h1
    have d1' : (L != L') = true := by simpa using h1
    have H1 := Lib.hid h1; clear h1 o3 p3
    go_enter Try.func14, Try.ntmps14
    go_wp2_with (go_at_call 48; refine (HT.out _ (HB.out 0)).mono ?_; rintro e w' ⟨rfl, m1, rfl⟩)
    go_ret
    exact ⟨ret_bool (by simp [sameW, H1.out]), HB.out 0⟩
end Go.Proofs.Ytncabipncekifaa
