/-
  Equality of writers, by the program.
-/
import Derived.Test.YtlbmbgnkinfibaaKWr
import Derived.Test.YtlbmbgnkinfibaaSM2
namespace Go.Proofs.Ytlbmbgnkinfibaa
open Go.RowKit Go.ChangeShapes Go.WideShapes Go.Deep Go.Joins
theorem neq_toList {x y : ByteArray} (h : ¬ x = y) : (!(x.toList == y.toList)) = true := by
  rw [Bool.not_eq_true', beq_eq_false_iff_ne]
  intro e
  rw [ByteArray.toList_eq, ByteArray.toList_eq] at e
  obtain ⟨⟨a⟩⟩ := x; obtain ⟨⟨b⟩⟩ := y
  exact h (by simp_all)

set_option maxHeartbeats 400000 in
theorem slEqualS_any (v u : Value) (xs ys : List ByteArray) (w : World) (h : RdS w v xs) (hu : RdS w u ys) :
    Calls Try.prog 45 #[v, u] w fun e w' => e = .returned (.bool (decide (xs = ys))) ∧ Qt w w' := by
  obtain ⟨A, cap, rfl, h1, h2, h3⟩ := RdS.open h
  obtain ⟨B, cap', rfl, k1, k2, k3⟩ := RdS.open hu
  unfold maxLen at h2 k2
  by_cases hl : xs.length = ys.length
  · have hl' : ((xs.length : Int) != (ys.length : Int)) = false := by simp [hl]
    have HL := Lib.hid hl; clear hl
    go_enter Try.func45, Try.ntmps45
    go_wp2
    go_loopw [13] (fun i wr => ∃ k : Nat, k ≤ xs.length ∧ i = .int .i64 k ∧ Qt w wr ∧ xs.take k = ys.take k) (fun i _ => xs.length - (intOf i).toNat)
    case atStart => exact ⟨0, Nat.zero_le _, rfl, Qt.refl _, by simp⟩
    case round =>
      obtain ⟨k, hk, rfl, hb, hp⟩ := hrel
      have HP := Lib.hid hp; clear hp
      have HB := Lib.hid hb
      by_cases hlt : k < xs.length
      · obtain ⟨b, off, x, rfl, hx, hc⟩ := h3 k hlt
        obtain ⟨b', off', y, rfl, hy, hd⟩ := k3 k (by have := HL.out; omega)
        have hc' := (hb.cell _).trans hc
        have hd' := (hb.cell _).trans hd
        clear hc hd h3 k3 hb
        have HX := Lib.hid hx; clear hx
        have HY := Lib.hid hy; clear hy
        have i1 : (0 : Int) ≤ k := by omega
        have i2 : (k : Int) < xs.length := by omega
        have i3 : (k : Int) < ys.length := by have := HL.out; omega
        by_cases hxy : x = y
        · subst hxy
          have hxx : (!(x.toList == x.toList)) = false := by simp
          go_wp2
          go_quiet (fail)
          go_wp2
          go_roundw
          case rel => exact ⟨k + 1, by omega, by go_num, HB.out.drewN _, takes_succ HP.out HX.out HY.out⟩
          case measure => simp [intOf]; omega
        · have hxy' : (!(x.toList == y.toList)) = true := neq_toList hxy
          go_wp2
          go_quiet (fail)
          go_wp2
          go_ret
          exact ⟨ret_bool (decide_eq_false (ne_at HX.out HY.out hxy)).symm, HB.out.drewN _⟩
      · clear hb
        go_wp2
        go_ret
        exact ⟨ret_bool (decide_eq_true (eq_of_takes HL.out hlt HP.out)).symm, HB.out⟩
  · have hl' : ((xs.length : Int) != (ys.length : Int)) = true := by simp; omega
    have HL := Lib.hid hl; clear hl
    go_enter Try.func45, Try.ntmps45
    go_wp2
    go_ret
    exact ⟨ret_bool (decide_eq_false (fun e => HL.out (by rw [e]))).symm, Qt.refl _⟩

set_option maxHeartbeats 400000 in
theorem slEqualFuncS_any (v u : Value) (xs ys : List (List ByteArray)) (w : World) (h : RdL RdS w v xs) (hu : RdL RdS w u ys) :
    Calls Try.prog 44 #[v, u, .func (.func 45) #[] #[]] w fun e w' => e = .returned (.bool (decide (xs = ys))) ∧ Qt w w' := by
  obtain ⟨A, cap, rfl, h1, h2, h3⟩ := h.open
  obtain ⟨B, cap', rfl, k1, k2, k3⟩ := hu.open
  unfold maxLen at h2 k2
  by_cases hl : xs.length = ys.length
  · have hl' : ((xs.length : Int) != (ys.length : Int)) = false := by simp [hl]
    have HL := Lib.hid hl; clear hl
    go_enter Try.func44, Try.ntmps44
    go_wp2
    go_loopw [17] (fun i wr => ∃ k : Nat, k ≤ xs.length ∧ i = .int .i64 k ∧ Qt w wr ∧ xs.take k = ys.take k) (fun i _ => xs.length - (intOf i).toNat)
    case atStart => exact ⟨0, Nat.zero_le _, rfl, Qt.refl _, by simp⟩
    case round =>
      obtain ⟨k, hk, rfl, hb, hp⟩ := hrel
      have HP := Lib.hid hp; clear hp
      have HB := Lib.hid hb
      by_cases hlt : k < xs.length
      · obtain ⟨b, off, p, x, rfl, hx, hc, hR⟩ := h3 k hlt
        obtain ⟨b', off', q, y, rfl, hy, hd, hS⟩ := k3 k (by have := HL.out; omega)
        have hc' := (hb.cell _).trans hc
        have hd' := (hb.cell _).trans hd
        have HC := Lib.hid (slEqualS_any p q x y wr (keepsS _ _ _ _ hR hb.below) (keepsS _ _ _ _ hS hb.below))
        clear hc hd h3 k3 hb hR hS
        have HX := Lib.hid hx; clear hx
        have HY := Lib.hid hy; clear hy
        have i1 : (0 : Int) ≤ k := by omega
        have i2 : (k : Int) < xs.length := by omega
        have i3 : (k : Int) < ys.length := by have := HL.out; omega
        by_cases hxy : x = y
        · subst hxy
          have hd1 : decide (x = x) = true := by simp
          go_wp2_with (go_at_call 45; refine HC.out.mono ?_; rintro e w' ⟨rfl, m, rfl⟩)
          go_roundw
          case rel => exact ⟨k + 1, by omega, by go_num, HB.out.drewN _, takes_succ HP.out HX.out HY.out⟩
          case measure => simp [intOf]; omega
        · have hd1 : decide (x = y) = false := by simpa using hxy
          have HXY := Lib.hid hxy; clear hxy
          go_wp2_with (go_at_call 45; refine HC.out.mono ?_; rintro e w' ⟨rfl, m, rfl⟩)
          go_ret
          exact ⟨ret_bool (decide_eq_false (ne_at HX.out HY.out HXY.out)).symm, HB.out.drewN _⟩
      · clear hb
        go_wp2
        go_ret
        exact ⟨ret_bool (decide_eq_true (eq_of_takes HL.out hlt HP.out)).symm, HB.out⟩
  · have hl' : ((xs.length : Int) != (ys.length : Int)) = true := by simp; omega
    have HL := Lib.hid hl; clear hl
    go_enter Try.func44, Try.ntmps44
    go_wp2
    go_ret
    exact ⟨ret_bool (decide_eq_false (fun e => HL.out (by rw [e]))).symm, Qt.refl _⟩

def sameWr (r s : WrData) : Bool := sameT r.t s.t && decide (r.out = s.out)

set_option maxHeartbeats 1600000 in
theorem implSameWriter_any (v u : Value) (r s : WrData) (w : World) (h : RdWr w v r) (k : RdWr w u s) :
    Calls Try.prog 15 #[v, u] w fun e w' => e = .returned (.bool (sameWr r s)) ∧ Below w.heap.size w w' := by
  obtain ⟨vm, vo, rfl, hm, ho⟩ := h
  obtain ⟨um, uo, rfl, km, ko⟩ := k
  have HT := Lib.hid (fun W (hb : Below w.heap.size w W) => implSameTurner_any (.agg #[.int .i64 r.L, .int .i64 r.S, vm]) (.agg #[.int .i64 s.L, .int .i64 s.S, um]) r.t s.t W ⟨vm, rfl, keepsPP _ _ _ _ hm hb⟩ ⟨um, rfl, keepsPP _ _ _ _ km hb⟩)
  have HN := Lib.hid (fun W (hb : Below w.heap.size w W) => slEqualFuncS_any vo uo r.out s.out W (keepsSS _ _ _ _ ho hb) (keepsSS _ _ _ _ ko hb))
  clear hm ho km ko
  have HB := Lib.hid ((below_alloc w (.cells #[.int .i64 r.L, .int .i64 r.S, vm, vo] 34)).alloc (by simp) (.cells #[.int .i64 s.L, .int .i64 s.S, um, uo] 34))
  have HR1 := Lib.hid ((Row.new w [.int .i64 r.L, .int .i64 r.S, vm, vo] 34).alloc (.cells #[.int .i64 s.L, .int .i64 s.S, um, uo] 34))
  have hr2 := Row.new (w.alloc (.cells #[.int .i64 r.L, .int .i64 r.S, vm, vo] 34)) [.int .i64 s.L, .int .i64 s.S, um, uo] 34
  have HR2 := Lib.hid (show Row _ (w.heap.size + 1) _ _ by simpa using hr2)
  clear hr2
  by_cases hs : sameT r.t s.t = true
  · rw [hs] at HT
    have HE := Lib.hid (show sameWr r s = decide (r.out = s.out) by simp [sameWr, hs])
    clear hs
    go_enter Try.func15, Try.ntmps15
    go_wp2_with fail
    refine (HT.out _ HB.out).mono ?_
    rintro e w1 ⟨rfl, hbb⟩
    have HC := Lib.hid (below_step HB.out hbb)
    obtain ⟨⟨b0, b1, b2, b3⟩, -⟩ := (HR1.out.below hbb HR1.out.lt).four
    obtain ⟨⟨c0, c1, c2, c3⟩, -⟩ := (HR2.out.below hbb HR2.out.lt).four
    clear hbb
    go_wp2_with fail
    refine (HN.out _ HC.out).mono ?_
    rintro e w2 ⟨rfl, m, rfl⟩
    go_wp2
    go_ret
    exact ⟨ret_bool HE.out.symm, below_drewN HC.out _⟩
  · have hs' : sameT r.t s.t = false := by simpa using hs
    rw [hs'] at HT
    have HE := Lib.hid (show sameWr r s = false by simp [sameWr, hs'])
    clear hs hs'
    go_enter Try.func15, Try.ntmps15
    go_wp2_with fail
    refine (HT.out _ HB.out).mono ?_
    rintro e w1 ⟨rfl, hbb⟩
    have HC := Lib.hid (below_step HB.out hbb)
    clear hbb
    go_wp2
    go_ret
    exact ⟨ret_bool HE.out.symm, HC.out⟩
end Go.Proofs.Ytlbmbgnkinfibaa
