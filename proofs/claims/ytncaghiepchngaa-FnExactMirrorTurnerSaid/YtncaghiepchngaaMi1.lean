/-
  The mirrored turner: what it does, and the program's closure.
-/
import Derived.Test.YtncaghiepchngaaTdMirrorTurner
import Derived.Test.YtncaghiepchngaaSt2
namespace Go.Proofs.Ytncaghiepchngaa
open Go.RowKit

def mirM (m : Int × Int) : Int × Int := (m.1, -m.2)
def swapK (L : Int) (k : Nat) : Nat := if (k : Int) = L then (L + 1).toNat else if (k : Int) = L + 1 then L.toNat else k
def mirG (t : TData) (q k : Nat) : Int × Int :=
  if q < t.mv.length then mirM (moveAt t q (swapK t.L k)) else if (k : Int) = t.L + 1 then mirM (moveAt t t.S.toNat t.L.toNat) else ((t.mv.length : Int), 1)
def mirRes (t : TData) : TData × Int :=
  if okT t then (if t.mv.length + 1 ≤ 12 then (⟨t.L, t.mv.length, tableOf (mirG t) (t.L + 2).toNat (t.mv.length + 1)⟩, 0) else (⟨0, 0, []⟩, 3)) else (⟨0, 0, []⟩, 1)

theorem swapK_lt {L : Int} {k : Nat} (l1 : 1 ≤ L) (h : (k : Int) < L + 2) : (swapK L k : Int) < L + 2 := by
  unfold swapK
  split
  · omega
  · split <;> omega
theorem mirM_ok {n L : Int} {k : Nat} {m : Int × Int} (l1 : 1 ≤ L) (h : okMove n L (swapK L k : Nat) m = true) : okMove n L k (mirM m) = true := by
  have hm := okMove_out h
  unfold okMove
  rw [decide_eq_true_iff]
  unfold swapK at hm
  unfold mirM
  simp only
  by_cases h1 : (k : Int) = L
  · rw [if_pos h1] at hm; omega
  · by_cases h2 : (k : Int) = L + 1
    · rw [if_neg h1, if_pos h2] at hm; omega
    · rw [if_neg h1, if_neg h2] at hm; omega
theorem okMove_more {n L k : Int} {m : Int × Int} (h : okMove n L k m = true) : okMove (n + 1) L k m = true := by
  have hm := okMove_out h
  unfold okMove
  rw [decide_eq_true_iff]
  omega
theorem deeded_of {n L k : Int} {m : Int × Int} (h : okMove n L k m = true) : Deeded m := by
  have hm := okMove_out h
  unfold Deeded
  omega
theorem mirG_ok {t : TData} (ok : OkT t) {q k : Nat} (hk : (k : Int) < t.L + 2) : okMove ((t.mv.length : Int) + 1) t.L k (mirG t q k) = true := by
  have l1 := ok.l1
  have s1 := ok.s1
  have s2 := ok.s2
  unfold mirG
  by_cases hq : q < t.mv.length
  · rw [if_pos hq]
    obtain ⟨_, m, _, _, hat, hmv, _⟩ := ok.at hq (swapK_lt l1 hk)
    rw [hat]
    exact okMove_more (mirM_ok l1 hmv)
  · rw [if_neg hq]
    by_cases h2 : (k : Int) = t.L + 1
    · rw [if_pos h2]
      obtain ⟨_, m, _, _, hat, hmv, _⟩ := ok.at (q := t.S.toNat) (k := t.L.toNat) (by omega) (by omega)
      rw [hat]
      have e : swapK t.L k = t.L.toNat := by unfold swapK; rw [if_neg (by omega), if_pos h2]
      exact okMove_more (mirM_ok l1 (by rw [e]; exact hmv))
    · rw [if_neg h2]
      unfold okMove
      rw [decide_eq_true_iff]
      simp only
      omega

theorem methodStopMir (n : Nat) (b : Bool) (w : World) : (method (n + 1) 60 (.agg #[.bool b]) "loop.example/g01134/impl.mirrored").run Try.prog w = .ok (73, .agg #[.bool b]) w := by kernel_rfl
theorem methodWalkMir (n : Nat) (x y : Int) (w : World) : (method (n + 1) 52 (.agg #[.int .i64 x, .int .i64 y]) "loop.example/g01134/impl.mirrored").run Try.prog w = .ok (68, .agg #[.int .i64 x, .int .i64 y]) w := by kernel_rfl
theorem stopMir_any (b : Bool) (w : World) :
    Calls Try.prog 73 #[.agg #[.bool b]] w fun e w' => e = .returned (.iface 60 (.agg #[.bool b])) ∧ Below w.heap.size w w' := by
  have c1 := concStop
  go_enter Try.func73, Try.ntmps73
  go_wp2
  go_ret
  exact ⟨rfl, below_alloc _ _⟩
theorem walkMir_any (x y : Int) (w : World) (h1 : -1 ≤ y) (h2 : y ≤ 1) :
    Calls Try.prog 68 #[.agg #[.int .i64 x, .int .i64 y]] w fun e w' => e = .returned (.iface 52 (.agg #[.int .i64 x, .int .i64 (-y)])) ∧ Below w.heap.size w w' := by
  have c1 := concWalk
  go_enter Try.func68, Try.ntmps68
  go_wp2
  go_ret
  exact ⟨rfl, below_alloc _ _⟩

theorem deedV_walkM (x y : Int) (h : 0 ≤ x) : deedV (x, y) = .iface 52 (.agg #[.int .i64 x, .int .i64 y]) := by
  simp only [deedV, walkV]; rw [if_neg (by omega), if_neg (by omega)]

set_option maxRecDepth 100000 in
set_option maxHeartbeats 1600000 in
theorem mirrored_any (v : Value) (t : TData) (q k : Nat) (w : World) (h : RdT w v t) (ok : OkT t) (hq : q < t.mv.length) (hk : (k : Int) < t.L + 2) :
    Calls Try.prog 25 #[v, .int .i64 (q : Int), .int .i64 (k : Int)] w fun e w' => e = .returned (deedV (mirM (moveAt t q (swapK t.L k)))) ∧ Below w.heap.size w w' := by
  have l1 := ok.l1
  have l2 := ok.l2
  have hsk := swapK_lt l1 hk
  obtain ⟨x, m, -, -, hat, hmv, -⟩ := ok.at hq hsk
  have hin := okMove_out hmv
  have HD := Lib.hid (fun W (hb : Below w.heap.size w W) => hat ▸ deed_any v t q (swapK t.L k) W (keepsT _ _ _ _ h hb) ok hq hsk)
  rw [hat]
  obtain ⟨mx, my⟩ := m
  obtain ⟨A, ca, rfl⟩ := h.shape
  have HB := Lib.hid (below_alloc w (.cells #[.int .i64 t.L, .int .i64 t.S, .slice A t.mv.length ca] 28))
  have HR := Lib.hid (Row.new w [.int .i64 t.L, .int .i64 t.S, .slice A t.mv.length ca] 28)
  have hm1 := methodStopMir
  have hm2 := methodWalkMir
  have hcase : ((k : Int) = t.L ∧ (swapK t.L k : Int) = t.L + 1) ∨ (¬ (k : Int) = t.L ∧ (k : Int) = t.L + 1 ∧ (swapK t.L k : Int) = t.L) ∨ (¬ (k : Int) = t.L ∧ ¬ (k : Int) = t.L + 1 ∧ swapK t.L k = k) := by
    unfold swapK
    by_cases h1 : (k : Int) = t.L
    · left; rw [if_pos h1]; omega
    · by_cases h2 : (k : Int) = t.L + 1
      · right; left; rw [if_neg h1, if_pos h2]; omega
      · right; right; rw [if_neg h1, if_neg h2]; exact ⟨h1, h2, rfl⟩
  have HIN := Lib.hid hin
  clear h ok hmv hat hin hsk
  rcases hcase with ⟨e1, e2⟩ | ⟨e0, e1, e2⟩ | ⟨e0, e1, e2⟩
  · rw [e2] at HD
    have d1 : ((k : Int) == t.L) = true := by simpa using e1
    clear e1 e2
    go_enter Try.func25, Try.ntmps25
    go_wp2_with (first | (go_at_call 34; refine (leftMark_any _ _).mono ?_; rintro e w' ⟨rfl, rfl⟩) | (go_at_call 26; refine (rightMark_any _ _ (by omega) (by omega)).mono ?_; rintro e w' ⟨rfl, rfl⟩))
    refine (HD.out _ HB.out).mono ?_
    rintro e w1 ⟨rfl, hb⟩
    have HB1 := Lib.hid (below_step HB.out hb)
    clear hb
    rcases HIN.out with ⟨h0 | h0, h9⟩ | ⟨_, h0, _, h5, h6, _, _⟩
    · try simp only at h0 h9
      subst h0; subst h9
      rw [show deedV (-1, 0) = .iface 60 (.agg #[.bool true]) from by simp [deedV, stopV]]
      go_wp2_with fail
      refine (stopMir_any true _).mono ?_
      rintro e w2 ⟨rfl, hb2⟩
      have HB2 := Lib.hid (below_step HB1.out hb2)
      clear hb2
      go_wp2
      go_ret
      exact ⟨by simp [mirM, deedV, stopV], HB2.out⟩
    · try simp only at h0 h9
      subst h0; subst h9
      rw [show deedV (-2, 0) = .iface 60 (.agg #[.bool false]) from by simp [deedV, stopV]]
      go_wp2_with fail
      refine (stopMir_any false _).mono ?_
      rintro e w2 ⟨rfl, hb2⟩
      have HB2 := Lib.hid (below_step HB1.out hb2)
      clear hb2
      go_wp2
      go_ret
      exact ⟨by simp [mirM, deedV, stopV], HB2.out⟩
    · try simp only at h0 h5 h6
      rw [deedV_walkM mx my h0]
      go_wp2_with fail
      refine (walkMir_any mx my _ h5 h6).mono ?_
      rintro e w2 ⟨rfl, hb2⟩
      have HB2 := Lib.hid (below_step HB1.out hb2)
      have H0 := Lib.hid h0
      clear hb2
      go_wp2
      go_ret
      refine ⟨?_, HB2.out⟩
      rw [show mirM (mx, my) = (mx, -my) from rfl, deedV_walkM _ _ H0.out]
      rfl
  · rw [e2] at HD
    have d1 : ((k : Int) == t.L) = false := by simpa using e0
    have d2 : ((k : Int) == t.L + 1) = true := by simpa using e1
    clear e0 e1 e2
    go_enter Try.func25, Try.ntmps25
    go_wp2_with (first | (go_at_call 34; refine (leftMark_any _ _).mono ?_; rintro e w' ⟨rfl, rfl⟩) | (go_at_call 26; refine (rightMark_any _ _ (by omega) (by omega)).mono ?_; rintro e w' ⟨rfl, rfl⟩))
    refine (HD.out _ HB.out).mono ?_
    rintro e w1 ⟨rfl, hb⟩
    have HB1 := Lib.hid (below_step HB.out hb)
    clear hb
    rcases HIN.out with ⟨h0 | h0, h9⟩ | ⟨_, h0, _, h5, h6, _, _⟩
    · try simp only at h0 h9
      subst h0; subst h9
      rw [show deedV (-1, 0) = .iface 60 (.agg #[.bool true]) from by simp [deedV, stopV]]
      go_wp2_with fail
      refine (stopMir_any true _).mono ?_
      rintro e w2 ⟨rfl, hb2⟩
      have HB2 := Lib.hid (below_step HB1.out hb2)
      clear hb2
      go_wp2
      go_ret
      exact ⟨by simp [mirM, deedV, stopV], HB2.out⟩
    · try simp only at h0 h9
      subst h0; subst h9
      rw [show deedV (-2, 0) = .iface 60 (.agg #[.bool false]) from by simp [deedV, stopV]]
      go_wp2_with fail
      refine (stopMir_any false _).mono ?_
      rintro e w2 ⟨rfl, hb2⟩
      have HB2 := Lib.hid (below_step HB1.out hb2)
      clear hb2
      go_wp2
      go_ret
      exact ⟨by simp [mirM, deedV, stopV], HB2.out⟩
    · try simp only at h0 h5 h6
      rw [deedV_walkM mx my h0]
      go_wp2_with fail
      refine (walkMir_any mx my _ h5 h6).mono ?_
      rintro e w2 ⟨rfl, hb2⟩
      have HB2 := Lib.hid (below_step HB1.out hb2)
      have H0 := Lib.hid h0
      clear hb2
      go_wp2
      go_ret
      refine ⟨?_, HB2.out⟩
      rw [show mirM (mx, my) = (mx, -my) from rfl, deedV_walkM _ _ H0.out]
      rfl
  · rw [e2] at HD
    have d1 : ((k : Int) == t.L) = false := by simpa using e0
    have d2 : ((k : Int) == t.L + 1) = false := by simpa using e1
    clear e0 e1 e2
    go_enter Try.func25, Try.ntmps25
    go_wp2_with (first | (go_at_call 34; refine (leftMark_any _ _).mono ?_; rintro e w' ⟨rfl, rfl⟩) | (go_at_call 26; refine (rightMark_any _ _ (by omega) (by omega)).mono ?_; rintro e w' ⟨rfl, rfl⟩))
    refine (HD.out _ HB.out).mono ?_
    rintro e w1 ⟨rfl, hb⟩
    have HB1 := Lib.hid (below_step HB.out hb)
    clear hb
    rcases HIN.out with ⟨h0 | h0, h9⟩ | ⟨_, h0, _, h5, h6, _, _⟩
    · try simp only at h0 h9
      subst h0; subst h9
      rw [show deedV (-1, 0) = .iface 60 (.agg #[.bool true]) from by simp [deedV, stopV]]
      go_wp2_with fail
      refine (stopMir_any true _).mono ?_
      rintro e w2 ⟨rfl, hb2⟩
      have HB2 := Lib.hid (below_step HB1.out hb2)
      clear hb2
      go_wp2
      go_ret
      exact ⟨by simp [mirM, deedV, stopV], HB2.out⟩
    · try simp only at h0 h9
      subst h0; subst h9
      rw [show deedV (-2, 0) = .iface 60 (.agg #[.bool false]) from by simp [deedV, stopV]]
      go_wp2_with fail
      refine (stopMir_any false _).mono ?_
      rintro e w2 ⟨rfl, hb2⟩
      have HB2 := Lib.hid (below_step HB1.out hb2)
      clear hb2
      go_wp2
      go_ret
      exact ⟨by simp [mirM, deedV, stopV], HB2.out⟩
    · try simp only at h0 h5 h6
      rw [deedV_walkM mx my h0]
      go_wp2_with fail
      refine (walkMir_any mx my _ h5 h6).mono ?_
      rintro e w2 ⟨rfl, hb2⟩
      have HB2 := Lib.hid (below_step HB1.out hb2)
      have H0 := Lib.hid h0
      clear hb2
      go_wp2
      go_ret
      refine ⟨?_, HB2.out⟩
      rw [show mirM (mx, my) = (mx, -my) from rfl, deedV_walkM _ _ H0.out]
      rfl
end Go.Proofs.Ytncaghiepchngaa
