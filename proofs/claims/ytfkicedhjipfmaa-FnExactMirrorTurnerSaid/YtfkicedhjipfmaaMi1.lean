/-
  The mirrored turner: what it does, and the program's closure.
-/
import Derived.Test.YtfkicedhjipfmaaTdMirrorTurner
import Derived.Test.YtfkicedhjipfmaaSt2
namespace Go.Proofs.Ytfkicedhjipfmaa
open Go.RowKit

def mirM (m : Int × Int) : Int × Int := (m.1, -m.2)
def swapK (L : Int) (k : Nat) : Nat := if (k : Int) = L then (L + 1).toNat else if (k : Int) = L + 1 then L.toNat else k
def mirG (t : TData) (q k : Nat) : Int × Int :=
  if q < t.mv.length then mirM (moveAt t q (swapK t.L k)) else if (k : Int) = t.L + 1 then mirM (moveAt t t.S.toNat t.L.toNat) else ((t.mv.length : Int), 1)
def mirRes (t : TData) : TData × Int :=
  if okT t then (if t.mv.length + 1 ≤ 12 then (⟨t.L, t.mv.length, tableOf (mirG t) (t.L + 2).toNat (t.mv.length + 1)⟩, 0) else (⟨0, 0, []⟩, 3)) else (⟨0, 0, []⟩, 1)

theorem swapK_lt {L : Int} {k : Nat} (l1 : 1 ≤ L) (h : (k : Int) < L + 2) : (swapK L k : Int) < L + 2 := by
  unfold swapK
  split
  · omega
  · split <;> omega
theorem mirM_ok {n L : Int} {k : Nat} {m : Int × Int} (l1 : 1 ≤ L) (h : okMove n L (swapK L k : Nat) m = true) : okMove n L k (mirM m) = true := by
  have hm := okMove_out h
  unfold okMove
  rw [decide_eq_true_iff]
  unfold swapK at hm
  unfold mirM
  simp only
  by_cases h1 : (k : Int) = L
  · rw [if_pos h1] at hm; omega
  · by_cases h2 : (k : Int) = L + 1
    · rw [if_neg h1, if_pos h2] at hm; omega
    · rw [if_neg h1, if_neg h2] at hm; omega
theorem okMove_more {n L k : Int} {m : Int × Int} (h : okMove n L k m = true) : okMove (n + 1) L k m = true := by
  have hm := okMove_out h
  unfold okMove
  rw [decide_eq_true_iff]
  omega
theorem deeded_of {n L k : Int} {m : Int × Int} (h : okMove n L k m = true) : Deeded m := by
  have hm := okMove_out h
  unfold Deeded
  omega
theorem mirG_ok {t : TData} (ok : OkT t) {q k : Nat} (hk : (k : Int) < t.L + 2) : okMove ((t.mv.length : Int) + 1) t.L k (mirG t q k) = true := by
  have l1 := ok.l1
  have s1 := ok.s1
  have s2 := ok.s2
  unfold mirG
  by_cases hq : q < t.mv.length
  · rw [if_pos hq]
    obtain ⟨_, m, _, _, hat, hmv, _⟩ := ok.at hq (swapK_lt l1 hk)
    rw [hat]
    exact okMove_more (mirM_ok l1 hmv)
  · rw [if_neg hq]
    by_cases h2 : (k : Int) = t.L + 1
    · rw [if_pos h2]
      obtain ⟨_, m, _, _, hat, hmv, _⟩ := ok.at (q := t.S.toNat) (k := t.L.toNat) (by omega) (by omega)
      rw [hat]
      have e : swapK t.L k = t.L.toNat := by unfold swapK; rw [if_neg (by omega), if_pos h2]
      exact okMove_more (mirM_ok l1 (by rw [e]; exact hmv))
    · rw [if_neg h2]
      unfold okMove
      rw [decide_eq_true_iff]
      simp only
      omega

theorem methodStopMir (n : Nat) (b : Bool) (w : World) : (method (n + 1) 77 (.agg #[.bool b]) "loop.example/g01134/impl.mirrored").run Try.prog w = .ok (127, .agg #[.bool b]) w := by kernel_rfl
theorem methodWalkMir (n : Nat) (x y : Int) (w : World) : (method (n + 1) 75 (.agg #[.int .i64 x, .int .i64 y]) "loop.example/g01134/impl.mirrored").run Try.prog w = .ok (122, .agg #[.int .i64 x, .int .i64 y]) w := by kernel_rfl
theorem stopMir_any (b : Bool) (w : World) :
    Calls Try.prog 127 #[.agg #[.bool b]] w fun e w' => e = .returned (.iface 77 (.agg #[.bool b])) ∧ Below w.heap.size w w' := by
  have c1 := concStop
  go_enter Try.func127, Try.ntmps127
  go_wp2
  go_ret
  exact ⟨rfl, below_alloc _ _⟩
theorem walkMir_any (x y : Int) (w : World) (h1 : -1 ≤ y) (h2 : y ≤ 1) :
    Calls Try.prog 122 #[.agg #[.int .i64 x, .int .i64 y]] w fun e w' => e = .returned (.iface 75 (.agg #[.int .i64 x, .int .i64 (-y)])) ∧ Below w.heap.size w w' := by
  have c1 := concWalk
  go_enter Try.func122, Try.ntmps122
  go_wp2
  go_ret
  exact ⟨rfl, below_alloc _ _⟩

theorem deedV_walkM (x y : Int) (h : 0 ≤ x) : deedV (x, y) = .iface 75 (.agg #[.int .i64 x, .int .i64 y]) := by
  simp only [deedV, walkV]; rw [if_neg (by omega), if_neg (by omega)]

theorem mirroredSign_any (L : Int) (k : Nat) (w : World) (l1 : 1 ≤ L) (l2 : L ≤ 3) :
    Calls Try.prog 94 #[.int .i64 L, .int .i64 (k : Int)] w fun e w' => e = .returned (.int .i64 (swapK L k : Nat)) ∧ w = w' := by
  have HL := Lib.hid (fun W => leftMark_any L W)
  have HR := Lib.hid (fun W => rightMark_any L W (by omega) (by omega))
  by_cases h1 : (k : Int) = L
  · have d1 : ((k : Int) == L) = true := by simpa using h1
    have HE := Lib.hid (show ((swapK L k : Nat) : Int) = L + 1 by unfold swapK; rw [if_pos h1]; omega)
    clear h1
    go_enter Try.func94, Try.ntmps94
    go_wp2_with (first | (go_at_call 46; refine (HL.out _).mono ?_; rintro e w' ⟨rfl, rfl⟩) | (go_at_call 47; refine (HR.out _).mono ?_; rintro e w' ⟨rfl, rfl⟩))
    go_ret
    exact ⟨by rw [HE.out]; rfl, rfl⟩
  · have d1 : ((k : Int) == L) = false := by simpa using h1
    by_cases h2 : (k : Int) = L + 1
    · have d2 : ((k : Int) == L + 1) = true := by simpa using h2
      have HE := Lib.hid (show ((swapK L k : Nat) : Int) = L by unfold swapK; rw [if_neg h1, if_pos h2]; omega)
      clear h1 h2
      go_enter Try.func94, Try.ntmps94
      go_wp2_with (first | (go_at_call 46; refine (HL.out _).mono ?_; rintro e w' ⟨rfl, rfl⟩) | (go_at_call 47; refine (HR.out _).mono ?_; rintro e w' ⟨rfl, rfl⟩))
      go_ret
      exact ⟨by rw [HE.out]; rfl, rfl⟩
    · have d2 : ((k : Int) == L + 1) = false := by simpa using h2
      have HE := Lib.hid (show ((swapK L k : Nat) : Int) = k by unfold swapK; rw [if_neg h1, if_neg h2])
      clear h1 h2
      go_enter Try.func94, Try.ntmps94
      go_wp2_with (first | (go_at_call 46; refine (HL.out _).mono ?_; rintro e w' ⟨rfl, rfl⟩) | (go_at_call 47; refine (HR.out _).mono ?_; rintro e w' ⟨rfl, rfl⟩))
      go_ret
      exact ⟨by rw [HE.out]; rfl, rfl⟩

set_option maxRecDepth 100000 in
set_option maxHeartbeats 3200000 in
theorem mirrored_any (v : Value) (t : TData) (q k : Nat) (w : World) (h : RdT w v t) (ok : OkT t) (hq : q < t.mv.length) (hk : (k : Int) < t.L + 2) :
    Calls Try.prog 64 #[v, .int .i64 (q : Int), .int .i64 (k : Int)] w fun e w' => e = .returned (deedV (mirM (moveAt t q (swapK t.L k)))) ∧ Below w.heap.size w w' := by
  have l1 := ok.l1
  have l2 := ok.l2
  have hsk := swapK_lt l1 hk
  obtain ⟨x, m, -, -, hat, hmv, -⟩ := ok.at hq hsk
  have hin := okMove_out hmv
  have HD := Lib.hid (fun W (hb : Below w.heap.size w W) => hat ▸ deed_any v t q (swapK t.L k) W (keepsT _ _ _ _ h hb) ok hq hsk)
  have HMS := Lib.hid (fun W => mirroredSign_any t.L k W l1 l2)
  rw [hat]
  obtain ⟨mx, my⟩ := m
  obtain ⟨A, ca, rfl⟩ := h.shape
  have HB := Lib.hid (below_alloc w (.cells #[.int .i64 t.L, .int .i64 t.S, .slice A t.mv.length ca] 29))
  have HR := Lib.hid (Row.new w [.int .i64 t.L, .int .i64 t.S, .slice A t.mv.length ca] 29)
  have hm1 := methodStopMir
  have hm2 := methodWalkMir
  have HIN := Lib.hid hin
  obtain ⟨sk, hsk2⟩ : ∃ sk : Nat, swapK t.L k = sk := ⟨_, rfl⟩
  rw [hsk2] at HMS HD
  clear h ok hmv hat hin hsk hsk2
  rcases HIN.out with ⟨h0 | h0, h9⟩ | ⟨_, h0, _, h5, h6, _, _⟩
  · try simp only at h0 h9
    subst h0; subst h9
    rw [show deedV (-1, 0) = .iface 77 (.agg #[.bool true]) from by simp [deedV, stopV]] at HD
    go_enter Try.func64, Try.ntmps64
    go_wp2_with fail
    generalize w.alloc (.cells #[.int .i64 t.L, .int .i64 t.S, .slice A t.mv.length ca] 29) = W0 at *
    obtain ⟨⟨b0, b1, b2⟩, -⟩ := HR.out.three
    go_region_held3 (fun W => W.cell? ⟨w.heap.size, 0, none⟩ = some (.int .i64 t.L) ∧ W.cell? ⟨w.heap.size, 1, none⟩ = some (.int .i64 t.S) ∧ W.cell? ⟨w.heap.size, 2, none⟩ = some (.slice A t.mv.length ca))
      (first | go_keep | (go_split_ands; refine ⟨?_, ?_, ?_⟩ <;> exact below_keep hbk (by assumption)))
      (first
        | (go_at_call 94; (with_reducible refine (HMS.out _).mono ?_); rintro e wv ⟨rfl, rfl⟩)
        | (go_at_call 62; (with_reducible refine (HD.out _ (below_step HB.out (by first | exact Below.refl _ _ | exact below_drew _ | exact below_drewN' _ _))).mono ?_); rintro e wy ⟨rfl, hbk⟩; have HC1 := Lib.hid (show Below W0.heap.size W0 wy from below_step (by first | exact Below.refl _ _ | exact below_drew _ | exact below_drewN' _ _) hbk))
        | (go_at_call 127; (with_reducible refine (stopMir_any true _).mono ?_); rintro e wz ⟨rfl, hbk⟩; have HC2 := Lib.hid (below_step HC1.out (below_step (by first | exact Below.refl _ _ | exact below_drew _ | exact below_drewN' _ _) hbk))))
    clear b0 b1 b2
    go_wp2
    go_ret
    exact ⟨by simp [mirM, deedV, stopV], below_step HB.out HC2.out⟩
  · try simp only at h0 h9
    subst h0; subst h9
    rw [show deedV (-2, 0) = .iface 77 (.agg #[.bool false]) from by simp [deedV, stopV]] at HD
    go_enter Try.func64, Try.ntmps64
    go_wp2_with fail
    generalize w.alloc (.cells #[.int .i64 t.L, .int .i64 t.S, .slice A t.mv.length ca] 29) = W0 at *
    obtain ⟨⟨b0, b1, b2⟩, -⟩ := HR.out.three
    go_region_held3 (fun W => W.cell? ⟨w.heap.size, 0, none⟩ = some (.int .i64 t.L) ∧ W.cell? ⟨w.heap.size, 1, none⟩ = some (.int .i64 t.S) ∧ W.cell? ⟨w.heap.size, 2, none⟩ = some (.slice A t.mv.length ca))
      (first | go_keep | (go_split_ands; refine ⟨?_, ?_, ?_⟩ <;> exact below_keep hbk (by assumption)))
      (first
        | (go_at_call 94; (with_reducible refine (HMS.out _).mono ?_); rintro e wv ⟨rfl, rfl⟩)
        | (go_at_call 62; (with_reducible refine (HD.out _ (below_step HB.out (by first | exact Below.refl _ _ | exact below_drew _ | exact below_drewN' _ _))).mono ?_); rintro e wy ⟨rfl, hbk⟩; have HC1 := Lib.hid (show Below W0.heap.size W0 wy from below_step (by first | exact Below.refl _ _ | exact below_drew _ | exact below_drewN' _ _) hbk))
        | (go_at_call 127; (with_reducible refine (stopMir_any false _).mono ?_); rintro e wz ⟨rfl, hbk⟩; have HC2 := Lib.hid (below_step HC1.out (below_step (by first | exact Below.refl _ _ | exact below_drew _ | exact below_drewN' _ _) hbk))))
    clear b0 b1 b2
    go_wp2
    go_ret
    exact ⟨by simp [mirM, deedV, stopV], below_step HB.out HC2.out⟩
  · try simp only at h0 h5 h6
    rw [deedV_walkM mx my h0] at HD
    have H0 := Lib.hid h0
    go_enter Try.func64, Try.ntmps64
    go_wp2_with fail
    generalize w.alloc (.cells #[.int .i64 t.L, .int .i64 t.S, .slice A t.mv.length ca] 29) = W0 at *
    obtain ⟨⟨b0, b1, b2⟩, -⟩ := HR.out.three
    go_region_held3 (fun W => W.cell? ⟨w.heap.size, 0, none⟩ = some (.int .i64 t.L) ∧ W.cell? ⟨w.heap.size, 1, none⟩ = some (.int .i64 t.S) ∧ W.cell? ⟨w.heap.size, 2, none⟩ = some (.slice A t.mv.length ca))
      (first | go_keep | (go_split_ands; refine ⟨?_, ?_, ?_⟩ <;> exact below_keep hbk (by assumption)))
      (first
        | (go_at_call 94; (with_reducible refine (HMS.out _).mono ?_); rintro e wv ⟨rfl, rfl⟩)
        | (go_at_call 62; (with_reducible refine (HD.out _ (below_step HB.out (by first | exact Below.refl _ _ | exact below_drew _ | exact below_drewN' _ _))).mono ?_); rintro e wy ⟨rfl, hbk⟩; have HC1 := Lib.hid (show Below W0.heap.size W0 wy from below_step (by first | exact Below.refl _ _ | exact below_drew _ | exact below_drewN' _ _) hbk))
        | (go_at_call 122; (with_reducible refine (walkMir_any mx my _ h5 h6).mono ?_); rintro e wz ⟨rfl, hbk⟩; have HC2 := Lib.hid (below_step HC1.out (below_step (by first | exact Below.refl _ _ | exact below_drew _ | exact below_drewN' _ _) hbk))))
    clear b0 b1 b2
    go_wp2
    go_ret
    refine ⟨?_, below_step HB.out HC2.out⟩
    rw [show mirM (mx, my) = (mx, -my) from rfl, deedV_walkM _ _ H0.out]
    rfl
end Go.Proofs.Ytfkicedhjipfmaa
