/-
  The writer that turns words: the model's answer.
-/
import Derived.Test.YtahgekjpnmmooaaBk1
namespace Go.Proofs.Ytahgekjpnmmooaa
open Go.RowKit

theorem rdL_two {α : Type} {R : World → Value → α → Prop} {W : World} {g : Nat} {e : TypeId} {u1 u2 : Value} {x1 x2 : α} (h : Row W g e [u1, u2]) (h1 : R W u1 x1) (h2 : R W u2 x2) : RdL R W (.slice (some ⟨g, 0, none⟩) 2 2) [x1, x2] := by
  refine ⟨[u1, u2], h.rd (by simp [maxLen]), rfl, fun i u x hu hx => ?_⟩
  rcases i with _ | _ | i
  · simp at hu hx; subst hu; subst hx; exact h1
  · simp at hu hx; subst hu; subst hx; exact h2
  · simp at hu
theorem under6 {α : Type} {R : World → Nat → Value → α → List Nat → Prop} (gd : Good R) {w2 : World} {lo : Nat} {v : Value} {x : α} {bs : List Nat} (h : R w2 lo v x bs) {p q : Nat} (hp : p < lo) (hq : q < lo) (a b c d e f : Value) :
    R ((((((w2.setCell ⟨q, 2, none⟩ a).setCell ⟨q, 3, none⟩ b).setCell ⟨p, 0, none⟩ c).setCell ⟨p, 1, none⟩ d).setCell ⟨p, 2, none⟩ e).setCell ⟨p, 3, none⟩ f) lo v x bs :=
  gd.under (a := ⟨p, 3, none⟩) (gd.under (a := ⟨p, 2, none⟩) (gd.under (a := ⟨p, 1, none⟩) (gd.under (a := ⟨p, 0, none⟩) (gd.under (a := ⟨q, 3, none⟩) (gd.under (a := ⟨q, 2, none⟩) h hq a) hq b) hp c) hp d) hp e) hp f
theorem back_rows (l : Nat) (h1 : 1 ≤ l) (h2 : l ≤ 3) : (backW l).mv = [passRow l 0 1 (1, -1), passRow l 1 (-1) (-1, 0)] ∧ (backW l).out = [passOut l false, passOut l true] := by
  rcases l with _ | _ | _ | _ | l
  · omega
  · exact ⟨rfl, rfl⟩
  · exact ⟨rfl, rfl⟩
  · exact ⟨rfl, rfl⟩
  · omega

set_option maxHeartbeats 3200000 in
theorem specBack_rd (L : Int) (w : World) :
    Calls Try.prog 7 #[.int .i64 L] w fun e w' => ∃ u, e = .returned (.tuple #[u, .int .i64 (backRes L).2]) ∧ RdWr w' u (backRes L).1 ∧ Below w.heap.size w w' := by
  have hz := Row.new w [.int .i64 0, .int .i64 0, .slice none 0 0, .slice none 0 0] 27
  have HB0 := Lib.hid (below_alloc w (.cells #[.int .i64 0, .int .i64 0, .slice none 0 0, .slice none 0 0] 27))
  have HZ0 := Lib.hid hz
  have HV := Lib.hid (fun W => l00In_any L 1 3 W)
  by_cases hok : 1 ≤ L ∧ L ≤ 3
  · rw [decide_eq_true hok] at HV
    obtain ⟨l, rfl⟩ : ∃ l : Nat, L = l := ⟨L.toNat, by omega⟩
    have HRES := Lib.hid (show backRes (l : Int) = (backW l, 0) by rw [backRes, if_pos hok]; simp)
    have HRW := Lib.hid (back_rows l (by omega) (by omega))
    have l2 : l ≤ 3 := by omega
    have hz1 := hz.alloc (.cells #[.int .i64 (l : Int), .int .i64 0, .slice none 0 0, .slice none 0 0] 27)
    have hx1 := Row.new (w.alloc (.cells #[.int .i64 0, .int .i64 0, .slice none 0 0, .slice none 0 0] 27)) [.int .i64 (l : Int), .int .i64 0, .slice none 0 0, .slice none 0 0] 27
    have HZ := Lib.hid hz1
    have HX := Lib.hid (show Row _ (w.heap.size + 1) _ _ by simpa using hx1)
    have HB := Lib.hid (below_step HB0.out (below_alloc _ (.cells #[.int .i64 (l : Int), .int .i64 0, .slice none 0 0, .slice none 0 0] 27)))
    have HP1 := Lib.hid (fun W => l07Pass_own l 0 1 false (1, -1) W l2)
    have HP2 := Lib.hid (fun W => l07Pass_own l 1 (-1) true (-1, 0) W l2)
    clear hz hz1 hx1 hok HB0 HZ0
    go_enter Try.func7, Try.ntmps7
    go_wp2_with (go_at_call 24; refine (HV.out _).mono ?_; rintro e w' ⟨rfl, rfl⟩)
    generalize (w.alloc (.cells #[.int .i64 0, .int .i64 0, .slice none 0 0, .slice none 0 0] 27)).alloc (.cells #[.int .i64 (l : Int), .int .i64 0, .slice none 0 0, .slice none 0 0] 27) = W0 at *
    refine (HP1.out _).mono ?_
    rintro e w1 ⟨u1, v1, rfl, hu1, hv1, -, hb1⟩
    have HB1 := Lib.hid (below_step HB.out hb1)
    have HZ1 := Lib.hid (HZ.out.below hb1 HZ.out.lt)
    have HX1 := Lib.hid (HX.out.below hb1 HX.out.lt)
    obtain ⟨M1, m1, rfl⟩ := RdP.shape hu1.rd
    obtain ⟨O1, o1, rfl⟩ := owS_shape hv1
    have HU1 := Lib.hid (show _ ∧ _ from ⟨hu1, hv1⟩)
    have hs1 := hb1.size
    clear hu1 hv1 hb1
    go_wp2_with fail
    refine (HP2.out _).mono ?_
    rintro e w2 ⟨u2, v2, rfl, hu2, hv2, -, hb2⟩
    have HB2 := Lib.hid (below_step HB1.out hb2)
    have HZ2 := Lib.hid (HZ1.out.below hb2 HZ1.out.lt)
    have HX2 := Lib.hid (HX1.out.below hb2 HX1.out.lt)
    obtain ⟨M2, m2, rfl⟩ := RdP.shape hu2.rd
    obtain ⟨O2, o2, rfl⟩ := owS_shape hv2
    have HU2 := Lib.hid (show (_ ∧ _) ∧ (_ ∧ _) from ⟨⟨(goodP 55).below HU1.out.1 hb2, (goodV strs 9).below HU1.out.2 hb2⟩, ⟨(goodP 55).mono hu2 hs1, (goodV strs 9).mono hv2 hs1⟩⟩)
    have hl0 := HX.out.lt
    have lx2 := HX2.out.lt
    have hf2 := HX2.out.free 2
    have hf3 := HX2.out.free 3
    obtain ⟨⟨c0, c1, c2, c3⟩, -⟩ := HX2.out.four
    obtain ⟨⟨z0, z1, z2, z3⟩, zf⟩ := HZ2.out.four
    have lz2 := HZ2.out.lt
    clear hu2 hv2 hb2
    go_wp2
    obtain ⟨W3, hW3⟩ : ∃ W3, W3 = (((((w2.setCell ⟨w.heap.size + 1, 2, none⟩ (.slice (some ⟨w2.heap.size, 0, none⟩) 2 2)).setCell ⟨w.heap.size + 1, 3, none⟩ (.slice (some ⟨w2.heap.size + 1, 0, none⟩) 2 2)).setCell ⟨w.heap.size, 0, none⟩ (.int .i64 (l : Int))).setCell ⟨w.heap.size, 1, none⟩ (.int .i64 0)).setCell ⟨w.heap.size, 2, none⟩ (.slice (some ⟨w2.heap.size, 0, none⟩) 2 2)).setCell ⟨w.heap.size, 3, none⟩ (.slice (some ⟨w2.heap.size + 1, 0, none⟩) 2 2) := ⟨_, rfl⟩
    rw [← hW3]
    have hs3 : W3.heap.size = w2.heap.size := by rw [hW3]; simp
    have rz : Row W3 w.heap.size 27 [.int .i64 (l : Int), .int .i64 0, .slice (some ⟨w2.heap.size, 0, none⟩) 2 2, .slice (some ⟨w2.heap.size + 1, 0, none⟩) 2 2] := by
      rw [hW3]
      exact ((((((HZ2.out.other (a := ⟨w.heap.size + 1, 2, none⟩) (by show w.heap.size + 1 ≠ _; omega) _).other (a := ⟨w.heap.size + 1, 3, none⟩) (by show w.heap.size + 1 ≠ _; omega) _).stored 0 _).stored 1 _).stored 2 _).stored 3 _)
    have bz : Below w.heap.size w W3 := by
      rw [hW3]
      exact ((((((HB2.out.setCell (p := ⟨w.heap.size + 1, 2, none⟩) (by show w.heap.size ≤ w.heap.size + 1; omega) _).setCell (p := ⟨w.heap.size + 1, 3, none⟩) (by show w.heap.size ≤ w.heap.size + 1; omega) _).setCell (p := ⟨w.heap.size, 0, none⟩) (Nat.le_refl _) _).setCell (p := ⟨w.heap.size, 1, none⟩) (Nat.le_refl _) _).setCell (p := ⟨w.heap.size, 2, none⟩) (Nat.le_refl _) _).setCell (p := ⟨w.heap.size, 3, none⟩) (Nat.le_refl _) _)
    have k1 := under6 (goodP 55) HU2.out.1.1 (p := w.heap.size) (q := w.heap.size + 1) (by omega) hl0 (.slice (some ⟨w2.heap.size, 0, none⟩) 2 2) (.slice (some ⟨w2.heap.size + 1, 0, none⟩) 2 2) (.int .i64 (l : Int)) (.int .i64 0) (.slice (some ⟨w2.heap.size, 0, none⟩) 2 2) (.slice (some ⟨w2.heap.size + 1, 0, none⟩) 2 2)
    have k2 := under6 (goodV strs 9) HU2.out.1.2 (p := w.heap.size) (q := w.heap.size + 1) (by omega) hl0 (.slice (some ⟨w2.heap.size, 0, none⟩) 2 2) (.slice (some ⟨w2.heap.size + 1, 0, none⟩) 2 2) (.int .i64 (l : Int)) (.int .i64 0) (.slice (some ⟨w2.heap.size, 0, none⟩) 2 2) (.slice (some ⟨w2.heap.size + 1, 0, none⟩) 2 2)
    have k3 := under6 (goodP 55) HU2.out.2.1 (p := w.heap.size) (q := w.heap.size + 1) (by omega) hl0 (.slice (some ⟨w2.heap.size, 0, none⟩) 2 2) (.slice (some ⟨w2.heap.size + 1, 0, none⟩) 2 2) (.int .i64 (l : Int)) (.int .i64 0) (.slice (some ⟨w2.heap.size, 0, none⟩) 2 2) (.slice (some ⟨w2.heap.size + 1, 0, none⟩) 2 2)
    have k4 := under6 (goodV strs 9) HU2.out.2.2 (p := w.heap.size) (q := w.heap.size + 1) (by omega) hl0 (.slice (some ⟨w2.heap.size, 0, none⟩) 2 2) (.slice (some ⟨w2.heap.size + 1, 0, none⟩) 2 2) (.int .i64 (l : Int)) (.int .i64 0) (.slice (some ⟨w2.heap.size, 0, none⟩) 2 2) (.slice (some ⟨w2.heap.size + 1, 0, none⟩) 2 2)
    rw [← hW3] at k1 k2 k3 k4
    clear hW3
    have bb : Below W3.heap.size W3 ((W3.alloc (.cells #[.slice M1 (passRow l 0 1 (1, -1)).length m1, .slice M2 (passRow l 1 (-1) (-1, 0)).length m2] 51)).alloc (.cells #[.slice O1 (passOut l false).length o1, .slice O2 (passOut l true).length o2] 44)) := below_step (below_alloc _ _) (below_alloc _ _)
    have ra := (Row.new W3 [.slice M1 (passRow l 0 1 (1, -1)).length m1, .slice M2 (passRow l 1 (-1) (-1, 0)).length m2] 51).alloc (.cells #[.slice O1 (passOut l false).length o1, .slice O2 (passOut l true).length o2] 44)
    have rb := Row.new (W3.alloc (.cells #[.slice M1 (passRow l 0 1 (1, -1)).length m1, .slice M2 (passRow l 1 (-1) (-1, 0)).length m2] 51)) [.slice O1 (passOut l false).length o1, .slice O2 (passOut l true).length o2] 44
    rw [hs3] at ra
    rw [show (W3.alloc (.cells #[.slice M1 (passRow l 0 1 (1, -1)).length m1, .slice M2 (passRow l 1 (-1) (-1, 0)).length m2] 51)).heap.size = w2.heap.size + 1 by simp [hs3]] at rb
    have q1 := rdL_two (R := RdP) ra (keepsP _ _ _ _ k1.rd bb) (keepsP _ _ _ _ k3.rd bb)
    have q2 := rdL_two (R := RdS) rb (keepsS _ _ _ _ k2.1.rd bb) (keepsS _ _ _ _ k4.1.rd bb)
    obtain ⟨⟨y0, y1, y2, y3⟩, -⟩ := (rz.below bb rz.lt).four
    refine bodyPost_ret (v := .tuple #[.agg #[.int .i64 (l : Int), .int .i64 0, .slice (some ⟨w2.heap.size, 0, none⟩) 2 2, .slice (some ⟨w2.heap.size + 1, 0, none⟩) 2 2], .int .i64 0]) (by simp only [results, Try.results7]; simp [go_sem, y0, y1, y2, y3]) rfl ?_
    rw [HRES.out]
    exact ⟨_, rfl, ⟨_, _, rfl, by rw [HRW.out.1]; exact q1, by rw [HRW.out.2]; exact q2⟩, below_step bz bb⟩
  · rw [decide_eq_false hok] at HV
    have HRES := Lib.hid (show backRes L = (⟨0, 0, [], []⟩, 2) by rw [backRes, if_neg hok])
    obtain ⟨⟨z0, z1, z2, z3⟩, zf⟩ := hz.four
    have lz := hz.lt
    clear hok hz
    go_enter Try.func7, Try.ntmps7
    go_wp2_with (go_at_call 24; refine (HV.out _).mono ?_; rintro e w' ⟨rfl, rfl⟩)
    refine bodyPost_ret (v := .tuple #[.agg #[.int .i64 0, .int .i64 0, .slice none 0 0, .slice none 0 0], .int .i64 2]) (by simp [results, Try.results7, go_sem, z0, z1, z2, z3]) rfl ?_
    rw [HRES.out]
    exact ⟨_, rfl, (owWr_zero _ 0).rd, HB0.out⟩
end Go.Proofs.Ytahgekjpnmmooaa
