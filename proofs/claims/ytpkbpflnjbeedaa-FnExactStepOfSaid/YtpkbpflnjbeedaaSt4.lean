/-
  The next place: the program's answer.
-/
import Derived.Test.YtpkbpflnjbeedaaSt3
namespace Go.Proofs.Ytpkbpflnjbeedaa
open Go.RowKit

theorem from_any (x y px : Int) (a : Nat) (w : World) (ha : a ≤ 61) (h1 : -1 ≤ y) (h2 : y ≤ 1) :
    Calls Try.prog 50 #[.agg #[.int .i64 x, .int .i64 y], .agg #[.int .i64 px, .int .i64 (a : Int)]] w fun e w' => e = .returned (.agg #[.int .i64 x, .int .i64 ((a : Int) + y)]) ∧ Below w.heap.size w w' := by
  have HB := Lib.hid ((three_new w 91 [.int .i64 x, .int .i64 y] 55 [.int .i64 px, .int .i64 (a : Int)] 55 [.int .i64 0, .int .i64 0]).store (.int .i64 x) (.int .i64 ((a : Int) + y)))
  go_enter Try.func50, Try.ntmps50
  go_wp2
  refine bodyPost_ret (v := .agg #[.int .i64 x, .int .i64 ((a : Int) + y)]) (by simp [results, Try.results50, go_sem]) rfl ⟨rfl, ?_⟩
  exact ((below_alloc _ _).alloc (by simp) _).alloc (by simp; omega) _

theorem cellOk_eq (a : Int) (s : ByteArray) : cellOk a s = within a 0 ((s.size : Int) + 1) := by
  unfold cellOk within; rw [Bool.eq_iff_iff]; simp only [decide_eq_true_eq]; omega

theorem isPlace_any (px py : Int) (n : Nat) (s : ByteArray) (w : World) (hs : s.size ≤ 60) :
    Calls Try.prog 47 #[.agg #[.int .i64 px, .int .i64 py], .int .i64 (n : Int), .string s] w fun e w' => e = .returned (.bool (within px 0 ((n : Int) - 1) && within py 0 ((s.size : Int) + 1))) ∧ Below w.heap.size w w' := by
  have HB := Lib.hid (below_alloc w (.cells #[.int .i64 px, .int .i64 py] 55))
  cases hw1 : within px 0 ((n : Int) - 1)
  · have HS := Lib.hid (fun W => hw1 ▸ isState_w px (n : Int) W)
    clear hw1
    go_enter Try.func47, Try.ntmps47
    go_wp2_with (go_at_call 66; (with_reducible refine (HS.out _).mono ?_); rintro e wy ⟨rfl, rfl⟩)
    go_ret
    exact ⟨rfl, HB.out⟩
  · have HS := Lib.hid (fun W => hw1 ▸ isState_w px (n : Int) W)
    have HC := Lib.hid (fun W => cellOk_eq py s ▸ isCell_any py s W hs)
    clear hw1
    go_enter Try.func47, Try.ntmps47
    go_wp2_with (first | (go_at_call 66; (with_reducible refine (HS.out _).mono ?_); rintro e wy ⟨rfl, rfl⟩) | (go_at_call 32; (with_reducible refine (HC.out _).mono ?_); rintro e wy ⟨rfl, rfl⟩))
    go_ret
    exact ⟨by simp, HB.out⟩

theorem isPlace_w {px py : Int} {n : Nat} {s : ByteArray} {b : Bool} (h : (within px 0 ((n : Int) - 1) && within py 0 ((s.size : Int) + 1)) = b) (w : World) (hs : s.size ≤ 60) :
    Calls Try.prog 47 #[.agg #[.int .i64 px, .int .i64 py], .int .i64 (n : Int), .string s] w fun e w' => e = .returned (.bool b) ∧ Below w.heap.size w w' := by
  subst h
  exact isPlace_any px py n s w hs

set_option maxRecDepth 100000 in
set_option maxHeartbeats 3200000 in
theorem implStepOf_any (v : Value) (t : TData) (s : ByteArray) (p : Int × Int) (w : World) (h : RdT w v t) (hs : s.size ≤ maxLen) :
    Calls Try.prog 25 #[v, .string s, .agg #[.int .i64 p.1, .int .i64 p.2]] w fun e w' => e = .returned (.tuple #[.agg #[.int .i64 (stepRes t s p).1.1, .int .i64 (stepRes t s p).1.2], .int .i64 (stepRes t s p).2]) ∧ Below w.heap.size w w' := by
  obtain ⟨px, py⟩ := p
  have HG := Lib.hid (fun W (hb : Below w.heap.size w W) => wordCode_any v t s W (keepsT _ _ _ _ h hb) hs)
  have HV := Lib.hid (fun W (hb : Below w.heap.size w W) => states_any v t W (keepsT _ _ _ _ h hb))
  have HDA := Lib.hid (fun W (q a : Nat) hok hl s60 hq ha (hb : Below w.heap.size w W) => deedAt_any v t s q a W (keepsT _ _ _ _ h hb) hok hl s60 hq ha)
  obtain ⟨A, c, rfl⟩ := h.shape
  have HT := Lib.hid h
  have H3 := Lib.hid (three_new w 32 [.int .i64 t.L, .int .i64 t.S, .slice A t.mv.length c] 55 [.int .i64 px, .int .i64 py] 55 [.int .i64 0, .int .i64 0])
  clear h
  have cc1 := taWalkYes
  have cc2 := taWalkNo
  rcases givenC_or t s with hg | hg
  · obtain ⟨ok1, ok2⟩ := givenC_zero hg
    have HK := Lib.hid (okT_out ok1)
    obtain ⟨s60, hl⟩ := okWord_parts ok2
    have HL := Lib.hid hl
    have HGC := Lib.hid hg
    rw [hg] at HG
    clear ok1 ok2 hg hl
    go_enter Try.func25, Try.ntmps25
    go_wp2_with fail
    refine (HG.out _ H3.out.bel).mono ?_
    rintro e w1 ⟨rfl, hb⟩
    have h3 := H3.out.below hb
    have H31 := Lib.hid h3
    obtain ⟨-, r1, r2, r3⟩ := h3
    obtain ⟨⟨b0, b1, b2⟩, -⟩ := r1.three
    obtain ⟨⟨p0, p1⟩, -⟩ := r2.two
    obtain ⟨⟨z0, z1⟩, zf⟩ := r3.two
    have lt3 := r3.lt
    clear r1 r2 r3 hb
    have n2 := HK.out.n2
    have n1 := HK.out.n1
    cases hp : placeIn t s (px, py)
    · have HP0 := Lib.hid (fun W => isPlace_w (px := px) (py := py) (n := t.mv.length) (s := s) (b := false) hp W s60)
      have hres : stepRes t s (px, py) = ((0, 0), 2) := by simp [stepRes, HGC.out, hp]
      have HRS := Lib.hid hres
      clear hp hres
      go_wp2_with fail
      go_region_held3 (fun W => W.cell? ⟨w.heap.size, 0, none⟩ = some (.int .i64 t.L) ∧ W.cell? ⟨w.heap.size, 1, none⟩ = some (.int .i64 t.S) ∧ W.cell? ⟨w.heap.size, 2, none⟩ = some (.slice A t.mv.length c) ∧ W.cell? ⟨w.heap.size + 1, 0, none⟩ = some (.int .i64 px) ∧ W.cell? ⟨w.heap.size + 1, 1, none⟩ = some (.int .i64 py))
        (first | go_keep | (go_split_ands; refine ⟨?_, ?_, ?_, ?_, ?_⟩ <;> exact below_keep hbk (by assumption)))
        (first
          | (go_at_call 48; (with_reducible refine (HV.out _ (by first | exact H31.out.bel | exact H31.out.bel.drew | exact below_drewN H31.out.bel _)).mono ?_); rintro e wz ⟨rfl, hbk⟩; have HCz := Lib.hid (show Below w1.heap.size w1 wz from below_step (by first | exact Below.refl _ _ | exact below_drew _ | exact below_drewN' _ _) hbk))
          | (go_at_call 47; (with_reducible refine (HP0.out _).mono ?_); rintro e wy ⟨rfl, hbk⟩; have HCy := Lib.hid (below_step HCz.out hbk)))
      clear b0 b1 b2 p0 p1 z0 z1 zf lt3
      have H32 := Lib.hid (H31.out.below HCy.out)
      obtain ⟨⟨z0, z1⟩, zf⟩ := H32.out.2.2.2.two
      have lt3 := H32.out.2.2.2.lt
      go_wp2
      have hE := H32.out.store (.int .i64 0) (.int .i64 0)
      generalize ((wy.setCell ⟨w.heap.size + 1 + 1, 0, none⟩ (.int .i64 0)).setCell ⟨w.heap.size + 1 + 1, 1, none⟩ (.int .i64 0)) = W2 at *
      obtain ⟨⟨e0, e1⟩, hB⟩ := hE
      refine bodyPost_ret (v := .tuple #[.agg #[.int .i64 0, .int .i64 0], .int .i64 2]) (by simp [results, Try.results25, go_sem, e0, e1]) rfl ⟨?_, hB⟩
      rw [HRS.out]
    · have HP := Lib.hid hp
      obtain ⟨⟨x0, x1⟩, y0, y1⟩ := placeIn_parts hp
      simp only at x0 x1 y0 y1
      obtain ⟨q, rfl⟩ := Int.eq_ofNat_of_zero_le x0
      obtain ⟨a, rfl⟩ := Int.eq_ofNat_of_zero_le y0
      have HP0 := Lib.hid (fun W => isPlace_w (px := (q : Int)) (py := (a : Int)) (n := t.mv.length) (s := s) (b := true) HP.out W s60)
      have HAt := Lib.hid (fun W hb => HDA.out W q a HK.out HL.out s60 (by omega) (by omega) hb)
      clear hp
      go_wp2_with fail
      go_region_held3 (fun W => W.cell? ⟨w.heap.size, 0, none⟩ = some (.int .i64 t.L) ∧ W.cell? ⟨w.heap.size, 1, none⟩ = some (.int .i64 t.S) ∧ W.cell? ⟨w.heap.size, 2, none⟩ = some (.slice A t.mv.length c) ∧ W.cell? ⟨w.heap.size + 1, 0, none⟩ = some (.int .i64 (q : Int)) ∧ W.cell? ⟨w.heap.size + 1, 1, none⟩ = some (.int .i64 (a : Int)))
        (first | go_keep | (go_split_ands; refine ⟨?_, ?_, ?_, ?_, ?_⟩ <;> exact below_keep hbk (by assumption)))
        (first
          | (go_at_call 48; (with_reducible refine (HV.out _ (by first | exact H31.out.bel | exact H31.out.bel.drew | exact below_drewN H31.out.bel _)).mono ?_); rintro e wz ⟨rfl, hbk⟩; have HCz := Lib.hid (show Below w1.heap.size w1 wz from below_step (by first | exact Below.refl _ _ | exact below_drew _ | exact below_drewN' _ _) hbk))
          | (go_at_call 47; (with_reducible refine (HP0.out _).mono ?_); rintro e wy ⟨rfl, hbk⟩; have HCy := Lib.hid (below_step HCz.out hbk)))
      go_wp2_with fail
      clear b0 b1 b2 p0 p1 z0 z1 zf lt3
      refine (HAt.out _ (below_step H31.out.bel HCy.out)).mono ?_
      rintro e w2 ⟨rfl, hb⟩
      have h3 := H31.out.below (below_step HCy.out hb)
      have H32 := Lib.hid h3
      obtain ⟨-, r1, r2, r3⟩ := h3
      obtain ⟨⟨p0, p1⟩, -⟩ := r2.two
      obtain ⟨⟨z0, z1⟩, zf⟩ := r3.two
      have lt3 := r3.lt
      have lt2 := r2.lt
      clear r1 r2 r3 hb
      have hres : stepRes t s ((q : Int), (a : Int)) = if (moveOn t s q a).1 < 0 then ((0, 0), 4) else (((moveOn t s q a).1, (a : Int) + (moveOn t s q a).2), 0) := by
        simp [stepRes, HGC.out, HP.out]
      have HRS := Lib.hid hres
      have hdir : ((moveOn t s q a).1 = -1 ∨ (moveOn t s q a).1 = -2 ∨ 0 ≤ (moveOn t s q a).1) ∧ -1 ≤ (moveOn t s q a).2 ∧ (moveOn t s q a).2 ≤ 1 := by
        obtain ⟨k, hk, hk2⟩ := signN_ok HK.out.l1 HK.out.l2 HL.out (show a ≤ s.size + 1 by omega)
        obtain ⟨x, m, -, -, hat, hmv, -⟩ := HK.out.at (show q < t.mv.length by omega) hk2
        rw [moveOn_eq hk, hat]
        have := okMove_out hmv
        omega
      have HY := Lib.hid hdir
      clear hdir hres
      generalize moveOn t s q a = mv at *
      obtain ⟨mx, my⟩ := mv
      simp only at *
      by_cases hneg : mx < 0
      · have hdv : ∃ bb, deedV (mx, my) = .iface 100 (.agg #[.bool bb]) := by
          rcases HY.out.1 with h | h | h
          · exact ⟨true, by simp [deedV, stopV, h]⟩
          · exact ⟨false, by simp [deedV, stopV, h]⟩
          · omega
        obtain ⟨bb, hdv⟩ := hdv
        have HDV := Lib.hid hdv
        have HN := Lib.hid hneg
        clear hdv hneg
        rw [HDV.out]
        go_wp2
        have hE := H32.out.store (.int .i64 0) (.int .i64 0)
        generalize ((w2.setCell ⟨w.heap.size + 1 + 1, 0, none⟩ (.int .i64 0)).setCell ⟨w.heap.size + 1 + 1, 1, none⟩ (.int .i64 0)) = W2 at *
        obtain ⟨⟨e0, e1⟩, hB⟩ := hE
        refine bodyPost_ret (v := .tuple #[.agg #[.int .i64 0, .int .i64 0], .int .i64 4]) (by simp [results, Try.results25, go_sem, e0, e1]) rfl ⟨?_, hB⟩
        rw [HRS.out, if_pos HN.out]
      · have hdv : deedV (mx, my) = .iface 91 (.agg #[.int .i64 mx, .int .i64 my]) := by
          have := HY.out.1
          simp only [deedV, walkV]; rw [if_neg (by omega), if_neg (by omega)]
        have HDV := Lib.hid hdv
        have HN := Lib.hid hneg
        clear hdv hneg
        rw [HDV.out]
        have HF := Lib.hid (fun W => from_any mx my (q : Int) a W (by omega) HY.out.2.1 HY.out.2.2)
        go_wp2_with fail
        refine (HF.out _).mono ?_
        have h33 := Lib.hid (H32.out.alloc (.cells #[.int .i64 mx, .int .i64 my] 91))
        generalize w2.alloc (.cells #[.int .i64 mx, .int .i64 my] 91) = w3 at *
        rintro e w4 ⟨rfl, hb⟩
        have h3 := h33.out.below hb
        have H34 := Lib.hid h3
        obtain ⟨-, r1, r2, r3⟩ := h3
        clear p0 p1 z0 z1 zf lt3 lt2
        obtain ⟨⟨z0, z1⟩, zf⟩ := r3.two
        have lt3 := r3.lt
        clear r1 r2 r3 hb h33
        go_wp2
        have hE := H34.out.store (.int .i64 mx) (.int .i64 ((a : Int) + my))
        generalize ((w4.setCell ⟨w.heap.size + 1 + 1, 0, none⟩ (.int .i64 mx)).setCell ⟨w.heap.size + 1 + 1, 1, none⟩ (.int .i64 ((a : Int) + my))) = W2 at *
        obtain ⟨⟨e0, e1⟩, hB⟩ := hE
        refine bodyPost_ret (v := .tuple #[.agg #[.int .i64 mx, .int .i64 ((a : Int) + my)], .int .i64 0]) (by simp [results, Try.results25, go_sem, e0, e1]) rfl ⟨?_, hB⟩
        rw [HRS.out, if_neg (by have := HN.out; omega)]
  · have HGC := Lib.hid hg
    rw [hg] at HG
    clear hg
    go_enter Try.func25, Try.ntmps25
    go_wp2_with fail
    refine (HG.out _ H3.out.bel).mono ?_
    rintro e w1 ⟨rfl, hb⟩
    have h3 := H3.out.below hb
    have H31 := Lib.hid h3
    have r3 := h3.2.2.2
    obtain ⟨⟨z0, z1⟩, zf⟩ := r3.two
    have lt3 := r3.lt
    clear r3 hb h3
    go_wp2
    have hE := H31.out.store (.int .i64 0) (.int .i64 0)
    generalize ((w1.setCell ⟨w.heap.size + 1 + 1, 0, none⟩ (.int .i64 0)).setCell ⟨w.heap.size + 1 + 1, 1, none⟩ (.int .i64 0)) = W2 at *
    obtain ⟨⟨e0, e1⟩, hB⟩ := hE
    refine bodyPost_ret (v := .tuple #[.agg #[.int .i64 0, .int .i64 0], .int .i64 1]) (by simp [results, Try.results25, go_sem, e0, e1]) rfl ⟨?_, hB⟩
    have hres : stepRes t s (px, py) = ((0, 0), 1) := by simp [stepRes, HGC.out]
    rw [hres]
end Go.Proofs.Ytpkbpflnjbeedaa
