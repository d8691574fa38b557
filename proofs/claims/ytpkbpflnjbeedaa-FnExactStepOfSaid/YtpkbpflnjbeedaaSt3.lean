/-
  The next place: the model's answer.
-/
import Derived.Test.YtpkbpflnjbeedaaSt2
namespace Go.Proofs.Ytpkbpflnjbeedaa
open Go.RowKit

def placeIn (t : TData) (s : ByteArray) (p : Int × Int) : Bool := within p.1 0 ((t.mv.length : Int) - 1) && within p.2 0 ((s.size : Int) + 1)
def stepRes (t : TData) (s : ByteArray) (p : Int × Int) : (Int × Int) × Int :=
  if givenC t s = 1 then ((0, 0), 1) else if placeIn t s p then
    (if (moveOn t s p.1.toNat p.2.toNat).1 < 0 then ((0, 0), 4) else (((moveOn t s p.1.toNat p.2.toNat).1, p.2 + (moveOn t s p.1.toNat p.2.toNat).2), 0))
  else ((0, 0), 2)

theorem givenC_or (t : TData) (s : ByteArray) : givenC t s = 0 ∨ givenC t s = 1 := by unfold givenC; split <;> simp
theorem givenC_zero {t : TData} {s : ByteArray} (h : givenC t s = 0) : okT t = true ∧ okWord t.L s = true := by
  unfold givenC at h; split at h
  · assumption
  · cases h
theorem okWord_parts {L : Int} {s : ByteArray} (h : okWord L s = true) : s.size ≤ 60 ∧ lettersOk L s = true := by
  simp only [okWord, Bool.and_eq_true, decide_eq_true_eq] at h
  exact ⟨by omega, h.2.2⟩
theorem placeIn_parts {t : TData} {s : ByteArray} {p : Int × Int} (h : placeIn t s p = true) : (0 ≤ p.1 ∧ p.1 ≤ (t.mv.length : Int) - 1) ∧ (0 ≤ p.2 ∧ p.2 ≤ (s.size : Int) + 1) := by
  simpa [placeIn, within] using h

/-- Three boxes behind each other. -/
def Three (w W : World) (e1 : TypeId) (x1 : List Value) (e2 : TypeId) (x2 : List Value) (e3 : TypeId) (x3 : List Value) : Prop :=
  Below w.heap.size w W ∧ Row W w.heap.size e1 x1 ∧ Row W (w.heap.size + 1) e2 x2 ∧ Row W (w.heap.size + 1 + 1) e3 x3
theorem Three.below {w W W' : World} {e1 e2 e3 : TypeId} {x1 x2 x3 : List Value} (h : Three w W e1 x1 e2 x2 e3 x3) (hb : Below W.heap.size W W') : Three w W' e1 x1 e2 x2 e3 x3 :=
  ⟨below_step h.1 hb, h.2.1.below hb h.2.1.lt, h.2.2.1.below hb h.2.2.1.lt, h.2.2.2.below hb h.2.2.2.lt⟩
theorem Three.bel {w W : World} {e1 e2 e3 : TypeId} {x1 x2 x3 : List Value} (h : Three w W e1 x1 e2 x2 e3 x3) : Below w.heap.size w W := h.1
theorem Three.alloc {w W : World} {e1 e2 e3 : TypeId} {x1 x2 x3 : List Value} (h : Three w W e1 x1 e2 x2 e3 x3) (o : Obj) : Three w (W.alloc o) e1 x1 e2 x2 e3 x3 := h.below (below_alloc _ _)
theorem three_new (w : World) (e1 : TypeId) (x1 : List Value) (e2 : TypeId) (x2 : List Value) (e3 : TypeId) (x3 : List Value) : Three w (((w.alloc (.cells x1.toArray e1)).alloc (.cells x2.toArray e2)).alloc (.cells x3.toArray e3)) e1 x1 e2 x2 e3 x3 := by
  refine ⟨((below_alloc _ _).alloc (by simp) _).alloc (by simp; omega) _, ((Row.new w _ _).alloc _).alloc _, ?_, ?_⟩
  · have := (Row.new (w.alloc (.cells x1.toArray e1)) x2 e2).alloc (.cells x3.toArray e3); simpa using this
  · have := Row.new ((w.alloc (.cells x1.toArray e1)).alloc (.cells x2.toArray e2)) x3 e3; simpa using this

/-- A pair in a cell of the call's own. -/
def Stored (w W : World) (p : Nat) (a b : Value) : Prop := (W.cell? ⟨p, 0, none⟩ = some a ∧ W.cell? ⟨p, 1, none⟩ = some b) ∧ Below w.heap.size w W
theorem Stored.alloc {w W : World} {p : Nat} {a b : Value} (h : Stored w W p a b) (o : Obj) : Stored w (W.alloc o) p a b :=
  ⟨⟨below_keep (below_alloc W o) h.1.1, below_keep (below_alloc W o) h.1.2⟩, below_step h.2 (below_alloc W o)⟩
theorem Stored.below {w W W' : World} {p : Nat} {a b : Value} (h : Stored w W p a b) (hb : Below W.heap.size W W') : Stored w W' p a b :=
  ⟨⟨below_keep hb h.1.1, below_keep hb h.1.2⟩, below_step h.2 hb⟩
theorem Three.store {w W : World} {e1 e2 e3 : TypeId} {x1 x2 : List Value} {u0 u1 : Value} (h : Three w W e1 x1 e2 x2 e3 [u0, u1]) (a b : Value) :
    Stored w ((W.setCell ⟨w.heap.size + 1 + 1, 0, none⟩ a).setCell ⟨w.heap.size + 1 + 1, 1, none⟩ b) (w.heap.size + 1 + 1) a b :=
  ⟨(Row.two (a := a) (b := b) ((h.2.2.2.stored 0 a).stored 1 b)).1, (h.1.setCell (p := ⟨w.heap.size + 1 + 1, 0, none⟩) (by show w.heap.size ≤ w.heap.size + 1 + 1; omega) a).setCell (p := ⟨w.heap.size + 1 + 1, 1, none⟩) (by show w.heap.size ≤ w.heap.size + 1 + 1; omega) b⟩

set_option maxRecDepth 100000 in
set_option maxHeartbeats 1600000 in
theorem specStepOf_any (v : Value) (t : TData) (s : ByteArray) (p : Int × Int) (w : World) (h : RdT w v t) (hs : s.size ≤ maxLen) :
    Calls Try.prog 22 #[v, .string s, .agg #[.int .i64 p.1, .int .i64 p.2]] w fun e w' => e = .returned (.tuple #[.agg #[.int .i64 (stepRes t s p).1.1, .int .i64 (stepRes t s p).1.2], .int .i64 (stepRes t s p).2]) ∧ Below w.heap.size w w' := by
  obtain ⟨px, py⟩ := p
  obtain ⟨m, rfl, hA⟩ := atT_box h 32
  have h3 := three_new w 32 [.int .i64 t.L, .int .i64 t.S, m] 55 [.int .i64 px, .int .i64 py] 55 [.int .i64 0, .int .i64 0]
  have hA' := (hA.below (below_alloc _ (.cells [.int .i64 px, .int .i64 py].toArray 55))).below (below_alloc _ (.cells [.int .i64 0, .int .i64 0].toArray 55))
  have HG := Lib.hid (l02Given_any _ _ s _ hA' hs)
  have H3 := Lib.hid h3
  have HA := Lib.hid hA'
  clear h3 hA hA' h
  rcases givenC_or t s with hg | hg
  · obtain ⟨ok1, ok2⟩ := givenC_zero hg
    have HK := Lib.hid (okT_out ok1)
    obtain ⟨s60, hl⟩ := okWord_parts ok2
    have HL := Lib.hid hl
    have HGC := Lib.hid hg
    rw [hg] at HG
    clear ok1 ok2 hg hl
    go_enter Try.func22, Try.ntmps22
    go_wp2_with fail
    refine HG.out.mono ?_
    rintro e w1 ⟨rfl, hb⟩
    have h3 := H3.out.below hb
    have HA1 := Lib.hid (HA.out.below hb)
    have H31 := Lib.hid h3
    obtain ⟨-, r1, r2, r3⟩ := h3
    obtain ⟨⟨b0, b1, b2⟩, -⟩ := r1.three
    obtain ⟨⟨p0, p1⟩, -⟩ := r2.two
    obtain ⟨⟨z0, z1⟩, zf⟩ := r3.two
    have lt3 := r3.lt
    clear r1 r2 r3 hb
    obtain ⟨vm, c0, c1, c2, hm⟩ := HA1.out
    obtain rfl := Option.some.inj (b2.symm.trans c2)
    obtain ⟨A, c, rfl⟩ := RdL.shape hm
    clear c0 c1 c2 hm
    have n2 := HK.out.n2
    have n1 := HK.out.n1
    by_cases hp : placeIn t s (px, py) = true
    · have HP := Lib.hid hp
      obtain ⟨⟨x0, x1⟩, y0, y1⟩ := placeIn_parts hp
      simp only at x0 x1 y0 y1
      obtain ⟨q, rfl⟩ := Int.eq_ofNat_of_zero_le x0
      obtain ⟨a, rfl⟩ := Int.eq_ofNat_of_zero_le y0
      have d1 : within (q : Int) 0 ((t.mv.length : Int) - 1) = true := by simp [within]; omega
      have d2 : within (a : Int) 0 ((s.size : Int) + 1) = true := by simp [within]; omega
      have HAt := Lib.hid (l02At_any _ t s q a w1 HA1.out HK.out HL.out s60 (by omega) (by omega))
      clear hp
      go_wp2_with (go_at_call 34; refine (l00In_w _ _ _ _).mono ?_; rintro e w' ⟨rfl, rfl⟩)
      refine HAt.out.mono ?_
      rintro e w2 ⟨rfl, hb⟩
      have h3 := H31.out.below hb
      have H32 := Lib.hid h3
      obtain ⟨-, r1, r2, r3⟩ := h3
      clear b0 b1 b2 p0 p1 z0 z1 zf lt3
      obtain ⟨⟨p0, p1⟩, -⟩ := r2.two
      obtain ⟨⟨z0, z1⟩, zf⟩ := r3.two
      have lt3 := r3.lt
      have lt2 := r2.lt
      clear r1 r2 r3 hb
      have hres : stepRes t s ((q : Int), (a : Int)) = if (moveOn t s q a).1 < 0 then ((0, 0), 4) else (((moveOn t s q a).1, (a : Int) + (moveOn t s q a).2), 0) := by
        simp [stepRes, HGC.out, HP.out]
      have HRS := Lib.hid hres
      clear hres
      have hdir : -1 ≤ (moveOn t s q a).2 ∧ (moveOn t s q a).2 ≤ 1 := by
        obtain ⟨k, hk, hk2⟩ := signN_ok HK.out.l1 HK.out.l2 HL.out (show a ≤ s.size + 1 by omega)
        obtain ⟨x, m, -, -, hat, hmv, -⟩ := HK.out.at (show q < t.mv.length by omega) hk2
        rw [moveOn_eq hk, hat]
        have := okMove_out hmv
        omega
      have HY := Lib.hid hdir
      clear hdir
      generalize moveOn t s q a = mv at *
      obtain ⟨mx, my⟩ := mv
      simp only at *
      by_cases hneg : mx < 0
      · have HN := Lib.hid hneg
        go_wp2
        have hE := (H32.out.store (.int .i64 0) (.int .i64 0)).alloc (.cells #[.int .i64 mx, .int .i64 my] 82)
        generalize (((w2.setCell ⟨w.heap.size + 1 + 1, 0, none⟩ (.int .i64 0)).setCell ⟨w.heap.size + 1 + 1, 1, none⟩ (.int .i64 0)).alloc (.cells #[.int .i64 mx, .int .i64 my] 82)) = W2 at *
        obtain ⟨⟨e0, e1⟩, hB⟩ := hE
        refine bodyPost_ret (v := .tuple #[.agg #[.int .i64 0, .int .i64 0], .int .i64 4]) (by simp [results, Try.results22, go_sem, e0, e1]) rfl ⟨?_, hB⟩
        rw [HRS.out, if_pos HN.out]
      · have HN := Lib.hid hneg
        have hy1 := HY.out.1
        have hy2 := HY.out.2
        clear hneg
        have d3 : decide (mx < 0) = false := by have := HN.out; simpa using this
        go_wp2
        have hE := (H32.out.store (.int .i64 mx) (.int .i64 ((a : Int) + my))).alloc (.cells #[.int .i64 mx, .int .i64 my] 82)
        generalize (((w2.setCell ⟨w.heap.size + 1 + 1, 0, none⟩ (.int .i64 mx)).setCell ⟨w.heap.size + 1 + 1, 1, none⟩ (.int .i64 ((a : Int) + my))).alloc (.cells #[.int .i64 mx, .int .i64 my] 82)) = W2 at *
        obtain ⟨⟨e0, e1⟩, hB⟩ := hE
        refine bodyPost_ret (v := .tuple #[.agg #[.int .i64 mx, .int .i64 ((a : Int) + my)], .int .i64 0]) (by simp [results, Try.results22, go_sem, e0, e1]) rfl ⟨?_, hB⟩
        rw [HRS.out, if_neg (by have := HN.out; omega)]
    · have hp' : placeIn t s (px, py) = false := by simpa using hp
      have HP := Lib.hid hp'
      clear hp hp'
      have hres : stepRes t s (px, py) = ((0, 0), 2) := by simp [stepRes, HGC.out, HP.out]
      have HRS := Lib.hid hres
      clear hres
      have hor : within px 0 ((t.mv.length : Int) - 1) = false ∨ (within px 0 ((t.mv.length : Int) - 1) = true ∧ within py 0 ((s.size : Int) + 1) = false) := by
        have := HP.out
        simp only [placeIn, Bool.and_eq_false_iff] at this
        cases h : within px 0 ((t.mv.length : Int) - 1)
        · exact .inl rfl
        · rcases this with h1 | h1
          · rw [h] at h1; cases h1
          · exact .inr ⟨rfl, h1⟩
      rcases hor with d1 | ⟨d1, d2⟩
      all_goals
        go_wp2_with (go_at_call 34; refine (l00In_w _ _ _ _).mono ?_; rintro e w' ⟨rfl, rfl⟩)
        have hE := H31.out.store (.int .i64 0) (.int .i64 0)
        generalize ((w1.setCell ⟨w.heap.size + 1 + 1, 0, none⟩ (.int .i64 0)).setCell ⟨w.heap.size + 1 + 1, 1, none⟩ (.int .i64 0)) = W2 at *
        obtain ⟨⟨e0, e1⟩, hB⟩ := hE
        refine bodyPost_ret (v := .tuple #[.agg #[.int .i64 0, .int .i64 0], .int .i64 2]) (by simp [results, Try.results22, go_sem, e0, e1]) rfl ⟨?_, hB⟩
        rw [HRS.out]
  · have HGC := Lib.hid hg
    rw [hg] at HG
    clear hg
    go_enter Try.func22, Try.ntmps22
    go_wp2_with fail
    refine HG.out.mono ?_
    rintro e w1 ⟨rfl, hb⟩
    have h3 := H3.out.below hb
    have H31 := Lib.hid h3
    have r3 := h3.2.2.2
    obtain ⟨⟨z0, z1⟩, zf⟩ := r3.two
    have lt3 := r3.lt
    clear r3 hb h3
    go_wp2
    have hE := H31.out.store (.int .i64 0) (.int .i64 0)
    generalize ((w1.setCell ⟨w.heap.size + 1 + 1, 0, none⟩ (.int .i64 0)).setCell ⟨w.heap.size + 1 + 1, 1, none⟩ (.int .i64 0)) = W2 at *
    obtain ⟨⟨e0, e1⟩, hB⟩ := hE
    refine bodyPost_ret (v := .tuple #[.agg #[.int .i64 0, .int .i64 0], .int .i64 1]) (by simp [results, Try.results22, go_sem, e0, e1]) rfl ⟨?_, hB⟩
    have hres : stepRes t s (px, py) = ((0, 0), 1) := by simp [stepRes, HGC.out]
    rw [hres]
end Go.Proofs.Ytpkbpflnjbeedaa
