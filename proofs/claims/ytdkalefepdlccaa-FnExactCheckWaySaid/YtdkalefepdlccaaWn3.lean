/-
  The places to which a wanderer goes: the model's walk, and both answers.
-/
import Derived.Test.YtdkalefepdlccaaWn2
namespace Go.Proofs.Ytdkalefepdlccaa
open Go.RowKit

def placeInW (r : WData) (s : ByteArray) (p : Int × Int) : Bool := within p.1 0 ((r.mv.length : Int) - 1) && within p.2 0 ((s.size : Int) + 1)
theorem placeInW_parts {r : WData} {s : ByteArray} {p : Int × Int} (h : placeInW r s p = true) : (0 ≤ p.1 ∧ p.1 ≤ (r.mv.length : Int) - 1) ∧ (0 ≤ p.2 ∧ p.2 ≤ (s.size : Int) + 1) := by
  simpa [placeInW, within] using h
def npRes (r : WData) (s : ByteArray) (p : Int × Int) : List (Int × Int) × Bool × Int :=
  if givenW r s = 0 then (if placeInW r s p = true then (nextOf p.2 (moveList r s p.1.toNat p.2.toNat), takeOf (moveList r s p.1.toNat p.2.toNat), 0) else ([], false, 2)) else ([], false, 1)

set_option maxHeartbeats 1600000 in
theorem l04Place_any (b0 : Nat) (r : WData) (s : ByteArray) (px py : Int) (w : World) (h : AtW w b0 r) (n1 : 1 ≤ r.mv.length) (hs : s.size ≤ 60) :
    Calls Try.prog 83 #[.pointer (some ⟨b0, 0, none⟩), .string s, .agg #[.int .i64 px, .int .i64 py]] w fun e w' => e = .returned (.bool (placeInW r s (px, py))) ∧ Below w.heap.size w w' := by
  obtain ⟨a, b, c0, c1, c2, hst, hmv⟩ := h
  obtain ⟨B, kb, rfl, -, a2, -⟩ := RdL.open hmv
  unfold maxLen at a2
  have a1 : r.mv.length ≤ kb := by obtain ⟨_, _, e, h1, _⟩ := RdL.open hmv; cases e; exact h1
  have d0 := below_keep (below_alloc w (.cells #[.int .i64 px, .int .i64 py] 70)) c0
  have d2 := below_keep (below_alloc w (.cells #[.int .i64 px, .int .i64 py] 70)) c2
  obtain ⟨⟨e0, e1⟩, -⟩ := (Row.new w [.int .i64 px, .int .i64 py] 70).two
  have w1 : IntKind.i64.wrap ((r.mv.length : Int) - 1) = (r.mv.length : Int) - 1 := IntWalk.i64_in _ (by omega)
  have w2 : IntKind.i64.wrap ((s.size : Int) + 1) = (s.size : Int) + 1 := IntWalk.i64_in _ (by omega)
  have HB := Lib.hid (below_alloc w (.cells #[.int .i64 px, .int .i64 py] 70))
  have HE := Lib.hid (show placeInW r s (px, py) = (within px 0 ((r.mv.length : Int) - 1) && within py 0 ((s.size : Int) + 1)) from rfl)
  clear hst hmv c0 c1 c2
  cases hw1 : within px 0 ((r.mv.length : Int) - 1)
  · have HW := Lib.hid hw1
    go_enter Try.func83, Try.ntmps83
    go_wp2_with fail
    go_quiet ((go_at_call 118; exact Calls.quiet_of_same ((l00In_w _ _ _ _).mono fun _ _ ⟨a, b⟩ => ⟨a, b.symm⟩)))
    go_wp2
    go_ret
    exact ⟨ret_bool (by rw [HE.out, HW.out]; rfl), below_drewN HB.out _⟩
  · have HW := Lib.hid hw1
    go_enter Try.func83, Try.ntmps83
    go_wp2_with fail
    go_quiet ((go_at_call 118; exact Calls.quiet_of_same ((l00In_w _ _ _ _).mono fun _ _ ⟨a, b⟩ => ⟨a, b.symm⟩)))
    go_wp2
    go_ret
    exact ⟨ret_bool (by rw [HE.out, HW.out]; simp), below_drewN HB.out _⟩

section
attribute [local go_sem ↓ high] builtin_append_heldN
set_option maxRecDepth 100000 in
set_option maxHeartbeats 6400000 in
theorem l04Next_own (b0 : Nat) (r : WData) (s : ByteArray) (q a : Nat) (w : World) (h : AtW w b0 r) (ok : OkW r) (hl : lettersOk r.L s = true) (hs : s.size ≤ 60) (hq : q < r.mv.length) (ha : a ≤ s.size + 1) :
    Calls Try.prog 84 #[.pointer (some ⟨b0, 0, none⟩), .string s, .agg #[.int .i64 (q : Int), .int .i64 (a : Int)]] w fun e w' => ∃ u bs, e = .returned (.tuple #[u, .bool (takeOf (moveList r s q a))]) ∧ OwP 70 w' w.heap.size u (nextOf (a : Int) (moveList r s q a)) bs ∧ Below w.heap.size w w' := by
  obtain ⟨im, him, hzm0, hzm1, hzm2⟩ := info_parts infoPlace
  obtain ⟨k0, hk0, hk1⟩ := signN_ok ok.l1 ok.l2 hl ha
  obtain ⟨x, l, hx, hll, hat, hxl, hok, hl18⟩ := ok.at hq hk1
  have hml : moveList r s q a = l := by unfold moveList; rw [hk0]; simpa using hat
  rw [hml]
  have HS := Lib.hid (fun W => (show Calls Try.prog 119 #[.int .i64 r.L, .string s, .int .i64 (a : Int)] W fun e w' => e = .returned (.int .i64 (k0 : Int)) ∧ W = w' from hk0 ▸ l04Under_any r.L s a W ok.l1 ok.l2 hs ha hl))
  have HMV := Lib.hid (fun (i : Nat) (m : Int × Int) (hm : l[i]? = some m) => okMvW_out (okList_mv hok hm))
  have hn5 := ok.n2
  have hb1 := ok.l2
  obtain ⟨va, vb, c0, c1, c2, hst, hmv⟩ := h
  obtain ⟨B, kb, rfl, a1, a2, a3⟩ := RdL.open hmv
  unfold maxLen at a2
  obtain ⟨b, off, ux, x', rfl, hx', hcx, hRx⟩ := a3 q hq
  rw [hx] at hx'
  cases hx'
  obtain ⟨C, kc, rfl, x1, x2, x3⟩ := RdL.open hRx
  unfold maxLen at x2
  obtain ⟨b2, off2, ul, l', rfl, hl', hcl, hRl⟩ := x3 k0 (by omega)
  rw [hll] at hl'
  cases hl'
  obtain ⟨D, kd, rfl, y1, y2, y3⟩ := RdP.open hRl
  unfold maxLen at y2
  have HB := Lib.hid (below_alloc w (.cells #[.int .i64 (q : Int), .int .i64 (a : Int)] 70))
  have HR := Lib.hid (Row.new w [.int .i64 (q : Int), .int .i64 (a : Int)] 70)
  have hc1 := below_keep HB.out hcx
  have hc2 := below_keep HB.out hcl
  have d0 := below_keep HB.out c0
  have d2 := below_keep HB.out c2
  have i1 : (0 : Int) ≤ q := by omega
  have i2 : (q : Int) < r.mv.length := by omega
  have i3 : (0 : Int) ≤ k0 := by omega
  have i4 : (k0 : Int) < x.length := by omega
  clear hst hmv a3 hcx hRx x3 hcl hRl hx hll hat hok hml hk0 c0 c1 c2
  go_enter Try.func84, Try.ntmps84
  go_wp2_with fail
  generalize w.alloc (.cells #[.int .i64 (q : Int), .int .i64 (a : Int)] 70) = W0 at *
  obtain ⟨⟨p0, p1⟩, -⟩ := HR.out.two
  go_quiet ((go_at_call 119; exact Calls.quiet_of_same ((HS.out _).mono fun _ _ ⟨a, b⟩ => ⟨a, b.symm⟩)))
  have HBW := Lib.hid (below_drewN HB.out nq)
  have HRN := Lib.hid (show Row (W0.drewN nq) w.heap.size 70 [.int .i64 (q : Int), .int .i64 (a : Int)] from HR.out.below (below_drewN' _ _) HR.out.lt)
  clear p0 p1 hc1 hc2 d0 d2 i1 i2 i3 i4
  generalize W0.drewN nq = W1 at *
  have HN0 := Lib.hid (show NxI W1 (.slice (some ⟨W1.heap.size, 0, none⟩) 0 0) 0 (nextOf (a : Int) (l.take 0)) (W1.alloc (.cells #[] 70)) from ⟨below_alloc _ _, World.ownsRow_lit (base := W1.heap.size) (e := 70) (size := 2) W1 #[] 0 (Nat.le_refl _) (by unfold maxLen; omega) rfl⟩)
  go_wp2
  go_loopw [9, 10, 11] (fun pv tv iv wr => ∃ (k n kn : Nat) (Bn : Option Addr), k ≤ l.length ∧ n ≤ k ∧ iv = .int .i64 k ∧ pv = .slice Bn n kn ∧ tv = .bool (takeOf (l.take k)) ∧ n = (nextOf (a : Int) (l.take k)).length ∧ NxI W1 (.slice Bn n kn) n (nextOf (a : Int) (l.take k)) wr) (fun _ _ iv _ => l.length - (intOf iv).toNat)
  case atStart => exact ⟨0, 0, 0, _, Nat.zero_le _, Nat.le_refl _, rfl, rfl, by simp [takeOf], by simp [nextOf], HN0.out⟩
  case round =>
    clear HN0
    obtain ⟨k, n, kn, Bn, hk, hnk, rfl, rfl, rfl, hn, hI⟩ := hrel
    have HI := Lib.hid hI
    have hb := hI.1
    have HNN := Lib.hid hn
    clear hI hn
    by_cases hlt : k < l.length
    · obtain ⟨bt, offt, tx, ty, rfl, ht, hct, hdt⟩ := y3 k hlt
      have hbw := below_step HBW.out hb
      have gt := below_keep hbw hct
      have gd := below_keep hbw hdt
      have HT := Lib.hid ht
      have hmv := HMV.out k _ ht
      simp only at hmv
      have j1 : (0 : Int) ≤ k := by omega
      have j2 : (k : Int) < l.length := by omega
      obtain ⟨⟨p0, p1⟩, -⟩ := (HRN.out.below hb HRN.out.lt).two
      clear ht hct hdt hb hbw y3
      by_cases htx : tx < 0
      · have d1 : decide (tx < 0) = true := decide_eq_true htx
        have HTK := Lib.hid (takeOf_no HT.out htx)
        have HNX := Lib.hid (nextOf_no (a := (a : Int)) HT.out htx)
        clear hmv htx
        go_wp2
        go_roundw
        case rel => exact ⟨k + 1, n, kn, Bn, by omega, by omega, by go_num, rfl, by rw [HTK.out], by rw [HNX.out]; exact HNN.out, by rw [HNX.out]; exact HI.out⟩
        case measure => simp [intOf]; omega
      · have d1 : decide (tx < 0) = false := decide_eq_false htx
        have HTK := Lib.hid (takeOf_go HT.out htx)
        have HNX := Lib.hid (nextOf_go (a := (a : Int)) HT.out htx)
        have hy1 : -1 ≤ ty := by omega
        have hy2 : ty ≤ 1 := by omega
        have w3 : IntKind.i64.wrap ((a : Int) + ty) = (a : Int) + ty := IntWalk.i64_in _ (by omega)
        clear hmv htx
        go_wp2_with fail
        obtain ⟨g3, cap3, w5, hrun, hown3, hgrow3, hat3, -⟩ := run_append_lies (P := Try.prog) (w := (wr.alloc (.cells #[.int .i64 tx, .int .i64 ((a : Int) + ty)] 70)).drew) 26 26 W1.heap.size 70 im _ 2 16 Try.underlying26 him hzm0 hzm1 hzm2 rfl (by decide) (.slice Bn n kn) n _ (HI.out.2.alloc _).drew ⟨wr.heap.size, 0, none⟩ 1 1 [.int .i64 tx, .int .i64 ((a : Int) + ty)] rfl (World.news_of_block (cs := #[.int .i64 tx, .int .i64 ((a : Int) + ty)]) (t := 70) (fr := (0, 0)) (heap_alloc_new wr _)) (by simp [Value.oneCell']) (by omega) (by unfold maxLen; omega) (by omega) (by have := HI.out.1.size; simp; omega) (wr.heap.size + 1) (by simp)
        have hrun1 : (heldAppendN _ _ _).run _ _ = _ := hrun
        have hgA := undrewN hgrow3
        have hE := HI.out.snoc (m := (tx, (a : Int) + ty)) (below_alloc _ _) hgA hown3
        rw [← HNX.out] at hE
        have HE := Lib.hid hE
        clear hrun hown3 hgrow3 hat3 hgA hE
        go_region
        clear hrun1 w3
        all_goals
          go_wp2
          go_roundw
          case rel => exact ⟨k + 1, n + 1, cap3, _, by omega, by omega, by go_num, rfl, by rw [HTK.out], by rw [HNX.out, List.length_append, ← HNN.out]; rfl, HE.out⟩
          case measure => simp [intOf]; omega
    · obtain rfl : k = l.length := by omega
      clear hb y3
      go_wp2
      refine bodyPost_ret (v := .tuple #[.slice Bn n kn, .bool (takeOf (l.take l.length))]) (by simp [results, Try.results84, go_sem]) rfl ?_
      have hI := HI.out
      have hn := HNN.out
      rw [List.take_of_length_le (Nat.le_refl _)] at *
      refine ⟨_, _, rfl, ⟨?_, rfl⟩, HBW.out.trans (hI.1.mono HBW.out.size)⟩
      rw [← hn]
      exact World.ownsRow.mono hI.2 HBW.out.size
end

set_option maxRecDepth 100000 in
set_option maxHeartbeats 3200000 in
theorem specNP_rd (v : Value) (r : WData) (s : ByteArray) (p : Int × Int) (w : World) (h : RdW w v r) (hs : s.size ≤ maxLen) :
    Calls Try.prog 49 #[v, .string s, .agg #[.int .i64 p.1, .int .i64 p.2]] w fun e w' => ∃ u, e = .returned (.tuple #[u, .bool (npRes r s p).2.1, .int .i64 (npRes r s p).2.2]) ∧ RdP w' u (npRes r s p).1 ∧ Below w.heap.size w w' := by
  obtain ⟨px, py⟩ := p
  obtain ⟨va, vb, rfl, hA⟩ := atW_box h 68
  have HB := Lib.hid ((below_alloc w (.cells #[.int .i64 r.L, va, vb] 68)).alloc (by simp) (.cells #[.int .i64 px, .int .i64 py] 70))
  have HA := Lib.hid (hA.below (below_alloc _ (.cells #[.int .i64 px, .int .i64 py] 70)))
  have hr : Row ((w.alloc (.cells #[.int .i64 r.L, va, vb] 68)).alloc (.cells #[.int .i64 px, .int .i64 py] 70)) (w.heap.size + 1) 70 [.int .i64 px, .int .i64 py] := by
    simpa using Row.new (w.alloc (.cells #[.int .i64 r.L, va, vb] 68)) [.int .i64 px, .int .i64 py] 70
  have HR := Lib.hid hr
  have HG := Lib.hid (l04Given_any _ r s _ HA.out hs)
  clear h hA hr
  simp only
  go_enter Try.func49, Try.ntmps49
  go_wp2_with fail
  refine HG.out.mono ?_
  generalize (w.alloc (.cells #[.int .i64 r.L, va, vb] 68)).alloc (.cells #[.int .i64 px, .int .i64 py] 70) = W0 at *
  rintro e w1 ⟨rfl, hb1⟩
  have HB1 := Lib.hid (below_step HB.out hb1)
  have HA1 := Lib.hid (HA.out.below hb1)
  have HR1 := Lib.hid (HR.out.below hb1 HR.out.lt)
  clear hb1 HG
  obtain ⟨⟨p0, p1⟩, -⟩ := HR1.out.two
  rcases givenW_or r s with hg | hg
  · obtain ⟨ok1, ok2⟩ := givenW_zero hg
    have HOK := Lib.hid (okW_out ok1)
    obtain ⟨s60, hl⟩ := okWord_parts ok2
    have HG0 := Lib.hid hg
    have HL := Lib.hid hl
    have HPL := Lib.hid (l04Place_any _ r s px py w1 HA1.out HOK.out.n1 s60)
    rw [hg]
    clear hg ok1 ok2 hl
    go_wp2_with fail
    refine HPL.out.mono ?_
    rintro e w2 ⟨rfl, hb2⟩
    have HB2 := Lib.hid (below_step HB1.out hb2)
    have HA2 := Lib.hid (HA1.out.below hb2)
    have HR2 := Lib.hid (HR1.out.below hb2 HR1.out.lt)
    clear hb2 p0 p1
    obtain ⟨⟨p0, p1⟩, -⟩ := HR2.out.two
    cases hp : placeInW r s (px, py)
    · have HRES := Lib.hid (show npRes r s (px, py) = ([], false, 2) by unfold npRes; rw [if_pos HG0.out, if_neg (by rw [hp]; decide)])
      have HO := Lib.hid (World.ownsRow_lit (base := w2.heap.size) (e := 70) (size := 2) w2 #[] 0 (Nat.le_refl _) (by unfold maxLen; omega) rfl)
      clear hp
      go_wp2
      refine bodyPost_ret (v := .tuple #[.slice (some ⟨w2.heap.size, 0, none⟩) 0 0, .bool false, .int .i64 2]) (by simp [results, Try.results49, go_sem]) rfl ?_
      rw [HRES.out]
      exact ⟨_, rfl, (show OwP 70 _ w2.heap.size _ [] _ from ⟨HO.out, rfl⟩).rd, below_step HB2.out (below_alloc _ _)⟩
    · obtain ⟨⟨x0, x1⟩, y0, y1⟩ := placeInW_parts hp
      simp only at x0 x1 y0 y1
      obtain ⟨q, rfl⟩ := Int.eq_ofNat_of_zero_le x0
      obtain ⟨a, rfl⟩ := Int.eq_ofNat_of_zero_le y0
      have HRES := Lib.hid (show npRes r s ((q : Int), (a : Int)) = (nextOf (a : Int) (moveList r s q a), takeOf (moveList r s q a), 0) by unfold npRes; rw [if_pos HG0.out, if_pos hp]; rfl)
      have HNX := Lib.hid (l04Next_own _ r s q a w2 HA2.out HOK.out HL.out s60 (by omega) (by omega))
      clear hp
      go_wp2_with fail
      refine HNX.out.mono ?_
      rintro e w3 ⟨u, bs, rfl, hu, hb3⟩
      have HU := Lib.hid hu.rd
      have HB3 := Lib.hid (below_step HB2.out hb3)
      clear hu hb3 p0 p1
      go_wp2
      refine bodyPost_ret (v := .tuple #[u, .bool (takeOf (moveList r s q a)), .int .i64 0]) (by simp [results, Try.results49, go_sem]) rfl ?_
      rw [HRES.out]
      exact ⟨_, rfl, HU.out, HB3.out⟩
  · have HRES := Lib.hid (show npRes r s (px, py) = ([], false, 1) by unfold npRes; rw [if_neg (by rw [hg]; decide)])
    have HO := Lib.hid (World.ownsRow_lit (base := w1.heap.size) (e := 70) (size := 2) w1 #[] 0 (Nat.le_refl _) (by unfold maxLen; omega) rfl)
    rw [hg]
    clear hg
    go_wp2
    refine bodyPost_ret (v := .tuple #[.slice (some ⟨w1.heap.size, 0, none⟩) 0 0, .bool false, .int .i64 1]) (by simp [results, Try.results49, go_sem]) rfl ?_
    rw [HRES.out]
    exact ⟨_, rfl, (show OwP 70 _ w1.heap.size _ [] _ from ⟨HO.out, rfl⟩).rd, below_step HB1.out (below_alloc _ _)⟩

set_option maxRecDepth 100000 in
set_option maxHeartbeats 3200000 in
theorem implNP_own (v : Value) (r : WData) (s : ByteArray) (p : Int × Int) (w : World) (h : RdW w v r) (hs : s.size ≤ maxLen) :
    Calls Try.prog 52 #[v, .string s, .agg #[.int .i64 p.1, .int .i64 p.2]] w fun e w' => ∃ u bs, e = .returned (.tuple #[u, .bool (npRes r s p).2.1, .int .i64 (npRes r s p).2.2]) ∧ OwP 70 w' w.heap.size u (npRes r s p).1 bs ∧ Below w.heap.size w w' := by
  obtain ⟨px, py⟩ := p
  have HG := Lib.hid (fun W (hb : Below w.heap.size w W) => wanderCode_any v r s W (keepsW _ _ _ _ h hb) hs)
  have HV := Lib.hid (fun W (hb : Below w.heap.size w W) => statesW_any v r W (keepsW _ _ _ _ h hb))
  have HNX := Lib.hid (fun W (q a : Nat) (ok : OkW r) hl h6 hq ha (hb : Below w.heap.size w W) => next_own v r s q a W (keepsW _ _ _ _ h hb) ok hl h6 hq ha)
  obtain ⟨A, ka, B, kb, rfl⟩ := h.shape
  have HB := Lib.hid ((below_alloc w (.cells #[.int .i64 r.L, .slice A r.st.length ka, .slice B r.mv.length kb] 68)).alloc (by simp) (.cells #[.int .i64 px, .int .i64 py] 70))
  have hr1 := (Row.new w [.int .i64 r.L, .slice A r.st.length ka, .slice B r.mv.length kb] 68).alloc (.cells #[.int .i64 px, .int .i64 py] 70)
  have hr2 : Row ((w.alloc (.cells #[.int .i64 r.L, .slice A r.st.length ka, .slice B r.mv.length kb] 68)).alloc (.cells #[.int .i64 px, .int .i64 py] 70)) (w.heap.size + 1) 70 [.int .i64 px, .int .i64 py] := by
    simpa using Row.new (w.alloc (.cells #[.int .i64 r.L, .slice A r.st.length ka, .slice B r.mv.length kb] 68)) [.int .i64 px, .int .i64 py] 70
  have HR := Lib.hid (show _ ∧ _ from ⟨hr1, hr2⟩)
  clear h hr1 hr2
  simp only
  go_enter Try.func52, Try.ntmps52
  go_wp2_with fail
  refine (HG.out _ HB.out).mono ?_
  generalize (w.alloc (.cells #[.int .i64 r.L, .slice A r.st.length ka, .slice B r.mv.length kb] 68)).alloc (.cells #[.int .i64 px, .int .i64 py] 70) = W0 at *
  rintro e w1 ⟨rfl, hb1⟩
  have HB1 := Lib.hid (below_step HB.out hb1)
  have HR1 := Lib.hid (show _ ∧ _ from ⟨HR.out.1.below hb1 HR.out.1.lt, HR.out.2.below hb1 HR.out.2.lt⟩)
  clear hb1
  obtain ⟨⟨b0, b1, b2⟩, -⟩ := HR1.out.1.three
  obtain ⟨⟨p0, p1⟩, -⟩ := HR1.out.2.two
  rcases givenW_or r s with hg | hg
  · obtain ⟨ok1, ok2⟩ := givenW_zero hg
    have HOK := Lib.hid (okW_out ok1)
    obtain ⟨s60, hl⟩ := okWord_parts ok2
    have HG0 := Lib.hid hg
    have HL := Lib.hid hl
    rw [hg]
    clear hg ok1 ok2 hl
    cases hp : placeInW r s (px, py)
    · have HP0 := Lib.hid (fun W => isPlace_w (px := px) (py := py) (n := r.mv.length) (s := s) (b := false) hp W s60)
      have HRES := Lib.hid (show npRes r s (px, py) = ([], false, 2) by unfold npRes; rw [if_pos HG0.out, if_neg (by rw [hp]; decide)])
      clear hp
      go_wp2_with fail
      go_region_held3 (fun W => W.cell? ⟨w.heap.size, 0, none⟩ = some (.int .i64 r.L) ∧ W.cell? ⟨w.heap.size, 1, none⟩ = some (.slice A r.st.length ka) ∧ W.cell? ⟨w.heap.size, 2, none⟩ = some (.slice B r.mv.length kb) ∧ W.cell? ⟨w.heap.size + 1, 0, none⟩ = some (.int .i64 px) ∧ W.cell? ⟨w.heap.size + 1, 1, none⟩ = some (.int .i64 py))
        (first | go_keep | (go_split_ands; refine ⟨?_, ?_, ?_, ?_, ?_⟩ <;> exact below_keep hbk (by assumption)))
        (first
          | (go_at_call 89; (with_reducible refine (HV.out _ (below_step HB1.out (by first | exact Below.refl _ _ | exact below_drew _ | exact below_drewN' _ _))).mono ?_); rintro e wz ⟨rfl, hbk⟩; have HCz := Lib.hid (show Below w1.heap.size w1 wz from below_step (by first | exact Below.refl _ _ | exact below_drew _ | exact below_drewN' _ _) hbk))
          | (go_at_call 88; (with_reducible refine (HP0.out _).mono ?_); rintro e wy ⟨rfl, hbk⟩; have HCy := Lib.hid (below_step HCz.out (below_step (by first | exact Below.refl _ _ | exact below_drew _ | exact below_drewN' _ _) hbk))))
      clear b0 b1 b2 p0 p1
      go_wp2
      refine bodyPost_ret (v := .tuple #[.slice none 0 0, .bool false, .int .i64 2]) (by simp [results, Try.results52, go_sem]) rfl ?_
      rw [HRES.out]
      exact ⟨_, _, rfl, owP_nil _ _ _, below_step HB1.out HCy.out⟩
    · obtain ⟨⟨x0, x1⟩, y0, y1⟩ := placeInW_parts hp
      simp only at x0 x1 y0 y1
      obtain ⟨q, rfl⟩ := Int.eq_ofNat_of_zero_le x0
      obtain ⟨a, rfl⟩ := Int.eq_ofNat_of_zero_le y0
      have HP0 := Lib.hid (fun W => isPlace_w (px := (q : Int)) (py := (a : Int)) (n := r.mv.length) (s := s) (b := true) hp W s60)
      have HRES := Lib.hid (show npRes r s ((q : Int), (a : Int)) = (nextOf (a : Int) (moveList r s q a), takeOf (moveList r s q a), 0) by unfold npRes; rw [if_pos HG0.out, if_pos hp]; rfl)
      clear hp
      go_wp2_with fail
      go_region_held3 (fun W => W.cell? ⟨w.heap.size, 0, none⟩ = some (.int .i64 r.L) ∧ W.cell? ⟨w.heap.size, 1, none⟩ = some (.slice A r.st.length ka) ∧ W.cell? ⟨w.heap.size, 2, none⟩ = some (.slice B r.mv.length kb) ∧ W.cell? ⟨w.heap.size + 1, 0, none⟩ = some (.int .i64 (q : Int)) ∧ W.cell? ⟨w.heap.size + 1, 1, none⟩ = some (.int .i64 (a : Int)))
        (first | go_keep | (go_split_ands; refine ⟨?_, ?_, ?_, ?_, ?_⟩ <;> exact below_keep hbk (by assumption)))
        (first
          | (go_at_call 89; (with_reducible refine (HV.out _ (below_step HB1.out (by first | exact Below.refl _ _ | exact below_drew _ | exact below_drewN' _ _))).mono ?_); rintro e wz ⟨rfl, hbk⟩; have HCz := Lib.hid (show Below w1.heap.size w1 wz from below_step (by first | exact Below.refl _ _ | exact below_drew _ | exact below_drewN' _ _) hbk))
          | (go_at_call 88; (with_reducible refine (HP0.out _).mono ?_); rintro e wy ⟨rfl, hbk⟩; have HCy := Lib.hid (below_step HCz.out (below_step (by first | exact Below.refl _ _ | exact below_drew _ | exact below_drewN' _ _) hbk))))
      clear b0 b1 b2 p0 p1
      have HNY := Lib.hid (HNX.out _ q a HOK.out HL.out s60 (by omega) (by omega) (below_step HB1.out HCy.out))
      obtain ⟨⟨b0, b1, b2⟩, -⟩ := (HR1.out.1.below HCy.out HR1.out.1.lt).three
      obtain ⟨⟨p0, p1⟩, -⟩ := (HR1.out.2.below HCy.out HR1.out.2.lt).two
      go_wp2_with fail
      refine HNY.out.mono ?_
      rintro e w3 ⟨u, bs, rfl, hu, hb3⟩
      have HU := Lib.hid ((goodP _).mono hu (Nat.le_trans HB1.out.size HCy.out.size))
      have HB3 := Lib.hid (below_step (below_step HB1.out HCy.out) hb3)
      obtain ⟨Bu, ku, rfl⟩ := owP_shape hu
      clear hu hb3 p0 p1 b0 b1 b2
      go_wp2
      refine bodyPost_ret (v := .tuple #[.slice Bu (nextOf (a : Int) (moveList r s q a)).length ku, .bool (takeOf (moveList r s q a)), .int .i64 0]) (by simp [results, Try.results52, go_sem]) rfl ?_
      rw [HRES.out]
      exact ⟨_, _, rfl, HU.out, HB3.out⟩
  · have HRES := Lib.hid (show npRes r s (px, py) = ([], false, 1) by unfold npRes; rw [if_neg (by rw [hg]; decide)])
    rw [hg]
    clear hg
    go_wp2
    refine bodyPost_ret (v := .tuple #[.slice none 0 0, .bool false, .int .i64 1]) (by simp [results, Try.results52, go_sem]) rfl ?_
    rw [HRES.out]
    exact ⟨_, _, rfl, owP_nil _ _ _, HB1.out⟩
theorem np_num (r : WData) (s : ByteArray) (p : Int × Int) : ((2 * ((npRes r s p).1).length : Nat) : Int) ≤ 2305843009213693952 := by
  unfold npRes
  split
  · rename_i h
    split
    · rename_i hp
      obtain ⟨ok1, ok2⟩ := givenW_zero h
      obtain ⟨⟨x0, x1⟩, y0, y1⟩ := placeInW_parts hp
      have ok := okW_out ok1
      obtain ⟨k0, hk0, hk1⟩ := signN_ok ok.l1 ok.l2 (okWord_parts ok2).2 (show p.2.toNat ≤ s.size + 1 by omega)
      obtain ⟨x, l, -, -, hat, -, -, hl18⟩ := ok.at (show p.1.toNat < r.mv.length by omega) hk1
      have hml : moveList r s p.1.toNat p.2.toNat = l := by unfold moveList; rw [hk0]; simpa using hat
      have := nextOf_len p.2 l
      simp only [hml]
      omega
    · simp
  · simp
end Go.Proofs.Ytdkalefepdlccaa
