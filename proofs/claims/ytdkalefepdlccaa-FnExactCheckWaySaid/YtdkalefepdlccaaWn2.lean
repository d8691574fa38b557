/-
  Where a wanderer goes from a place: the program's and the model's walks.
-/
import Derived.Test.YtdkalefepdlccaaWn1
import Derived.Test.YtdkalefepdlccaaQPlace
import Derived.BigRegion
namespace Go.Proofs.Ytdkalefepdlccaa
open Go.RowKit

def heldAppendN (ats : Array TypeId) (ty : TypeId) (args : Array Value) : Sem Value := Builtin.append_ ats ty args
theorem builtin_append_heldN (ats : Array TypeId) (ty : TypeId) (cs : Array Bool) (args : Array Value) : builtin .append ats ty cs args = (do pure (.value (← heldAppendN ats ty args))) := rfl
theorem undrewN {w w' : World} {r : Option Nat} (h : w.drew.grownBy w' r) : w.grownBy w' r := ⟨h.os, h.tape, h.output, h.size, h.block⟩

theorem taStopYesN (W : World) (v : Value) : (Instr.typeAssert (.iface 143 v) 102 143 true).run Try.prog W = .ok (.tuple #[v, .bool true]) W := by kernel_rfl

/-- What a call has gathered: places, of which it owns the array. -/
def NxI (w : World) (v : Value) (n : Nat) (xs : List (Int × Int)) (wr : World) : Prop := Below w.heap.size w wr ∧ wr.ownsRow w.heap.size 70 2 v n (pcells xs)
theorem NxI.below {w : World} {v : Value} {n : Nat} {xs : List (Int × Int)} {wr w' : World} (h : NxI w v n xs wr) (hb : Below wr.heap.size wr w') : NxI w v n xs w' := ⟨below_step h.1 hb, rows_below h.2 hb⟩
theorem NxI.snoc {w : World} {v : Value} {n : Nat} {xs : List (Int × Int)} {wr w1 w3 : World} (h : NxI w v n xs wr) (hb : Below wr.heap.size wr w1) {g cap : Nat} {m : Int × Int} (hg : w1.grownBy w3 v.ownBlock) (ho : w3.ownsRow w.heap.size 70 2 (.slice (some ⟨g, 0, none⟩) (n + 1) cap) (n + 1) (pcells xs ++ [.int .i64 m.1, .int .i64 m.2])) :
    NxI w (.slice (some ⟨g, 0, none⟩) (n + 1) cap) (n + 1) (xs ++ [m]) w3 := by
  refine ⟨(below_step h.1 hb).trans (grown_below hg (by have := h.1.size; have := hb.size; omega) (fun b hm => (World.ownsRow.lt h.2 b (mem_blks.1 hm)).1)), ?_⟩
  rw [pcells_snoc]
  exact ho

set_option maxRecDepth 100000 in
set_option maxHeartbeats 6400000 in
theorem next_own (v : Value) (r : WData) (s : ByteArray) (q a : Nat) (w : World) (h : RdW w v r) (ok : OkW r) (hl : lettersOk r.L s = true) (hs : s.size ≤ 60) (hq : q < r.mv.length) (ha : a ≤ s.size + 1) :
    Calls Try.prog 90 #[v, .string s, .agg #[.int .i64 (q : Int), .int .i64 (a : Int)]] w fun e w' => ∃ u bs, e = .returned (.tuple #[u, .bool (takeOf (moveList r s q a))]) ∧ OwP 70 w' w.heap.size u (nextOf (a : Int) (moveList r s q a)) bs ∧ Below w.heap.size w w' := by
  obtain ⟨im, him, hzm0, hzm1, hzm2⟩ := info_parts infoPlace
  obtain ⟨k0, hk0, hk1⟩ := signN_ok ok.l1 ok.l2 hl ha
  obtain ⟨x, l, hx, hll, hat, hxl, hok, hl18⟩ := ok.at hq hk1
  have hml : moveList r s q a = l := by unfold moveList; rw [hk0]; simpa using hat
  rw [hml]
  have HS := Lib.hid (fun W => (show Calls Try.prog 108 #[.int .i64 r.L, .string s, .int .i64 (a : Int)] W fun e w' => e = .returned (.int .i64 (k0 : Int)) ∧ W = w' from hk0 ▸ signAt_any r.L s a W ok.l1 ok.l2 hs ha hl))
  have HMV := Lib.hid (fun (i : Nat) (m : Int × Int) (hm : l[i]? = some m) => okMvW_out (okList_mv hok hm))
  have hn5 := ok.n2
  have hb1 := ok.l2
  obtain ⟨va, vb, rfl, hst, hmv⟩ := h
  obtain ⟨A, ka, rfl⟩ := rdI_shape hst
  obtain ⟨B, kb, rfl, a1, a2, a3⟩ := RdL.open hmv
  unfold maxLen at a2
  obtain ⟨b, off, ux, x', rfl, hx', hcx, hRx⟩ := a3 q hq
  rw [hx] at hx'
  cases hx'
  obtain ⟨C, kc, rfl, x1, x2, x3⟩ := RdL.open hRx
  unfold maxLen at x2
  obtain ⟨b2, off2, ul, l', rfl, hl', hcl, hRl⟩ := x3 k0 (by omega)
  rw [hll] at hl'
  cases hl'
  obtain ⟨D, kd, rfl, y1, y2, y3⟩ := RdP.open hRl
  unfold maxLen at y2
  have HCX := Lib.hid (show _ ∧ _ from ⟨hcx, hcl⟩)
  have HB := Lib.hid ((below_alloc w (.cells #[.int .i64 r.L, .slice A r.st.length ka, .slice (some ⟨b, off, none⟩) r.mv.length kb] 68)).alloc (by simp) (.cells #[.int .i64 (q : Int), .int .i64 (a : Int)] 70))
  have hr1 := (Row.new w [.int .i64 r.L, .slice A r.st.length ka, .slice (some ⟨b, off, none⟩) r.mv.length kb] 68).alloc (.cells #[.int .i64 (q : Int), .int .i64 (a : Int)] 70)
  have hr2 : Row ((w.alloc (.cells #[.int .i64 r.L, .slice A r.st.length ka, .slice (some ⟨b, off, none⟩) r.mv.length kb] 68)).alloc (.cells #[.int .i64 (q : Int), .int .i64 (a : Int)] 70)) (w.heap.size + 1) 70 [.int .i64 (q : Int), .int .i64 (a : Int)] := by
    simpa using Row.new (w.alloc (.cells #[.int .i64 r.L, .slice A r.st.length ka, .slice (some ⟨b, off, none⟩) r.mv.length kb] 68)) [.int .i64 (q : Int), .int .i64 (a : Int)] 70
  have HR := Lib.hid (show _ ∧ _ from ⟨hr1, hr2⟩)
  have i1 : (0 : Int) ≤ q := by omega
  have i2 : (q : Int) < r.mv.length := by omega
  have i3 : (0 : Int) ≤ k0 := by omega
  have i4 : (k0 : Int) < x.length := by omega
  clear hst hmv a3 hcx hRx x3 hcl hRl hx hll hat hok hr1 hr2 hml hk0
  go_enter Try.func90, Try.ntmps90
  go_wp2_with fail
  have hc1 := below_keep HB.out HCX.out.1
  have hc2 := below_keep HB.out HCX.out.2
  generalize (w.alloc (.cells #[.int .i64 r.L, .slice A r.st.length ka, .slice (some ⟨b, off, none⟩) r.mv.length kb] 68)).alloc (.cells #[.int .i64 (q : Int), .int .i64 (a : Int)] 70) = W0 at *
  obtain ⟨⟨b0, b1, b2'⟩, -⟩ := HR.out.1.three
  obtain ⟨⟨p0, p1⟩, -⟩ := HR.out.2.two
  go_quiet ((go_at_call 108; exact Calls.quiet_of_same ((HS.out _).mono fun _ _ ⟨a, b⟩ => ⟨a, b.symm⟩)))
  have HBW := Lib.hid (below_drewN HB.out nq)
  clear b0 b1 b2' p0 p1 hc1 hc2 i1 i2 i3 i4
  have HRN := Lib.hid (show Row (W0.drewN nq) (w.heap.size + 1) 70 [.int .i64 (q : Int), .int .i64 (a : Int)] from HR.out.2.below (below_drewN' _ _) HR.out.2.lt)
  generalize W0.drewN nq = W1 at *
  have HN0 := Lib.hid (show NxI W1 (.slice none 0 0) 0 (nextOf (a : Int) (l.take 0)) W1 from ⟨Below.refl _ _, World.ownsRow_nil _ _ _ 2⟩)
  go_wp2
  go_loopw [8, 9, 29] (fun pv tv iv wr => ∃ (k n kn : Nat) (Bn : Option Addr), k ≤ l.length ∧ n ≤ k ∧ iv = .int .i64 k ∧ pv = .slice Bn n kn ∧ tv = .bool (takeOf (l.take k)) ∧ n = (nextOf (a : Int) (l.take k)).length ∧ NxI W1 (.slice Bn n kn) n (nextOf (a : Int) (l.take k)) wr) (fun _ _ iv _ => l.length - (intOf iv).toNat)
  case atStart => exact ⟨0, 0, 0, none, Nat.zero_le _, Nat.le_refl _, rfl, rfl, by simp [takeOf], by simp [nextOf], HN0.out⟩
  case round =>
    clear HN0
    obtain ⟨k, n, kn, Bn, hk, hnk, rfl, rfl, rfl, hn, hI⟩ := hrel
    have HI := Lib.hid hI
    have hb := hI.1
    have HQ := Lib.hid hb
    have HNN := Lib.hid hn
    clear hI hn
    by_cases hlt : k < l.length
    · obtain ⟨bt, offt, tx, ty, rfl, ht, hct, hdt⟩ := y3 k hlt
      have hbw := below_step HBW.out hb
      have gt := below_keep hbw hct
      have gd := below_keep hbw hdt
      have HT := Lib.hid ht
      have hmv := HMV.out k _ ht
      simp only at hmv
      have HMX := Lib.hid hmv
      have j1 : (0 : Int) ≤ k := by omega
      have j2 : (k : Int) < l.length := by omega
      clear ht hct hdt hb hbw y3
      by_cases htx : tx < 0
      · have htx1 : tx = -1 := by omega
        subst htx1
        have HTK := Lib.hid (takeOf_no HT.out (by show (-1 : Int) < 0; decide))
        have HNX := Lib.hid (nextOf_no (a := (a : Int)) HT.out (by show (-1 : Int) < 0; decide))
        go_wp2_with fail
        refine (deedOf_any _ _ _).mono ?_
        rintro e w2 ⟨rfl, hb2⟩
        have HB2 := Lib.hid (below_step (below_alloc wr (.cells #[.int .i64 (-1), .int .i64 ty] 96)) hb2)
        have hdv : deedV (-1, ty) = .iface 143 (.agg #[.bool true]) := by simp [deedV, stopV]
        rw [hdv]
        clear hb2 hdv gt gd hmv
        have cc1 := taWalkNo
        have cc2 := taStopYesN
        go_wp2
        clear cc1 cc2
        go_roundw
        case rel => exact ⟨k + 1, n, kn, Bn, by omega, by omega, by go_num, rfl, by rw [HTK.out], by rw [HNX.out]; exact HNN.out, by rw [HNX.out]; exact (HI.out.below HB2.out).below (below_alloc _ _)⟩
        case measure => simp [intOf]; omega
      · have HTK := Lib.hid (takeOf_go HT.out htx)
        have HNX := Lib.hid (nextOf_go (a := (a : Int)) HT.out htx)
        have hy1 : -1 ≤ ty := by omega
        have hy2 : ty ≤ 1 := by omega
        have htn : ¬ tx = -1 := by omega
        have htm : ¬ tx = -2 := by omega
        go_wp2_with fail
        refine (deedOf_any _ _ _).mono ?_
        rintro e w2 ⟨rfl, hb2⟩
        have HB2 := Lib.hid (below_step (below_alloc wr (.cells #[.int .i64 tx, .int .i64 ty] 96)) hb2)
        have hdv : deedV (tx, ty) = .iface 99 (.agg #[.int .i64 tx, .int .i64 ty]) := by simp only [deedV, walkV]; rw [if_neg htn, if_neg htm]
        rw [hdv]
        have hrp := HRN.out.below (below_step HQ.out HB2.out) HRN.out.lt
        obtain ⟨⟨p0, p1⟩, -⟩ := hrp.two
        have lp := hrp.lt
        clear hb2 hdv gt gd hmv htn htm htx hrp
        have cc1 := taWalkYes
        go_wp2_with fail
        clear cc1
        refine (from_any tx ty (q : Int) a _ (by omega) hy1 hy2).mono ?_
        have hb3 := below_step HB2.out (below_alloc w2 (.cells #[.int .i64 tx, .int .i64 ty] 99))
        generalize w2.alloc (.cells #[.int .i64 tx, .int .i64 ty] 99) = w3 at *
        rintro e w4 ⟨rfl, hb4⟩
        have HB4 := Lib.hid (below_step hb3 hb4)
        have HI4 := Lib.hid (HI.out.below HB4.out)
        clear hb3 hb4 p0 p1 lp
        go_wp2_with (at_builtin; refine wpList_append_lies _ rfl _ _ 26 rfl W1.heap.size 70 im _ 2 16 Try.underlying26 him hzm0 hzm1 hzm2 rfl (by decide) (.slice Bn n kn) n _ rfl (HI4.out.2.alloc _) ⟨w4.heap.size, 0, none⟩ 1 1 [.int .i64 tx, .int .i64 ((a : Int) + ty)] rfl rfl (World.news_of_block (cs := #[.int .i64 tx, .int .i64 ((a : Int) + ty)]) (t := 70) (fr := (0, 0)) (heap_alloc_new w4 _)) (by simp [Value.oneCell']) (by omega) (by unfold maxLen; omega) (by omega) (by have := HI4.out.1.size; simp; omega) (w4.heap.size + 1) (by simp) ?_; intro g cap w5 hown5 hgrow5 hat5 hlt5; have hE := (HI4.out.snoc (m := (tx, (a : Int) + ty)) (below_alloc _ _) hgrow5 hown5); rw [← HNX.out] at hE; have HE := Lib.hid hE; clear hown5 hgrow5 hat5 hlt5 hE)
        go_roundw
        case rel => exact ⟨k + 1, n + 1, cap, _, by omega, by omega, by go_num, rfl, by rw [HTK.out], by rw [HNX.out, List.length_append, ← HNN.out]; rfl, HE.out⟩
        case measure => simp [intOf]; omega
    · obtain rfl : k = l.length := by omega
      clear hb y3
      go_wp2
      refine bodyPost_ret (v := .tuple #[.slice Bn n kn, .bool (takeOf (l.take l.length))]) (by simp [results, Try.results90, go_sem]) rfl ?_
      have hI := HI.out
      have hn := HNN.out
      rw [List.take_of_length_le (Nat.le_refl _)] at *
      refine ⟨_, _, rfl, ⟨?_, rfl⟩, HBW.out.trans (hI.1.mono HBW.out.size)⟩
      rw [← hn]
      exact World.ownsRow.mono hI.2 HBW.out.size
end Go.Proofs.Ytdkalefepdlccaa
