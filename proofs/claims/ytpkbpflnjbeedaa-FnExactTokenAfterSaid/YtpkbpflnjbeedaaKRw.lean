/-
  Row: what it reads as, its copies, sizes and comparisons.
-/
import Derived.Test.YtpkbpflnjbeedaaKT
import Derived.Test.YtpkbpflnjbeedaaZT
import Derived.Test.YtpkbpflnjbeedaaOpen
import Derived.Test.YtpkbpflnjbeedaaV4
namespace Go.Proofs.Ytpkbpflnjbeedaa
open Go.RowKit

/-- What a Row reads as. -/
structure RwData where
  L : Int
  S : Int
  mv : List (List (Int × Int))
  wd : ByteArray
  cuts : List Int

def RdRw (w : World) (v : Value) (r : RwData) : Prop := ∃ vmv vcuts, v = .agg #[.int .i64 r.L, .int .i64 r.S, vmv, .string r.wd, vcuts] ∧ RdPP w vmv r.mv ∧ RdI w vcuts r.cuts
theorem keepsRw : Keeps RdRw := fun _ _ _ _ ⟨vmv, vcuts, hv, hmv, hcuts⟩ hb => ⟨vmv, vcuts, hv, keepsPP _ _ _ _ hmv hb, keepsI _ _ _ _ hcuts hb⟩
def OwRw (w : World) (lo : Nat) (v : Value) (r : RwData) (bs : List Nat) : Prop := ∃ vmv vcuts bmv bcuts, v = .agg #[.int .i64 r.L, .int .i64 r.S, vmv, .string r.wd, vcuts] ∧ OwL (OwP 82) 97 w lo vmv r.mv bmv ∧ OwV ints 2 w lo vcuts r.cuts bcuts ∧ bs = bmv ++ bcuts ∧ bs.Nodup
theorem OwRw.rd {w : World} {lo : Nat} {v : Value} {r : RwData} {bs : List Nat} (h : OwRw w lo v r bs) : RdRw w v r := by
  obtain ⟨vmv, vcuts, bmv, bcuts, hv, hmv, hcuts, hbs, hnd⟩ := h
  exact ⟨_, _, hv, OwL.rd (fun h => h.rd) hmv, hcuts.1.rd⟩
theorem RdRw.shape {w : World} {v : Value} {r : RwData} (h : RdRw w v r) : ∃ A0 k0 A1 k1, v = .agg #[.int .i64 r.L, .int .i64 r.S, .slice A0 r.mv.length k0, .string r.wd, .slice A1 r.cuts.length k1] := by
  obtain ⟨vmv, vcuts, hv, hmv, hcuts⟩ := h
  obtain ⟨A0, k0, rfl⟩ := RdL.shape hmv
  obtain ⟨A1, k1, rfl⟩ := rdI_shape hcuts
  exact ⟨A0, k0, A1, k1, hv⟩

/-- What an argument of this kind is bounded by. -/
def RwSmall (r : RwData) : Prop := (24 * r.mv.length ≤ 281474976710656 ∧ ∀ x ∈ r.mv, 16 * x.length ≤ 281474976710656) ∧ (r.wd.size ≤ 140737488351232) ∧ (8 * r.cuts.length ≤ 281474976710656)

def RwData.t (r : RwData) : TData := ⟨r.L, r.S, r.mv⟩
def cntRw (r : RwData) : Nat := cntT r.t + (r.wd.size + r.cuts.length)

theorem toT_own2 (vmv : Value) (r : TData) (w : World) (h : RdPP w vmv r.mv) (hs : TSmall r) :
    Calls Try.prog 23 #[.agg #[.int .i64 r.L, .int .i64 r.S, vmv]] w fun e w' => ∃ u bs, e = .returned (.agg #[.int .i64 r.L, .int .i64 r.S, u]) ∧ OwL (OwP 82) 97 w' w.heap.size u r.mv bs ∧ Below w.heap.size w w' :=
  (toT_own _ r w ⟨vmv, rfl, h⟩ hs).mono fun e w' ⟨u, bs, he, hu, hb⟩ => by
    obtain ⟨um, bm, rfl, hm, _, _⟩ := hu
    exact ⟨um, bm, he, hm, hb⟩

set_option maxHeartbeats 800000 in
theorem szRw_tot (v : Value) (r : RwData) (left : Int) (w : World) (h : RdRw w v r) (hs : RwSmall r) (h0 : 0 ≤ left) (hb : left ≤ 4611686018427387904) :
    Calls Try.prog 8 #[v, .int .i64 left] w fun e w' => (∃ n : Int, e = .returned (.int .i64 n) ∧ (n < 0 ∨ n + (cntRw r : Int) ≤ left)) ∧ Below w.heap.size w w' := by
  obtain ⟨vmv, vc, hv, hmv, hc⟩ := h
  subst hv
  have hws := hs.2.1
  have HT := Lib.hid (fun o => szT_tot (.agg #[.int .i64 r.L, .int .i64 r.S, vmv]) r.t left (w.alloc o) ⟨vmv, rfl, keepsPP _ _ _ _ hmv (below_alloc _ _)⟩ h0 hb)
  have HS := Lib.hid (fun l W (hb : Below w.heap.size w W) => szInt64S_tot vc r.cuts l W (keepsI _ _ _ _ hc hb))
  have HR := Lib.hid (Row.new w [.int .i64 r.L, .int .i64 r.S, vmv, .string r.wd, vc] 27)
  have HB0 := Lib.hid (below_alloc w (.cells #[.int .i64 r.L, .int .i64 r.S, vmv, .string r.wd, vc] 27))
  clear hmv hc hs
  go_enter Try.func8, Try.ntmps8
  go_wp2_with fail
  refine (HT.out _).mono ?_
  rintro e w1 ⟨⟨m, rfl, hm⟩, hb1⟩
  have HM := Lib.hid hm
  have HB1 := Lib.hid (below_step HB0.out hb1)
  obtain ⟨⟨c0, c1, c2, c3, c4⟩, -⟩ := (HR.out.below hb1 HR.out.lt).five
  clear hb1
  by_cases hl : m < 0
  · clear hm
    go_wp2
    go_ret
    exact ⟨⟨_, rfl, .inl (by decide)⟩, HB1.out⟩
  · have hm1 : m ≤ left := by omega
    clear hm
    by_cases hl3 : m - (r.wd.size : Int) < 0
    · go_wp2
      go_ret
      exact ⟨⟨_, rfl, .inl (by decide)⟩, HB1.out⟩
    · go_wp2_with fail
      refine (HS.out _ _ HB1.out (by omega) (by omega)).mono ?_
      rintro e w2 ⟨⟨n, rfl, hn⟩, rfl⟩
      have HN := Lib.hid hn
      clear hn
      by_cases hl2 : n < 0
      · go_wp2
        go_ret
        exact ⟨⟨_, rfl, .inl (by decide)⟩, HB1.out⟩
      · go_wp2
        go_ret
        exact ⟨⟨_, rfl, .inr (by have a := HM.out; have b := HN.out; unfold cntRw; omega)⟩, HB1.out⟩

set_option maxHeartbeats 800000 in
theorem eqRw_same (v u : Value) (r : RwData) (w : World) (h : RdRw w v r) (k : RdRw w u r) :
    Calls Try.prog 12 #[v, u] w fun e w' => e = .returned (.bool true) ∧ Below w.heap.size w w' := by
  obtain ⟨vmv, vc, hv, hmv, hc⟩ := h
  subst hv
  obtain ⟨umv, uc, hu, kmv, kc⟩ := k
  subst hu
  have ewd : (!(r.wd.toList == r.wd.toList)) = false := by simp
  have ecu : decide (r.cuts = r.cuts) = true := by simp
  have Hmv := Lib.hid (fun W (hb : Below w.heap.size w W) => eqT_same (.agg #[.int .i64 r.L, .int .i64 r.S, vmv]) (.agg #[.int .i64 r.L, .int .i64 r.S, umv]) r.t W ⟨vmv, rfl, keepsPP _ _ _ _ hmv hb⟩ ⟨umv, rfl, keepsPP _ _ _ _ kmv hb⟩)
  have Ho := Lib.hid (fun W (hb : Below w.heap.size w W) => eqInt64S_any vc uc r.cuts r.cuts W (keepsI _ _ _ _ hc hb) (keepsI _ _ _ _ kc hb))
  have HB := Lib.hid (fun o o' => (below_alloc w o).alloc (by simp) o')
  clear hmv hc kmv kc
  have HR1 := Lib.hid ((Row.new w [.int .i64 r.L, .int .i64 r.S, vmv, .string r.wd, vc] 34).alloc (.cells #[.int .i64 r.L, .int .i64 r.S, umv, .string r.wd, uc] 34))
  have hr2 := Row.new (w.alloc (.cells #[.int .i64 r.L, .int .i64 r.S, vmv, .string r.wd, vc] 34)) [.int .i64 r.L, .int .i64 r.S, umv, .string r.wd, uc] 34
  have HR2 := Lib.hid (show Row _ (w.heap.size + 1) _ _ by simpa using hr2)
  clear hr2
  go_enter Try.func12, Try.ntmps12
  go_wp2_with fail
  refine (Hmv.out _ (HB.out _ _)).mono ?_
  rintro e w1 ⟨rfl, hbb⟩
  have HC := Lib.hid (below_step (HB.out _ _) hbb)
  obtain ⟨⟨b0, b1, b2, b3, b4⟩, -⟩ := (HR1.out.below hbb HR1.out.lt).five
  obtain ⟨⟨c0, c1, c2, c3, c4⟩, -⟩ := (HR2.out.below hbb HR2.out.lt).five
  clear hbb
  go_wp2_with fail
  refine (Ho.out _ HC.out).mono ?_
  rintro e w2 ⟨rfl, hq⟩
  have HD := Lib.hid (below_step HC.out hq.below)
  clear hq
  go_wp2
  go_ret
  exact ⟨rfl, HD.out⟩

set_option maxHeartbeats 1600000 in
theorem toRw_own (v : Value) (r : RwData) (w : World) (h : RdRw w v r) (hs : RwSmall r) :
    Calls Try.prog 10 #[v] w fun e w' => ∃ u bs, e = .returned u ∧ OwRw w' w.heap.size u r bs ∧ Below w.heap.size w w' := by
  obtain ⟨fL, fS, fmv, fwd, fcuts⟩ := r
  obtain ⟨vmv, vcuts, hv, hmv, hcuts⟩ := h
  subst hv
  obtain ⟨smv, swd, scuts⟩ := hs
  have Hmv := Lib.hid (fun W (hb : Below w.heap.size w W) => toT_own2 vmv ⟨fL, fS, fmv⟩ W (keepsPP _ _ _ _ hmv hb) smv)
  have Hcuts := Lib.hid (fun W (hb : Below w.heap.size w W) => toInt64S_own vcuts fcuts W (keepsI _ _ _ _ hcuts hb) scuts)
  have hw1 : Below w.heap.size w (((w.alloc (.cells #[.int .i64 fL, .int .i64 fS, vmv, .string fwd, vcuts] 27)).alloc (.cells #[.int .i64 0, .int .i64 0, .slice none 0 0, .string (ByteArray.mk #[]), .slice none 0 0] 34)).alloc (.cells #[.int .i64 0, .int .i64 0, .slice none 0 0, .string (ByteArray.mk #[]), .slice none 0 0] 34)) := ((below_alloc _ _).alloc (by simp) _).alloc (by simp; omega) _
  have hrA : Row (((w.alloc (.cells #[.int .i64 fL, .int .i64 fS, vmv, .string fwd, vcuts] 27)).alloc (.cells #[.int .i64 0, .int .i64 0, .slice none 0 0, .string (ByteArray.mk #[]), .slice none 0 0] 34)).alloc (.cells #[.int .i64 0, .int .i64 0, .slice none 0 0, .string (ByteArray.mk #[]), .slice none 0 0] 34)) w.heap.size 27 [.int .i64 fL, .int .i64 fS, vmv, .string fwd, vcuts] := ((Row.new w _ _).alloc _).alloc _
  have hrB : Row (((w.alloc (.cells #[.int .i64 fL, .int .i64 fS, vmv, .string fwd, vcuts] 27)).alloc (.cells #[.int .i64 0, .int .i64 0, .slice none 0 0, .string (ByteArray.mk #[]), .slice none 0 0] 34)).alloc (.cells #[.int .i64 0, .int .i64 0, .slice none 0 0, .string (ByteArray.mk #[]), .slice none 0 0] 34)) (w.heap.size + 1) 34 [.int .i64 0, .int .i64 0, .slice none 0 0, .string (ByteArray.mk #[]), .slice none 0 0] := by
    have := (Row.new (w.alloc (.cells #[.int .i64 fL, .int .i64 fS, vmv, .string fwd, vcuts] 27)) [.int .i64 0, .int .i64 0, .slice none 0 0, .string (ByteArray.mk #[]), .slice none 0 0] 34).alloc (.cells #[.int .i64 0, .int .i64 0, .slice none 0 0, .string (ByteArray.mk #[]), .slice none 0 0] 34)
    simpa using this
  have hrC : Row (((w.alloc (.cells #[.int .i64 fL, .int .i64 fS, vmv, .string fwd, vcuts] 27)).alloc (.cells #[.int .i64 0, .int .i64 0, .slice none 0 0, .string (ByteArray.mk #[]), .slice none 0 0] 34)).alloc (.cells #[.int .i64 0, .int .i64 0, .slice none 0 0, .string (ByteArray.mk #[]), .slice none 0 0] 34)) (w.heap.size + 1 + 1) 34 [.int .i64 0, .int .i64 0, .slice none 0 0, .string (ByteArray.mk #[]), .slice none 0 0] := by
    have := Row.new ((w.alloc (.cells #[.int .i64 fL, .int .i64 fS, vmv, .string fwd, vcuts] 27)).alloc (.cells #[.int .i64 0, .int .i64 0, .slice none 0 0, .string (ByteArray.mk #[]), .slice none 0 0] 34)) [.int .i64 0, .int .i64 0, .slice none 0 0, .string (ByteArray.mk #[]), .slice none 0 0] 34
    simpa using this
  have hsz : (((w.alloc (.cells #[.int .i64 fL, .int .i64 fS, vmv, .string fwd, vcuts] 27)).alloc (.cells #[.int .i64 0, .int .i64 0, .slice none 0 0, .string (ByteArray.mk #[]), .slice none 0 0] 34)).alloc (.cells #[.int .i64 0, .int .i64 0, .slice none 0 0, .string (ByteArray.mk #[]), .slice none 0 0] 34)).heap.size = w.heap.size + 3 := by simp
  go_enter Try.func10, Try.ntmps10
  clear hmv hcuts
  go_wp2_with fail
  refine (Hmv.out _ hw1).mono ?_
  generalize ((w.alloc (.cells #[.int .i64 fL, .int .i64 fS, vmv, .string fwd, vcuts] 27)).alloc (.cells #[.int .i64 0, .int .i64 0, .slice none 0 0, .string (ByteArray.mk #[]), .slice none 0 0] 34)).alloc (.cells #[.int .i64 0, .int .i64 0, .slice none 0 0, .string (ByteArray.mk #[]), .slice none 0 0] 34) = W0 at *
  rintro e w1 ⟨umv, bmv, rfl, humv, hb⟩
  obtain ⟨Amv, kmv, rfl⟩ := OwL.shape humv
  have rA := hrA.below hb hrA.lt
  have rB := hrB.below hb hrB.lt
  have rC := hrC.below hb hrC.lt
  have hnd := (goodL (goodP 82) 97).nodup humv
  have ND := Lib.hid hnd
  clear hnd
  have hw2 := hw1.trans (hb.mono hw1.size)
  have hsz2 : w.heap.size + 3 ≤ W0.heap.size := by first | omega | exact hsz
  have oM : OwL (OwP 82) 97 w1 (w.heap.size + 3) (.slice Amv fmv.length kmv) fmv bmv := (goodL (goodP 82) 97).mono humv hsz2
  have hsz3 := Nat.le_trans hsz2 hb.size
  have H1 := Lib.hid (show _ ∧ _ ∧ _ ∧ _ ∧ _ from ⟨rA, rB, rC, hw2, oM⟩)
  obtain ⟨⟨ca0, ca1, ca2, ca3, ca4⟩, -⟩ := rA.five
  obtain ⟨⟨cc0, cc1, cc2, cc3, cc4⟩, fc⟩ := rC.five
  have hl1 := rC.lt
  clear rA rB rC hrA hrB hrC hw1 hb humv hsz hsz2 hw2 oM 
  go_wp2_with fail
  obtain ⟨rA, rB, rC, hw1, omv⟩ := H1.out
  have hrA := ((((rA.other (a := ⟨w.heap.size + 1 + 1, 0, none⟩) (by show w.heap.size + 1 + 1 ≠ _; omega) (.int .i64 fL)).other (a := ⟨w.heap.size + 1 + 1, 1, none⟩) (by show w.heap.size + 1 + 1 ≠ _; omega) (.int .i64 fS)).other (a := ⟨w.heap.size + 1 + 1, 2, none⟩) (by show w.heap.size + 1 + 1 ≠ _; omega) (.slice Amv fmv.length kmv)).other (a := ⟨w.heap.size + 1 + 1, 3, none⟩) (by show w.heap.size + 1 + 1 ≠ _; omega) (.string fwd))
  have hrB := ((((rB.other (a := ⟨w.heap.size + 1 + 1, 0, none⟩) (by show w.heap.size + 1 + 1 ≠ _; omega) (.int .i64 fL)).other (a := ⟨w.heap.size + 1 + 1, 1, none⟩) (by show w.heap.size + 1 + 1 ≠ _; omega) (.int .i64 fS)).other (a := ⟨w.heap.size + 1 + 1, 2, none⟩) (by show w.heap.size + 1 + 1 ≠ _; omega) (.slice Amv fmv.length kmv)).other (a := ⟨w.heap.size + 1 + 1, 3, none⟩) (by show w.heap.size + 1 + 1 ≠ _; omega) (.string fwd))
  have hrC := ((((rC.stored 0 (.int .i64 fL)).stored 1 (.int .i64 fS)).stored 2 (.slice Amv fmv.length kmv)).stored 3 (.string fwd))
  have hw1 := ((((hw1.setCell (p := ⟨w.heap.size + 1 + 1, 0, none⟩) (by show w.heap.size ≤ _ + 1 + 1; omega) (.int .i64 fL)).setCell (p := ⟨w.heap.size + 1 + 1, 1, none⟩) (by show w.heap.size ≤ _ + 1 + 1; omega) (.int .i64 fS)).setCell (p := ⟨w.heap.size + 1 + 1, 2, none⟩) (by show w.heap.size ≤ _ + 1 + 1; omega) (.slice Amv fmv.length kmv)).setCell (p := ⟨w.heap.size + 1 + 1, 3, none⟩) (by show w.heap.size ≤ _ + 1 + 1; omega) (.string fwd))
  have omv := ((goodL (goodP 82) 97).under (a := ⟨w.heap.size + 1 + 1, 3, none⟩) ((goodL (goodP 82) 97).under (a := ⟨w.heap.size + 1 + 1, 2, none⟩) ((goodL (goodP 82) 97).under (a := ⟨w.heap.size + 1 + 1, 1, none⟩) ((goodL (goodP 82) 97).under (a := ⟨w.heap.size + 1 + 1, 0, none⟩) omv (by show w.heap.size + 1 + 1 < _; omega) (.int .i64 fL)) (by show w.heap.size + 1 + 1 < _; omega) (.int .i64 fS)) (by show w.heap.size + 1 + 1 < _; omega) (.slice Amv fmv.length kmv)) (by show w.heap.size + 1 + 1 < _; omega) (.string fwd))
  have hsz : w.heap.size + 3 ≤ (((((w1).setCell ⟨w.heap.size + 1 + 1, 0, none⟩ (.int .i64 fL)).setCell ⟨w.heap.size + 1 + 1, 1, none⟩ (.int .i64 fS)).setCell ⟨w.heap.size + 1 + 1, 2, none⟩ (.slice Amv fmv.length kmv)).setCell ⟨w.heap.size + 1 + 1, 3, none⟩ (.string fwd)).heap.size := by simpa using hsz3
  clear rA rB rC H1 hsz3 hl1 ca0 ca1 ca2 ca3 ca4 cc0 cc1 cc2 cc3 cc4 fc
  refine (Hcuts.out _ hw1).mono ?_
  generalize ((((w1).setCell ⟨w.heap.size + 1 + 1, 0, none⟩ (.int .i64 fL)).setCell ⟨w.heap.size + 1 + 1, 1, none⟩ (.int .i64 fS)).setCell ⟨w.heap.size + 1 + 1, 2, none⟩ (.slice Amv fmv.length kmv)).setCell ⟨w.heap.size + 1 + 1, 3, none⟩ (.string fwd) = W0 at *
  rintro e w2 ⟨ucuts, bcuts, rfl, hucuts, hb⟩
  obtain ⟨Acuts, kcuts, rfl⟩ := owI_shape hucuts
  have rA := hrA.below hb hrA.lt
  have rB := hrB.below hb hrB.lt
  have rC := hrC.below hb hrC.lt
  have oNmv := (goodL (goodP 82) 97).below omv hb
  have ltp : ∀ x ∈ bmv, x < W0.heap.size := by
    intro x hx
    exact ((goodL (goodP 82) 97).lt omv hx).2
  have hnd := nodup_two ND.out ((goodV ints 2).nodup hucuts) ltp (fun x hx => ((goodV ints 2).lt hucuts hx).1)
  clear ltp ND
  have ND := Lib.hid hnd
  clear hnd
  have hw2 := hw1.trans (hb.mono hw1.size)
  have hsz2 : w.heap.size + 3 ≤ W0.heap.size := by first | omega | exact hsz
  have oM : OwV ints 2 w2 (w.heap.size + 3) (.slice Acuts fcuts.length kcuts) fcuts bcuts := (goodV ints 2).mono hucuts hsz2
  have hsz3 := Nat.le_trans hsz2 hb.size
  have H1 := Lib.hid (show _ ∧ _ ∧ _ ∧ _ ∧ _ ∧ _ from ⟨rA, rB, rC, hw2, oM, oNmv⟩)
  obtain ⟨⟨ca0, ca1, ca2, ca3, ca4⟩, -⟩ := rA.five
  obtain ⟨⟨cc0, cc1, cc2, cc3, cc4⟩, fc⟩ := rC.five
  obtain ⟨⟨cb0, cb1, cb2, cb3, cb4⟩, fb⟩ := rB.five
  have hl1 := rC.lt
  clear rA rB rC hrA hrB hrC hw1 hb hucuts hsz hsz2 hw2 oM oNmv omv
  go_wp2
  obtain ⟨rA, rB, rC, hw1, ocuts, omv⟩ := H1.out
  clear ca0 ca1 ca2 ca3 ca4 cc0 cc1 cc2 cc3 cc4 fc cb0 cb1 cb2 cb3 cb4 fb H1
  have rF := ((((((rB.other (a := ⟨w.heap.size + 1 + 1, 4, none⟩) (by show w.heap.size + 1 + 1 ≠ _; omega) (.slice Acuts fcuts.length kcuts)).stored 0 (.int .i64 fL)).stored 1 (.int .i64 fS)).stored 2 (.slice Amv fmv.length kmv)).stored 3 (.string fwd)).stored 4 (.slice Acuts fcuts.length kcuts))
  have emv := ((goodL (goodP 82) 97).under (a := ⟨w.heap.size + 1, 4, none⟩) ((goodL (goodP 82) 97).under (a := ⟨w.heap.size + 1, 3, none⟩) ((goodL (goodP 82) 97).under (a := ⟨w.heap.size + 1, 2, none⟩) ((goodL (goodP 82) 97).under (a := ⟨w.heap.size + 1, 1, none⟩) ((goodL (goodP 82) 97).under (a := ⟨w.heap.size + 1, 0, none⟩) ((goodL (goodP 82) 97).under (a := ⟨w.heap.size + 1 + 1, 4, none⟩) omv (by show w.heap.size + 1 + 1 < _; omega) (.slice Acuts fcuts.length kcuts)) (by show w.heap.size + 1 < _; omega) (.int .i64 fL)) (by show w.heap.size + 1 < _; omega) (.int .i64 fS)) (by show w.heap.size + 1 < _; omega) (.slice Amv fmv.length kmv)) (by show w.heap.size + 1 < _; omega) (.string fwd)) (by show w.heap.size + 1 < _; omega) (.slice Acuts fcuts.length kcuts))
  have ecuts := ((goodV ints 2).under (a := ⟨w.heap.size + 1, 4, none⟩) ((goodV ints 2).under (a := ⟨w.heap.size + 1, 3, none⟩) ((goodV ints 2).under (a := ⟨w.heap.size + 1, 2, none⟩) ((goodV ints 2).under (a := ⟨w.heap.size + 1, 1, none⟩) ((goodV ints 2).under (a := ⟨w.heap.size + 1, 0, none⟩) ((goodV ints 2).under (a := ⟨w.heap.size + 1 + 1, 4, none⟩) ocuts (by show w.heap.size + 1 + 1 < _; omega) (.slice Acuts fcuts.length kcuts)) (by show w.heap.size + 1 < _; omega) (.int .i64 fL)) (by show w.heap.size + 1 < _; omega) (.int .i64 fS)) (by show w.heap.size + 1 < _; omega) (.slice Amv fmv.length kmv)) (by show w.heap.size + 1 < _; omega) (.string fwd)) (by show w.heap.size + 1 < _; omega) (.slice Acuts fcuts.length kcuts))
  have eB := ((((((hw1.setCell (p := ⟨w.heap.size + 1 + 1, 4, none⟩) (by show w.heap.size ≤ w.heap.size + 1 + 1; omega) (.slice Acuts fcuts.length kcuts)).setCell (p := ⟨w.heap.size + 1, 0, none⟩) (by show w.heap.size ≤ w.heap.size + 1; omega) (.int .i64 fL)).setCell (p := ⟨w.heap.size + 1, 1, none⟩) (by show w.heap.size ≤ w.heap.size + 1; omega) (.int .i64 fS)).setCell (p := ⟨w.heap.size + 1, 2, none⟩) (by show w.heap.size ≤ w.heap.size + 1; omega) (.slice Amv fmv.length kmv)).setCell (p := ⟨w.heap.size + 1, 3, none⟩) (by show w.heap.size ≤ w.heap.size + 1; omega) (.string fwd)).setCell (p := ⟨w.heap.size + 1, 4, none⟩) (by show w.heap.size ≤ w.heap.size + 1; omega) (.slice Acuts fcuts.length kcuts))
  have hnd := ND.out
  clear rA rB rC hw1 ND omv ocuts
  generalize ((((((w2).setCell ⟨w.heap.size + 1 + 1, 4, none⟩ (.slice Acuts fcuts.length kcuts)).setCell ⟨w.heap.size + 1, 0, none⟩ (.int .i64 fL)).setCell ⟨w.heap.size + 1, 1, none⟩ (.int .i64 fS)).setCell ⟨w.heap.size + 1, 2, none⟩ (.slice Amv fmv.length kmv)).setCell ⟨w.heap.size + 1, 3, none⟩ (.string fwd)).setCell ⟨w.heap.size + 1, 4, none⟩ (.slice Acuts fcuts.length kcuts) = W2 at *
  obtain ⟨⟨q0, q1, q2, q3, q4⟩, -⟩ := Row.five rF
  refine bodyPost_ret (v := .agg #[.int .i64 fL, .int .i64 fS, .slice Amv fmv.length kmv, .string fwd, .slice Acuts fcuts.length kcuts]) (by simp [results, Try.results10, go_sem, q0, q1, q2, q3, q4]) rfl ⟨_, bmv ++ bcuts, rfl, ?_, eB⟩
  exact ⟨_, _, _, _, rfl, (goodL (goodP 82) 97).mono emv (by omega), (goodV ints 2).mono ecuts (by omega), rfl, hnd⟩

open Go.ChangeShapes Go.WideShapes Go.ChangeAt Go.Joins Go.Deep

theorem opens_string1 {H : Type} {enc : TypeId × Value → H} {P : Program} {w : World} {base : Nat} {held : Bool} {t : TypeId} (ht : P.underlying t = some .string) : Opens enc P w base held t (fun _ v (s : ByteArray) => v = .string s) (fun s => s.size ≤ 140737488351232) := fun fuel v x h hf => by
  obtain ⟨z, k1, k2, _⟩ := DataW.trod_string ht h
  have e0 : x.1 = .lit (.string z.data.toList) := congrArg Prod.fst k2
  rw [e0] at hf
  exact ⟨z, by simpa using k1, fit_string hf⟩

set_option maxRecDepth 100000 in
theorem open_row {H : Type} {enc : TypeId × Value → H} {W : World} {base : Nat} {v : Value} {d : DataW H} {p : List MemPlace} (hv : Value.okWide Try.prog W .any base 27 v) (h : DataW.Trod enc Try.prog W 0 (fun _ => true) true 27 v d p)
    (hf : Fit Try.prog 27 d) : ∃ r, RdRw W v r ∧ RwSmall r := by
  obtain ⟨cs, rfl, hsz⟩ := okWide_struct Try.underlying27 hv
  obtain ⟨c0, c1, c2, c3, c4, rfl⟩ : ∃ c0 c1 c2 c3 c4, cs = #[c0, c1, c2, c3, c4] := by
    have hz := hsz.trans (show Try.prog.cellsOf 27 = 5 by kernel_rfl)
    obtain ⟨l⟩ := cs
    rcases l with _ | ⟨c0, _ | ⟨c1, _ | ⟨c2, _ | ⟨c3, _ | ⟨c4, _ | ⟨c5, l⟩⟩⟩⟩⟩⟩ <;> simp at hz
    exact ⟨c0, c1, c2, c3, c4, rfl⟩
  obtain ⟨fuel, hF⟩ := h
  obtain ⟨y0, y1, y2, n, hx, _, g0, g1, g2⟩ := trod_struct3 Try.underlying27 hF
  have e0 : Try.prog.cellsOf 24 = 3 := by kernel_rfl
  have e1 : Try.prog.cellsOf 9 = 1 := by kernel_rfl
  have e1' : Try.prog.cellsOf 25 = 1 := by kernel_rfl
  simp only [Prod.mk.injEq] at hx
  obtain ⟨rfl, -⟩ := hx
  have k0 : DataW.trod enc Try.prog W 0 (fun _ => true) true n 24 [c0, c1, c2] = some y0 := by simpa [Value.cells, e0] using g0
  have k1 : DataW.trod enc Try.prog W 0 (fun _ => true) true n 9 [c3] = some y1 := by simpa [Value.cells, e1] using g1
  have k2 : DataW.trod enc Try.prog W 0 (fun _ => true) true n 25 [c4] = some y2 := by simpa [Value.cells, e1'] using g2
  have hf0 : Fit Try.prog 24 y0.1 := hf.part Try.underlying27 (j := 0) rfl rfl
  have hf1 : Fit Try.prog 9 y1.1 := hf.part Try.underlying27 (j := 1) rfl rfl
  have hf2 : Fit Try.prog 25 y2.1 := hf.part Try.underlying27 (j := 2) rfl rfl
  obtain ⟨z0, z1, z2, m, hz, _, q0, q1, q2⟩ := trod_struct3 Try.underlying24 k0
  have e2 : Try.prog.cellsOf 2 = 1 := by kernel_rfl
  have e3 : Try.prog.cellsOf 22 = 1 := by kernel_rfl
  subst hz
  have l0 : DataW.trod enc Try.prog W 0 (fun _ => true) true m 2 [c0] = some z0 := by simpa [e2] using q0
  have l1 : DataW.trod enc Try.prog W 0 (fun _ => true) true m 2 [c1] = some z1 := by simpa [e2] using q1
  have l2 : DataW.trod enc Try.prog W 0 (fun _ => true) true m 22 [c2] = some z2 := by simpa [e3] using q2
  obtain ⟨L, rfl, -⟩ := opens_int Try.underlying2 m c0 z0 l0 (hf0.part Try.underlying24 (j := 0) rfl rfl)
  obtain ⟨S, rfl, -⟩ := opens_int Try.underlying2 m c1 z1 l1 (hf0.part Try.underlying24 (j := 1) rfl rfl)
  obtain ⟨mv, hn, qn1, qn2⟩ := opens_slice Try.underlying22 (by kernel_rfl) (opens_pairs Try.underlying102 Try.underlying115 (by kernel_rfl) rfl rfl (by kernel_rfl) (by kernel_rfl) Try.underlying2 Try.underlying2 (by kernel_rfl)) m c2 z2 l2 (hf0.part Try.underlying24 (j := 2) rfl rfl)
  obtain ⟨wd, rfl, hwd⟩ := opens_string1 Try.underlying9 n c3 y1 k1 hf1
  obtain ⟨cu, hcu, hcs⟩ := opens_ints Try.underlying25 Try.underlying2 (by kernel_rfl) (by kernel_rfl) n c4 y2 k2 hf2
  have eb : Try.prog.bytesOf 102 = 24 := by kernel_rfl
  rw [eb] at qn1
  refine ⟨⟨L, S, mv, wd, cu⟩, ⟨c2, c4, rfl, hn, hcu⟩, ⟨?_, ?_⟩, hwd, ?_⟩
  · simp only [reachBytes] at qn1; show 24 * mv.length ≤ _; omega
  · intro x hx; have := (qn2 x hx).1; simp only [reachBytes] at this; omega
  · simp only [reachBytes] at hcs; show 8 * cu.length ≤ _; omega

end Go.Proofs.Ytpkbpflnjbeedaa
