/-
  Writer: what it reads as, its copies, sizes and comparisons.
-/
import Derived.Test.YtahgekjpnmmooaaKT
import Derived.Test.YtahgekjpnmmooaaSS1
import Derived.Test.YtahgekjpnmmooaaZT
import Derived.Test.YtahgekjpnmmooaaOpen
import Derived.Test.YtahgekjpnmmooaaV4
namespace Go.Proofs.Ytahgekjpnmmooaa
open Go.RowKit

/-- What a Writer reads as. -/
structure WrData where
  L : Int
  S : Int
  mv : List (List (Int × Int))
  out : List (List ByteArray)

def RdWr (w : World) (v : Value) (r : WrData) : Prop := ∃ vmv vout, v = .agg #[.int .i64 r.L, .int .i64 r.S, vmv, vout] ∧ RdPP w vmv r.mv ∧ RdSS w vout r.out
theorem keepsWr : Keeps RdWr := fun _ _ _ _ ⟨vmv, vout, hv, hmv, hout⟩ hb => ⟨vmv, vout, hv, keepsPP _ _ _ _ hmv hb, keepsSS _ _ _ _ hout hb⟩
def OwWr (w : World) (lo : Nat) (v : Value) (r : WrData) (bs : List Nat) : Prop := ∃ vmv vout bmv bout, v = .agg #[.int .i64 r.L, .int .i64 r.S, vmv, vout] ∧ OwL (OwP 55) 51 w lo vmv r.mv bmv ∧ OwL (OwV strs 9) 44 w lo vout r.out bout ∧ bs = bmv ++ bout ∧ bs.Nodup
theorem OwWr.rd {w : World} {lo : Nat} {v : Value} {r : WrData} {bs : List Nat} (h : OwWr w lo v r bs) : RdWr w v r := by
  obtain ⟨vmv, vout, bmv, bout, hv, hmv, hout, hbs, hnd⟩ := h
  exact ⟨_, _, hv, OwL.rd (fun h => h.rd) hmv, OwL.rd (fun h => h.1.rd) hout⟩
theorem RdWr.shape {w : World} {v : Value} {r : WrData} (h : RdWr w v r) : ∃ A0 k0 A1 k1, v = .agg #[.int .i64 r.L, .int .i64 r.S, .slice A0 r.mv.length k0, .slice A1 r.out.length k1] := by
  obtain ⟨vmv, vout, hv, hmv, hout⟩ := h
  obtain ⟨A0, k0, rfl⟩ := RdL.shape hmv
  obtain ⟨A1, k1, rfl⟩ := RdL.shape hout
  exact ⟨A0, k0, A1, k1, hv⟩

/-- What an argument of this kind is bounded by. -/
def WrSmall (r : WrData) : Prop := (24 * r.mv.length ≤ 281474976710656 ∧ ∀ x ∈ r.mv, 16 * x.length ≤ 281474976710656) ∧ (SSSmall r.out)

def WrData.t (r : WrData) : TData := ⟨r.L, r.S, r.mv⟩
def cntWr (r : WrData) : Nat := cntT r.t + (r.out.length + numSS r.out)

theorem toT_own2 (vmv : Value) (r : TData) (w : World) (h : RdPP w vmv r.mv) (hs : TSmall r) :
    Calls Try.prog 49 #[.agg #[.int .i64 r.L, .int .i64 r.S, vmv]] w fun e w' => ∃ u bs, e = .returned (.agg #[.int .i64 r.L, .int .i64 r.S, u]) ∧ OwL (OwP 55) 51 w' w.heap.size u r.mv bs ∧ Below w.heap.size w w' :=
  (toT_own _ r w ⟨vmv, rfl, h⟩ hs).mono fun e w' ⟨u, bs, he, hu, hb⟩ => by
    obtain ⟨um, bm, rfl, hm, _, _⟩ := hu
    exact ⟨um, bm, he, hm, hb⟩

set_option maxHeartbeats 800000 in
theorem szWr_tot (v : Value) (r : WrData) (left : Int) (w : World) (h : RdWr w v r) (hs : WrSmall r) (h0 : 0 ≤ left) (hb : left ≤ 4611686018427387904) :
    Calls Try.prog 14 #[v, .int .i64 left] w fun e w' => (∃ n : Int, e = .returned (.int .i64 n) ∧ (n < 0 ∨ n + (cntWr r : Int) ≤ left)) ∧ Below w.heap.size w w' := by
  obtain ⟨vmv, vo, hv, hmv, ho⟩ := h
  subst hv
  have HT := Lib.hid (fun o => szT_tot (.agg #[.int .i64 r.L, .int .i64 r.S, vmv]) r.t left (w.alloc o) ⟨vmv, rfl, keepsPP _ _ _ _ hmv (below_alloc _ _)⟩ h0 hb)
  have HS := Lib.hid (fun l W (hb : Below w.heap.size w W) => szSS_tot vo r.out l W (keepsSS _ _ _ _ ho hb) hs.2)
  have HR := Lib.hid (Row.new w [.int .i64 r.L, .int .i64 r.S, vmv, vo] 39)
  have HB0 := Lib.hid (below_alloc w (.cells #[.int .i64 r.L, .int .i64 r.S, vmv, vo] 39))
  clear hmv ho
  go_enter Try.func14, Try.ntmps14
  go_wp2_with fail
  refine (HT.out _).mono ?_
  rintro e w1 ⟨⟨m, rfl, hm⟩, hb1⟩
  have HM := Lib.hid hm
  have HB1 := Lib.hid (below_step HB0.out hb1)
  obtain ⟨⟨c0, c1, c2, c3⟩, -⟩ := (HR.out.below hb1 HR.out.lt).four
  clear hb1
  by_cases hl : m < 0
  · clear hm
    go_wp2
    go_ret
    exact ⟨⟨_, rfl, .inl (by decide)⟩, HB1.out⟩
  · have hm1 : m ≤ left := by omega
    clear hm
    go_wp2_with fail
    refine (HS.out _ _ HB1.out (by omega) (by omega)).mono ?_
    rintro e w2 ⟨⟨n, rfl, hn⟩, hb2⟩
    have HN := Lib.hid hn
    have HB2 := Lib.hid (below_step HB1.out hb2)
    clear hb2 hn
    by_cases hl2 : n < 0
    · go_wp2
      go_ret
      exact ⟨⟨_, rfl, .inl (by decide)⟩, HB2.out⟩
    · go_wp2
      go_ret
      exact ⟨⟨_, rfl, .inr (by have a := HM.out; have b := HN.out; unfold cntWr; omega)⟩, HB2.out⟩

set_option maxHeartbeats 800000 in
theorem eqWr_same (v u : Value) (r : WrData) (w : World) (h : RdWr w v r) (k : RdWr w u r) :
    Calls Try.prog 9 #[v, u] w fun e w' => e = .returned (.bool true) ∧ Below w.heap.size w w' := by
  obtain ⟨vmv, vo, hv, hmv, ho⟩ := h
  subst hv
  obtain ⟨umv, uo, hu, kmv, ko⟩ := k
  subst hu
  have Hmv := Lib.hid (fun W (hb : Below w.heap.size w W) => eqT_same (.agg #[.int .i64 r.L, .int .i64 r.S, vmv]) (.agg #[.int .i64 r.L, .int .i64 r.S, umv]) r.t W ⟨vmv, rfl, keepsPP _ _ _ _ hmv hb⟩ ⟨umv, rfl, keepsPP _ _ _ _ kmv hb⟩)
  have Ho := Lib.hid (fun W (hb : Below w.heap.size w W) => eqSS_same vo uo r.out W (keepsSS _ _ _ _ ho hb) (keepsSS _ _ _ _ ko hb))
  have HB := Lib.hid (fun o o' => (below_alloc w o).alloc (by simp) o')
  clear hmv ho kmv ko
  have HR1 := Lib.hid ((Row.new w [.int .i64 r.L, .int .i64 r.S, vmv, vo] 27).alloc (.cells #[.int .i64 r.L, .int .i64 r.S, umv, uo] 27))
  have hr2 := Row.new (w.alloc (.cells #[.int .i64 r.L, .int .i64 r.S, vmv, vo] 27)) [.int .i64 r.L, .int .i64 r.S, umv, uo] 27
  have HR2 := Lib.hid (show Row _ (w.heap.size + 1) _ _ by simpa using hr2)
  clear hr2
  go_enter Try.func9, Try.ntmps9
  go_wp2_with fail
  refine (Hmv.out _ (HB.out _ _)).mono ?_
  rintro e w1 ⟨rfl, hbb⟩
  have HC := Lib.hid (below_step (HB.out _ _) hbb)
  obtain ⟨⟨b0, b1, b2, b3⟩, -⟩ := (HR1.out.below hbb HR1.out.lt).four
  obtain ⟨⟨c0, c1, c2, c3⟩, -⟩ := (HR2.out.below hbb HR2.out.lt).four
  clear hbb
  go_wp2_with fail
  refine (Ho.out _ HC.out).mono ?_
  rintro e w2 ⟨rfl, hbb⟩
  have HD := Lib.hid (below_step HC.out hbb)
  clear hbb
  go_wp2
  go_ret
  exact ⟨rfl, HD.out⟩

set_option maxHeartbeats 1600000 in
theorem toWr_own (v : Value) (r : WrData) (w : World) (h : RdWr w v r) (hs : WrSmall r) :
    Calls Try.prog 16 #[v] w fun e w' => ∃ u bs, e = .returned u ∧ OwWr w' w.heap.size u r bs ∧ Below w.heap.size w w' := by
  obtain ⟨fL, fS, fmv, fout⟩ := r
  obtain ⟨vmv, vout, hv, hmv, hout⟩ := h
  subst hv
  obtain ⟨smv, sout⟩ := hs
  have Hmv := Lib.hid (fun W (hb : Below w.heap.size w W) => toT_own2 vmv ⟨fL, fS, fmv⟩ W (keepsPP _ _ _ _ hmv hb) smv)
  have Hout := Lib.hid (fun W (hb : Below w.heap.size w W) => toStringSS_own vout fout W (keepsSS _ _ _ _ hout hb) sout.1 sout.2)
  have hw1 : Below w.heap.size w (((w.alloc (.cells #[.int .i64 fL, .int .i64 fS, vmv, vout] 39)).alloc (.cells #[.int .i64 0, .int .i64 0, .slice none 0 0, .slice none 0 0] 27)).alloc (.cells #[.int .i64 0, .int .i64 0, .slice none 0 0, .slice none 0 0] 27)) := ((below_alloc _ _).alloc (by simp) _).alloc (by simp; omega) _
  have hrA : Row (((w.alloc (.cells #[.int .i64 fL, .int .i64 fS, vmv, vout] 39)).alloc (.cells #[.int .i64 0, .int .i64 0, .slice none 0 0, .slice none 0 0] 27)).alloc (.cells #[.int .i64 0, .int .i64 0, .slice none 0 0, .slice none 0 0] 27)) w.heap.size 39 [.int .i64 fL, .int .i64 fS, vmv, vout] := ((Row.new w _ _).alloc _).alloc _
  have hrB : Row (((w.alloc (.cells #[.int .i64 fL, .int .i64 fS, vmv, vout] 39)).alloc (.cells #[.int .i64 0, .int .i64 0, .slice none 0 0, .slice none 0 0] 27)).alloc (.cells #[.int .i64 0, .int .i64 0, .slice none 0 0, .slice none 0 0] 27)) (w.heap.size + 1) 27 [.int .i64 0, .int .i64 0, .slice none 0 0, .slice none 0 0] := by
    have := (Row.new (w.alloc (.cells #[.int .i64 fL, .int .i64 fS, vmv, vout] 39)) [.int .i64 0, .int .i64 0, .slice none 0 0, .slice none 0 0] 27).alloc (.cells #[.int .i64 0, .int .i64 0, .slice none 0 0, .slice none 0 0] 27)
    simpa using this
  have hrC : Row (((w.alloc (.cells #[.int .i64 fL, .int .i64 fS, vmv, vout] 39)).alloc (.cells #[.int .i64 0, .int .i64 0, .slice none 0 0, .slice none 0 0] 27)).alloc (.cells #[.int .i64 0, .int .i64 0, .slice none 0 0, .slice none 0 0] 27)) (w.heap.size + 1 + 1) 27 [.int .i64 0, .int .i64 0, .slice none 0 0, .slice none 0 0] := by
    have := Row.new ((w.alloc (.cells #[.int .i64 fL, .int .i64 fS, vmv, vout] 39)).alloc (.cells #[.int .i64 0, .int .i64 0, .slice none 0 0, .slice none 0 0] 27)) [.int .i64 0, .int .i64 0, .slice none 0 0, .slice none 0 0] 27
    simpa using this
  have hsz : (((w.alloc (.cells #[.int .i64 fL, .int .i64 fS, vmv, vout] 39)).alloc (.cells #[.int .i64 0, .int .i64 0, .slice none 0 0, .slice none 0 0] 27)).alloc (.cells #[.int .i64 0, .int .i64 0, .slice none 0 0, .slice none 0 0] 27)).heap.size = w.heap.size + 3 := by simp
  go_enter Try.func16, Try.ntmps16
  clear hmv hout
  go_wp2_with fail
  refine (Hmv.out _ hw1).mono ?_
  generalize ((w.alloc (.cells #[.int .i64 fL, .int .i64 fS, vmv, vout] 39)).alloc (.cells #[.int .i64 0, .int .i64 0, .slice none 0 0, .slice none 0 0] 27)).alloc (.cells #[.int .i64 0, .int .i64 0, .slice none 0 0, .slice none 0 0] 27) = W0 at *
  rintro e w1 ⟨umv, bmv, rfl, humv, hb⟩
  obtain ⟨Amv, kmv, rfl⟩ := OwL.shape humv
  have rA := hrA.below hb hrA.lt
  have rB := hrB.below hb hrB.lt
  have rC := hrC.below hb hrC.lt
  have hnd := (goodL (goodP 55) 51).nodup humv
  have ND := Lib.hid hnd
  clear hnd
  have hw2 := hw1.trans (hb.mono hw1.size)
  have hsz2 : w.heap.size + 3 ≤ W0.heap.size := by first | omega | exact hsz
  have oM : OwL (OwP 55) 51 w1 (w.heap.size + 3) (.slice Amv fmv.length kmv) fmv bmv := (goodL (goodP 55) 51).mono humv hsz2
  have hsz3 := Nat.le_trans hsz2 hb.size
  have H1 := Lib.hid (show _ ∧ _ ∧ _ ∧ _ ∧ _ from ⟨rA, rB, rC, hw2, oM⟩)
  obtain ⟨⟨ca0, ca1, ca2, ca3⟩, -⟩ := rA.four
  obtain ⟨⟨cc0, cc1, cc2, cc3⟩, fc⟩ := rC.four
  have hl1 := rC.lt
  clear rA rB rC hrA hrB hrC hw1 hb humv hsz hsz2 hw2 oM 
  go_wp2_with fail
  obtain ⟨rA, rB, rC, hw1, omv⟩ := H1.out
  have hrA := (((rA.other (a := ⟨w.heap.size + 1 + 1, 0, none⟩) (by show w.heap.size + 1 + 1 ≠ _; omega) (.int .i64 fL)).other (a := ⟨w.heap.size + 1 + 1, 1, none⟩) (by show w.heap.size + 1 + 1 ≠ _; omega) (.int .i64 fS)).other (a := ⟨w.heap.size + 1 + 1, 2, none⟩) (by show w.heap.size + 1 + 1 ≠ _; omega) (.slice Amv fmv.length kmv))
  have hrB := (((rB.other (a := ⟨w.heap.size + 1 + 1, 0, none⟩) (by show w.heap.size + 1 + 1 ≠ _; omega) (.int .i64 fL)).other (a := ⟨w.heap.size + 1 + 1, 1, none⟩) (by show w.heap.size + 1 + 1 ≠ _; omega) (.int .i64 fS)).other (a := ⟨w.heap.size + 1 + 1, 2, none⟩) (by show w.heap.size + 1 + 1 ≠ _; omega) (.slice Amv fmv.length kmv))
  have hrC := (((rC.stored 0 (.int .i64 fL)).stored 1 (.int .i64 fS)).stored 2 (.slice Amv fmv.length kmv))
  have hw1 := (((hw1.setCell (p := ⟨w.heap.size + 1 + 1, 0, none⟩) (by show w.heap.size ≤ _ + 1 + 1; omega) (.int .i64 fL)).setCell (p := ⟨w.heap.size + 1 + 1, 1, none⟩) (by show w.heap.size ≤ _ + 1 + 1; omega) (.int .i64 fS)).setCell (p := ⟨w.heap.size + 1 + 1, 2, none⟩) (by show w.heap.size ≤ _ + 1 + 1; omega) (.slice Amv fmv.length kmv))
  have omv := ((goodL (goodP 55) 51).under (a := ⟨w.heap.size + 1 + 1, 2, none⟩) ((goodL (goodP 55) 51).under (a := ⟨w.heap.size + 1 + 1, 1, none⟩) ((goodL (goodP 55) 51).under (a := ⟨w.heap.size + 1 + 1, 0, none⟩) omv (by show w.heap.size + 1 + 1 < _; omega) (.int .i64 fL)) (by show w.heap.size + 1 + 1 < _; omega) (.int .i64 fS)) (by show w.heap.size + 1 + 1 < _; omega) (.slice Amv fmv.length kmv))
  have hsz : w.heap.size + 3 ≤ ((((w1).setCell ⟨w.heap.size + 1 + 1, 0, none⟩ (.int .i64 fL)).setCell ⟨w.heap.size + 1 + 1, 1, none⟩ (.int .i64 fS)).setCell ⟨w.heap.size + 1 + 1, 2, none⟩ (.slice Amv fmv.length kmv)).heap.size := by simpa using hsz3
  clear rA rB rC H1 hsz3 hl1 ca0 ca1 ca2 ca3 cc0 cc1 cc2 cc3 fc
  refine (Hout.out _ hw1).mono ?_
  generalize (((w1).setCell ⟨w.heap.size + 1 + 1, 0, none⟩ (.int .i64 fL)).setCell ⟨w.heap.size + 1 + 1, 1, none⟩ (.int .i64 fS)).setCell ⟨w.heap.size + 1 + 1, 2, none⟩ (.slice Amv fmv.length kmv) = W0 at *
  rintro e w2 ⟨uout, bout, rfl, huout, hb⟩
  obtain ⟨Aout, kout, rfl⟩ := OwL.shape huout
  have rA := hrA.below hb hrA.lt
  have rB := hrB.below hb hrB.lt
  have rC := hrC.below hb hrC.lt
  have oNmv := (goodL (goodP 55) 51).below omv hb
  have ltp : ∀ x ∈ bmv, x < W0.heap.size := by
    intro x hx
    exact ((goodL (goodP 55) 51).lt omv hx).2
  have hnd := nodup_two ND.out ((goodL (goodV strs 9) 44).nodup huout) ltp (fun x hx => ((goodL (goodV strs 9) 44).lt huout hx).1)
  clear ltp ND
  have ND := Lib.hid hnd
  clear hnd
  have hw2 := hw1.trans (hb.mono hw1.size)
  have hsz2 : w.heap.size + 3 ≤ W0.heap.size := by first | omega | exact hsz
  have oM : OwL (OwV strs 9) 44 w2 (w.heap.size + 3) (.slice Aout fout.length kout) fout bout := (goodL (goodV strs 9) 44).mono huout hsz2
  have hsz3 := Nat.le_trans hsz2 hb.size
  have H1 := Lib.hid (show _ ∧ _ ∧ _ ∧ _ ∧ _ ∧ _ from ⟨rA, rB, rC, hw2, oM, oNmv⟩)
  obtain ⟨⟨ca0, ca1, ca2, ca3⟩, -⟩ := rA.four
  obtain ⟨⟨cc0, cc1, cc2, cc3⟩, fc⟩ := rC.four
  obtain ⟨⟨cb0, cb1, cb2, cb3⟩, fb⟩ := rB.four
  have hl1 := rC.lt
  clear rA rB rC hrA hrB hrC hw1 hb huout hsz hsz2 hw2 oM oNmv omv
  go_wp2
  obtain ⟨rA, rB, rC, hw1, oout, omv⟩ := H1.out
  clear ca0 ca1 ca2 ca3 cc0 cc1 cc2 cc3 fc cb0 cb1 cb2 cb3 fb H1
  have rF := (((((rB.other (a := ⟨w.heap.size + 1 + 1, 3, none⟩) (by show w.heap.size + 1 + 1 ≠ _; omega) (.slice Aout fout.length kout)).stored 0 (.int .i64 fL)).stored 1 (.int .i64 fS)).stored 2 (.slice Amv fmv.length kmv)).stored 3 (.slice Aout fout.length kout))
  have emv := ((goodL (goodP 55) 51).under (a := ⟨w.heap.size + 1, 3, none⟩) ((goodL (goodP 55) 51).under (a := ⟨w.heap.size + 1, 2, none⟩) ((goodL (goodP 55) 51).under (a := ⟨w.heap.size + 1, 1, none⟩) ((goodL (goodP 55) 51).under (a := ⟨w.heap.size + 1, 0, none⟩) ((goodL (goodP 55) 51).under (a := ⟨w.heap.size + 1 + 1, 3, none⟩) omv (by show w.heap.size + 1 + 1 < _; omega) (.slice Aout fout.length kout)) (by show w.heap.size + 1 < _; omega) (.int .i64 fL)) (by show w.heap.size + 1 < _; omega) (.int .i64 fS)) (by show w.heap.size + 1 < _; omega) (.slice Amv fmv.length kmv)) (by show w.heap.size + 1 < _; omega) (.slice Aout fout.length kout))
  have eout := ((goodL (goodV strs 9) 44).under (a := ⟨w.heap.size + 1, 3, none⟩) ((goodL (goodV strs 9) 44).under (a := ⟨w.heap.size + 1, 2, none⟩) ((goodL (goodV strs 9) 44).under (a := ⟨w.heap.size + 1, 1, none⟩) ((goodL (goodV strs 9) 44).under (a := ⟨w.heap.size + 1, 0, none⟩) ((goodL (goodV strs 9) 44).under (a := ⟨w.heap.size + 1 + 1, 3, none⟩) oout (by show w.heap.size + 1 + 1 < _; omega) (.slice Aout fout.length kout)) (by show w.heap.size + 1 < _; omega) (.int .i64 fL)) (by show w.heap.size + 1 < _; omega) (.int .i64 fS)) (by show w.heap.size + 1 < _; omega) (.slice Amv fmv.length kmv)) (by show w.heap.size + 1 < _; omega) (.slice Aout fout.length kout))
  have eB := (((((hw1.setCell (p := ⟨w.heap.size + 1 + 1, 3, none⟩) (by show w.heap.size ≤ w.heap.size + 1 + 1; omega) (.slice Aout fout.length kout)).setCell (p := ⟨w.heap.size + 1, 0, none⟩) (by show w.heap.size ≤ w.heap.size + 1; omega) (.int .i64 fL)).setCell (p := ⟨w.heap.size + 1, 1, none⟩) (by show w.heap.size ≤ w.heap.size + 1; omega) (.int .i64 fS)).setCell (p := ⟨w.heap.size + 1, 2, none⟩) (by show w.heap.size ≤ w.heap.size + 1; omega) (.slice Amv fmv.length kmv)).setCell (p := ⟨w.heap.size + 1, 3, none⟩) (by show w.heap.size ≤ w.heap.size + 1; omega) (.slice Aout fout.length kout))
  have hnd := ND.out
  clear rA rB rC hw1 ND omv oout
  generalize (((((w2).setCell ⟨w.heap.size + 1 + 1, 3, none⟩ (.slice Aout fout.length kout)).setCell ⟨w.heap.size + 1, 0, none⟩ (.int .i64 fL)).setCell ⟨w.heap.size + 1, 1, none⟩ (.int .i64 fS)).setCell ⟨w.heap.size + 1, 2, none⟩ (.slice Amv fmv.length kmv)).setCell ⟨w.heap.size + 1, 3, none⟩ (.slice Aout fout.length kout) = W2 at *
  obtain ⟨⟨q0, q1, q2, q3⟩, -⟩ := Row.four rF
  refine bodyPost_ret (v := .agg #[.int .i64 fL, .int .i64 fS, .slice Amv fmv.length kmv, .slice Aout fout.length kout]) (by simp [results, Try.results16, go_sem, q0, q1, q2, q3]) rfl ⟨_, bmv ++ bout, rfl, ?_, eB⟩
  exact ⟨_, _, _, _, rfl, (goodL (goodP 55) 51).mono emv (by omega), (goodL (goodV strs 9) 44).mono eout (by omega), rfl, hnd⟩

open Go.ChangeShapes Go.WideShapes Go.ChangeAt Go.Joins Go.Deep

set_option maxRecDepth 100000 in
theorem open_writer {H : Type} {enc : TypeId × Value → H} {W : World} {base : Nat} {v : Value} {d : DataW H} {p : List MemPlace} (hv : Value.okWide Try.prog W .any base 39 v) (h : DataW.Trod enc Try.prog W 0 (fun _ => true) true 39 v d p)
    (hf : Fit Try.prog 39 d) : ∃ r, RdWr W v r ∧ WrSmall r := by
  obtain ⟨cs, rfl, hsz⟩ := okWide_struct Try.underlying39 hv
  obtain ⟨c0, c1, c2, c3, rfl⟩ := array4 (hsz.trans (show Try.prog.cellsOf 39 = 4 by kernel_rfl))
  obtain ⟨fuel, hF⟩ := h
  obtain ⟨y0, y1, n, hx, _, g0, g1⟩ := trod_struct2 Try.underlying39 hF
  have e0 : Try.prog.cellsOf 37 = 3 := by kernel_rfl
  have e1 : Try.prog.cellsOf 25 = 1 := by kernel_rfl
  simp only [Prod.mk.injEq] at hx
  obtain ⟨rfl, -⟩ := hx
  have k0 : DataW.trod enc Try.prog W 0 (fun _ => true) true n 37 [c0, c1, c2] = some y0 := by simpa [Value.cells, e0] using g0
  have k1 : DataW.trod enc Try.prog W 0 (fun _ => true) true n 25 [c3] = some y1 := by simpa [Value.cells, e1] using g1
  have hf0 : Fit Try.prog 37 y0.1 := hf.part Try.underlying39 (j := 0) rfl rfl
  have hf1 : Fit Try.prog 25 y1.1 := hf.part Try.underlying39 (j := 1) rfl rfl
  obtain ⟨z0, z1, z2, m, hz, _, q0, q1, q2⟩ := trod_struct3 Try.underlying37 k0
  have e2 : Try.prog.cellsOf 2 = 1 := by kernel_rfl
  have e3 : Try.prog.cellsOf 35 = 1 := by kernel_rfl
  subst hz
  have l0 : DataW.trod enc Try.prog W 0 (fun _ => true) true m 2 [c0] = some z0 := by simpa [e2] using q0
  have l1 : DataW.trod enc Try.prog W 0 (fun _ => true) true m 2 [c1] = some z1 := by simpa [e2] using q1
  have l2 : DataW.trod enc Try.prog W 0 (fun _ => true) true m 35 [c2] = some z2 := by simpa [e3] using q2
  obtain ⟨L, rfl, -⟩ := opens_int Try.underlying2 m c0 z0 l0 (hf0.part Try.underlying37 (j := 0) rfl rfl)
  obtain ⟨S, rfl, -⟩ := opens_int Try.underlying2 m c1 z1 l1 (hf0.part Try.underlying37 (j := 1) rfl rfl)
  obtain ⟨mv, hn, qn1, qn2⟩ := opens_slice Try.underlying35 (by kernel_rfl) (opens_pairs Try.underlying114 Try.underlying123 (by kernel_rfl) rfl rfl (by kernel_rfl) (by kernel_rfl) Try.underlying2 Try.underlying2 (by kernel_rfl)) m c2 z2 l2 (hf0.part Try.underlying37 (j := 2) rfl rfl)
  obtain ⟨out, ho, qo1, qo2⟩ := opens_slice Try.underlying25 (by kernel_rfl) (opens_strs Try.underlying44 Try.underlying9 (by kernel_rfl) (by kernel_rfl)) n c3 y1 k1 hf1
  have eb : Try.prog.bytesOf 114 = 24 := by kernel_rfl
  have eo : Try.prog.bytesOf 44 = 24 := by kernel_rfl
  rw [eb] at qn1
  rw [eo] at qo1
  refine ⟨⟨L, S, mv, out⟩, ⟨c2, c3, rfl, hn, ho⟩, ⟨?_, ?_⟩, ?_, ?_⟩
  · simp only [reachBytes] at qn1; show 24 * mv.length ≤ _; omega
  · intro x hx; have := (qn2 x hx).1; simp only [reachBytes] at this; omega
  · simp only [reachBytes] at qo1; show 24 * out.length ≤ _; omega
  · exact qo2

end Go.Proofs.Ytahgekjpnmmooaa
