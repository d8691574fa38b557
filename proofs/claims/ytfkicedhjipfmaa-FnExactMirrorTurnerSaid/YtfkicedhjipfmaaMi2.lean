/-
  The mirrored turner: the program's answer.
-/
import Derived.Test.YtfkicedhjipfmaaMi1
import Derived.Test.YtfkicedhjipfmaaTd1
namespace Go.Proofs.Ytfkicedhjipfmaa
open Go.RowKit

set_option maxRecDepth 100000 in
set_option maxHeartbeats 1600000 in
theorem mirClosure_any (pf p : Nat) (t : TData) (q k : Nat) (w : World) (hpf : w.cell? ⟨pf, 0, none⟩ = some (.int .i64 (t.mv.length : Int))) (h : AtT w p t) (ok : OkT t) (hq : q < t.mv.length + 1) (hk : (k : Int) < t.L + 2) :
    Calls Try.prog 63 #[.int .i64 (q : Int), .int .i64 (k : Int), .pointer (some ⟨pf, 0, none⟩), .pointer (some ⟨p, 0, none⟩)] w fun e w' => e = .returned (deedV (mirG t q k)) ∧ Below w.heap.size w w' := by
  have l1 := ok.l1
  have l2 := ok.l2
  have n2 := ok.n2
  obtain ⟨vm, c0, c1, c2, hR⟩ := h
  have hv : RdT w (.agg #[.int .i64 t.L, .int .i64 t.S, vm]) t := ⟨vm, rfl, hR⟩
  have cc := concWalk
  by_cases h1 : q < t.mv.length
  · have HM := Lib.hid (mirrored_any _ t q k w hv ok h1 hk)
    have hG : mirG t q k = mirM (moveAt t q (swapK t.L k)) := by unfold mirG; rw [if_pos h1]
    rw [hG]
    have i1 : (q : Int) < t.mv.length := by omega
    obtain ⟨A, ca, rfl⟩ := RdL.shape hR
    clear hG ok hv hR h1 hq hk
    go_enter Try.func63, Try.ntmps63
    go_wp2_with fail
    refine HM.out.mono ?_
    rintro e w1 ⟨rfl, hb⟩
    have HB := Lib.hid hb
    clear hb
    go_wp2
    go_ret
    exact ⟨rfl, HB.out⟩
  · obtain rfl : q = t.mv.length := by omega
    by_cases h2 : (k : Int) = t.L + 1
    · obtain ⟨s0, hs0⟩ : ∃ s0 : Nat, t.S = s0 := ⟨t.S.toNat, by have := ok.s1; omega⟩
      have HM := Lib.hid (mirrored_any _ t s0 k w hv ok (by have := ok.s2; omega) hk)
      have hG : mirG t t.mv.length k = mirM (moveAt t s0 (swapK t.L k)) := by
        unfold mirG
        rw [if_neg h1, if_pos h2, show t.S.toNat = s0 by omega, show swapK t.L k = t.L.toNat from by unfold swapK; rw [if_neg (by omega), if_pos h2]]
      rw [hG]
      rw [hs0] at c1 HM
      have i1 : decide ((t.mv.length : Int) < t.mv.length) = false := by simp
      have d2 : ((k : Int) == t.L + 1) = true := by simpa using h2
      obtain ⟨A, ca, rfl⟩ := RdL.shape hR
      clear hG ok hv hR h1 hq hk h2 hs0
      go_enter Try.func63, Try.ntmps63
      go_wp2_with (go_at_call 47; refine (rightMark_any _ _ (by omega) (by omega)).mono ?_; rintro e w' ⟨rfl, rfl⟩)
      refine HM.out.mono ?_
      rintro e w1 ⟨rfl, hb⟩
      have HB := Lib.hid hb
      clear hb
      go_wp2
      go_ret
      exact ⟨rfl, HB.out⟩
    · have hG : mirG t t.mv.length k = ((t.mv.length : Int), 1) := by unfold mirG; rw [if_neg h1, if_neg h2]
      have HG := Lib.hid hG
      have i1 : decide ((t.mv.length : Int) < t.mv.length) = false := by simp
      have d2 : ((k : Int) == t.L + 1) = false := by simpa using h2
      clear hG ok hv hR h1 hq hk h2
      go_enter Try.func63, Try.ntmps63
      go_wp2_with (go_at_call 47; refine (rightMark_any _ _ (by omega) (by omega)).mono ?_; rintro e w' ⟨rfl, rfl⟩)
      go_ret
      refine ⟨?_, Below.refl _ _⟩
      rw [HG.out, deedV_walkM _ _ (by omega)]
      rfl

/-- A turner that a call has made, stored into a box of the caller's own and handed on. -/
theorem own_storedM {w W : World} {b lo : Nat} {L S : Int} {A : Option Addr} {n k : Nat} {t : TData} {bs : List Nat} {z0 z1 z2 : Value}
    (hz : Row W b 29 [z0, z1, z2]) (hb : Below w.heap.size w W) (hlo : w.heap.size ≤ b) (hbl : b < lo) (hO : OwT W lo (.agg #[.int .i64 L, .int .i64 S, .slice A n k]) t bs) :
    let W2 := (((W.setCell ⟨b, 0, none⟩ (.int .i64 L)).setCell ⟨b, 1, none⟩ (.int .i64 S)).setCell ⟨b, 2, none⟩ (.slice A n k));
    (W2.cell? ⟨b, 0, none⟩ = some (.int .i64 L) ∧ W2.cell? ⟨b, 1, none⟩ = some (.int .i64 S) ∧ W2.cell? ⟨b, 2, none⟩ = some (.slice A n k)) ∧ OwT W2 w.heap.size (.agg #[.int .i64 L, .int .i64 S, .slice A n k]) t bs ∧ Below w.heap.size w W2 := by
  intro W2
  have rF := (((hz.stored 0 (.int .i64 L)).stored 1 (.int .i64 S)).stored 2 (.slice A n k))
  have eO := (goodT.under (a := ⟨b, 2, none⟩) (goodT.under (a := ⟨b, 1, none⟩) (goodT.under (a := ⟨b, 0, none⟩) hO hbl (.int .i64 L)) hbl (.int .i64 S)) hbl (.slice A n k))
  have eB := (((hb.setCell (p := ⟨b, 0, none⟩) hlo (.int .i64 L)).setCell (p := ⟨b, 1, none⟩) hlo (.int .i64 S)).setCell (p := ⟨b, 2, none⟩) hlo (.slice A n k))
  exact ⟨(Row.three (a := .int .i64 L) (b := .int .i64 S) (c := .slice A n k) rF).1, goodT.mono eO (by omega), eB⟩

set_option maxRecDepth 100000 in
set_option maxHeartbeats 3200000 in
theorem implMir_any (v : Value) (t : TData) (w : World) (h : RdT w v t) :
    Calls Try.prog 24 #[v] w fun e w' => ∃ u bs, e = .returned (.tuple #[u, .int .i64 (mirRes t).2]) ∧ OwT w' w.heap.size u (mirRes t).1 bs ∧ Below w.heap.size w w' := by
  have hV := fun W (hb : Below w.heap.size w W) => ValidTurner_any v t W (keepsT _ _ _ _ h hb)
  have hS := fun W (hb : Below w.heap.size w W) => states_any v t W (keepsT _ _ _ _ h hb)
  obtain ⟨vm, rfl, hA⟩ := atT_box h 29
  obtain ⟨A, ca, rfl⟩ := RdL.shape (show RdPP _ vm t.mv from by obtain ⟨_, e, hm⟩ := h; cases e; exact hm)
  have hA0 := hA.below (below_alloc _ (.cells #[.int .i64 0, .int .i64 0, .slice none 0 0] 29))
  have HV := Lib.hid hV
  have HST := Lib.hid hS
  have HA := Lib.hid hA0
  have hr := (Row.new w [.int .i64 t.L, .int .i64 t.S, .slice A t.mv.length ca] 29).alloc (.cells #[.int .i64 0, .int .i64 0, .slice none 0 0] 29)
  have hz := Row.new (w.alloc (.cells #[.int .i64 t.L, .int .i64 t.S, .slice A t.mv.length ca] 29)) [.int .i64 0, .int .i64 0, .slice none 0 0] 29
  have HZ := Lib.hid (show Row _ (w.heap.size + 1) _ _ by simpa using hz)
  have HR := Lib.hid hr
  have HB := Lib.hid ((below_alloc w (.cells #[.int .i64 t.L, .int .i64 t.S, .slice A t.mv.length ca] 29)).alloc (by simp) (.cells #[.int .i64 0, .int .i64 0, .slice none 0 0] 29))
  clear hV hS h hA hA0 hr hz
  by_cases hok : okT t = true
  · have HK := Lib.hid (okT_out hok)
    have HOK := Lib.hid hok
    go_enter Try.func24, Try.ntmps24
    go_wp2_with fail
    refine (HV.out _ HB.out).mono ?_
    generalize (w.alloc (.cells #[.int .i64 t.L, .int .i64 t.S, .slice A t.mv.length ca] 29)).alloc (.cells #[.int .i64 0, .int .i64 0, .slice none 0 0] 29) = W0 at *
    rintro e w1 ⟨rfl, hb1⟩
    have HZ1 := Lib.hid (HZ.out.below hb1 HZ.out.lt)
    have HA1 := Lib.hid (HA.out.below hb1)
    have HB1 := Lib.hid (below_step HB.out hb1)
    have HR1 := Lib.hid (HR.out.below hb1 HR.out.lt)
    obtain ⟨⟨b0, b1, b2⟩, -⟩ := HR1.out.three
    clear hb1 HZ HB HR
    go_wp2_with fail
    clear hok b0 b1 b2
    refine (HST.out _ HB1.out).mono ?_
    rintro e w2 ⟨rfl, hb2⟩
    have hb3 := below_step hb2 (below_alloc w2 (.cells #[.int .i64 (t.mv.length : Int)] 2))
    have HZ3 := Lib.hid (HZ1.out.below hb3 HZ1.out.lt)
    have HA3 := Lib.hid (HA1.out.below hb3)
    have HB3 := Lib.hid (below_step HB1.out hb3)
    have HR3 := Lib.hid (HR1.out.below hb3 HR1.out.lt)
    have HF := Lib.hid (Row.new w2 [.int .i64 (t.mv.length : Int)] 2)
    obtain ⟨⟨b0, b1, b2⟩, -⟩ := (HR1.out.below hb2 HR1.out.lt).three
    have lt2 := (HR1.out.below hb2 HR1.out.lt).lt
    clear hb2 hb3 HZ1 HA1 HB1 HR1
    obtain ⟨c, hc⟩ : ∃ c : Nat, (c : Int) = t.L + 2 := ⟨(t.L + 2).toNat, by have := HK.out.l1; omega⟩
    have HC := Lib.hid hc
    have n2 := HK.out.n2
    clear hc
    by_cases hn : t.mv.length + 1 ≤ 12
    · have HD := Lib.hid (doingMirrorTurner_own t.L (t.mv.length : Int) (t.mv.length + 1) c w2.heap.size w.heap.size (mirG t) _ HK.out.l1 HK.out.l2 HC.out hn
        (fun q k hq hk => deeded_of (mirG_ok HK.out (by have := HC.out; omega)))
        (fun W' hb' q k hq hk => mirClosure_any _ _ t q k W' (below_keep hb' HF.out.one.1) (HA3.out.below hb') HK.out hq (by have := HC.out; omega)))
      have HN := Lib.hid hn
      rw [show ((t.mv.length + 1 : Nat) : Int) = (t.mv.length : Int) + 1 by omega] at HD
      clear hn
      go_wp2_with fail
      refine HD.out.mono ?_
      generalize w2.alloc (.cells [.int .i64 (t.mv.length : Int)].toArray 2) = w3 at *
      rintro e w4 ⟨u, bs, rfl, hu, hb⟩
      have hl1 := HZ3.out.lt
      have hz4 := HZ3.out.below hb hl1
      obtain ⟨vm2, bm2, rfl, hvm2, rfl, hnd2⟩ := hu
      obtain ⟨Am, km, rfl⟩ := OwL.shape hvm2
      simp only at hvm2
      have HH := Lib.hid (own_storedM (w := w) hz4 (below_step HB3.out hb) (by omega) hl1 (t := ⟨t.L, t.mv.length, tableOf (mirG t) c (t.mv.length + 1)⟩) ⟨_, _, rfl, hvm2, rfl, hnd2⟩)
      obtain ⟨⟨z0, z1, z2⟩, zf⟩ := hz4.three
      have lz := hz4.lt
      clear hz4 hvm2 hnd2 hb hl1 b0 b1 b2 lt2
      go_wp2
      obtain ⟨⟨y0, y1, y2⟩, eO, eB⟩ := HH.out
      have hres : mirRes t = (⟨t.L, t.mv.length, tableOf (mirG t) c (t.mv.length + 1)⟩, 0) := by
        have := HC.out
        simp only [mirRes, HOK.out, if_true, if_pos HN.out, show (t.L + 2).toNat = c by omega]
      rw [hres]
      refine bodyPost_ret (v := .tuple #[.agg #[.int .i64 t.L, .int .i64 (t.mv.length : Int), .slice Am (tableOf (mirG t) c (t.mv.length + 1)).length km], .int .i64 0]) (by simp [results, Try.results24, go_sem, y0, y1, y2]) rfl ?_
      first | exact ⟨_, _, rfl, eO, eB⟩ | exact ⟨_, rfl, ⟨_, eO⟩, eB⟩
    · have HD := Lib.hid (doing_limit t.L (t.mv.length : Int) ((t.mv.length : Int) + 1) (.func (.func 63) #[] #[.pointer (some ⟨w2.heap.size, 0, none⟩), .pointer (some ⟨w.heap.size, 0, none⟩)]) (w2.alloc (.cells #[.int .i64 (t.mv.length : Int)] 2)) (by omega))
      have HN := Lib.hid hn
      clear hn
      go_wp2_with fail
      refine HD.out.mono ?_
      generalize w2.alloc (.cells #[.int .i64 (t.mv.length : Int)] 2) = w3 at *
      rintro e w4 ⟨u, bs, rfl, hu, hb⟩
      have hl1 := HZ3.out.lt
      have hz4 := HZ3.out.below hb hl1
      obtain ⟨vm2, bm2, rfl, hvm2, rfl, hnd2⟩ := hu
      obtain ⟨Am, km, rfl⟩ := OwL.shape hvm2
      simp only at hvm2
      have HH := Lib.hid (own_storedM (w := w) hz4 (below_step HB3.out hb) (by omega) hl1 (t := ⟨0, 0, []⟩) ⟨_, _, rfl, hvm2, rfl, hnd2⟩)
      obtain ⟨⟨z0, z1, z2⟩, zf⟩ := hz4.three
      have lz := hz4.lt
      clear hz4 hvm2 hnd2 hb hl1 b0 b1 b2 lt2
      go_wp2
      obtain ⟨⟨y0, y1, y2⟩, eO, eB⟩ := HH.out
      have hres : mirRes t = (⟨0, 0, []⟩, 3) := by simp only [mirRes, HOK.out, if_true, if_neg HN.out]
      rw [hres]
      generalize (((w4.setCell ⟨w.heap.size + 1, 0, none⟩ (.int .i64 0)).setCell ⟨w.heap.size + 1, 1, none⟩ (.int .i64 0)).setCell ⟨w.heap.size + 1, 2, none⟩ (.slice Am 0 km)) = W2 at *
      refine bodyPost_ret (v := .tuple #[.agg #[.int .i64 0, .int .i64 0, .slice Am 0 km], .int .i64 3]) (by simp [results, Try.results24, go_sem, y0, y1, y2]) rfl ?_
      first | exact ⟨_, _, rfl, eO, eB⟩ | exact ⟨_, rfl, ⟨_, eO⟩, eB⟩
  · have hok' : okT t = false := by simpa using hok
    clear hok
    have HOK := Lib.hid hok'
    go_enter Try.func24, Try.ntmps24
    go_wp2_with fail
    refine (HV.out _ HB.out).mono ?_
    generalize (w.alloc (.cells #[.int .i64 t.L, .int .i64 t.S, .slice A t.mv.length ca] 29)).alloc (.cells #[.int .i64 0, .int .i64 0, .slice none 0 0] 29) = W0 at *
    rintro e w1 ⟨rfl, hb1⟩
    have hz1 := HZ.out.below hb1 HZ.out.lt
    have HH := Lib.hid (own_storedM (w := w) (A := none) (n := 0) (k := 0) (L := 0) (S := 0) hz1 (below_step HB.out hb1) (by omega) hz1.lt (t := ⟨0, 0, []⟩) ⟨_, [], rfl, owL_nil _ _ _ _, rfl, by simp⟩)
    obtain ⟨⟨z0, z1, z2⟩, zf⟩ := hz1.three
    have lz := hz1.lt
    clear hb1 hz1
    go_wp2
    obtain ⟨⟨y0, y1, y2⟩, eO, eB⟩ := HH.out
    have hres : mirRes t = (⟨0, 0, []⟩, 1) := by simp [mirRes, HOK.out]
    rw [hres]
    generalize (((w1.setCell ⟨w.heap.size + 1, 0, none⟩ (.int .i64 0)).setCell ⟨w.heap.size + 1, 1, none⟩ (.int .i64 0)).setCell ⟨w.heap.size + 1, 2, none⟩ (.slice none 0 0)) = W2 at *
    refine bodyPost_ret (v := .tuple #[.agg #[.int .i64 0, .int .i64 0, .slice none 0 0], .int .i64 1]) (by simp [results, Try.results24, go_sem, y0, y1, y2]) rfl ?_
    first | exact ⟨_, _, rfl, eO, eB⟩ | exact ⟨_, rfl, ⟨_, eO⟩, eB⟩
end Go.Proofs.Ytfkicedhjipfmaa
