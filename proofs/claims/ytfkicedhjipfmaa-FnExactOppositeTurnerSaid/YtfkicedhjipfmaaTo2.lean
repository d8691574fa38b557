/-
  The turner of a reader: the program's answer.
-/
import Derived.Test.YtfkicedhjipfmaaTo1
namespace Go.Proofs.Ytfkicedhjipfmaa
open Go.RowKit

/-- A turner that a call has made, stored into a box of the caller's own and handed on. -/
theorem own_stored {w W : World} {b lo : Nat} {L S : Int} {A : Option Addr} {n k : Nat} {t : TData} {bs : List Nat} {z0 z1 z2 : Value}
    (hz : Row W b 29 [z0, z1, z2]) (hb : Below w.heap.size w W) (hlo : w.heap.size ≤ b) (hbl : b < lo) (hO : OwT W lo (.agg #[.int .i64 L, .int .i64 S, .slice A n k]) t bs) :
    let W2 := (((W.setCell ⟨b, 0, none⟩ (.int .i64 L)).setCell ⟨b, 1, none⟩ (.int .i64 S)).setCell ⟨b, 2, none⟩ (.slice A n k));
    (W2.cell? ⟨b, 0, none⟩ = some (.int .i64 L) ∧ W2.cell? ⟨b, 1, none⟩ = some (.int .i64 S) ∧ W2.cell? ⟨b, 2, none⟩ = some (.slice A n k)) ∧ OwT W2 w.heap.size (.agg #[.int .i64 L, .int .i64 S, .slice A n k]) t bs ∧ Below w.heap.size w W2 := by
  intro W2
  have rF := (((hz.stored 0 (.int .i64 L)).stored 1 (.int .i64 S)).stored 2 (.slice A n k))
  have eO := (goodT.under (a := ⟨b, 2, none⟩) (goodT.under (a := ⟨b, 1, none⟩) (goodT.under (a := ⟨b, 0, none⟩) hO hbl (.int .i64 L)) hbl (.int .i64 S)) hbl (.slice A n k))
  have eB := (((hb.setCell (p := ⟨b, 0, none⟩) hlo (.int .i64 L)).setCell (p := ⟨b, 1, none⟩) hlo (.int .i64 S)).setCell (p := ⟨b, 2, none⟩) hlo (.slice A n k))
  exact ⟨(Row.three (a := .int .i64 L) (b := .int .i64 S) (c := .slice A n k) rF).1, goodT.mono eO (by omega), eB⟩

set_option maxRecDepth 100000 in
set_option maxHeartbeats 3200000 in
theorem implTurnerOf_any (v : Value) (r : RData) (w : World) (h : RdR w v r) :
    Calls Try.prog 13 #[v] w fun e w' => ∃ u bs, e = .returned (.tuple #[u, .int .i64 (tofRes r).2]) ∧ OwT w' w.heap.size u (tofRes r).1 bs ∧ Below w.heap.size w w' := by
  have hV := fun W (hb : Below w.heap.size w W) => ValidReader_any v r W (keepsR _ _ _ _ h hb)
  obtain ⟨va, vn, rfl, hA⟩ := atR_box h 32
  have hA0 := hA.below (below_alloc _ (.cells #[.int .i64 0, .int .i64 0, .slice none 0 0] 29))
  obtain ⟨A, ca, rfl⟩ := rdB_shape (show RdB _ va r.acc from by obtain ⟨a, n, -, -, -, -, -, -⟩ := hA; obtain ⟨_, _, e, ha, _⟩ := h; cases e; exact ha)
  obtain ⟨B, cb, rfl⟩ := RdL.shape (show RdII _ vn r.next from by obtain ⟨_, _, e, _, hn⟩ := h; cases e; exact hn)
  have HV := Lib.hid hV
  have HA := Lib.hid hA0
  have hr := (Row.new w [.int .i64 r.L, .int .i64 r.S, .slice A r.acc.length ca, .slice B r.next.length cb] 32).alloc (.cells #[.int .i64 0, .int .i64 0, .slice none 0 0] 29)
  have hz := Row.new (w.alloc (.cells #[.int .i64 r.L, .int .i64 r.S, .slice A r.acc.length ca, .slice B r.next.length cb] 32)) [.int .i64 0, .int .i64 0, .slice none 0 0] 29
  have HZ := Lib.hid (show Row _ (w.heap.size + 1) _ _ by simpa using hz)
  have HR := Lib.hid hr
  have HB := Lib.hid ((below_alloc w (.cells #[.int .i64 r.L, .int .i64 r.S, .slice A r.acc.length ca, .slice B r.next.length cb] 32)).alloc (by simp) (.cells #[.int .i64 0, .int .i64 0, .slice none 0 0] 29))
  clear hV h hA hA0 hr hz
  by_cases hok : okR r = true
  · have HK := Lib.hid (okR_out hok)
    have HOK := Lib.hid hok
    go_enter Try.func13, Try.ntmps13
    go_wp2_with fail
    refine (HV.out _ HB.out).mono ?_
    generalize (w.alloc (.cells #[.int .i64 r.L, .int .i64 r.S, .slice A r.acc.length ca, .slice B r.next.length cb] 32)).alloc (.cells #[.int .i64 0, .int .i64 0, .slice none 0 0] 29) = W0 at *
    rintro e w1 ⟨rfl, hb1⟩
    have HZ1 := Lib.hid (HZ.out.below hb1 HZ.out.lt)
    have HA1 := Lib.hid (HA.out.below hb1)
    have HB1 := Lib.hid (below_step HB.out hb1)
    obtain ⟨⟨b0, b1, b2, b3⟩, -⟩ := (HR.out.below hb1 HR.out.lt).four
    clear hb1 HZ HB
    obtain ⟨c, hc⟩ : ∃ c : Nat, (c : Int) = r.L + 2 := ⟨(r.L + 2).toNat, by have := HK.out.l1; omega⟩
    have HC := Lib.hid hc
    clear hc
    by_cases hn : r.acc.length ≤ 12
    · have HD := Lib.hid (doingTurnerOf_own r.L r.S r.acc.length c w.heap.size (tofG r) w1 HK.out.l1 HK.out.l2 HC.out hn (fun q k hq hk => tofG_deeded HK.out hq (by have := HC.out; omega)) (fun W hb q k hq hk => tofClosure_any _ r q k W (HA1.out.below hb) HK.out hq (by have := HC.out; omega)))
      have HN := Lib.hid hn
      clear hn
      go_wp2_with fail
      refine HD.out.mono ?_
      rintro e w2 ⟨u, bs, rfl, hu, hb2⟩
      have hl1 := HZ1.out.lt
      have hz2 := HZ1.out.below hb2 hl1
      obtain ⟨vm, bm, rfl, hvm, rfl, hnd⟩ := hu
      obtain ⟨Am, km, rfl⟩ := OwL.shape hvm
      simp only at hvm
      have HH := Lib.hid (own_stored (w := w) hz2 (below_step HB1.out hb2) (by omega) hl1 (t := ⟨r.L, r.S, tableOf (tofG r) c r.acc.length⟩) ⟨_, _, rfl, hvm, rfl, hnd⟩)
      obtain ⟨⟨z0, z1, z2⟩, zf⟩ := hz2.three
      have lz := hz2.lt
      clear hz2 hvm hnd hb2 hl1 b0 b1 b2 b3
      go_wp2
      obtain ⟨⟨y0, y1, y2⟩, eO, eB⟩ := HH.out
      have hres : tofRes r = (⟨r.L, r.S, tableOf (tofG r) c r.acc.length⟩, 0) := by
        have := HC.out
        simp only [tofRes, HOK.out, if_true, if_pos HN.out, show (r.L + 2).toNat = c by omega]
      rw [hres]
      generalize (((w2.setCell ⟨w.heap.size + 1, 0, none⟩ (.int .i64 r.L)).setCell ⟨w.heap.size + 1, 1, none⟩ (.int .i64 r.S)).setCell ⟨w.heap.size + 1, 2, none⟩ (.slice Am (tableOf (tofG r) c r.acc.length).length km)) = W2 at *
      refine bodyPost_ret (v := .tuple #[.agg #[.int .i64 r.L, .int .i64 r.S, .slice Am (tableOf (tofG r) c r.acc.length).length km], .int .i64 0]) (by simp [results, Try.results13, go_sem, y0, y1, y2]) rfl ?_
      first | exact ⟨_, _, rfl, eO, eB⟩ | exact ⟨_, rfl, ⟨_, eO⟩, eB⟩
    · have HD := Lib.hid (doing_limit r.L r.S (r.acc.length : Int) (.func (.func 45) #[] #[.pointer (some ⟨w.heap.size, 0, none⟩)]) w1 (by omega))
      have HN := Lib.hid hn
      clear hn
      go_wp2_with fail
      refine HD.out.mono ?_
      rintro e w2 ⟨u, bs, rfl, hu, hb2⟩
      have hl1 := HZ1.out.lt
      have hz2 := HZ1.out.below hb2 hl1
      obtain ⟨vm, bm, rfl, hvm, rfl, hnd⟩ := hu
      obtain ⟨Am, km, rfl⟩ := OwL.shape hvm
      simp only at hvm
      have HH := Lib.hid (own_stored (w := w) hz2 (below_step HB1.out hb2) (by omega) hl1 (t := ⟨0, 0, []⟩) ⟨_, _, rfl, hvm, rfl, hnd⟩)
      obtain ⟨⟨z0, z1, z2⟩, zf⟩ := hz2.three
      have lz := hz2.lt
      clear hz2 hvm hnd hb2 hl1 b0 b1 b2 b3
      go_wp2
      obtain ⟨⟨y0, y1, y2⟩, eO, eB⟩ := HH.out
      have hres : tofRes r = (⟨0, 0, []⟩, 3) := by simp only [tofRes, HOK.out, if_true, if_neg HN.out]
      rw [hres]
      generalize (((w2.setCell ⟨w.heap.size + 1, 0, none⟩ (.int .i64 0)).setCell ⟨w.heap.size + 1, 1, none⟩ (.int .i64 0)).setCell ⟨w.heap.size + 1, 2, none⟩ (.slice Am 0 km)) = W2 at *
      refine bodyPost_ret (v := .tuple #[.agg #[.int .i64 0, .int .i64 0, .slice Am 0 km], .int .i64 3]) (by simp [results, Try.results13, go_sem, y0, y1, y2]) rfl ?_
      first | exact ⟨_, _, rfl, eO, eB⟩ | exact ⟨_, rfl, ⟨_, eO⟩, eB⟩
  · have hok' : okR r = false := by simpa using hok
    clear hok
    have HOK := Lib.hid hok'
    go_enter Try.func13, Try.ntmps13
    go_wp2_with fail
    refine (HV.out _ HB.out).mono ?_
    generalize (w.alloc (.cells #[.int .i64 r.L, .int .i64 r.S, .slice A r.acc.length ca, .slice B r.next.length cb] 32)).alloc (.cells #[.int .i64 0, .int .i64 0, .slice none 0 0] 29) = W0 at *
    rintro e w1 ⟨rfl, hb1⟩
    have hz1 := HZ.out.below hb1 HZ.out.lt
    have HH := Lib.hid (own_stored (w := w) (A := none) (n := 0) (k := 0) (L := 0) (S := 0) hz1 (below_step HB.out hb1) (by omega) hz1.lt (t := ⟨0, 0, []⟩) ⟨_, [], rfl, owL_nil _ _ _ _, rfl, by simp⟩)
    obtain ⟨⟨z0, z1, z2⟩, zf⟩ := hz1.three
    have lz := hz1.lt
    clear hb1 hz1
    go_wp2
    obtain ⟨⟨y0, y1, y2⟩, eO, eB⟩ := HH.out
    have hres : tofRes r = (⟨0, 0, []⟩, 1) := by simp [tofRes, HOK.out]
    rw [hres]
    generalize (((w1.setCell ⟨w.heap.size + 1, 0, none⟩ (.int .i64 0)).setCell ⟨w.heap.size + 1, 1, none⟩ (.int .i64 0)).setCell ⟨w.heap.size + 1, 2, none⟩ (.slice none 0 0)) = W2 at *
    refine bodyPost_ret (v := .tuple #[.agg #[.int .i64 0, .int .i64 0, .slice none 0 0], .int .i64 1]) (by simp [results, Try.results13, go_sem, y0, y1, y2]) rfl ?_
    first | exact ⟨_, _, rfl, eO, eB⟩ | exact ⟨_, rfl, ⟨_, eO⟩, eB⟩
end Go.Proofs.Ytfkicedhjipfmaa
