/-
  The opposite turner: the program's answer, and the model's.
-/
import Derived.Test.YtfkicedhjipfmaaOt1
import Derived.Test.YtfkicedhjipfmaaOt2
import Derived.Test.YtfkicedhjipfmaaTo2
namespace Go.Proofs.Ytfkicedhjipfmaa
open Go.RowKit

set_option maxRecDepth 100000 in
set_option maxHeartbeats 3200000 in
theorem implOppT_any (v : Value) (t : TData) (w : World) (h : RdT w v t) :
    Calls Try.prog 22 #[v] w fun e w' => ∃ u bs, e = .returned (.tuple #[u, .int .i64 (oppTRes t).2]) ∧ OwT w' w.heap.size u (oppTRes t).1 bs ∧ Below w.heap.size w w' := by
  have hV := fun W (hb : Below w.heap.size w W) => ValidTurner_any v t W (keepsT _ _ _ _ h hb)
  have hS := fun W (hb : Below w.heap.size w W) => states_any v t W (keepsT _ _ _ _ h hb)
  obtain ⟨vm, rfl, hA⟩ := atT_box h 29
  obtain ⟨A, ca, rfl⟩ := RdL.shape (show RdPP _ vm t.mv from by obtain ⟨_, e, hm⟩ := h; cases e; exact hm)
  have hA0 := hA.below (below_alloc _ (.cells #[.int .i64 0, .int .i64 0, .slice none 0 0] 29))
  have HV := Lib.hid hV
  have HST := Lib.hid hS
  have HA := Lib.hid hA0
  have hr := (Row.new w [.int .i64 t.L, .int .i64 t.S, .slice A t.mv.length ca] 29).alloc (.cells #[.int .i64 0, .int .i64 0, .slice none 0 0] 29)
  have hz := Row.new (w.alloc (.cells #[.int .i64 t.L, .int .i64 t.S, .slice A t.mv.length ca] 29)) [.int .i64 0, .int .i64 0, .slice none 0 0] 29
  have HZ := Lib.hid (show Row _ (w.heap.size + 1) _ _ by simpa using hz)
  have HR := Lib.hid hr
  have HB := Lib.hid ((below_alloc w (.cells #[.int .i64 t.L, .int .i64 t.S, .slice A t.mv.length ca] 29)).alloc (by simp) (.cells #[.int .i64 0, .int .i64 0, .slice none 0 0] 29))
  clear hV hS h hA hA0 hr hz
  by_cases hok : okT t = true
  · have HK := Lib.hid (okT_out hok)
    have HOK := Lib.hid hok
    go_enter Try.func22, Try.ntmps22
    go_wp2_with fail
    refine (HV.out _ HB.out).mono ?_
    generalize (w.alloc (.cells #[.int .i64 t.L, .int .i64 t.S, .slice A t.mv.length ca] 29)).alloc (.cells #[.int .i64 0, .int .i64 0, .slice none 0 0] 29) = W0 at *
    rintro e w1 ⟨rfl, hb1⟩
    have HZ1 := Lib.hid (HZ.out.below hb1 HZ.out.lt)
    have HA1 := Lib.hid (HA.out.below hb1)
    have HB1 := Lib.hid (below_step HB.out hb1)
    obtain ⟨⟨b0, b1, b2⟩, -⟩ := (HR.out.below hb1 HR.out.lt).three
    have HR1 := Lib.hid (HR.out.below hb1 HR.out.lt)
    clear hb1 HZ HB HR
    obtain ⟨c, hc⟩ : ∃ c : Nat, (c : Int) = t.L + 2 := ⟨(t.L + 2).toNat, by have := HK.out.l1; omega⟩
    have HC := Lib.hid hc
    have n2 := HK.out.n2
    clear hc
    have HD := Lib.hid (fun W (hb : Below w1.heap.size w1 W) => doingOppositeTurner_own t.L t.S t.mv.length c w.heap.size (fun q k => oppM (moveAt t q k)) W HK.out.l1 HK.out.l2 HC.out (by omega)
      (fun q k hq hk => by
        obtain ⟨_, m, _, _, hat, hmv, _⟩ := HK.out.at hq (show (k : Int) < t.L + 2 by have := HC.out; omega)
        simp only [hat]; exact oppM_deeded hmv)
      (fun W' hb' q k hq hk => oppClosure_any _ t q k W' ((HA1.out.below hb).below hb') HK.out hq (by have := HC.out; omega)))
    go_wp2_with fail
    clear hok
    go_region_held3 (fun W => W.cell? ⟨w.heap.size, 0, none⟩ = some (.int .i64 t.L) ∧ W.cell? ⟨w.heap.size, 1, none⟩ = some (.int .i64 t.S) ∧ W.cell? ⟨w.heap.size, 2, none⟩ = some (.slice A t.mv.length ca))
      (first | (go_split_ands; refine ⟨?_, ?_, ?_⟩ <;> (first | assumption | exact below_keep hbk (by assumption))) | go_keep)
      (first
        | (go_at_call 60; (with_reducible refine (HST.out _ ?_).mono ?_); (first | exact HB1.out | exact HB1.out.drew); rintro e wa ⟨rfl, hbk⟩; have HCa := Lib.hid (show Below w1.heap.size w1 wa from below_step (by first | exact Below.refl _ _ | exact below_drew _) hbk))
        | (go_at_call 44; (with_reducible refine (HD.out _ ?_).mono ?_); (first | exact HCa.out | exact HCa.out.drew); rintro e w2 ⟨u, bs, rfl, hu, hbk⟩; obtain ⟨vm2, bm2, rfl, hvm2, rfl, hnd2⟩ := hu; obtain ⟨Am, km, rfl⟩ := OwL.shape hvm2; simp only at hvm2; have HU := Lib.hid (show _ ∧ _ from ⟨hvm2, hnd2⟩); have hb2 := below_step HCa.out hbk; have hz2 := HZ1.out.below hb2 HZ1.out.lt; have HF := Lib.hid (show _ ∧ _ from ⟨hb2, hz2⟩); obtain ⟨⟨z0, z1, z2⟩, zf⟩ := hz2.three; have lz := hz2.lt; clear hvm2 hnd2 hb2 hz2))
    all_goals
      go_wp2
      obtain ⟨hb2, hz2⟩ := HF.out
      obtain ⟨hvm2, hnd2⟩ := HU.out
      have hlw := (HZ1.out.below HCa.out HZ1.out.lt).lt
      have hst := own_stored (w := w) hz2 (below_step HB1.out hb2) (by omega) (by first | exact hlw | (simp; exact hlw)) (t := ⟨t.L, t.S, tableOf (fun q k => oppM (moveAt t q k)) c t.mv.length⟩) ⟨_, _, rfl, hvm2, rfl, hnd2⟩
      obtain ⟨⟨y0, y1, y2⟩, eO, eB⟩ := hst
      have hres : oppTRes t = (⟨t.L, t.S, tableOf (fun q k => oppM (moveAt t q k)) c t.mv.length⟩, 0) := by
        rw [oppMv_table HK.out HC.out]; simp [oppTRes, HOK.out]
      rw [hres]
      refine bodyPost_ret (v := .tuple #[.agg #[.int .i64 t.L, .int .i64 t.S, .slice Am (tableOf (fun q k => oppM (moveAt t q k)) c t.mv.length).length km], .int .i64 0]) (by simp [results, Try.results22, go_sem, y0, y1, y2]) rfl ?_
      first | exact ⟨_, _, rfl, eO, eB⟩ | exact ⟨_, rfl, ⟨_, eO⟩, eB⟩ | exact ⟨_, _, rfl, goodT.below eO (below_drew _), eB.drew⟩ | exact ⟨_, rfl, ⟨_, goodT.below eO (below_drew _)⟩, eB.drew⟩
  · have hok' : okT t = false := by simpa using hok
    clear hok
    have HOK := Lib.hid hok'
    go_enter Try.func22, Try.ntmps22
    go_wp2_with fail
    refine (HV.out _ HB.out).mono ?_
    generalize (w.alloc (.cells #[.int .i64 t.L, .int .i64 t.S, .slice A t.mv.length ca] 29)).alloc (.cells #[.int .i64 0, .int .i64 0, .slice none 0 0] 29) = W0 at *
    rintro e w1 ⟨rfl, hb1⟩
    have hz1 := HZ.out.below hb1 HZ.out.lt
    have HH := Lib.hid (own_stored (w := w) (A := none) (n := 0) (k := 0) (L := 0) (S := 0) hz1 (below_step HB.out hb1) (by omega) hz1.lt (t := ⟨0, 0, []⟩) ⟨_, [], rfl, owL_nil _ _ _ _, rfl, by simp⟩)
    obtain ⟨⟨z0, z1, z2⟩, zf⟩ := hz1.three
    have lz := hz1.lt
    clear hb1 hz1
    go_wp2
    obtain ⟨⟨y0, y1, y2⟩, eO, eB⟩ := HH.out
    have hres : oppTRes t = (⟨0, 0, []⟩, 1) := by simp [oppTRes, HOK.out]
    rw [hres]
    generalize (((w1.setCell ⟨w.heap.size + 1, 0, none⟩ (.int .i64 0)).setCell ⟨w.heap.size + 1, 1, none⟩ (.int .i64 0)).setCell ⟨w.heap.size + 1, 2, none⟩ (.slice none 0 0)) = W2 at *
    refine bodyPost_ret (v := .tuple #[.agg #[.int .i64 0, .int .i64 0, .slice none 0 0], .int .i64 1]) (by simp [results, Try.results22, go_sem, y0, y1, y2]) rfl ?_
    first | exact ⟨_, _, rfl, eO, eB⟩ | exact ⟨_, rfl, ⟨_, eO⟩, eB⟩
end Go.Proofs.Ytfkicedhjipfmaa
