/-
  Tables with left and right exchanged: the program's answer and the model's.
-/
import Derived.Test.YtnpbfafcfghmcabTt1
import Derived.Test.YtnpbfafcfghmcabZX
namespace Go.Proofs.Ytnpbfafcfghmcab
open Go.RowKit

def turnXRes (x : XData) : XData × Int := if okX x then (turnX x, 0) else (⟨[], []⟩, 1)

structure OkX (x : XData) : Prop where
  same : x.fr.length = x.fl.length
  n1 : 1 ≤ (x.fl.length : Int)
  n2 : (x.fl.length : Int) ≤ 12
  left : ∀ m ∈ x.fl, okE x.fl.length m = true
  right : ∀ m ∈ x.fr, okE x.fl.length m = true
theorem okX_out {x : XData} (h : okX x = true) : OkX x := by
  simp only [okX, allE, Bool.and_eq_true, decide_eq_true_eq, List.all_eq_true] at h
  exact ⟨h.1, h.2.1.1, h.2.1.2, h.2.2.1, h.2.2.2⟩

/-- A table that is stored into the box of the answer. -/
theorem own_storedX {w W : World} {b lo : Nat} {u v : Value} {x : XData} {bs : List Nat} {z0 z1 : Value}
    (hz : Row W b 29 [z0, z1]) (hb : Below w.heap.size w W) (hlo : w.heap.size ≤ b) (hbl : b < lo) (hO : OwX W lo (.agg #[u, v]) x bs) :
    let W2 := ((W.setCell ⟨b, 0, none⟩ u).setCell ⟨b, 1, none⟩ v);
    (W2.cell? ⟨b, 0, none⟩ = some u ∧ W2.cell? ⟨b, 1, none⟩ = some v) ∧ OwX W2 w.heap.size (.agg #[u, v]) x bs ∧ Below w.heap.size w W2 := by
  intro W2
  have rF := ((hz.stored 0 u).stored 1 v)
  have eO := goodX.under (a := ⟨b, 1, none⟩) (goodX.under (a := ⟨b, 0, none⟩) hO hbl u) hbl v
  have eB := ((hb.setCell (p := ⟨b, 0, none⟩) hlo u).setCell (p := ⟨b, 1, none⟩) hlo v)
  exact ⟨(Row.two (a := u) (b := v) rF).1, goodX.mono eO (by omega), eB⟩

set_option maxRecDepth 100000 in
set_option maxHeartbeats 3200000 in
theorem implTurnX_any (v : Value) (x : XData) (w : World) (h : RdX w v x) :
    Calls Try.prog 19 #[v] w fun e w' => ∃ u bs, e = .returned (.tuple #[u, .int .i64 (turnXRes x).2]) ∧ OwX w' w.heap.size u (turnXRes x).1 bs ∧ Below w.heap.size w w' := by
  have hV := fun W (hb : Below w.heap.size w W) => ValidTable_any v x W (keepsX _ _ _ _ h hb)
  obtain ⟨fl, fr⟩ := x
  obtain ⟨a, b, rfl, ha, hb⟩ := h
  simp only at *
  obtain ⟨A, ca, rfl⟩ := ha.shape
  obtain ⟨B, cb, rfl⟩ := hb.shape
  have HV := Lib.hid hV
  have hr := (Row.new w [.slice A fl.length ca, .slice B fr.length cb] 29).alloc (.cells #[.slice none 0 0, .slice none 0 0] 29)
  have hz := Row.new (w.alloc (.cells #[.slice A fl.length ca, .slice B fr.length cb] 29)) [.slice none 0 0, .slice none 0 0] 29
  have HZ := Lib.hid (show Row _ (w.heap.size + 1) _ _ by simpa using hz)
  have HR := Lib.hid hr
  have HB := Lib.hid ((below_alloc w (.cells #[.slice A fl.length ca, .slice B fr.length cb] 29)).alloc (by simp) (.cells #[.slice none 0 0, .slice none 0 0] 29))
  have HAB := Lib.hid (show _ ∧ _ from ⟨ha, hb⟩)
  clear hV ha hb hr hz
  by_cases hok : okX ⟨fl, fr⟩ = true
  · have HK := Lib.hid (okX_out hok)
    have HOK := Lib.hid hok
    go_enter Try.func19, Try.ntmps19
    go_wp2_with fail
    refine (HV.out _ HB.out).mono ?_
    generalize (w.alloc (.cells #[.slice A fl.length ca, .slice B fr.length cb] 29)).alloc (.cells #[.slice none 0 0, .slice none 0 0] 29) = W0 at *
    rintro e w1 ⟨rfl, hb1⟩
    have HZ1 := Lib.hid (HZ.out.below hb1 HZ.out.lt)
    have HB1 := Lib.hid (below_step HB.out hb1)
    have HR1 := Lib.hid (HR.out.below hb1 HR.out.lt)
    obtain ⟨⟨b0, b1⟩, -⟩ := HR1.out.two
    have HF := Lib.hid (fun W (hw : Below w1.heap.size w1 W) => turnedExits_own _ fr W (keepsP _ _ _ _ HAB.out.2 (below_step HB1.out hw)) (by have := HK.out.same; have := HK.out.n2; simp only at *; omega) (fun m hm => okE_side (HK.out.right m hm)))
    have HG := Lib.hid (fun W (hw : Below w1.heap.size w1 W) => turnedExits_own _ fl W (keepsP _ _ _ _ HAB.out.1 (below_step HB1.out hw)) (by have := HK.out.n2; simp only at *; omega) (fun m hm => okE_side (HK.out.left m hm)))
    clear hb1 HZ HB HR HV
    go_wp2_with fail
    clear hok
    go_region_with
      (first
        | (go_at_call 34; (with_reducible refine (HG.out _ (below_step HCF.out (by first | exact Below.refl _ _ | exact below_drew _ | exact below_drewN' _ _))).mono ?_); rintro e wz ⟨uG, bG, rfl, oG, hbk⟩; obtain ⟨AG, kG, rfl⟩ := owP_shape oG; have HCs := Lib.hid (below_step HCF.out (below_step (by first | exact Below.refl _ _ | exact below_drew _ | exact below_drewN' _ _) hbk)); have HO2 := Lib.hid ((goodP 47).below HOF.out (below_step (by first | exact Below.refl _ _ | exact below_drew _ | exact below_drewN' _ _) hbk)); have HN := Lib.hid (nodup_two ((goodP 47).nodup HOF.out) ((goodP 47).nodup oG) (fun x hx => ((goodP 47).lt HOF.out hx).2) (fun x hx => ((goodP 47).lt oG hx).1)); have HO3 := Lib.hid (show OwP 47 wz w1.heap.size _ _ bG from (goodP 47).mono oG (below_step HCF.out (by first | exact Below.refl _ _ | exact below_drew _ | exact below_drewN' _ _)).size); clear HOF oG hbk; obtain ⟨⟨z0, z1⟩, zf⟩ := (HZ1.out.below HCs.out HZ1.out.lt).two; have lz := (HZ1.out.below HCs.out HZ1.out.lt).lt)
        | (go_at_call 34; (with_reducible refine (HF.out _ (below_step HCG.out (by first | exact Below.refl _ _ | exact below_drew _ | exact below_drewN' _ _))).mono ?_); rintro e wz ⟨uF, bF, rfl, oF, hbk⟩; obtain ⟨AF, kF, rfl⟩ := owP_shape oF; have HCs := Lib.hid (below_step HCG.out (below_step (by first | exact Below.refl _ _ | exact below_drew _ | exact below_drewN' _ _) hbk)); have HO3 := Lib.hid ((goodP 47).below HOG.out (below_step (by first | exact Below.refl _ _ | exact below_drew _ | exact below_drewN' _ _) hbk)); have HN := Lib.hid (List.nodup_append_comm.1 (nodup_two ((goodP 47).nodup HOG.out) ((goodP 47).nodup oF) (fun x hx => ((goodP 47).lt HOG.out hx).2) (fun x hx => ((goodP 47).lt oF hx).1))); have HO2 := Lib.hid (show OwP 47 wz w1.heap.size _ _ bF from (goodP 47).mono oF (below_step HCG.out (by first | exact Below.refl _ _ | exact below_drew _ | exact below_drewN' _ _)).size); clear HOG oF hbk; obtain ⟨⟨z0, z1⟩, zf⟩ := (HZ1.out.below HCs.out HZ1.out.lt).two; have lz := (HZ1.out.below HCs.out HZ1.out.lt).lt)
        | (go_at_call 34; (with_reducible refine (HF.out _ (by first | exact Below.refl _ _ | exact below_drew _ | exact below_drewN' _ _)).mono ?_); rintro e wy ⟨uF, bF, rfl, oF, hbk⟩; obtain ⟨AF, kF, rfl⟩ := owP_shape oF; have HCF := Lib.hid (show Below w1.heap.size w1 wy from below_step (by first | exact Below.refl _ _ | exact below_drew _ | exact below_drewN' _ _) hbk); have HOF := Lib.hid (show OwP 47 wy w1.heap.size _ _ bF from oF); clear oF hbk; obtain ⟨⟨c0, c1⟩, -⟩ := (HR1.out.below HCF.out HR1.out.lt).two)
        | (go_at_call 34; (with_reducible refine (HG.out _ (by first | exact Below.refl _ _ | exact below_drew _ | exact below_drewN' _ _)).mono ?_); rintro e wy ⟨uG, bG, rfl, oG, hbk⟩; obtain ⟨AG, kG, rfl⟩ := owP_shape oG; have HCG := Lib.hid (show Below w1.heap.size w1 wy from below_step (by first | exact Below.refl _ _ | exact below_drew _ | exact below_drewN' _ _) hbk); have HOG := Lib.hid (show OwP 47 wy w1.heap.size _ _ bG from oG); clear oG hbk; obtain ⟨⟨c0, c1⟩, -⟩ := (HR1.out.below HCG.out HR1.out.lt).two))
    all_goals
      have hlo := HZ1.out.lt
      have HH := Lib.hid (own_storedX (w := w) (u := .slice AF fr.length kF) (v := .slice AG fl.length kG) (HZ1.out.below HCs.out hlo) (below_step HB1.out HCs.out) (by omega) (lo := w1.heap.size) hlo (x := turnX ⟨fl, fr⟩) (bs := bF ++ bG) (by have a := HO2.out; have b := HO3.out; rw [List.length_map] at a b; exact ⟨_, _, bF, bG, rfl, a, b, rfl, HN.out⟩))
      clear c0 c1 b0 b1
      go_wp2
      obtain ⟨⟨y0, y1⟩, eO, eB⟩ := HH.out
      have hres : turnXRes ⟨fl, fr⟩ = (turnX ⟨fl, fr⟩, 0) := by simp [turnXRes, HOK.out]
      rw [hres]
      generalize ((wz.setCell ⟨w.heap.size + 1, 0, none⟩ (.slice AF fr.length kF)).setCell ⟨w.heap.size + 1, 1, none⟩ (.slice AG fl.length kG)) = W2 at *
      refine bodyPost_ret (v := .tuple #[.agg #[.slice AF fr.length kF, .slice AG fl.length kG], .int .i64 0]) (by simp [results, Try.results19, go_sem, y0, y1]) rfl ?_
      first | exact ⟨_, _, rfl, eO, eB⟩ | exact ⟨_, rfl, ⟨_, eO⟩, eB⟩
  · have hok' : okX ⟨fl, fr⟩ = false := by simpa using hok
    clear hok
    have HOK := Lib.hid hok'
    go_enter Try.func19, Try.ntmps19
    go_wp2_with fail
    refine (HV.out _ HB.out).mono ?_
    generalize (w.alloc (.cells #[.slice A fl.length ca, .slice B fr.length cb] 29)).alloc (.cells #[.slice none 0 0, .slice none 0 0] 29) = W0 at *
    rintro e w1 ⟨rfl, hb1⟩
    have hz1 := HZ.out.below hb1 HZ.out.lt
    have HH := Lib.hid (own_storedX (w := w) (u := .slice none 0 0) (v := .slice none 0 0) hz1 (below_step HB.out hb1) (by omega) hz1.lt (x := ⟨[], []⟩) ⟨_, _, [], [], rfl, owP_nil _ _ _, owP_nil _ _ _, rfl, by simp⟩)
    obtain ⟨⟨z0, z1⟩, zf⟩ := hz1.two
    have lz := hz1.lt
    clear hz1 hb1 HV
    go_wp2
    obtain ⟨⟨y0, y1⟩, eO, eB⟩ := HH.out
    have hres : turnXRes ⟨fl, fr⟩ = (⟨[], []⟩, 1) := by simp [turnXRes, HOK.out]
    rw [hres]
    generalize ((w1.setCell ⟨w.heap.size + 1, 0, none⟩ (.slice none 0 0)).setCell ⟨w.heap.size + 1, 1, none⟩ (.slice none 0 0)) = W2 at *
    refine bodyPost_ret (v := .tuple #[.agg #[.slice none 0 0, .slice none 0 0], .int .i64 1]) (by simp [results, Try.results19, go_sem, y0, y1]) rfl ?_
    first | exact ⟨_, _, rfl, eO, eB⟩ | exact ⟨_, rfl, ⟨_, eO⟩, eB⟩

set_option maxRecDepth 100000 in
set_option maxHeartbeats 3200000 in
theorem specTurnX_any (v : Value) (x : XData) (w : World) (h : RdX w v x) :
    Calls Try.prog 18 #[v] w fun e w' => ∃ u bs, e = .returned (.tuple #[u, .int .i64 (turnXRes x).2]) ∧ OwX w' w.heap.size u (turnXRes x).1 bs ∧ Below w.heap.size w w' := by
  obtain ⟨a, b, rfl, hA⟩ := atX_box h 29
  have hV := l03Ok_any _ _ _ (hA.below (below_alloc _ (.cells #[.slice none 0 0, .slice none 0 0] 29)))
  clear hA
  obtain ⟨fl, fr⟩ := x
  obtain ⟨_, _, e0, ha, hb⟩ := h
  cases e0
  simp only at *
  obtain ⟨A, ca, rfl⟩ := ha.shape
  obtain ⟨B, cb, rfl⟩ := hb.shape
  have HV := Lib.hid hV
  have hr := (Row.new w [.slice A fl.length ca, .slice B fr.length cb] 29).alloc (.cells #[.slice none 0 0, .slice none 0 0] 29)
  have hz := Row.new (w.alloc (.cells #[.slice A fl.length ca, .slice B fr.length cb] 29)) [.slice none 0 0, .slice none 0 0] 29
  have HZ := Lib.hid (show Row _ (w.heap.size + 1) _ _ by simpa using hz)
  have HR := Lib.hid hr
  have HB := Lib.hid ((below_alloc w (.cells #[.slice A fl.length ca, .slice B fr.length cb] 29)).alloc (by simp) (.cells #[.slice none 0 0, .slice none 0 0] 29))
  have HAB := Lib.hid (show _ ∧ _ from ⟨ha, hb⟩)
  clear hV ha hb hr hz
  by_cases hok : okX ⟨fl, fr⟩ = true
  · have HK := Lib.hid (okX_out hok)
    have HOK := Lib.hid hok
    go_enter Try.func18, Try.ntmps18
    go_wp2_with fail
    refine HV.out.mono ?_
    generalize (w.alloc (.cells #[.slice A fl.length ca, .slice B fr.length cb] 29)).alloc (.cells #[.slice none 0 0, .slice none 0 0] 29) = W0 at *
    rintro e w1 ⟨rfl, hb1⟩
    have HZ1 := Lib.hid (HZ.out.below hb1 HZ.out.lt)
    have HB1 := Lib.hid (below_step HB.out hb1)
    have HR1 := Lib.hid (HR.out.below hb1 HR.out.lt)
    obtain ⟨⟨b0, b1⟩, -⟩ := HR1.out.two
    have HF := Lib.hid (fun W (hw : Below w1.heap.size w1 W) => l03Turned_own _ fr W (keepsP _ _ _ _ HAB.out.2 (below_step HB1.out hw)) (by have := HK.out.same; have := HK.out.n2; simp only at *; omega) (fun m hm => okE_side (HK.out.right m hm)))
    have HG := Lib.hid (fun W (hw : Below w1.heap.size w1 W) => l03Turned_own _ fl W (keepsP _ _ _ _ HAB.out.1 (below_step HB1.out hw)) (by have := HK.out.n2; simp only at *; omega) (fun m hm => okE_side (HK.out.left m hm)))
    clear hb1 HZ HB HR HV
    go_wp2_with fail
    clear hok
    go_region_with
      (first
        | (go_at_call 33; (with_reducible refine (HG.out _ (below_step HCF.out (by first | exact Below.refl _ _ | exact below_drew _ | exact below_drewN' _ _))).mono ?_); rintro e wz ⟨uG, bG, rfl, oG, hbk⟩; obtain ⟨AG, kG, rfl⟩ := owP_shape oG; have HCs := Lib.hid (below_step HCF.out (below_step (by first | exact Below.refl _ _ | exact below_drew _ | exact below_drewN' _ _) hbk)); have HO2 := Lib.hid ((goodP 47).below HOF.out (below_step (by first | exact Below.refl _ _ | exact below_drew _ | exact below_drewN' _ _) hbk)); have HN := Lib.hid (nodup_two ((goodP 47).nodup HOF.out) ((goodP 47).nodup oG) (fun x hx => ((goodP 47).lt HOF.out hx).2) (fun x hx => ((goodP 47).lt oG hx).1)); have HO3 := Lib.hid (show OwP 47 wz w1.heap.size _ _ bG from (goodP 47).mono oG (below_step HCF.out (by first | exact Below.refl _ _ | exact below_drew _ | exact below_drewN' _ _)).size); clear HOF oG hbk; obtain ⟨⟨z0, z1⟩, zf⟩ := (HZ1.out.below HCs.out HZ1.out.lt).two; have lz := (HZ1.out.below HCs.out HZ1.out.lt).lt)
        | (go_at_call 33; (with_reducible refine (HF.out _ (below_step HCG.out (by first | exact Below.refl _ _ | exact below_drew _ | exact below_drewN' _ _))).mono ?_); rintro e wz ⟨uF, bF, rfl, oF, hbk⟩; obtain ⟨AF, kF, rfl⟩ := owP_shape oF; have HCs := Lib.hid (below_step HCG.out (below_step (by first | exact Below.refl _ _ | exact below_drew _ | exact below_drewN' _ _) hbk)); have HO3 := Lib.hid ((goodP 47).below HOG.out (below_step (by first | exact Below.refl _ _ | exact below_drew _ | exact below_drewN' _ _) hbk)); have HN := Lib.hid (List.nodup_append_comm.1 (nodup_two ((goodP 47).nodup HOG.out) ((goodP 47).nodup oF) (fun x hx => ((goodP 47).lt HOG.out hx).2) (fun x hx => ((goodP 47).lt oF hx).1))); have HO2 := Lib.hid (show OwP 47 wz w1.heap.size _ _ bF from (goodP 47).mono oF (below_step HCG.out (by first | exact Below.refl _ _ | exact below_drew _ | exact below_drewN' _ _)).size); clear HOG oF hbk; obtain ⟨⟨z0, z1⟩, zf⟩ := (HZ1.out.below HCs.out HZ1.out.lt).two; have lz := (HZ1.out.below HCs.out HZ1.out.lt).lt)
        | (go_at_call 33; (with_reducible refine (HF.out _ (by first | exact Below.refl _ _ | exact below_drew _ | exact below_drewN' _ _)).mono ?_); rintro e wy ⟨uF, bF, rfl, oF, hbk⟩; obtain ⟨AF, kF, rfl⟩ := owP_shape oF; have HCF := Lib.hid (show Below w1.heap.size w1 wy from below_step (by first | exact Below.refl _ _ | exact below_drew _ | exact below_drewN' _ _) hbk); have HOF := Lib.hid (show OwP 47 wy w1.heap.size _ _ bF from oF); clear oF hbk; obtain ⟨⟨c0, c1⟩, -⟩ := (HR1.out.below HCF.out HR1.out.lt).two)
        | (go_at_call 33; (with_reducible refine (HG.out _ (by first | exact Below.refl _ _ | exact below_drew _ | exact below_drewN' _ _)).mono ?_); rintro e wy ⟨uG, bG, rfl, oG, hbk⟩; obtain ⟨AG, kG, rfl⟩ := owP_shape oG; have HCG := Lib.hid (show Below w1.heap.size w1 wy from below_step (by first | exact Below.refl _ _ | exact below_drew _ | exact below_drewN' _ _) hbk); have HOG := Lib.hid (show OwP 47 wy w1.heap.size _ _ bG from oG); clear oG hbk; obtain ⟨⟨c0, c1⟩, -⟩ := (HR1.out.below HCG.out HR1.out.lt).two))
    all_goals
      have hlo := HZ1.out.lt
      have HH := Lib.hid (own_storedX (w := w) (u := .slice AF fr.length kF) (v := .slice AG fl.length kG) (HZ1.out.below HCs.out hlo) (below_step HB1.out HCs.out) (by omega) (lo := w1.heap.size) hlo (x := turnX ⟨fl, fr⟩) (bs := bF ++ bG) (by have a := HO2.out; have b := HO3.out; rw [List.length_map] at a b; exact ⟨_, _, bF, bG, rfl, a, b, rfl, HN.out⟩))
      clear c0 c1 b0 b1
      go_wp2
      obtain ⟨⟨y0, y1⟩, eO, eB⟩ := HH.out
      have hres : turnXRes ⟨fl, fr⟩ = (turnX ⟨fl, fr⟩, 0) := by simp [turnXRes, HOK.out]
      rw [hres]
      generalize ((wz.setCell ⟨w.heap.size + 1, 0, none⟩ (.slice AF fr.length kF)).setCell ⟨w.heap.size + 1, 1, none⟩ (.slice AG fl.length kG)) = W2 at *
      refine bodyPost_ret (v := .tuple #[.agg #[.slice AF fr.length kF, .slice AG fl.length kG], .int .i64 0]) (by simp [results, Try.results18, go_sem, y0, y1]) rfl ?_
      first | exact ⟨_, _, rfl, eO, eB⟩ | exact ⟨_, rfl, ⟨_, eO⟩, eB⟩
  · have hok' : okX ⟨fl, fr⟩ = false := by simpa using hok
    clear hok
    have HOK := Lib.hid hok'
    go_enter Try.func18, Try.ntmps18
    go_wp2_with fail
    refine HV.out.mono ?_
    generalize (w.alloc (.cells #[.slice A fl.length ca, .slice B fr.length cb] 29)).alloc (.cells #[.slice none 0 0, .slice none 0 0] 29) = W0 at *
    rintro e w1 ⟨rfl, hb1⟩
    have hz1 := HZ.out.below hb1 HZ.out.lt
    have HH := Lib.hid (own_storedX (w := w) (u := .slice none 0 0) (v := .slice none 0 0) hz1 (below_step HB.out hb1) (by omega) hz1.lt (x := ⟨[], []⟩) ⟨_, _, [], [], rfl, owP_nil _ _ _, owP_nil _ _ _, rfl, by simp⟩)
    obtain ⟨⟨z0, z1⟩, zf⟩ := hz1.two
    have lz := hz1.lt
    clear hz1 hb1 HV
    go_wp2
    obtain ⟨⟨y0, y1⟩, eO, eB⟩ := HH.out
    have hres : turnXRes ⟨fl, fr⟩ = (⟨[], []⟩, 1) := by simp [turnXRes, HOK.out]
    rw [hres]
    generalize ((w1.setCell ⟨w.heap.size + 1, 0, none⟩ (.slice none 0 0)).setCell ⟨w.heap.size + 1, 1, none⟩ (.slice none 0 0)) = W2 at *
    refine bodyPost_ret (v := .tuple #[.agg #[.slice none 0 0, .slice none 0 0], .int .i64 1]) (by simp [results, Try.results18, go_sem, y0, y1]) rfl ?_
    first | exact ⟨_, _, rfl, eO, eB⟩ | exact ⟨_, rfl, ⟨_, eO⟩, eB⟩

theorem specTurnX_rd (v : Value) (x : XData) (w : World) (h : RdX w v x) :
    Calls Try.prog 18 #[v] w fun e w' => ∃ u, e = .returned (.tuple #[u, .int .i64 (turnXRes x).2]) ∧ RdX w' u (turnXRes x).1 ∧ Below w.heap.size w w' :=
  (specTurnX_any v x w h).mono fun e w' ⟨u, bs, he, hO, hb⟩ => ⟨u, he, hO.rd, hb⟩
theorem turnX_num (x : XData) (h : (cntX x : Int) ≤ 1048576) : (numX (turnXRes x).1 : Int) ≤ 2305843009213693952 := by
  unfold cntX at h
  unfold turnXRes
  split
  · simp only [turnX, numX, List.length_map]; omega
  · simp [numX]
end Go.Proofs.Ytnpbfafcfghmcab
