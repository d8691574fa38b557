/-
  One rotator behind another: the model's walk.
-/
import Derived.Test.YtklljaeoimgmnaaRj4
import Derived.Test.YtklljaeoimgmnaaRj6
import Derived.Deep.RegionHeld3
import Derived.Deep.CutRange
namespace Go.Proofs.Ytklljaeoimgmnaa
open Go.RowKit

/-- What stands while the model makes the rotator: the arguments' boxes, the result's, and the one in which it is made. -/
def RjI (w : World) (po : Nat) (cR cS : List Value) (r : OData) (wr : World) : Prop :=
  Below w.heap.size w wr ∧ Row wr w.heap.size 40 cR ∧ Row wr (w.heap.size + 1) 40 cS ∧ Row wr (w.heap.size + 2) 40 [.int .i64 0, .int .i64 0, .slice none 0 0, .slice none 0 0] ∧ w.heap.size + 3 ≤ po ∧ BoxO wr (w.heap.size + 3) po r
theorem RjI.stored {w : World} {po : Nat} {cR cS : List Value} {r : OData} {wr w2 : World} {r' : OData} {v u : Value} {i : Nat} {w1 : World} (h : RjI w po cR cS r wr) (hb1 : Below wr.heap.size wr w1) (hg : w1.grownBy w2 v.ownBlock) (hv : ∀ b ∈ blks v, w.heap.size + 3 ≤ b) (hbox : BoxO (w2.setCell ⟨po, i, none⟩ u) (w.heap.size + 3) po r') :
    RjI w po cR cS r' (w2.setCell ⟨po, i, none⟩ u) := by
  obtain ⟨hb, h1, h2, h3, hpo, hx⟩ := h
  have hb2 := below_step hb hb1
  exact ⟨(hb2.trans (grown_below hg hb2.size (fun b hb => by have := hv b hb; omega))).setCell (p := ⟨po, i, none⟩) (by show w.heap.size ≤ po; omega) _, (grown_row hg (h1.below hb1 h1.lt) (fun hm => by have := hv _ hm; omega)).other (by show po ≠ w.heap.size; omega) _, (grown_row hg (h2.below hb1 h2.lt) (fun hm => by have := hv _ hm; omega)).other (by show po ≠ w.heap.size + 1; omega) _, (grown_row hg (h3.below hb1 h3.lt) (fun hm => by have := hv _ hm; omega)).other (by show po ≠ w.heap.size + 2; omega) _, hpo, hbox⟩

set_option maxRecDepth 100000 in
set_option maxHeartbeats 12800000 in
theorem specRj_own (v u : Value) (r s : OData) (w : World) (h : RdO w v r) (k : RdO w u s) :
    Calls Try.prog 13 #[v, u] w fun e w' => ∃ x bs, e = .returned (.tuple #[x, .int .i64 (rjRes r s).2]) ∧ OwO w' w.heap.size x (rjRes r s).1 bs ∧ Below w.heap.size w w' := by
  obtain ⟨ii, hii, hzi0, hzi1, hzi2⟩ := info_parts infoI64
  obtain ⟨is, his, hzs0, hzs1, hzs2⟩ := info_parts infoIs
  have HRD := Lib.hid (show _ ∧ _ from ⟨h, k⟩)
  obtain ⟨vn, vf, rfl, hn, hf⟩ := h
  obtain ⟨un, uf, rfl, kn, kf⟩ := k
  obtain ⟨A, ka, rfl, a1, a2, -⟩ := RdL.open hn
  obtain ⟨B, kb, rfl, b1, b2, b3⟩ := RdI.open hf
  obtain ⟨C, kc, rfl, c1, c2, -⟩ := RdL.open kn
  obtain ⟨D, kd, rfl, d1, d2, d3⟩ := RdI.open kf
  unfold maxLen at a2 b2 c2 d2
  have HAT := Lib.hid (fun W (hb : Below w.heap.size w W) => show _ ∧ _ ∧ _ ∧ _ from ⟨keepsII _ _ _ _ hn hb, keepsI _ _ _ _ hf hb, keepsII _ _ _ _ kn hb, keepsI _ _ _ _ kf hb⟩)
  have HB := Lib.hid (below_step (below_step (below_alloc w (.cells #[.int .i64 r.L, .int .i64 r.S, .slice A r.next.length ka, .slice B r.fin.length kb] 40)) (below_alloc _ (.cells #[.int .i64 s.L, .int .i64 s.S, .slice C s.next.length kc, .slice D s.fin.length kd] 40))) (below_alloc _ (.cells #[.int .i64 0, .int .i64 0, .slice none 0 0, .slice none 0 0] 40)))
  have HR := Lib.hid (((Row.new w [.int .i64 r.L, .int .i64 r.S, .slice A r.next.length ka, .slice B r.fin.length kb] 40).alloc (.cells #[.int .i64 s.L, .int .i64 s.S, .slice C s.next.length kc, .slice D s.fin.length kd] 40)).alloc (.cells #[.int .i64 0, .int .i64 0, .slice none 0 0, .slice none 0 0] 40))
  have hs := (Row.new (w.alloc (.cells #[.int .i64 r.L, .int .i64 r.S, .slice A r.next.length ka, .slice B r.fin.length kb] 40)) [.int .i64 s.L, .int .i64 s.S, .slice C s.next.length kc, .slice D s.fin.length kd] 40).alloc (.cells #[.int .i64 0, .int .i64 0, .slice none 0 0, .slice none 0 0] 40)
  have HSS := Lib.hid (show Row _ (w.heap.size + 1) _ _ by simpa using hs)
  have hz := Row.new ((w.alloc (.cells #[.int .i64 r.L, .int .i64 r.S, .slice A r.next.length ka, .slice B r.fin.length kb] 40)).alloc (.cells #[.int .i64 s.L, .int .i64 s.S, .slice C s.next.length kc, .slice D s.fin.length kd] 40)) [.int .i64 0, .int .i64 0, .slice none 0 0, .slice none 0 0] 40
  have HZ := Lib.hid (show Row _ (w.heap.size + 2) _ _ by simpa using hz)
  have HV1 := Lib.hid (l06Ok_any w.heap.size r _ (by
    obtain ⟨⟨q0, q1, q2, q3⟩, -⟩ := HR.out.four
    exact ⟨_, _, q0, q1, q2, q3, (HAT.out _ HB.out).1, (HAT.out _ HB.out).2.1⟩))
  have HV2 := Lib.hid (fun W (hc : Row W (w.heap.size + 1) 40 [.int .i64 s.L, .int .i64 s.S, .slice C s.next.length kc, .slice D s.fin.length kd]) (hb : Below w.heap.size w W) => l06Ok_any (w.heap.size + 1) s W (by
    obtain ⟨⟨q0, q1, q2, q3⟩, -⟩ := hc.four
    exact ⟨_, _, q0, q1, q2, q3, (HAT.out _ hb).2.2.1, (HAT.out _ hb).2.2.2⟩))
  clear hn hf kn kf hs hz
  by_cases ok1 : okO r = true
  · by_cases ok2 : okO s = true
    · have HOK := Lib.hid (show _ ∧ _ from ⟨ok1, ok2⟩)
      obtain ⟨⟨l1, l2⟩, ⟨n1, n2⟩, ⟨s1, s2⟩, m1, -⟩ := okO_parts ok1
      obtain ⟨⟨l3, l4⟩, ⟨n3, n4⟩, ⟨s3, s4⟩, m3, -⟩ := okO_parts ok2
      have HRES := Lib.hid (show rjRes r s = if r.L = s.L then (if r.next.length + s.next.length ≤ 6 then (rjO r s, 0) else (⟨0, 0, [], []⟩, 3)) else (⟨0, 0, [], []⟩, 2) by rw [rjRes, if_pos ⟨ok1, ok2⟩])
      have HM := Lib.hid (show _ ∧ _ from ⟨m1, m3⟩)
      have hfl : (r.fin.length : Int) ≤ 6 ∧ (s.fin.length : Int) ≤ 6 := by omega
      obtain ⟨f1, f2⟩ := hfl
      rw [ok1] at HV1
      rw [ok2] at HV2
      clear ok1 ok2 m1 m3
      go_enter Try.func13, Try.ntmps13
      go_wp2_with fail
      refine HV1.out.mono ?_
      rintro e w1 ⟨rfl, hq⟩
      have HR1 := Lib.hid (HR.out.below hq.below HR.out.lt)
      have HS1 := Lib.hid (HSS.out.below hq.below HSS.out.lt)
      have HZ1 := Lib.hid (HZ.out.below hq.below HZ.out.lt)
      have HB1 := Lib.hid (below_step HB.out hq.below)
      clear hq HR HSS HZ HB HV1
      go_wp2_with fail
      refine (HV2.out _ HS1.out HB1.out).mono ?_
      rintro e w2 ⟨rfl, hq⟩
      have HR2 := Lib.hid (HR1.out.below hq.below HR1.out.lt)
      have HS2 := Lib.hid (HS1.out.below hq.below HS1.out.lt)
      have HZ2 := Lib.hid (HZ1.out.below hq.below HZ1.out.lt)
      have HB2 := Lib.hid (below_step HB1.out hq.below)
      clear hq HR1 HS1 HZ1 HB1
      obtain ⟨⟨a0, a1', a2', a3⟩, -⟩ := HR2.out.four
      obtain ⟨⟨b0, b1', b2', b3'⟩, -⟩ := HS2.out.four
      have lr := HR2.out.lt
      have ls := HS2.out.lt
      by_cases hL : r.L = s.L
      · have e1 : (r.L != s.L) = false := by simp [hL]
        by_cases h6 : r.next.length + s.next.length ≤ 6
        · have HE := Lib.hid (show rjRes r s = (rjO r s, 0) by rw [HRES.out, if_pos hL, if_pos h6])
          have HL := Lib.hid hL
          have h6' : (r.next.length : Int) + s.next.length ≤ 6 := by omega
          clear hL
          go_upto_region 8 with fail
          clear h6' e1
          go_cut [7] from 35 to 47 (fun s7 wx => AtBoxO w2 ⟨r.L, r.S, addRows 0 r.next ++ addRows (r.next.length : Int) s.next, []⟩ s7 wx)
          case first =>
            have HSC := Lib.hid (fun (V : World) (hb : Below w2.heap.size w2 V) => show (fun (V : World) => V.cell? ⟨w.heap.size, 0, none⟩ = some (.int .i64 r.L) ∧ V.cell? ⟨w.heap.size, 1, none⟩ = some (.int .i64 r.S) ∧ V.cell? ⟨w.heap.size, 2, none⟩ = some (.slice A r.next.length ka) ∧ V.cell? ⟨w.heap.size + 1, 2, none⟩ = some (.slice C s.next.length kc)) V from ⟨below_keep hb a0, below_keep hb a1', below_keep hb a2', below_keep hb b2'⟩)
            have HRW1 := Lib.hid (fun W (hb : Below w2.heap.size w2 W) => rowsShape (l06Rows_own (.slice A r.next.length ka) r.next 0 W (HAT.out _ (below_step HB2.out hb)).1 (by omega) (fun k x hx => by have := (okO_at HOK.out.1 hx).1; omega) (fun k x j t hx ht => by have := (okO_at HOK.out.1 hx).2 t (List.mem_of_getElem? ht); omega) (by omega) (by omega)))
            have HRW2 := Lib.hid (fun W (hb : Below w2.heap.size w2 W) => rowsShape (l06Rows_own (.slice C s.next.length kc) s.next (r.next.length : Int) W (HAT.out _ (below_step HB2.out hb)).2.2.1 (by omega) (fun k x hx => by have := (okO_at HOK.out.2 hx).1; omega) (fun k x j t hx ht => by have := (okO_at HOK.out.2 hx).2 t (List.mem_of_getElem? ht); omega) (by omega) (by omega)))
            refine wp_region_held_drew (S := fun (V : World) => V.cell? ⟨w.heap.size, 0, none⟩ = some (.int .i64 r.L) ∧ V.cell? ⟨w.heap.size, 1, none⟩ = some (.int .i64 r.S) ∧ V.cell? ⟨w.heap.size, 2, none⟩ = some (.slice A r.next.length ka) ∧ V.cell? ⟨w.heap.size + 1, 2, none⟩ = some (.slice C s.next.length kc)) (by kernel_rfl) (HSC.out _ (below_drew _)) (fun hHeld => ?_)
            have BEL := Lib.hid (below_drew w2)
            generalize w2.drew = V0 at *
            refine wpAnyH_take (i := 0) (v := ?_) (by simp only [List.getElem?_toArray, List.getElem?_cons_zero]; exact rfl) (by kernel_rfl) (by kernel_rfl) (by kernel_rfl) (by intro _ _ _ h; exact h) (Or.inl ⟨by kernel_rfl, ?_⟩) hHeld ?_
            rotate_left
            · intro V hSw
              (try dsimp only at hSw)
              go_simp
              try with_reducible rfl
            (try simp only [Act.put, List.setIfInBounds_toArray, List.set_cons_zero, List.set_cons_succ])
            refine wpAnyH_take (i := 1) (v := ?_) (by simp only [List.getElem?_toArray, List.getElem?_cons_succ, List.getElem?_cons_zero]; exact rfl) (by kernel_rfl) (by kernel_rfl) (by kernel_rfl) (by intro _ _ _ h; exact h) (Or.inl ⟨by kernel_rfl, ?_⟩) hHeld ?_
            rotate_left
            · intro V hSw
              (try dsimp only at hSw)
              go_simp
              try with_reducible rfl
            (try simp only [Act.put, List.setIfInBounds_toArray, List.set_cons_zero, List.set_cons_succ])
            refine wpAnyH_take (i := 2) (v := ?_) (by simp only [List.getElem?_toArray, List.getElem?_cons_succ, List.getElem?_cons_zero]; exact rfl) (by kernel_rfl) (by kernel_rfl) (by kernel_rfl) (by intro _ _ _ h; exact h) (Or.inl ⟨by kernel_rfl, ?_⟩) hHeld ?_
            rotate_left
            · intro V hSw
              (try dsimp only at hSw)
              go_simp
              try with_reducible rfl
            (try simp only [Act.put, List.setIfInBounds_toArray, List.set_cons_zero, List.set_cons_succ])
            refine wpAnyH_take (i := 3) (v := ?_) (by simp only [List.getElem?_toArray, List.getElem?_cons_succ, List.getElem?_cons_zero]; exact rfl) (by kernel_rfl) (by kernel_rfl) (by kernel_rfl) (by intro _ _ _ h; exact h) (Or.inl ⟨by kernel_rfl, ?_⟩) hHeld ?_
            rotate_left
            · intro V hSw
              (try dsimp only at hSw)
              go_simp
              try with_reducible rfl
            (try simp only [Act.put, List.setIfInBounds_toArray, List.set_cons_zero, List.set_cons_succ])
            refine wpAnyH_take (i := 4) (v := ?_) (by simp only [List.getElem?_toArray, List.getElem?_cons_succ, List.getElem?_cons_zero]; exact rfl) (by kernel_rfl) (by kernel_rfl) (by kernel_rfl) (by intro _ _ _ h; exact h) (Or.inl ⟨by kernel_rfl, ?_⟩) hHeld ?_
            rotate_left
            · intro V hSw
              (try dsimp only at hSw)
              go_simp
              try with_reducible rfl
            (try simp only [Act.put, List.setIfInBounds_toArray, List.set_cons_zero, List.set_cons_succ])
            refine wpAnyH_take (i := 5) (v := ?_) (by simp only [List.getElem?_toArray, List.getElem?_cons_succ, List.getElem?_cons_zero]; exact rfl) (by kernel_rfl) (by kernel_rfl) (by kernel_rfl) (by intro _ _ _ h; exact h) (Or.inl ⟨by kernel_rfl, ?_⟩) hHeld ?_
            rotate_left
            · intro V hSw
              (try dsimp only at hSw)
              go_simp
              try with_reducible rfl
            (try simp only [Act.put, List.setIfInBounds_toArray, List.set_cons_zero, List.set_cons_succ])
            refine wpAnyH_take (i := 7) (v := ?_) (by simp only [List.getElem?_toArray, List.getElem?_cons_succ, List.getElem?_cons_zero]; exact rfl) (by kernel_rfl) (by kernel_rfl) (by kernel_rfl) (by intro _ _ _ h; exact h) (Or.inl ⟨by kernel_rfl, ?_⟩) hHeld ?_
            rotate_left
            · intro V hSw
              (try dsimp only at hSw)
              go_simp
              try with_reducible rfl
            (try simp only [Act.put, List.setIfInBounds_toArray, List.set_cons_zero, List.set_cons_succ])
            refine wpAnyH_take (i := 8) (v := ?_) (by simp only [List.getElem?_toArray, List.getElem?_cons_succ, List.getElem?_cons_zero]; exact rfl) (by kernel_rfl) (by kernel_rfl) (by kernel_rfl) (by intro _ _ _ h; exact h) (Or.inl ⟨by kernel_rfl, ?_⟩) hHeld ?_
            rotate_left
            · intro V hSw
              (try dsimp only at hSw)
              go_simp
              try with_reducible rfl
            (try simp only [Act.put, List.setIfInBounds_toArray, List.set_cons_zero, List.set_cons_succ])
            refine wpAnyH_take (i := 9) (v := ?_) (by simp only [List.getElem?_toArray, List.getElem?_cons_succ, List.getElem?_cons_zero]; exact rfl) (by kernel_rfl) (by kernel_rfl) (by kernel_rfl) (by intro _ _ _ h; exact h) (Or.inl ⟨by kernel_rfl, ?_⟩) hHeld ?_
            rotate_left
            · intro V hSw
              (try dsimp only at hSw)
              go_simp
              try with_reducible rfl
            (try simp only [Act.put, List.setIfInBounds_toArray, List.set_cons_zero, List.set_cons_succ])
            refine wpAnyH_ready (rs := [6, 13]) (by kernel_rfl) (by simp) ?_
            refine AllReadyH.cons rfl (fun K hK => ?_) ?_
            · skip
              rw [if_pos (by rfl)]
              go_simp
              refine (HRW1.out _ BEL.out).mono ?_
              rintro e V1 ⟨Bu, ku, bu, rfl, hu, hbb⟩
              have HU := Lib.hid (goodII.mono hu BEL.out.size)
              have HUL := Lib.hid (fun c (hc : c ∈ bu) => Nat.le_trans BEL.out.size (goodII.lt hu hc).1)
              have BEL1 := Lib.hid (below_step BEL.out hbb)
              clear hu hbb
              clear BEL
              have BEL := BEL1
              clear BEL1
              clear hHeld
              refine hK.out _ _ (HSC.out _ BEL.out) (fun hHeld => ?_)
              clear hK K
              (try simp only [Act.put, List.setIfInBounds_toArray, List.set_cons_zero, List.set_cons_succ])
              refine wpAnyH_ready (rs := [10, 13]) (by kernel_rfl) (by simp) ?_
              refine AllReadyH.cons rfl (fun K hK => ?_) ?_
              · skip
                rw [if_pos (by rfl)]
                go_simp
                refine (HRW2.out _ BEL.out).mono ?_
                rintro e V2 ⟨Bv, kv, bv, rfl, hv, hbb⟩
                have HD2 := Lib.hid (show ∀ c ∈ bu, c ∉ bv from fun c hc hc2 => by have a := (goodII.lt HU.out hc).2; have b := (goodII.lt hv hc2).1; omega)
                have HV := Lib.hid (goodII.mono hv BEL.out.size)
                have HU1 := Lib.hid (goodII.below HU.out hbb)
                clear HU
                have HU := HU1
                clear HU1
                have BEL1 := Lib.hid (below_step BEL.out hbb)
                clear hv hbb
                clear BEL
                have BEL := BEL1
                clear BEL1
                clear hHeld
                refine hK.out _ _ (HSC.out _ BEL.out) (fun hHeld => ?_)
                clear hK K
                (try simp only [Act.put, List.setIfInBounds_toArray, List.set_cons_zero, List.set_cons_succ])
                refine wpAnyH_ready (rs := [11, 13]) (by kernel_rfl) (by simp) ?_
                refine AllReadyH.cons rfl (fun K hK => ?_) ?_
                · skip
                  obtain ⟨cg, vs, us, rfl, hus, hone, hblk, hjn⟩ := rj_join HU.out HV.out HD2.out (addRows_len _ _) (addRows_len _ _) (by omega)
                  obtain ⟨hown0, hnews, hjoin⟩ := hjn V2 (Below.refl _ _)
                  have HJ := Lib.hid hjoin
                  have HBK := Lib.hid hblk
                  have hsz0 := BEL.out.size
                  clear hjn hjoin hblk
                  refine step_append_lies _ (by rfl) _ _ _ (by rfl) w2.heap.size 36 is _ 1 24 Try.underlying35 his hzs0 hzs1 hzs2 rfl (by omega) (.slice Bu r.next.length ku) r.next.length vs (by rfl) hown0 ⟨cg, 0, none⟩ s.next.length kv us (by rfl) hus hnews hone (by omega) (by unfold maxLen; omega) (by omega) (by omega) _ rfl ?_
                  intro g6 cap6 V3 hown6 hgrow6 hat6 hlt6
                  obtain ⟨bs6, hO6, hn6⟩ := HJ.out V3 g6 cap6 hgrow6 hown6 hat6
                  have HO := Lib.hid hO6
                  have BEL1 := Lib.hid (rj_grown hgrow6 HBK.out HUL.out BEL.out)
                  clear hown0 hnews hus hone hown6 hgrow6 hat6 hlt6 hO6 hn6 hsz0
                  clear BEL
                  have BEL := BEL1
                  clear BEL1
                  clear hHeld
                  refine hK.out _ _ (HSC.out _ BEL.out) (fun hHeld => ?_)
                  clear hK K
                  (try simp only [Act.put, List.setIfInBounds_toArray, List.set_cons_zero, List.set_cons_succ])
                  refine wpAnyH_take (i := 12) (v := ?_) (by simp only [List.getElem?_toArray, List.getElem?_cons_succ, List.getElem?_cons_zero]; exact rfl) (by kernel_rfl) (by kernel_rfl) (by kernel_rfl) (by intro _ _ _ h; exact h) (Or.inl ⟨by kernel_rfl, ?_⟩) hHeld ?_
                  rotate_left
                  · intro V hSw
                    (try dsimp only at hSw)
                    go_simp
                    try with_reducible rfl
                  (try simp only [Act.put, List.setIfInBounds_toArray, List.set_cons_zero, List.set_cons_succ])
                  refine wpAnyH_ready (rs := [13]) (by kernel_rfl) (by simp) ?_
                  refine AllReadyH.cons rfl (fun K hK => ?_) AllReadyH.nil
                  rw [if_pos (by rfl)]
                  go_simp
                  have HAL := Lib.hid (Row.new V3 [.int .i64 0, .int .i64 0, .slice none 0 0, .slice none 0 0] 40)
                  have HPH := Lib.hid BEL.out.size
                  have BEL1 := Lib.hid (below_step BEL.out (below_alloc V3 (.cells #[.int .i64 0, .int .i64 0, .slice none 0 0, .slice none 0 0] 40)))
                  have HNO := Lib.hid (show V3.heap.size ∉ bs6 from fun hc => by have := (goodII.lt HO.out hc).2; omega)
                  have HO1 := Lib.hid (goodII.below HO.out (below_alloc V3 (.cells #[.int .i64 0, .int .i64 0, .slice none 0 0, .slice none 0 0] 40)))
                  clear HO
                  have HO := HO1
                  clear HO1
                  clear BEL
                  have BEL := BEL1
                  clear BEL1
                  clear hHeld
                  refine hK.out _ _ (HSC.out _ BEL.out) (fun hHeld => ?_)
                  clear hK K
                  (try simp only [Act.put, List.setIfInBounds_toArray, List.set_cons_zero, List.set_cons_succ])
                  generalize V3.alloc (.cells #[.int .i64 0, .int .i64 0, .slice none 0 0, .slice none 0 0] 40) = V4 at *
                  generalize V3.heap.size = ph at *
                  refine wpAnyH_ready (rs := [14]) (by kernel_rfl) (by simp) ?_
                  refine AllReadyH.cons rfl (fun K hK => ?_) AllReadyH.nil
                  rw [if_pos (by rfl)]
                  obtain ⟨⟨y0, y1, y2, y3⟩, yf⟩ := HAL.out.four
                  go_simp
                  have HFIN := Lib.hid (atBoxO_old2 (L := r.L) (S := r.S) HAL.out HNO.out HPH.out BEL.out HO.out)
                  have BEL1 := Lib.hid ((((BEL.out.setCell (p := ⟨ph, 0, none⟩) HPH.out (.int .i64 r.L)).setCell (p := ⟨ph, 1, none⟩) HPH.out (.int .i64 r.S)).setCell (p := ⟨ph, 2, none⟩) HPH.out (.slice (some ⟨g6, 0, none⟩) (r.next.length + s.next.length) cap6)).setCell (p := ⟨ph, 3, none⟩) HPH.out (.slice none 0 0))
                  clear y0 y1 y2 y3 yf
                  clear BEL
                  have BEL := BEL1
                  clear BEL1
                  clear hHeld
                  refine hK.out _ _ (HSC.out _ BEL.out) (fun hHeld => ?_)
                  clear hK K
                  (try simp only [Act.put, List.setIfInBounds_toArray, List.set_cons_zero, List.set_cons_succ])
                  with_reducible refine wpAnyH_done (by kernel_rfl) ?_ _
                  go_wp2_with fail
                  go_meet
                  exact HFIN.out
                refine AllReadyH.cons rfl (fun K hK => ?_) AllReadyH.nil
                rw [if_pos (by rfl)]
                go_simp
                have HAL := Lib.hid (Row.new V2 [.int .i64 0, .int .i64 0, .slice none 0 0, .slice none 0 0] 40)
                have HPH := Lib.hid BEL.out.size
                have BEL1 := Lib.hid (below_step BEL.out (below_alloc V2 (.cells #[.int .i64 0, .int .i64 0, .slice none 0 0, .slice none 0 0] 40)))
                have HNU := Lib.hid (show V2.heap.size ∉ bu from fun hc => by have := (goodII.lt HU.out hc).2; omega)
                have HU1 := Lib.hid (goodII.below HU.out (below_alloc V2 (.cells #[.int .i64 0, .int .i64 0, .slice none 0 0, .slice none 0 0] 40)))
                clear HU
                have HU := HU1
                clear HU1
                have HNV := Lib.hid (show V2.heap.size ∉ bv from fun hc => by have := (goodII.lt HV.out hc).2; omega)
                have HV1 := Lib.hid (goodII.below HV.out (below_alloc V2 (.cells #[.int .i64 0, .int .i64 0, .slice none 0 0, .slice none 0 0] 40)))
                clear HV
                have HV := HV1
                clear HV1
                clear BEL
                have BEL := BEL1
                clear BEL1
                clear hHeld
                refine hK.out _ _ (HSC.out _ BEL.out) (fun hHeld => ?_)
                clear hK K
                (try simp only [Act.put, List.setIfInBounds_toArray, List.set_cons_zero, List.set_cons_succ])
                generalize V2.alloc (.cells #[.int .i64 0, .int .i64 0, .slice none 0 0, .slice none 0 0] 40) = V6 at *
                generalize V2.heap.size = ph at *
                refine wpAnyH_ready (rs := [11]) (by kernel_rfl) (by simp) ?_
                refine AllReadyH.cons rfl (fun K hK => ?_) AllReadyH.nil
                obtain ⟨cg, vs, us, rfl, hus, hone, hblk, hjn⟩ := rj_join HU.out HV.out HD2.out (addRows_len _ _) (addRows_len _ _) (by omega)
                obtain ⟨hown0, hnews, hjoin⟩ := hjn V6 (Below.refl _ _)
                have HJ := Lib.hid hjoin
                have HBK := Lib.hid hblk
                have hsz0 := BEL.out.size
                clear hjn hjoin hblk
                refine step_append_lies _ (by rfl) _ _ _ (by rfl) w2.heap.size 36 is _ 1 24 Try.underlying35 his hzs0 hzs1 hzs2 rfl (by omega) (.slice Bu r.next.length ku) r.next.length vs (by rfl) hown0 ⟨cg, 0, none⟩ s.next.length kv us (by rfl) hus hnews hone (by omega) (by unfold maxLen; omega) (by omega) (by omega) _ rfl ?_
                intro g6 cap6 V7 hown6 hgrow6 hat6 hlt6
                obtain ⟨bs6, hO6, hn6⟩ := HJ.out V7 g6 cap6 hgrow6 hown6 hat6
                have HO := Lib.hid hO6
                have HNO := Lib.hid (hn6 ph HAL.out.lt HNU.out HNV.out)
                have HAL1 := Lib.hid (grown_row hgrow6 HAL.out (fun hm => HNU.out (HBK.out _ hm)))
                clear HAL
                have HAL := HAL1
                clear HAL1
                have BEL1 := Lib.hid (rj_grown hgrow6 HBK.out HUL.out BEL.out)
                clear hown0 hnews hus hone hown6 hgrow6 hat6 hlt6 hO6 hn6 hsz0
                clear BEL
                have BEL := BEL1
                clear BEL1
                clear hHeld
                refine hK.out _ _ (HSC.out _ BEL.out) (fun hHeld => ?_)
                clear hK K
                (try simp only [Act.put, List.setIfInBounds_toArray, List.set_cons_zero, List.set_cons_succ])
                refine wpAnyH_take (i := 12) (v := ?_) (by simp only [List.getElem?_toArray, List.getElem?_cons_succ, List.getElem?_cons_zero]; exact rfl) (by kernel_rfl) (by kernel_rfl) (by kernel_rfl) (by intro _ _ _ h; exact h) (Or.inl ⟨by kernel_rfl, ?_⟩) hHeld ?_
                rotate_left
                · intro V hSw
                  (try dsimp only at hSw)
                  go_simp
                  try with_reducible rfl
                (try simp only [Act.put, List.setIfInBounds_toArray, List.set_cons_zero, List.set_cons_succ])
                refine wpAnyH_ready (rs := [14]) (by kernel_rfl) (by simp) ?_
                refine AllReadyH.cons rfl (fun K hK => ?_) AllReadyH.nil
                rw [if_pos (by rfl)]
                obtain ⟨⟨y0, y1, y2, y3⟩, yf⟩ := HAL.out.four
                go_simp
                have HFIN := Lib.hid (atBoxO_old2 (L := r.L) (S := r.S) HAL.out HNO.out HPH.out BEL.out HO.out)
                have BEL1 := Lib.hid ((((BEL.out.setCell (p := ⟨ph, 0, none⟩) HPH.out (.int .i64 r.L)).setCell (p := ⟨ph, 1, none⟩) HPH.out (.int .i64 r.S)).setCell (p := ⟨ph, 2, none⟩) HPH.out (.slice (some ⟨g6, 0, none⟩) (r.next.length + s.next.length) cap6)).setCell (p := ⟨ph, 3, none⟩) HPH.out (.slice none 0 0))
                clear y0 y1 y2 y3 yf
                clear BEL
                have BEL := BEL1
                clear BEL1
                clear hHeld
                refine hK.out _ _ (HSC.out _ BEL.out) (fun hHeld => ?_)
                clear hK K
                (try simp only [Act.put, List.setIfInBounds_toArray, List.set_cons_zero, List.set_cons_succ])
                with_reducible refine wpAnyH_done (by kernel_rfl) ?_ _
                go_wp2_with fail
                go_meet
                exact HFIN.out
              refine AllReadyH.cons rfl (fun K hK => ?_) AllReadyH.nil
              rw [if_pos (by rfl)]
              go_simp
              have HAL := Lib.hid (Row.new V1 [.int .i64 0, .int .i64 0, .slice none 0 0, .slice none 0 0] 40)
              have HPH := Lib.hid BEL.out.size
              have BEL1 := Lib.hid (below_step BEL.out (below_alloc V1 (.cells #[.int .i64 0, .int .i64 0, .slice none 0 0, .slice none 0 0] 40)))
              have HNU := Lib.hid (show V1.heap.size ∉ bu from fun hc => by have := (goodII.lt HU.out hc).2; omega)
              have HU1 := Lib.hid (goodII.below HU.out (below_alloc V1 (.cells #[.int .i64 0, .int .i64 0, .slice none 0 0, .slice none 0 0] 40)))
              clear HU
              have HU := HU1
              clear HU1
              clear BEL
              have BEL := BEL1
              clear BEL1
              clear hHeld
              refine hK.out _ _ (HSC.out _ BEL.out) (fun hHeld => ?_)
              clear hK K
              (try simp only [Act.put, List.setIfInBounds_toArray, List.set_cons_zero, List.set_cons_succ])
              generalize V1.alloc (.cells #[.int .i64 0, .int .i64 0, .slice none 0 0, .slice none 0 0] 40) = V9 at *
              generalize V1.heap.size = ph at *
              refine wpAnyH_ready (rs := [10]) (by kernel_rfl) (by simp) ?_
              refine AllReadyH.cons rfl (fun K hK => ?_) AllReadyH.nil
              rw [if_pos (by rfl)]
              go_simp
              refine (HRW2.out _ BEL.out).mono ?_
              rintro e V10 ⟨Bv, kv, bv, rfl, hv, hbb⟩
              have HD2 := Lib.hid (show ∀ c ∈ bu, c ∉ bv from fun c hc hc2 => by have a := (goodII.lt HU.out hc).2; have b := (goodII.lt hv hc2).1; omega)
              have HV := Lib.hid (goodII.mono hv BEL.out.size)
              have HU1 := Lib.hid (goodII.below HU.out hbb)
              clear HU
              have HU := HU1
              clear HU1
              have HNV := Lib.hid (show ph ∉ bv from fun hc => by have a := (goodII.lt hv hc).1; have b := HAL.out.lt; omega)
              have HAL1 := Lib.hid (HAL.out.below hbb HAL.out.lt)
              clear HAL
              have HAL := HAL1
              clear HAL1
              have BEL1 := Lib.hid (below_step BEL.out hbb)
              clear hv hbb
              clear BEL
              have BEL := BEL1
              clear BEL1
              clear hHeld
              refine hK.out _ _ (HSC.out _ BEL.out) (fun hHeld => ?_)
              clear hK K
              (try simp only [Act.put, List.setIfInBounds_toArray, List.set_cons_zero, List.set_cons_succ])
              refine wpAnyH_ready (rs := [11]) (by kernel_rfl) (by simp) ?_
              refine AllReadyH.cons rfl (fun K hK => ?_) AllReadyH.nil
              obtain ⟨cg, vs, us, rfl, hus, hone, hblk, hjn⟩ := rj_join HU.out HV.out HD2.out (addRows_len _ _) (addRows_len _ _) (by omega)
              obtain ⟨hown0, hnews, hjoin⟩ := hjn V10 (Below.refl _ _)
              have HJ := Lib.hid hjoin
              have HBK := Lib.hid hblk
              have hsz0 := BEL.out.size
              clear hjn hjoin hblk
              refine step_append_lies _ (by rfl) _ _ _ (by rfl) w2.heap.size 36 is _ 1 24 Try.underlying35 his hzs0 hzs1 hzs2 rfl (by omega) (.slice Bu r.next.length ku) r.next.length vs (by rfl) hown0 ⟨cg, 0, none⟩ s.next.length kv us (by rfl) hus hnews hone (by omega) (by unfold maxLen; omega) (by omega) (by omega) _ rfl ?_
              intro g6 cap6 V11 hown6 hgrow6 hat6 hlt6
              obtain ⟨bs6, hO6, hn6⟩ := HJ.out V11 g6 cap6 hgrow6 hown6 hat6
              have HO := Lib.hid hO6
              have HNO := Lib.hid (hn6 ph HAL.out.lt HNU.out HNV.out)
              have HAL1 := Lib.hid (grown_row hgrow6 HAL.out (fun hm => HNU.out (HBK.out _ hm)))
              clear HAL
              have HAL := HAL1
              clear HAL1
              have BEL1 := Lib.hid (rj_grown hgrow6 HBK.out HUL.out BEL.out)
              clear hown0 hnews hus hone hown6 hgrow6 hat6 hlt6 hO6 hn6 hsz0
              clear BEL
              have BEL := BEL1
              clear BEL1
              clear hHeld
              refine hK.out _ _ (HSC.out _ BEL.out) (fun hHeld => ?_)
              clear hK K
              (try simp only [Act.put, List.setIfInBounds_toArray, List.set_cons_zero, List.set_cons_succ])
              refine wpAnyH_take (i := 12) (v := ?_) (by simp only [List.getElem?_toArray, List.getElem?_cons_succ, List.getElem?_cons_zero]; exact rfl) (by kernel_rfl) (by kernel_rfl) (by kernel_rfl) (by intro _ _ _ h; exact h) (Or.inl ⟨by kernel_rfl, ?_⟩) hHeld ?_
              rotate_left
              · intro V hSw
                (try dsimp only at hSw)
                go_simp
                try with_reducible rfl
              (try simp only [Act.put, List.setIfInBounds_toArray, List.set_cons_zero, List.set_cons_succ])
              refine wpAnyH_ready (rs := [14]) (by kernel_rfl) (by simp) ?_
              refine AllReadyH.cons rfl (fun K hK => ?_) AllReadyH.nil
              rw [if_pos (by rfl)]
              obtain ⟨⟨y0, y1, y2, y3⟩, yf⟩ := HAL.out.four
              go_simp
              have HFIN := Lib.hid (atBoxO_old2 (L := r.L) (S := r.S) HAL.out HNO.out HPH.out BEL.out HO.out)
              have BEL1 := Lib.hid ((((BEL.out.setCell (p := ⟨ph, 0, none⟩) HPH.out (.int .i64 r.L)).setCell (p := ⟨ph, 1, none⟩) HPH.out (.int .i64 r.S)).setCell (p := ⟨ph, 2, none⟩) HPH.out (.slice (some ⟨g6, 0, none⟩) (r.next.length + s.next.length) cap6)).setCell (p := ⟨ph, 3, none⟩) HPH.out (.slice none 0 0))
              clear y0 y1 y2 y3 yf
              clear BEL
              have BEL := BEL1
              clear BEL1
              clear hHeld
              refine hK.out _ _ (HSC.out _ BEL.out) (fun hHeld => ?_)
              clear hK K
              (try simp only [Act.put, List.setIfInBounds_toArray, List.set_cons_zero, List.set_cons_succ])
              with_reducible refine wpAnyH_done (by kernel_rfl) ?_ _
              go_wp2_with fail
              go_meet
              exact HFIN.out
            refine AllReadyH.cons rfl (fun K hK => ?_) AllReadyH.nil
            rw [if_pos (by rfl)]
            go_simp
            have HAL := Lib.hid (Row.new V0 [.int .i64 0, .int .i64 0, .slice none 0 0, .slice none 0 0] 40)
            have HPH := Lib.hid BEL.out.size
            have BEL1 := Lib.hid (below_step BEL.out (below_alloc V0 (.cells #[.int .i64 0, .int .i64 0, .slice none 0 0, .slice none 0 0] 40)))
            clear BEL
            have BEL := BEL1
            clear BEL1
            clear hHeld
            refine hK.out _ _ (HSC.out _ BEL.out) (fun hHeld => ?_)
            clear hK K
            (try simp only [Act.put, List.setIfInBounds_toArray, List.set_cons_zero, List.set_cons_succ])
            generalize V0.alloc (.cells #[.int .i64 0, .int .i64 0, .slice none 0 0, .slice none 0 0] 40) = V13 at *
            generalize V0.heap.size = ph at *
            refine wpAnyH_ready (rs := [6]) (by kernel_rfl) (by simp) ?_
            refine AllReadyH.cons rfl (fun K hK => ?_) AllReadyH.nil
            rw [if_pos (by rfl)]
            go_simp
            refine (HRW1.out _ BEL.out).mono ?_
            rintro e V14 ⟨Bu, ku, bu, rfl, hu, hbb⟩
            have HU := Lib.hid (goodII.mono hu BEL.out.size)
            have HUL := Lib.hid (fun c (hc : c ∈ bu) => Nat.le_trans BEL.out.size (goodII.lt hu hc).1)
            have HNU := Lib.hid (show ph ∉ bu from fun hc => by have a := (goodII.lt hu hc).1; have b := HAL.out.lt; omega)
            have HAL1 := Lib.hid (HAL.out.below hbb HAL.out.lt)
            clear HAL
            have HAL := HAL1
            clear HAL1
            have BEL1 := Lib.hid (below_step BEL.out hbb)
            clear hu hbb
            clear BEL
            have BEL := BEL1
            clear BEL1
            clear hHeld
            refine hK.out _ _ (HSC.out _ BEL.out) (fun hHeld => ?_)
            clear hK K
            (try simp only [Act.put, List.setIfInBounds_toArray, List.set_cons_zero, List.set_cons_succ])
            refine wpAnyH_ready (rs := [10]) (by kernel_rfl) (by simp) ?_
            refine AllReadyH.cons rfl (fun K hK => ?_) AllReadyH.nil
            rw [if_pos (by rfl)]
            go_simp
            refine (HRW2.out _ BEL.out).mono ?_
            rintro e V15 ⟨Bv, kv, bv, rfl, hv, hbb⟩
            have HD2 := Lib.hid (show ∀ c ∈ bu, c ∉ bv from fun c hc hc2 => by have a := (goodII.lt HU.out hc).2; have b := (goodII.lt hv hc2).1; omega)
            have HV := Lib.hid (goodII.mono hv BEL.out.size)
            have HU1 := Lib.hid (goodII.below HU.out hbb)
            clear HU
            have HU := HU1
            clear HU1
            have HNV := Lib.hid (show ph ∉ bv from fun hc => by have a := (goodII.lt hv hc).1; have b := HAL.out.lt; omega)
            have HAL1 := Lib.hid (HAL.out.below hbb HAL.out.lt)
            clear HAL
            have HAL := HAL1
            clear HAL1
            have BEL1 := Lib.hid (below_step BEL.out hbb)
            clear hv hbb
            clear BEL
            have BEL := BEL1
            clear BEL1
            clear hHeld
            refine hK.out _ _ (HSC.out _ BEL.out) (fun hHeld => ?_)
            clear hK K
            (try simp only [Act.put, List.setIfInBounds_toArray, List.set_cons_zero, List.set_cons_succ])
            refine wpAnyH_ready (rs := [11]) (by kernel_rfl) (by simp) ?_
            refine AllReadyH.cons rfl (fun K hK => ?_) AllReadyH.nil
            obtain ⟨cg, vs, us, rfl, hus, hone, hblk, hjn⟩ := rj_join HU.out HV.out HD2.out (addRows_len _ _) (addRows_len _ _) (by omega)
            obtain ⟨hown0, hnews, hjoin⟩ := hjn V15 (Below.refl _ _)
            have HJ := Lib.hid hjoin
            have HBK := Lib.hid hblk
            have hsz0 := BEL.out.size
            clear hjn hjoin hblk
            refine step_append_lies _ (by rfl) _ _ _ (by rfl) w2.heap.size 36 is _ 1 24 Try.underlying35 his hzs0 hzs1 hzs2 rfl (by omega) (.slice Bu r.next.length ku) r.next.length vs (by rfl) hown0 ⟨cg, 0, none⟩ s.next.length kv us (by rfl) hus hnews hone (by omega) (by unfold maxLen; omega) (by omega) (by omega) _ rfl ?_
            intro g6 cap6 V16 hown6 hgrow6 hat6 hlt6
            obtain ⟨bs6, hO6, hn6⟩ := HJ.out V16 g6 cap6 hgrow6 hown6 hat6
            have HO := Lib.hid hO6
            have HNO := Lib.hid (hn6 ph HAL.out.lt HNU.out HNV.out)
            have HAL1 := Lib.hid (grown_row hgrow6 HAL.out (fun hm => HNU.out (HBK.out _ hm)))
            clear HAL
            have HAL := HAL1
            clear HAL1
            have BEL1 := Lib.hid (rj_grown hgrow6 HBK.out HUL.out BEL.out)
            clear hown0 hnews hus hone hown6 hgrow6 hat6 hlt6 hO6 hn6 hsz0
            clear BEL
            have BEL := BEL1
            clear BEL1
            clear hHeld
            refine hK.out _ _ (HSC.out _ BEL.out) (fun hHeld => ?_)
            clear hK K
            (try simp only [Act.put, List.setIfInBounds_toArray, List.set_cons_zero, List.set_cons_succ])
            refine wpAnyH_take (i := 12) (v := ?_) (by simp only [List.getElem?_toArray, List.getElem?_cons_succ, List.getElem?_cons_zero]; exact rfl) (by kernel_rfl) (by kernel_rfl) (by kernel_rfl) (by intro _ _ _ h; exact h) (Or.inl ⟨by kernel_rfl, ?_⟩) hHeld ?_
            rotate_left
            · intro V hSw
              (try dsimp only at hSw)
              go_simp
              try with_reducible rfl
            (try simp only [Act.put, List.setIfInBounds_toArray, List.set_cons_zero, List.set_cons_succ])
            refine wpAnyH_ready (rs := [14]) (by kernel_rfl) (by simp) ?_
            refine AllReadyH.cons rfl (fun K hK => ?_) AllReadyH.nil
            rw [if_pos (by rfl)]
            obtain ⟨⟨y0, y1, y2, y3⟩, yf⟩ := HAL.out.four
            go_simp
            have HFIN := Lib.hid (atBoxO_old2 (L := r.L) (S := r.S) HAL.out HNO.out HPH.out BEL.out HO.out)
            have BEL1 := Lib.hid ((((BEL.out.setCell (p := ⟨ph, 0, none⟩) HPH.out (.int .i64 r.L)).setCell (p := ⟨ph, 1, none⟩) HPH.out (.int .i64 r.S)).setCell (p := ⟨ph, 2, none⟩) HPH.out (.slice (some ⟨g6, 0, none⟩) (r.next.length + s.next.length) cap6)).setCell (p := ⟨ph, 3, none⟩) HPH.out (.slice none 0 0))
            clear y0 y1 y2 y3 yf
            clear BEL
            have BEL := BEL1
            clear BEL1
            clear hHeld
            refine hK.out _ _ (HSC.out _ BEL.out) (fun hHeld => ?_)
            clear hK K
            (try simp only [Act.put, List.setIfInBounds_toArray, List.set_cons_zero, List.set_cons_succ])
            with_reducible refine wpAnyH_done (by kernel_rfl) ?_ _
            go_wp2_with fail
            go_meet
            exact HFIN.out
          case rest =>
            obtain ⟨po, rfl, hpo, hb4, hbx⟩ := hcut
            have hl2 : w.heap.size + 3 ≤ w2.heap.size := by have := HZ2.out.lt; omega
            have HI := Lib.hid (show RjI w po [.int .i64 r.L, .int .i64 r.S, .slice A r.next.length ka, .slice B r.fin.length kb] [.int .i64 s.L, .int .i64 s.S, .slice C s.next.length kc, .slice D s.fin.length kd] ⟨r.L, r.S, addRows 0 r.next ++ addRows (r.next.length : Int) s.next, []⟩ wc from ⟨below_step HB2.out hb4, HR2.out.below hb4 lr, HS2.out.below hb4 ls, HZ2.out.below hb4 HZ2.out.lt, by omega, by
              obtain ⟨vn, vf, bn, bf, k1, k2, k3, k4, k5⟩ := hbx
              exact ⟨vn, vf, bn, bf, k1, goodII.mono k2 hl2, goodI.mono k3 hl2, k4, k5⟩⟩)
            obtain ⟨NX, hNX⟩ : ∃ NX, addRows 0 r.next ++ addRows (r.next.length : Int) s.next = NX := ⟨_, rfl⟩
            have hnxl : NX.length = r.next.length + s.next.length := by rw [← hNX, List.length_append, addRows_len, addRows_len]
            have HNX := Lib.hid hNX
            have HNL := Lib.hid hnxl
            rw [hNX] at HI
            clear hpo hb4 hbx a0 a1 a2' a3 b0 b1' b2' b3' lr ls HR2 HS2 HZ2 HB2 hNX hnxl hl2
            go_wp2
            go_loopw [8] (fun i wr => ∃ k : Nat, k ≤ r.fin.length ∧ i = .int .i64 k ∧ RjI w po [.int .i64 r.L, .int .i64 r.S, .slice A r.next.length ka, .slice B r.fin.length kb] [.int .i64 s.L, .int .i64 s.S, .slice C s.next.length kc, .slice D s.fin.length kd] ⟨r.L, r.S, NX, (r.fin.map (rjF1 (r.next.length : Int) s.S)).take k⟩ wr) (fun i _ => r.fin.length - (intOf i).toNat)
            case atStart => exact ⟨0, Nat.zero_le _, rfl, by simpa using HI.out⟩
            case round =>
              clear HI
              obtain ⟨k, hk, rfl, hI⟩ := hrel
              have HI := Lib.hid hI
              have hpo := hI.2.2.2.2.1
              by_cases hlt : k < r.fin.length
              · obtain ⟨bf, offf, z, rfl, hz, hcz⟩ := b3 k hlt
                have hze := okO_fin HOK.out.1 hz
                have HTK := Lib.hid (show (r.fin.map (rjF1 (r.next.length : Int) s.S)).take (k + 1) = ((r.fin.map (rjF1 (r.next.length : Int) s.S)).take k) ++ [rjF1 (r.next.length : Int) s.S z] from take_succ_of (by simp [hz]))
                obtain ⟨fs, hfs⟩ : ∃ fs, (r.fin.map (rjF1 (r.next.length : Int) s.S)).take k = fs := ⟨_, rfl⟩
                have hfl : fs.length = k := by rw [← hfs]; simp; omega
                rw [hfs] at HTK HI hI
                obtain ⟨⟨ca0, ca1, ca2, ca3⟩, -⟩ := hI.2.1.four
                obtain ⟨⟨cb0, cb1, cb2, cb3⟩, -⟩ := hI.2.2.1.four
                have lca := hI.2.1.lt
                have lcb := hI.2.2.1.lt
                have cz := below_keep hI.1 hcz
                obtain ⟨Bn2, kn2, Bf2, kf2, vs2, ho2, -, hrf2, -, pf2, -, vf2, -, gF2⟩ := hI.2.2.2.2.2.open
                obtain ⟨⟨-, -, -, o3⟩, of2⟩ := ho2.four
                have f3 := of2 3
                have lo2 := ho2.lt
                rw [hfl] at o3 hrf2 pf2 vf2 gF2
                have HG := Lib.hid (show _ ∧ _ ∧ _ ∧ _ from ⟨hrf2, pf2, vf2, gF2⟩)
                have i1 : (0 : Int) ≤ k := by omega
                have i2 : (k : Int) < r.fin.length := by omega
                clear ho2 hrf2 pf2 vf2 gF2 of2 hz hcz hI hfs hfl
                by_cases hneg : z = -1
                · have HZE := Lib.hid (show rjF1 (r.next.length : Int) s.S z = s.S + (r.next.length : Int) by rw [rjF1, if_pos hneg]; omega)
                  have e9 : (z == -1) = true := by rw [beq_iff_eq]; exact hneg
                  rw [HZE.out] at HTK
                  clear hneg
                  have o3' := below_keep (below_alloc wr (.cells #[.int .i64 (s.S + (r.next.length : Int))] 2)) o3
                  have f3' := below_keepf (below_alloc wr (.cells #[.int .i64 (s.S + (r.next.length : Int))] 2)) lo2 f3
                  go_wp2_with (at_builtin; refine wpList_append_lies _ rfl _ _ 36 rfl (w.heap.size + 3) 2 ii _ 1 8 Try.underlying36 hii hzi0 hzi1 hzi2 rfl (by decide) (.slice Bf2 k kf2) k _ rfl (rows_below HG.out.1 (below_alloc _ _)) ⟨wr.heap.size, 0, none⟩ 1 1 [.int .i64 (s.S + (r.next.length : Int))] rfl rfl (World.news_of_block (cs := #[.int .i64 (s.S + (r.next.length : Int))]) (t := 2) (fr := (0, 0)) (heap_alloc_new wr _)) (by simp [Value.oneCell']) (by omega) (by unfold maxLen; omega) (by omega) (by simp; omega) (wr.heap.size + 1) (by simp) ?_; intro g2 cap2 w6 hown6 hgrow6 hat6 hlt6; have p4 := grown_cell hgrow6 HG.out.2.1 o3'; have p5 := grown_free hgrow6 HG.out.2.1 (by simp; omega) f3'; have HE2 := Lib.hid (HI.out.stored (below_alloc wr _) hgrow6 HG.out.2.2.1 (HG.out.2.2.2 wr (s.S + (r.next.length : Int)) (Below.refl _ _) _ w6 g2 cap2 hgrow6 hown6 hat6)); clear hown6 hgrow6 hat6 hlt6)
                  go_roundw
                  case rel => exact ⟨k + 1, by omega, by go_num, by rw [HTK.out]; exact HE2.out⟩
                  case measure => simp [intOf]; omega
                · have HZE := Lib.hid (show rjF1 (r.next.length : Int) s.S z = z by rw [rjF1, if_neg hneg])
                  have e9 : (z == -1) = false := by rw [beq_eq_false_iff_ne]; exact hneg
                  rw [HZE.out] at HTK
                  have o3' := below_keep (below_alloc wr (.cells #[.int .i64 z] 2)) o3
                  have f3' := below_keepf (below_alloc wr (.cells #[.int .i64 z] 2)) lo2 f3
                  go_wp2_with (at_builtin; refine wpList_append_lies _ rfl _ _ 36 rfl (w.heap.size + 3) 2 ii _ 1 8 Try.underlying36 hii hzi0 hzi1 hzi2 rfl (by decide) (.slice Bf2 k kf2) k _ rfl (rows_below HG.out.1 (below_alloc _ _)) ⟨wr.heap.size, 0, none⟩ 1 1 [.int .i64 z] rfl rfl (World.news_of_block (cs := #[.int .i64 z]) (t := 2) (fr := (0, 0)) (heap_alloc_new wr _)) (by simp [Value.oneCell']) (by omega) (by unfold maxLen; omega) (by omega) (by simp; omega) (wr.heap.size + 1) (by simp) ?_; intro g2 cap2 w6 hown6 hgrow6 hat6 hlt6; have p4 := grown_cell hgrow6 HG.out.2.1 o3'; have p5 := grown_free hgrow6 HG.out.2.1 (by simp; omega) f3'; have HE2 := Lib.hid (HI.out.stored (below_alloc wr _) hgrow6 HG.out.2.2.1 (HG.out.2.2.2 wr z (Below.refl _ _) _ w6 g2 cap2 hgrow6 hown6 hat6)); clear hown6 hgrow6 hat6 hlt6)
                  go_roundw
                  case rel => exact ⟨k + 1, by omega, by go_num, by rw [HTK.out]; exact HE2.out⟩
                  case measure => simp [intOf]; omega
              · obtain rfl : k = r.fin.length := by omega
                rw [List.take_of_length_le (by simp)] at hI HI
                obtain ⟨⟨ca0, ca1, ca2, ca3⟩, -⟩ := hI.2.1.four
                have lca := hI.2.1.lt
                clear hI b3
                go_wp2
                clear ca0 ca1 ca2 ca3 lca
                go_loopw [10] (fun i wr => ∃ k : Nat, k ≤ s.fin.length ∧ i = .int .i64 k ∧ RjI w po [.int .i64 r.L, .int .i64 r.S, .slice A r.next.length ka, .slice B r.fin.length kb] [.int .i64 s.L, .int .i64 s.S, .slice C s.next.length kc, .slice D s.fin.length kd] ⟨r.L, r.S, NX, r.fin.map (rjF1 (r.next.length : Int) s.S) ++ (s.fin.map (rjF2 (r.next.length : Int))).take k⟩ wr) (fun i _ => s.fin.length - (intOf i).toNat)
                case atStart => exact ⟨0, Nat.zero_le _, rfl, by simpa using HI.out⟩
                case round =>
                  clear HI
                  obtain ⟨k, hk, rfl, hI⟩ := hrel
                  have HI := Lib.hid hI
                  have hpo := hI.2.2.2.2.1
                  by_cases hlt : k < s.fin.length
                  · obtain ⟨bf, offf, z, rfl, hz, hcz⟩ := d3 k hlt
                    have hze := okO_fin HOK.out.2 hz
                    have HTK := Lib.hid (show r.fin.map (rjF1 (r.next.length : Int) s.S) ++ (s.fin.map (rjF2 (r.next.length : Int))).take (k + 1) = (r.fin.map (rjF1 (r.next.length : Int) s.S) ++ (s.fin.map (rjF2 (r.next.length : Int))).take k) ++ [rjF2 (r.next.length : Int) z] from (by rw [take_succ_of (x := rjF2 (r.next.length : Int) z) (by simp [hz]), List.append_assoc]))
                    obtain ⟨fs, hfs⟩ : ∃ fs, r.fin.map (rjF1 (r.next.length : Int) s.S) ++ (s.fin.map (rjF2 (r.next.length : Int))).take k = fs := ⟨_, rfl⟩
                    have hfl : fs.length = r.fin.length + k := by rw [← hfs]; simp; omega
                    rw [hfs] at HTK HI hI
                    obtain ⟨⟨ca0, ca1, ca2, ca3⟩, -⟩ := hI.2.1.four
                    obtain ⟨⟨cb0, cb1, cb2, cb3⟩, -⟩ := hI.2.2.1.four
                    have lca := hI.2.1.lt
                    have lcb := hI.2.2.1.lt
                    have cz := below_keep hI.1 hcz
                    obtain ⟨Bn2, kn2, Bf2, kf2, vs2, ho2, -, hrf2, -, pf2, -, vf2, -, gF2⟩ := hI.2.2.2.2.2.open
                    obtain ⟨⟨-, -, -, o3⟩, of2⟩ := ho2.four
                    have f3 := of2 3
                    have lo2 := ho2.lt
                    rw [hfl] at o3 hrf2 pf2 vf2 gF2
                    have HG := Lib.hid (show _ ∧ _ ∧ _ ∧ _ from ⟨hrf2, pf2, vf2, gF2⟩)
                    have i1 : (0 : Int) ≤ k := by omega
                    have i2 : (k : Int) < s.fin.length := by omega
                    clear ho2 hrf2 pf2 vf2 gF2 of2 hz hcz hI hfs hfl
                    by_cases hneg : 0 ≤ z
                    · have HZE := Lib.hid (show rjF2 (r.next.length : Int) z = z + (r.next.length : Int) by rw [rjF2, if_pos hneg]; omega)
                      rw [HZE.out] at HTK
                      have o3' := below_keep (below_alloc wr (.cells #[.int .i64 (z + (r.next.length : Int))] 2)) o3
                      have f3' := below_keepf (below_alloc wr (.cells #[.int .i64 (z + (r.next.length : Int))] 2)) lo2 f3
                      go_wp2_with (at_builtin; refine wpList_append_lies _ rfl _ _ 36 rfl (w.heap.size + 3) 2 ii _ 1 8 Try.underlying36 hii hzi0 hzi1 hzi2 rfl (by decide) (.slice Bf2 (r.fin.length + k) kf2) (r.fin.length + k) _ rfl (rows_below HG.out.1 (below_alloc _ _)) ⟨wr.heap.size, 0, none⟩ 1 1 [.int .i64 (z + (r.next.length : Int))] rfl rfl (World.news_of_block (cs := #[.int .i64 (z + (r.next.length : Int))]) (t := 2) (fr := (0, 0)) (heap_alloc_new wr _)) (by simp [Value.oneCell']) (by omega) (by unfold maxLen; omega) (by omega) (by simp; omega) (wr.heap.size + 1) (by simp) ?_; intro g2 cap2 w6 hown6 hgrow6 hat6 hlt6; have p4 := grown_cell hgrow6 HG.out.2.1 o3'; have p5 := grown_free hgrow6 HG.out.2.1 (by simp; omega) f3'; have HE2 := Lib.hid (HI.out.stored (below_alloc wr _) hgrow6 HG.out.2.2.1 (HG.out.2.2.2 wr (z + (r.next.length : Int)) (Below.refl _ _) _ w6 g2 cap2 hgrow6 hown6 hat6)); clear hown6 hgrow6 hat6 hlt6)
                      go_roundw
                      case rel => exact ⟨k + 1, by omega, by go_num, by rw [HTK.out]; exact HE2.out⟩
                      case measure => simp [intOf]; omega
                    · have HZE := Lib.hid (show rjF2 (r.next.length : Int) z = z by rw [rjF2, if_neg hneg])
                      rw [HZE.out] at HTK
                      have o3' := below_keep (below_alloc wr (.cells #[.int .i64 z] 2)) o3
                      have f3' := below_keepf (below_alloc wr (.cells #[.int .i64 z] 2)) lo2 f3
                      go_wp2_with (at_builtin; refine wpList_append_lies _ rfl _ _ 36 rfl (w.heap.size + 3) 2 ii _ 1 8 Try.underlying36 hii hzi0 hzi1 hzi2 rfl (by decide) (.slice Bf2 (r.fin.length + k) kf2) (r.fin.length + k) _ rfl (rows_below HG.out.1 (below_alloc _ _)) ⟨wr.heap.size, 0, none⟩ 1 1 [.int .i64 z] rfl rfl (World.news_of_block (cs := #[.int .i64 z]) (t := 2) (fr := (0, 0)) (heap_alloc_new wr _)) (by simp [Value.oneCell']) (by omega) (by unfold maxLen; omega) (by omega) (by simp; omega) (wr.heap.size + 1) (by simp) ?_; intro g2 cap2 w6 hown6 hgrow6 hat6 hlt6; have p4 := grown_cell hgrow6 HG.out.2.1 o3'; have p5 := grown_free hgrow6 HG.out.2.1 (by simp; omega) f3'; have HE2 := Lib.hid (HI.out.stored (below_alloc wr _) hgrow6 HG.out.2.2.1 (HG.out.2.2.2 wr z (Below.refl _ _) _ w6 g2 cap2 hgrow6 hown6 hat6)); clear hown6 hgrow6 hat6 hlt6)
                      go_roundw
                      case rel => exact ⟨k + 1, by omega, by go_num, by rw [HTK.out]; exact HE2.out⟩
                      case measure => simp [intOf]; omega
                  · obtain rfl : k = s.fin.length := by omega
                    rw [List.take_of_length_le (by simp)] at hI HI
                    obtain ⟨⟨cb0, cb1, cb2, cb3⟩, -⟩ := hI.2.2.1.four
                    have lcb := hI.2.2.1.lt
                    obtain ⟨Bn, kn, Bf, kf, bs, hrow, hOw, hpo2⟩ := hI.2.2.2.2.2.own
                    simp only [HNL.out, List.length_append, List.length_map] at hrow hOw
                    obtain ⟨⟨x0, x1, x2, x3⟩, -⟩ := hrow.four
                    obtain ⟨⟨z0, z1, z2, z3⟩, zf⟩ := hI.2.2.2.1.four
                    have lx := hrow.lt
                    have lz := hI.2.2.2.1.lt
                    have HXX := Lib.hid hOw
                    clear hrow hOw hpo2 hI d3
                    go_wp2
                    obtain ⟨W2, hW2, ⟨y0, y1, y2, y3⟩, eO, eB⟩ := stored4O HI.out.2.2.2.1 HXX.out (Nat.lt_succ_self _) (by omega) HI.out.1
                    rw [← hW2]
                    clear hW2
                    refine bodyPost_ret (v := .tuple #[.agg #[.int .i64 r.L, .int .i64 r.S, .slice Bn (r.next.length + s.next.length) kn, .slice Bf (r.fin.length + s.fin.length) kf], .int .i64 0]) (by simp [results, Try.results13, go_sem, y0, y1, y2, y3]) rfl ?_
                    rw [HE.out, rjO, HNX.out]
                    exact ⟨_, _, rfl, eO, eB⟩
        · have HE := Lib.hid (show rjRes r s = (⟨0, 0, [], []⟩, 3) by rw [HRES.out, if_pos hL, if_neg h6])
          have h6' : (6 : Int) < (r.next.length : Int) + s.next.length := by omega
          clear hL
          obtain ⟨⟨z0, z1, z2, z3⟩, zf⟩ := HZ2.out.four
          have lz := HZ2.out.lt
          go_wp2
          obtain ⟨WZ, hWZ, ⟨y0, y1, y2, y3⟩, eO, eB⟩ := stored4O HZ2.out (owO_zero _ (w.heap.size + 3)) (Nat.lt_succ_self _) (by omega) HB2.out
          rw [← hWZ]
          clear hWZ
          refine bodyPost_ret (v := .tuple #[.agg #[.int .i64 0, .int .i64 0, .slice none 0 0, .slice none 0 0], .int .i64 3]) (by simp [results, Try.results13, go_sem, y0, y1, y2, y3]) rfl ?_
          rw [HE.out]
          exact ⟨_, _, rfl, eO, eB⟩
      · have HE := Lib.hid (show rjRes r s = (⟨0, 0, [], []⟩, 2) by rw [HRES.out, if_neg hL])
        have e1 : (r.L != s.L) = true := by simp [hL]
        obtain ⟨⟨z0, z1, z2, z3⟩, zf⟩ := HZ2.out.four
        have lz := HZ2.out.lt
        go_wp2
        obtain ⟨WZ, hWZ, ⟨y0, y1, y2, y3⟩, eO, eB⟩ := stored4O HZ2.out (owO_zero _ (w.heap.size + 3)) (Nat.lt_succ_self _) (by omega) HB2.out
        rw [← hWZ]
        clear hWZ
        refine bodyPost_ret (v := .tuple #[.agg #[.int .i64 0, .int .i64 0, .slice none 0 0, .slice none 0 0], .int .i64 2]) (by simp [results, Try.results13, go_sem, y0, y1, y2, y3]) rfl ?_
        rw [HE.out]
        exact ⟨_, _, rfl, eO, eB⟩
    · have ok2' : okO s = false := by simpa using ok2
      have HE := Lib.hid (show rjRes r s = (⟨0, 0, [], []⟩, 1) by rw [rjRes, if_neg (fun h => ok2 h.2)])
      rw [ok1] at HV1
      rw [ok2'] at HV2
      clear ok1 ok2 ok2' b3 d3
      go_enter Try.func13, Try.ntmps13
      go_wp2_with fail
      refine HV1.out.mono ?_
      rintro e w1 ⟨rfl, hq⟩
      have HR1 := Lib.hid (HR.out.below hq.below HR.out.lt)
      have HS1 := Lib.hid (HSS.out.below hq.below HSS.out.lt)
      have HZ1 := Lib.hid (HZ.out.below hq.below HZ.out.lt)
      have HB1 := Lib.hid (below_step HB.out hq.below)
      clear hq HR HSS HZ HB HV1
      go_wp2_with fail
      refine (HV2.out _ HS1.out HB1.out).mono ?_
      rintro e w2 ⟨rfl, hq⟩
      have HR2 := Lib.hid (HR1.out.below hq.below HR1.out.lt)
      have HS2 := Lib.hid (HS1.out.below hq.below HS1.out.lt)
      have HZ2 := Lib.hid (HZ1.out.below hq.below HZ1.out.lt)
      have HB2 := Lib.hid (below_step HB1.out hq.below)
      clear hq HR1 HS1 HZ1 HB1
      obtain ⟨⟨a0, a1', a2', a3⟩, -⟩ := HR2.out.four
      obtain ⟨⟨b0, b1', b2', b3'⟩, -⟩ := HS2.out.four
      have lr := HR2.out.lt
      have ls := HS2.out.lt
      obtain ⟨⟨z0, z1, z2, z3⟩, zf⟩ := HZ2.out.four
      have lz := HZ2.out.lt
      go_wp2
      obtain ⟨WZ, hWZ, ⟨y0, y1, y2, y3⟩, eO, eB⟩ := stored4O HZ2.out (owO_zero _ (w.heap.size + 3)) (Nat.lt_succ_self _) (by omega) HB2.out
      rw [← hWZ]
      clear hWZ
      refine bodyPost_ret (v := .tuple #[.agg #[.int .i64 0, .int .i64 0, .slice none 0 0, .slice none 0 0], .int .i64 1]) (by simp [results, Try.results13, go_sem, y0, y1, y2, y3]) rfl ?_
      rw [HE.out]
      exact ⟨_, _, rfl, eO, eB⟩
  · have ok1' : okO r = false := by simpa using ok1
    have HE := Lib.hid (show rjRes r s = (⟨0, 0, [], []⟩, 1) by rw [rjRes, if_neg (fun h => ok1 h.1)])
    rw [ok1'] at HV1
    clear ok1 ok1' b3 d3
    go_enter Try.func13, Try.ntmps13
    go_wp2_with fail
    refine HV1.out.mono ?_
    rintro e w2 ⟨rfl, hq⟩
    have HZ2 := Lib.hid (HZ.out.below hq.below HZ.out.lt)
    have HB2 := Lib.hid (below_step HB.out hq.below)
    clear hq
    obtain ⟨⟨z0, z1, z2, z3⟩, zf⟩ := HZ2.out.four
    have lz := HZ2.out.lt
    go_wp2
    obtain ⟨WZ, hWZ, ⟨y0, y1, y2, y3⟩, eO, eB⟩ := stored4O HZ2.out (owO_zero _ (w.heap.size + 3)) (Nat.lt_succ_self _) (by omega) HB2.out
    rw [← hWZ]
    clear hWZ
    refine bodyPost_ret (v := .tuple #[.agg #[.int .i64 0, .int .i64 0, .slice none 0 0, .slice none 0 0], .int .i64 1]) (by simp [results, Try.results13, go_sem, y0, y1, y2, y3]) rfl ?_
    rw [HE.out]
    exact ⟨_, _, rfl, eO, eB⟩
end Go.Proofs.Ytklljaeoimgmnaa
