/-
  The turner of a reader: the model's answer.
-/
import Derived.Test.YtfkicedhjipfmaaTo3
namespace Go.Proofs.Ytfkicedhjipfmaa
open Go.RowKit

/-- The boxes of the model's call: the reader, the answer, and the turner that is being made. -/
def TofI (w : World) (lo : Nat) (rc : List Value) (t : TData) (wr : World) : Prop :=
  Below w.heap.size w wr ∧ Row wr w.heap.size 32 rc ∧ Row wr (w.heap.size + 1) 29 [.int .i64 0, .int .i64 0, .slice none 0 0] ∧ w.heap.size + 2 ≤ lo ∧ BoxT wr lo lo t
theorem TofI.below {w w' wr : World} {lo : Nat} {rc : List Value} {t : TData} (h : TofI w lo rc t wr) (hb : Below wr.heap.size wr w') : TofI w lo rc t w' :=
  ⟨below_step h.1 hb, h.2.1.below hb h.2.1.lt, h.2.2.1.below hb h.2.2.1.lt, h.2.2.2.1, h.2.2.2.2.below hb⟩
theorem TofI.drew {w wr : World} {lo : Nat} {rc : List Value} {t : TData} (h : TofI w lo rc t wr) : TofI w lo rc t wr.drew := h.below (below_drew _)

set_option maxRecDepth 100000 in
set_option maxHeartbeats 3200000 in
theorem specTurnerOf_any (v : Value) (r : RData) (w : World) (h : RdR w v r) :
    Calls Try.prog 11 #[v] w fun e w' => ∃ u, e = .returned (.tuple #[u, .int .i64 (tofRes r).2]) ∧ RdT w' u (tofRes r).1 ∧ Below w.heap.size w w' := by
  obtain ⟨isl, his, hzs0, hzs1, hzs2⟩ := info_parts infoTurnerOfMs
  obtain ⟨im, him, hzm0, hzm1, hzm2⟩ := info_parts infoMove
  obtain ⟨va, vn, rfl, hA⟩ := atR_box h 32
  obtain ⟨L, S, acc, next⟩ := r
  obtain ⟨va', vn', e0, ha, hn⟩ := h
  cases e0
  have hA0 := hA.below (below_alloc _ (.cells #[.int .i64 0, .int .i64 0, .slice none 0 0] 29))
  obtain ⟨A, ca, rfl, a1, a2, a3⟩ := ha.open
  obtain ⟨B, cb, rfl, b1, b2, b3⟩ := RdL.open hn
  unfold maxLen at a2 b2
  simp only at *
  have HV := Lib.hid (l01Ok_any _ _ _ hA0)
  have hr := (Row.new w [.int .i64 L, .int .i64 S, .slice A acc.length ca, .slice B next.length cb] 32).alloc (.cells #[.int .i64 0, .int .i64 0, .slice none 0 0] 29)
  have hz := Row.new (w.alloc (.cells #[.int .i64 L, .int .i64 S, .slice A acc.length ca, .slice B next.length cb] 32)) [.int .i64 0, .int .i64 0, .slice none 0 0] 29
  have HZ := Lib.hid (show Row _ (w.heap.size + 1) _ _ by simpa using hz)
  have HR := Lib.hid hr
  have HB := Lib.hid ((below_alloc w (.cells #[.int .i64 L, .int .i64 S, .slice A acc.length ca, .slice B next.length cb] 32)).alloc (by simp) (.cells #[.int .i64 0, .int .i64 0, .slice none 0 0] 29))
  clear ha hn hA hA0 hr hz
  by_cases hok : okR ⟨L, S, acc, next⟩ = true
  · have HK := Lib.hid (okR_out hok)
    obtain ⟨l1, l2, n1, n2, s1, s2, nl, hlen, hdest⟩ := okR_out hok
    simp only at l1 l2 n1 n2 s1 s2 nl hlen hdest
    have HOK := Lib.hid hok
    have HL := Lib.hid hlen
    have HNL := Lib.hid nl
    obtain ⟨c, hc⟩ : ∃ c : Nat, (c : Int) = L + 2 := ⟨(L + 2).toNat, by omega⟩
    have HC := Lib.hid hc
    clear hlen hdest nl hc
    go_enter Try.func11, Try.ntmps11
    go_wp2_with fail
    refine HV.out.mono ?_
    generalize (w.alloc (.cells #[.int .i64 L, .int .i64 S, .slice A acc.length ca, .slice B next.length cb] 32)).alloc (.cells #[.int .i64 0, .int .i64 0, .slice none 0 0] 29) = W0 at *
    rintro e w1 ⟨rfl, hq⟩
    have hb1 := hq.below
    have hI : TofI w w1.heap.size [.int .i64 L, .int .i64 S, .slice A acc.length ca, .slice B next.length cb] ⟨L, S, []⟩ (w1.alloc (.cells #[.int .i64 L, .int .i64 S, .slice none 0 0] 29)) :=
      ⟨below_step (below_step HB.out hb1) (below_alloc _ _), (HR.out.below hb1 HR.out.lt).alloc _, (HZ.out.below hb1 HZ.out.lt).alloc _, by have := (HZ.out.below hb1 HZ.out.lt).lt; omega, BoxT.start _ _ _⟩
    have HI := Lib.hid hI
    obtain ⟨⟨b0, b1', b2', b3'⟩, -⟩ := (HR.out.below hb1 HR.out.lt).four
    have lt1 := (HR.out.below hb1 HR.out.lt).lt
    clear hb1 hq hI HZ HB HR
    go_wp2
    clear hok
    generalize w1.heap.size = lo at *
    generalize w1.alloc (.cells #[.int .i64 L, .int .i64 S, .slice none 0 0] 29) = w2 at *
    clear b0 b1' b2' b3' lt1
    go_loopw [5] (fun i wr => ∃ s : Nat, s ≤ acc.length ∧ i = .int .i64 s ∧ TofI w lo [.int .i64 L, .int .i64 S, .slice A acc.length ca, .slice B next.length cb] ⟨L, S, tableOf (tofG ⟨L, S, acc, next⟩) c s⟩ wr) (fun i _ => acc.length - (intOf i).toNat)
    case atStart => exact ⟨0, Nat.zero_le _, rfl, HI.out⟩
    case round =>
      obtain ⟨wo, hwo⟩ : ∃ wo, wo = wr := ⟨wr, rfl⟩
      subst hwo
      obtain ⟨s, hs, rfl, hI⟩ := hrel
      have HS := Lib.hid hI
      obtain ⟨⟨b0, b1', b2', b3'⟩, -⟩ := hI.2.1.four
      have ltr := hI.2.1.lt
      clear hI
      by_cases hlt : s < acc.length
      · obtain ⟨b, off, p, x, rfl, hx, hcx, hP⟩ := b3 s (by have := HNL.out; omega)
        obtain ⟨D, cd, rfl, d1, d2, d3⟩ := hP.open
        unfold maxLen at d2
        obtain ⟨bz, offz, z, rfl, hz, hcz⟩ := a3 s hlt
        have HX := Lib.hid (show _ ∧ _ from ⟨hx, hz⟩)
        have HCX := Lib.hid (show _ ∧ _ from ⟨hcx, hcz⟩)
        have hxl := HL.out s x hx
        have hxl3 : x.length ≤ 3 := by omega
        have HXL := Lib.hid hxl
        have i1 : (0 : Int) ≤ s := by omega
        have i2 : (s : Int) < acc.length := by omega
        have i3 : (s : Int) < next.length := by have := HNL.out; omega
        have ow0 := World.ownsRow_lit (base := wo.heap.size) (e := 66) (size := 2) wo #[] 0 (Nat.le_refl _) (by unfold maxLen; omega) rfl
        have HO := Lib.hid ow0
        clear hx hz hcx hcz hP hxl ow0 a3 b3
        go_wp2
        clear b0 b1' b2' b3' ltr
        go_loopw [6, 7] (fun u i wr => ∃ (a kn : Nat) (Bn : Option Addr), a ≤ x.length ∧ i = .int .i64 a ∧ u = .slice Bn a kn ∧ Below wo.heap.size wo wr ∧ wr.ownsRow wo.heap.size 66 2 (.slice Bn a kn) a (pcells (tofPart x a))) (fun _ i _ => x.length - (intOf i).toNat)
        case atStart => exact ⟨0, 0, _, Nat.zero_le _, rfl, rfl, below_alloc _ _, HO.out⟩
        case round =>
          obtain ⟨a, kn, Bn, ha, rfl, rfl, hb, how⟩ := hrel
          have hI := HS.out.below hb
          obtain ⟨⟨b0, b1', b2', b3'⟩, -⟩ := hI.2.1.four
          have hbw := hI.1
          have HI2 := Lib.hid (show _ ∧ _ ∧ _ from ⟨hb, how, hI⟩)
          have gx := below_keep hbw HCX.out.1
          have gz := below_keep hbw HCX.out.2
          have ltr := hI.2.1.lt
          have ltz := World.block_lt_of_cell? _ _ gz
          clear hI hb how
          by_cases halt : a < x.length
          · obtain ⟨bx, offx, t, rfl, ht, hct⟩ := d3 a halt
            have gt := below_keep hbw hct
            have HT := Lib.hid ht
            have j1 : (0 : Int) ≤ a := by omega
            have j2 : (a : Int) < x.length := by omega
            clear ht hct d3 hbw
            go_wp2_with (at_builtin; refine wpList_append_lies _ rfl _ _ 64 rfl wo.heap.size 66 im _ 2 16 Try.underlying64 him hzm0 hzm1 hzm2 rfl (by decide) (.slice Bn a kn) a _ rfl (HI2.out.2.1.alloc _) ⟨wr.heap.size, 0, none⟩ 1 1 [.int .i64 t, .int .i64 1] rfl rfl (World.news_of_block (cs := #[.int .i64 t, .int .i64 1]) (t := 66) (fr := (0, 0)) (heap_alloc_new wr _)) (by simp [Value.oneCell']) (by omega) (by unfold maxLen; omega) (by omega) (by have := HI2.out.1.size; simp; omega) (wr.heap.size + 1) (by simp) ?_; intro g cap w2 hown1 hgrow hat hlt2)
            have hb := HI2.out.1
            have hres : Below wo.heap.size wo w2 := (below_step hb (below_alloc wr _)).trans (grown_below hgrow (by have := hb.size; simp; omega) (fun b hm => (World.ownsRow.lt HI2.out.2.1 b (mem_blks.1 hm)).1))
            rw [show pcells (tofPart x a) ++ [Value.int .i64 t, .int .i64 1] = pcells (tofPart x (a + 1)) by rw [tofPart_succ HT.out, pcells_snoc]] at hown1
            have HN := Lib.hid (show _ ∧ _ from ⟨hres, hown1⟩)
            clear hb hres hown1 hgrow hat
            go_roundw
            case rel => exact ⟨a + 1, cap, _, by omega, by go_num, rfl, HN.out.1, HN.out.2⟩
            case measure => simp [intOf]; omega
          · have ea : a = x.length := by omega
            subst ea
            clear d3
            cases z
            ·
              go_upto_region 15 with fail
              have hw3 := below_alloc wr (.cells #[.int .i64 (-2), .int .i64 0] 66)
              have hb3 := below_step HI2.out.1 hw3
              have hI3 := HI2.out.2.2.below hw3
              have how3 := rows_below HI2.out.2.1 hw3
              have h8 := Row.new wr [.int .i64 (-2), .int .i64 0] 66
              have hs3 : wo.heap.size ≤ wr.heap.size := HI2.out.1.size
              have h83 := h8.lt
              generalize wr.heap.size = b8 at *
              generalize wr.alloc (.cells #[.int .i64 (-2), .int .i64 0] 66) = w3 at *
              obtain ⟨vmo, bmo, hoo, hvo, hpo⟩ := HS.out.2.2.2.2
              have hblt : ∀ b ∈ bmo, b < wo.heap.size := fun b hb => ((goodL (goodP 66) 64).lt hvo hb).2
              have hloo := hoo.lt
              obtain ⟨vs, bss, hvs, e1, e2, e3, rfl, e5⟩ := hvo
              simp only at e1 e2 e3 hoo
              rw [tableOf_len] at e1 e2
              obtain ⟨Bm, km, hsm⟩ := hvs.shape
              rw [e1] at hsm
              subst hsm
              have ho3 := hoo.below hb3 hoo.lt
              have hvs3 := hvs.below hb3
              have e33 := fun (i : Nat) u x b h1 h2 h3 => (goodP 66).below (e3 i u x b h1 h2 h3) hb3
              have nbr : ∀ b, b < wo.heap.size → b ∉ blks (.slice Bn x.length kn) := fun b hb hm => by
                have := (World.ownsRow.lt how3 b (mem_blks.1 hm)).1
                omega
              have nb1 : ∀ b, b ≤ lo → b ∉ blks (.slice Bm s km) := fun b hb hm => by
                have := hvs.lt hm
                have e : b = lo := by omega
                subst e
                exact hpo (List.mem_append_left _ hm)
              have lpo := ho3.lt
              have hfz := ho3.free 2
              obtain ⟨⟨o0, o1, o2⟩, -⟩ := ho3.three
              obtain ⟨⟨y0, y1⟩, -⟩ := h8.two
              have n13 : x.length ≤ 3 := hxl3
              have HOW := Lib.hid how3
              have HVS := Lib.hid (show w3.ownsRow lo 64 1 (.slice Bm s km) s vs by have := hvs3; unfold Own at this; rwa [e1] at this)
              have HNR := Lib.hid nbr
              have HN1 := Lib.hid nb1
              have HLO := Lib.hid hloo
              have HSZ3 := Lib.hid (show wo.heap.size ≤ w3.heap.size from hb3.size)
              have HVB := Lib.hid (show ∀ b ∈ blks (Value.slice Bm s km), b < wo.heap.size from fun b hb => (hvs.lt hb).2)
              have HH := Lib.hid (show _ ∧ _ ∧ _ ∧ _ ∧ _ ∧ _ ∧ _ ∧ _ from ⟨hI3, ho3, hvs3, e33, e5, hpo, hblt, hb3⟩)
              have HE := Lib.hid (show _ ∧ _ from ⟨e1, e2⟩)
              have hs300 : s ≤ 300 := by omega
              have hlo3 : lo < w3.heap.size := by omega
              clear hw3 hb3 hI3 how3 h8 hoo hvs e1 e2 e3 e5 hpo hblt hloo ho3 hvs3 e33 nbr nb1 b0 b1' b2' b3' gx gz o0 o1 hs3
              go_region_law
                (first
                  | (refine step_append_lies _ (by rfl) _ _ _ (by rfl) wo.heap.size 66 im _ 2 16 Try.underlying64 him hzm0 hzm1 hzm2 rfl (by omega) (.slice Bn x.length kn) x.length (pcells (tofPart x x.length)) (by rfl) (by first | exact HOW.out.alloc _ | exact (HOW.out.alloc _).drew | exact ((HOW.out.alloc _).drew).drew)
                        ⟨w3.heap.size, 0, none⟩ 2 2 [.int .i64 (s : Int), .int .i64 1, .int .i64 (-2), .int .i64 0] (by rfl) (by rfl) (World.news_of_block (cs := #[.int .i64 (s : Int), .int .i64 1, .int .i64 (-2), .int .i64 0]) (t := 66) (fr := (0, 0)) (heap_alloc_new w3 _)) (by simp [Value.oneCell'])
                        (by omega) (by unfold maxLen; omega) (by omega) (by have := HSZ3.out; simp; omega) (w3.heap.size + 1) (by simp) ?_; intro g1 cap1 w4 hownA hgrowA hatA hltA;
                      have hgA : (w3.alloc (.cells #[.int .i64 (s : Int), .int .i64 1, .int .i64 (-2), .int .i64 0] 66)).grownBy w4 (Value.slice Bn x.length kn).ownBlock := (by first | exact hgrowA | exact undrew hgrowA | exact undrew (undrew hgrowA));
                      have p1 := grown_cell hgA (HNR.out _ HLO.out) (below_keep (below_alloc _ _) o2); have p2 := grown_free hgA (HNR.out _ HLO.out) (by simp; omega) (below_keepf (below_alloc _ _) lpo hfz); have hszA : w3.heap.size + 1 ≤ w4.heap.size := (by have := hgA.size; simpa using this); have hloA : lo < w4.heap.size := (by omega);
                      have HVS4 := Lib.hid (rows_same (HVS.out.alloc (.cells #[.int .i64 (s : Int), .int .i64 1, .int .i64 (-2), .int .i64 0] 66)) (fun b hb => hgA.block b (by have := HVB.out b hb; have := HSZ3.out; simp; omega) (fun e => HNR.out b (HVB.out b hb) (mem_blks.2 e.symm)))))
                  | (refine step_append_lies _ (by rfl) _ _ _ (by rfl) lo 64 isl _ 1 24 Try.underlying27 his hzs0 hzs1 hzs2 rfl (by omega) (.slice Bm s km) s vs (by rfl) (by first | exact HVS4.out.alloc _ | exact (HVS4.out.alloc _).drew | exact ((HVS4.out.alloc _).drew).drew)
                        ⟨w4.heap.size, 0, none⟩ 1 1 [.slice (some ⟨g1, 0, none⟩) (x.length + 2) cap1] (by rfl) (by rfl) (World.news_of_block (cs := #[.slice (some ⟨g1, 0, none⟩) (x.length + 2) cap1]) (t := 64) (fr := (0, 0)) (heap_alloc_new w4 _)) (by simp [Value.oneCell'])
                        (by omega) (by unfold maxLen; omega) (by omega) (by have := HSZ3.out; simp; omega) (w4.heap.size + 1) (by simp) ?_; intro g2 cap2 w5 hownB hgrowB hatB hltB;
                      have hgB : (w4.alloc (.cells #[.slice (some ⟨g1, 0, none⟩) (x.length + 2) cap1] 64)).grownBy w5 (Value.slice Bm s km).ownBlock := (by first | exact hgrowB | exact undrew hgrowB | exact undrew (undrew hgrowB));
                      have r1 := grown_cell hgB (HN1.out _ (Nat.le_refl _)) (below_keep (below_alloc _ _) p1); have r2 := grown_free hgB (HN1.out _ (Nat.le_refl _)) (by simp; omega) (below_keepf (below_alloc _ _) (by omega) p2)))
              all_goals
                go_wp2
                obtain ⟨hI3, ho3, hvs3, e33, e5, hpo, hblt, hb3⟩ := HH.out
                obtain ⟨e1, e2⟩ := HE.out
                have hlt0 := HLO.out
                have hsz3 := HSZ3.out
                have hw2 := hI3.2.2.2.1
                have hwA := below_alloc w3 (.cells #[.int .i64 (s : Int), .int .i64 1, .int .i64 (-2), .int .i64 0] 66)
                have ho4 := grown_row hgA (ho3.alloc _) (HNR.out _ hlt0)
                have hv4 : Own w4 64 lo (.slice Bm s km) vs := by unfold Own; rw [e1]; exact HVS4.out
                have e34 := fun (i : Nat) u x' b h1 h2 h3 => grown_keep (goodP 66) hgA ((goodP 66).below (e33 i u x' b h1 h2 h3) hwA) (fun c hc hm => HNR.out c (hblt c (List.mem_append_right _ (mem_bss h3 hc))) hm)
                have hrow : OwP 66 w4 lo (.slice (some ⟨g1, 0, none⟩) (x.length + 2) cap1) (rowOf (tofG ⟨L, S, acc, next⟩) c s) [g1] := by
                  refine OwP.snoc (World.ownsRow.mono hownA (by omega)) ?_ (by rw [rowOf_len]; have := HC.out; have := HXL.out; omega) rfl
                  rw [← tof_row (r := ⟨L, S, acc, next⟩) HX.out.1 HX.out.2 HXL.out HC.out]
                  simp [pcells, pcell]
                have hg1 : wo.heap.size ≤ g1 := by
                  rcases hatA with h | h
                  · exact (World.ownsRow.lt HOW.out g1 h).1
                  · have : g1 = w3.heap.size + 1 := by simpa using h
                    omega
                have hbA := (below_step hI3.1 hwA).trans (grown_below hgA (B := w.heap.size) (by simp; have := hI3.1.size; omega) (fun b hm => by have := (World.ownsRow.lt HOW.out b (mem_blks.1 hm)).1; omega))
                have hr4 := grown_row hgA (hI3.2.1.alloc _) (HNR.out _ (by omega))
                have hz4 := grown_row hgA (hI3.2.2.1.alloc _) (HNR.out _ (by omega))
                have hres : TofI w lo [.int .i64 L, .int .i64 S, .slice (some ⟨bz, offz, none⟩) acc.length ca, .slice (some ⟨b, off, none⟩) next.length cb] ⟨L, S, tableOf (tofG ⟨L, S, acc, next⟩) c (s + 1)⟩ (w5.setCell ⟨lo, 2, none⟩ (.slice (some ⟨g2, 0, none⟩) (s + 1) cap2)) := by
                  refine ⟨app_below hbA hgB (fun b hb => by have := hv4.lt hb; omega) (by omega), app_row hgB hr4 (HN1.out _ (by omega)) (by omega), app_row hgB hz4 (HN1.out _ (by omega)) (by omega), hw2, ?_⟩
                  rw [tableOf_succ]
                  refine BoxT.snoc ho4 hv4 (by rw [e1, tableOf_len]) (by rw [e2, tableOf_len]) e34 e5 hpo hrow (fun b hb hm => ?_) (fun hm => ?_) hgB hownB (by rw [tableOf_len]) hatB
                  · simp only [List.mem_singleton] at hb
                    have := hblt b hm
                    omega
                  · simp only [List.mem_singleton] at hm
                    omega
                go_roundw
                case rel => exact ⟨s + 1, by omega, by go_num, by first | exact hres | exact hres.drew | exact hres.drew.drew⟩
                case measure => simp [intOf]; omega
            ·
              go_upto_region 15 with fail
              have hw3 := below_alloc wr (.cells #[.int .i64 (-1), .int .i64 0] 66)
              have hb3 := below_step HI2.out.1 hw3
              have hI3 := HI2.out.2.2.below hw3
              have how3 := rows_below HI2.out.2.1 hw3
              have h8 := Row.new wr [.int .i64 (-1), .int .i64 0] 66
              have hs3 : wo.heap.size ≤ wr.heap.size := HI2.out.1.size
              have h83 := h8.lt
              generalize wr.heap.size = b8 at *
              generalize wr.alloc (.cells #[.int .i64 (-1), .int .i64 0] 66) = w3 at *
              obtain ⟨vmo, bmo, hoo, hvo, hpo⟩ := HS.out.2.2.2.2
              have hblt : ∀ b ∈ bmo, b < wo.heap.size := fun b hb => ((goodL (goodP 66) 64).lt hvo hb).2
              have hloo := hoo.lt
              obtain ⟨vs, bss, hvs, e1, e2, e3, rfl, e5⟩ := hvo
              simp only at e1 e2 e3 hoo
              rw [tableOf_len] at e1 e2
              obtain ⟨Bm, km, hsm⟩ := hvs.shape
              rw [e1] at hsm
              subst hsm
              have ho3 := hoo.below hb3 hoo.lt
              have hvs3 := hvs.below hb3
              have e33 := fun (i : Nat) u x b h1 h2 h3 => (goodP 66).below (e3 i u x b h1 h2 h3) hb3
              have nbr : ∀ b, b < wo.heap.size → b ∉ blks (.slice Bn x.length kn) := fun b hb hm => by
                have := (World.ownsRow.lt how3 b (mem_blks.1 hm)).1
                omega
              have nb1 : ∀ b, b ≤ lo → b ∉ blks (.slice Bm s km) := fun b hb hm => by
                have := hvs.lt hm
                have e : b = lo := by omega
                subst e
                exact hpo (List.mem_append_left _ hm)
              have lpo := ho3.lt
              have hfz := ho3.free 2
              obtain ⟨⟨o0, o1, o2⟩, -⟩ := ho3.three
              obtain ⟨⟨y0, y1⟩, -⟩ := h8.two
              have n13 : x.length ≤ 3 := hxl3
              have HOW := Lib.hid how3
              have HVS := Lib.hid (show w3.ownsRow lo 64 1 (.slice Bm s km) s vs by have := hvs3; unfold Own at this; rwa [e1] at this)
              have HNR := Lib.hid nbr
              have HN1 := Lib.hid nb1
              have HLO := Lib.hid hloo
              have HSZ3 := Lib.hid (show wo.heap.size ≤ w3.heap.size from hb3.size)
              have HVB := Lib.hid (show ∀ b ∈ blks (Value.slice Bm s km), b < wo.heap.size from fun b hb => (hvs.lt hb).2)
              have HH := Lib.hid (show _ ∧ _ ∧ _ ∧ _ ∧ _ ∧ _ ∧ _ ∧ _ from ⟨hI3, ho3, hvs3, e33, e5, hpo, hblt, hb3⟩)
              have HE := Lib.hid (show _ ∧ _ from ⟨e1, e2⟩)
              have hs300 : s ≤ 300 := by omega
              have hlo3 : lo < w3.heap.size := by omega
              clear hw3 hb3 hI3 how3 h8 hoo hvs e1 e2 e3 e5 hpo hblt hloo ho3 hvs3 e33 nbr nb1 b0 b1' b2' b3' gx gz o0 o1 hs3
              go_region_law
                (first
                  | (refine step_append_lies _ (by rfl) _ _ _ (by rfl) wo.heap.size 66 im _ 2 16 Try.underlying64 him hzm0 hzm1 hzm2 rfl (by omega) (.slice Bn x.length kn) x.length (pcells (tofPart x x.length)) (by rfl) (by first | exact HOW.out.alloc _ | exact (HOW.out.alloc _).drew | exact ((HOW.out.alloc _).drew).drew)
                        ⟨w3.heap.size, 0, none⟩ 2 2 [.int .i64 (s : Int), .int .i64 1, .int .i64 (-1), .int .i64 0] (by rfl) (by rfl) (World.news_of_block (cs := #[.int .i64 (s : Int), .int .i64 1, .int .i64 (-1), .int .i64 0]) (t := 66) (fr := (0, 0)) (heap_alloc_new w3 _)) (by simp [Value.oneCell'])
                        (by omega) (by unfold maxLen; omega) (by omega) (by have := HSZ3.out; simp; omega) (w3.heap.size + 1) (by simp) ?_; intro g1 cap1 w4 hownA hgrowA hatA hltA;
                      have hgA : (w3.alloc (.cells #[.int .i64 (s : Int), .int .i64 1, .int .i64 (-1), .int .i64 0] 66)).grownBy w4 (Value.slice Bn x.length kn).ownBlock := (by first | exact hgrowA | exact undrew hgrowA | exact undrew (undrew hgrowA));
                      have p1 := grown_cell hgA (HNR.out _ HLO.out) (below_keep (below_alloc _ _) o2); have p2 := grown_free hgA (HNR.out _ HLO.out) (by simp; omega) (below_keepf (below_alloc _ _) lpo hfz); have hszA : w3.heap.size + 1 ≤ w4.heap.size := (by have := hgA.size; simpa using this); have hloA : lo < w4.heap.size := (by omega);
                      have HVS4 := Lib.hid (rows_same (HVS.out.alloc (.cells #[.int .i64 (s : Int), .int .i64 1, .int .i64 (-1), .int .i64 0] 66)) (fun b hb => hgA.block b (by have := HVB.out b hb; have := HSZ3.out; simp; omega) (fun e => HNR.out b (HVB.out b hb) (mem_blks.2 e.symm)))))
                  | (refine step_append_lies _ (by rfl) _ _ _ (by rfl) lo 64 isl _ 1 24 Try.underlying27 his hzs0 hzs1 hzs2 rfl (by omega) (.slice Bm s km) s vs (by rfl) (by first | exact HVS4.out.alloc _ | exact (HVS4.out.alloc _).drew | exact ((HVS4.out.alloc _).drew).drew)
                        ⟨w4.heap.size, 0, none⟩ 1 1 [.slice (some ⟨g1, 0, none⟩) (x.length + 2) cap1] (by rfl) (by rfl) (World.news_of_block (cs := #[.slice (some ⟨g1, 0, none⟩) (x.length + 2) cap1]) (t := 64) (fr := (0, 0)) (heap_alloc_new w4 _)) (by simp [Value.oneCell'])
                        (by omega) (by unfold maxLen; omega) (by omega) (by have := HSZ3.out; simp; omega) (w4.heap.size + 1) (by simp) ?_; intro g2 cap2 w5 hownB hgrowB hatB hltB;
                      have hgB : (w4.alloc (.cells #[.slice (some ⟨g1, 0, none⟩) (x.length + 2) cap1] 64)).grownBy w5 (Value.slice Bm s km).ownBlock := (by first | exact hgrowB | exact undrew hgrowB | exact undrew (undrew hgrowB));
                      have r1 := grown_cell hgB (HN1.out _ (Nat.le_refl _)) (below_keep (below_alloc _ _) p1); have r2 := grown_free hgB (HN1.out _ (Nat.le_refl _)) (by simp; omega) (below_keepf (below_alloc _ _) (by omega) p2)))
              all_goals
                go_wp2
                obtain ⟨hI3, ho3, hvs3, e33, e5, hpo, hblt, hb3⟩ := HH.out
                obtain ⟨e1, e2⟩ := HE.out
                have hlt0 := HLO.out
                have hsz3 := HSZ3.out
                have hw2 := hI3.2.2.2.1
                have hwA := below_alloc w3 (.cells #[.int .i64 (s : Int), .int .i64 1, .int .i64 (-1), .int .i64 0] 66)
                have ho4 := grown_row hgA (ho3.alloc _) (HNR.out _ hlt0)
                have hv4 : Own w4 64 lo (.slice Bm s km) vs := by unfold Own; rw [e1]; exact HVS4.out
                have e34 := fun (i : Nat) u x' b h1 h2 h3 => grown_keep (goodP 66) hgA ((goodP 66).below (e33 i u x' b h1 h2 h3) hwA) (fun c hc hm => HNR.out c (hblt c (List.mem_append_right _ (mem_bss h3 hc))) hm)
                have hrow : OwP 66 w4 lo (.slice (some ⟨g1, 0, none⟩) (x.length + 2) cap1) (rowOf (tofG ⟨L, S, acc, next⟩) c s) [g1] := by
                  refine OwP.snoc (World.ownsRow.mono hownA (by omega)) ?_ (by rw [rowOf_len]; have := HC.out; have := HXL.out; omega) rfl
                  rw [← tof_row (r := ⟨L, S, acc, next⟩) HX.out.1 HX.out.2 HXL.out HC.out]
                  simp [pcells, pcell]
                have hg1 : wo.heap.size ≤ g1 := by
                  rcases hatA with h | h
                  · exact (World.ownsRow.lt HOW.out g1 h).1
                  · have : g1 = w3.heap.size + 1 := by simpa using h
                    omega
                have hbA := (below_step hI3.1 hwA).trans (grown_below hgA (B := w.heap.size) (by simp; have := hI3.1.size; omega) (fun b hm => by have := (World.ownsRow.lt HOW.out b (mem_blks.1 hm)).1; omega))
                have hr4 := grown_row hgA (hI3.2.1.alloc _) (HNR.out _ (by omega))
                have hz4 := grown_row hgA (hI3.2.2.1.alloc _) (HNR.out _ (by omega))
                have hres : TofI w lo [.int .i64 L, .int .i64 S, .slice (some ⟨bz, offz, none⟩) acc.length ca, .slice (some ⟨b, off, none⟩) next.length cb] ⟨L, S, tableOf (tofG ⟨L, S, acc, next⟩) c (s + 1)⟩ (w5.setCell ⟨lo, 2, none⟩ (.slice (some ⟨g2, 0, none⟩) (s + 1) cap2)) := by
                  refine ⟨app_below hbA hgB (fun b hb => by have := hv4.lt hb; omega) (by omega), app_row hgB hr4 (HN1.out _ (by omega)) (by omega), app_row hgB hz4 (HN1.out _ (by omega)) (by omega), hw2, ?_⟩
                  rw [tableOf_succ]
                  refine BoxT.snoc ho4 hv4 (by rw [e1, tableOf_len]) (by rw [e2, tableOf_len]) e34 e5 hpo hrow (fun b hb hm => ?_) (fun hm => ?_) hgB hownB (by rw [tableOf_len]) hatB
                  · simp only [List.mem_singleton] at hb
                    have := hblt b hm
                    omega
                  · simp only [List.mem_singleton] at hm
                    omega
                go_roundw
                case rel => exact ⟨s + 1, by omega, by go_num, by first | exact hres | exact hres.drew | exact hres.drew.drew⟩
                case measure => simp [intOf]; omega
      · have es : s = acc.length := by omega
        subst es
        obtain ⟨hbw, hr, hz, hlo, vm, bm, ho, hvm, hpn⟩ := HS.out
        obtain ⟨Am, km, rfl⟩ := OwL.shape hvm
        simp only [tableOf_len] at ho hvm
        have hO : OwT wo lo (.agg #[.int .i64 L, .int .i64 S, .slice Am acc.length km]) ⟨L, S, tableOf (tofG ⟨L, S, acc, next⟩) c acc.length⟩ bm := ⟨_, bm, rfl, hvm, rfl, (goodL (goodP _) _).nodup hvm⟩
        have HT := Lib.hid (l02Told_any _ _ wo hO.rd)
        obtain ⟨⟨o0, o1, o2⟩, -⟩ := ho.three
        have HH := Lib.hid (show _ ∧ _ ∧ _ ∧ _ from ⟨hbw, hz, hO, hlo⟩)
        have hres := tofRes_told HK.out HOK.out HC.out
        simp only at hres
        have HRES := Lib.hid hres
        clear hbw hr hz ho hvm hpn hO hlo hres
        by_cases hokt : okT ⟨L, S, tableOf (tofG ⟨L, S, acc, next⟩) c acc.length⟩ = true
        · rw [if_pos hokt] at HT
          have HOT := Lib.hid (show toldRes ⟨L, S, tableOf (tofG ⟨L, S, acc, next⟩) c acc.length⟩ = (⟨L, S, tableOf (tofG ⟨L, S, acc, next⟩) c acc.length⟩, 0) by simp [toldRes, hokt])
          rw [HOT.out] at HT HRES
          clear hokt
          go_wp2_with fail
          clear b0 b1' b2' b3' ltr
          refine HT.out.mono ?_
          rintro e w3 ⟨rfl, hb⟩
          obtain ⟨hbw, hz, hO, hlo⟩ := HH.out
          have hz3 := hz.below hb hz.lt
          have HF := Lib.hid (own_stored (w := w) hz3 (below_step hbw hb) (by omega) (by omega) (goodT.below hO hb))
          obtain ⟨⟨z0, z1, z2⟩, zf⟩ := hz3.three
          have lz := hz3.lt
          clear hbw hz hO hlo hz3 hb o0 o1 o2
          go_wp2
          obtain ⟨⟨y0, y1, y2⟩, eO, eB⟩ := HF.out
          rw [HRES.out]
          generalize (((w3.setCell ⟨w.heap.size + 1, 0, none⟩ (.int .i64 L)).setCell ⟨w.heap.size + 1, 1, none⟩ (.int .i64 S)).setCell ⟨w.heap.size + 1, 2, none⟩ (.slice Am acc.length km)) = W2 at *
          refine bodyPost_ret (v := .tuple #[.agg #[.int .i64 L, .int .i64 S, .slice Am acc.length km], .int .i64 0]) (by simp [results, Try.results11, go_sem, y0, y1, y2]) rfl ?_
          first | exact ⟨_, rfl, eO.rd, eB⟩ | exact ⟨_, rfl, ⟨eO.rd, eB⟩⟩
        · rw [if_neg hokt] at HT
          have HOT := Lib.hid (show toldRes ⟨L, S, tableOf (tofG ⟨L, S, acc, next⟩) c acc.length⟩ = (⟨0, 0, []⟩, 3) by simp [toldRes, hokt])
          rw [HOT.out] at HT HRES
          clear hokt
          go_wp2_with fail
          clear b0 b1' b2' b3' ltr
          refine HT.out.mono ?_
          rintro e w3 ⟨rfl, hb⟩
          obtain ⟨hbw, hz, hO, hlo⟩ := HH.out
          have hz3 := hz.below hb hz.lt
          have HF := Lib.hid (own_stored (w := w) (A := none) (n := 0) (k := 0) (L := 0) (S := 0) hz3 (below_step hbw hb) (by omega) hz3.lt (t := ⟨0, 0, []⟩) ⟨_, [], rfl, owL_nil _ _ _ _, rfl, by simp⟩)
          obtain ⟨⟨z0, z1, z2⟩, zf⟩ := hz3.three
          have lz := hz3.lt
          clear hbw hz hO hlo hz3 hb o0 o1 o2
          go_wp2
          obtain ⟨⟨y0, y1, y2⟩, eO, eB⟩ := HF.out
          rw [HRES.out]
          generalize (((w3.setCell ⟨w.heap.size + 1, 0, none⟩ (.int .i64 0)).setCell ⟨w.heap.size + 1, 1, none⟩ (.int .i64 0)).setCell ⟨w.heap.size + 1, 2, none⟩ (.slice none 0 0)) = W2 at *
          refine bodyPost_ret (v := .tuple #[.agg #[.int .i64 0, .int .i64 0, .slice none 0 0], .int .i64 3]) (by simp [results, Try.results11, go_sem, y0, y1, y2]) rfl ?_
          first | exact ⟨_, rfl, eO.rd, eB⟩ | exact ⟨_, rfl, ⟨eO.rd, eB⟩⟩
  · have hok' : okR ⟨L, S, acc, next⟩ = false := by simpa using hok
    clear hok a3 b3
    have HOK := Lib.hid hok'
    go_enter Try.func11, Try.ntmps11
    go_wp2_with fail
    refine HV.out.mono ?_
    generalize (w.alloc (.cells #[.int .i64 L, .int .i64 S, .slice A acc.length ca, .slice B next.length cb] 32)).alloc (.cells #[.int .i64 0, .int .i64 0, .slice none 0 0] 29) = W0 at *
    rintro e w1 ⟨rfl, hq⟩
    have hb1 := hq.below
    have hz1 := HZ.out.below hb1 HZ.out.lt
    have HH := Lib.hid (own_stored (w := w) (A := none) (n := 0) (k := 0) (L := 0) (S := 0) hz1 (below_step HB.out hb1) (by omega) hz1.lt (t := ⟨0, 0, []⟩) ⟨_, [], rfl, owL_nil _ _ _ _, rfl, by simp⟩)
    obtain ⟨⟨z0, z1, z2⟩, zf⟩ := hz1.three
    have lz := hz1.lt
    clear hb1 hz1 hq
    go_wp2
    obtain ⟨⟨y0, y1, y2⟩, eO, eB⟩ := HH.out
    have hres : tofRes ⟨L, S, acc, next⟩ = (⟨0, 0, []⟩, 1) := by simp [tofRes, HOK.out]
    rw [hres]
    generalize (((w1.setCell ⟨w.heap.size + 1, 0, none⟩ (.int .i64 0)).setCell ⟨w.heap.size + 1, 1, none⟩ (.int .i64 0)).setCell ⟨w.heap.size + 1, 2, none⟩ (.slice none 0 0)) = W2 at *
    refine bodyPost_ret (v := .tuple #[.agg #[.int .i64 0, .int .i64 0, .slice none 0 0], .int .i64 1]) (by simp [results, Try.results11, go_sem, y0, y1, y2]) rfl ?_
    first | exact ⟨_, rfl, eO.rd, eB⟩ | exact ⟨_, rfl, ⟨eO.rd, eB⟩⟩
end Go.Proofs.Ytfkicedhjipfmaa
