/-
  A rotator as a turner: the model's answer.
-/
import Derived.Test.YtfkicedhjipfmaaRt2
namespace Go.Proofs.Ytfkicedhjipfmaa
open Go.RowKit

/-- What stands while the model makes the turner. -/
def RtI (w : World) (po : Nat) (cR : List Value) (t : TData) (wr : World) : Prop :=
  Below w.heap.size w wr ∧ Row wr w.heap.size 53 cR ∧ Row wr (w.heap.size + 1) 29 [.int .i64 0, .int .i64 0, .slice none 0 0] ∧ w.heap.size + 2 ≤ po ∧ BoxT wr (w.heap.size + 2) po t
theorem RtI.below {w : World} {po : Nat} {cR : List Value} {t : TData} {wr w' : World} (h : RtI w po cR t wr) (hb : Below wr.heap.size wr w') : RtI w po cR t w' :=
  ⟨below_step h.1 hb, h.2.1.below hb h.2.1.lt, h.2.2.1.below hb h.2.2.1.lt, h.2.2.2.1, h.2.2.2.2.below hb⟩
theorem RtI.stored {w : World} {po : Nat} {cR : List Value} {t t' : TData} {wr w1 w2 : World} {v u : Value} (h : RtI w po cR t wr) (hb1 : Below wr.heap.size wr w1) (hg : w1.grownBy w2 v.ownBlock) (hv : ∀ b ∈ blks v, w.heap.size + 2 ≤ b) (hbox : BoxT (w2.setCell ⟨po, 2, none⟩ u) (w.heap.size + 2) po t') :
    RtI w po cR t' (w2.setCell ⟨po, 2, none⟩ u) := by
  have h1 := below_step h.1 hb1
  have hpo := h.2.2.2.1
  exact ⟨(h1.trans (grown_below hg h1.size (fun b hb => by have := hv b hb; omega))).setCell (p := ⟨po, 2, none⟩) (by show w.heap.size ≤ po; omega) _, (grown_row hg (h.2.1.below hb1 h.2.1.lt) (fun hm => by have := hv _ hm; omega)).other (by show po ≠ w.heap.size; omega) _, (grown_row hg (h.2.2.1.below hb1 h.2.2.1.lt) (fun hm => by have := hv _ hm; omega)).other (by show po ≠ w.heap.size + 1; omega) _, hpo, hbox⟩
/-- One row more in the box. -/
theorem rtMore {w wo w5 w6 : World} {po : Nat} {cR : List Value} {t : TData} {Bm : Option Addr} {km q g5 cap5 g6 cap6 n : Nat} {vs : List Value} {row : List (Int × Int)} {o : Obj} (hI : RtI w po cR t wo)
    (hE : Below wo.heap.size wo w5 ∧ ∃ bs', OwP 66 w5 wo.heap.size (.slice (some ⟨g5, 0, none⟩) n cap5) row bs') (hv : ∀ b ∈ blks (.slice Bm q km), w.heap.size + 2 ≤ b)
    (hgr : ∀ (w1 : World) (u0 : Value) (x0 : List (Int × Int)) (b0 : List Nat), Below wo.heap.size wo w1 → OwP 66 w1 (w.heap.size + 2) u0 x0 b0 → (∀ c ∈ b0, wo.heap.size ≤ c) → ∀ (o : Obj) (w2 : World) (g cap : Nat), (w1.alloc o).grownBy w2 (Value.slice Bm q km).ownBlock →
        w2.ownsRow (w.heap.size + 2) 64 1 (.slice (some ⟨g, 0, none⟩) (q + 1) cap) (q + 1) (vs ++ [u0]) → ((Value.slice Bm q km).ownBlock = some g ∨ g = w1.heap.size + 1) → BoxT (w2.setCell ⟨po, 2, none⟩ (.slice (some ⟨g, 0, none⟩) (q + 1) cap)) (w.heap.size + 2) po ⟨t.L, t.S, t.mv ++ [x0]⟩)
    (hg6 : (w5.alloc o).grownBy w6 (Value.slice Bm q km).ownBlock) (hown6 : w6.ownsRow (w.heap.size + 2) 64 1 (.slice (some ⟨g6, 0, none⟩) (q + 1) cap6) (q + 1) (vs ++ [.slice (some ⟨g5, 0, none⟩) n cap5])) (hat : (Value.slice Bm q km).ownBlock = some g6 ∨ g6 = w5.heap.size + 1) :
    RtI w po cR ⟨t.L, t.S, t.mv ++ [row]⟩ (w6.setCell ⟨po, 2, none⟩ (.slice (some ⟨g6, 0, none⟩) (q + 1) cap6)) := by
  obtain ⟨hb, bs', hu⟩ := hE
  have hlo : w.heap.size + 2 ≤ wo.heap.size := by have := hI.2.2.2.2.lt; have := hI.2.2.2.1; omega
  exact hI.stored (below_step hb (below_alloc _ o)) hg6 hv (hgr w5 _ row bs' hb ((goodP _).mono hu hlo) (fun c hc => ((goodP _).lt hu hc).1) o w6 g6 cap6 hg6 hown6 hat)
theorem rowOf_two (G : Nat → Nat → Int × Int) (l q : Nat) {g1 g2 : Int × Int} (h1 : G q l = g1) (h2 : G q (l + 1) = g2) : rowOf G (l + 2) q = (rowOf G (l + 2) q).take l ++ [g1, g2] := by
  subst h1; subst h2
  have e1 := take_succ_of (rowOf_get G (c := l + 2) (q := q) (k := l) (by omega))
  have e2 := take_succ_of (rowOf_get G (c := l + 2) (q := q) (k := l + 1) (by omega))
  have e3 : (rowOf G (l + 2) q).take (l + 1 + 1) = rowOf G (l + 2) q := List.take_of_length_le (by rw [rowOf_len]; omega)
  calc rowOf G (l + 2) q = (rowOf G (l + 2) q).take (l + 1 + 1) := e3.symm
    _ = (rowOf G (l + 2) q).take (l + 1) ++ [G q (l + 1)] := e2
    _ = (rowOf G (l + 2) q).take l ++ [G q l] ++ [G q (l + 1)] := by rw [e1]
    _ = _ := by simp

set_option maxRecDepth 100000 in
set_option maxHeartbeats 12800000 in
theorem specRt_rd (v : Value) (r : OData) (w : World) (h : RdO w v r) :
    Calls Try.prog 30 #[v] w fun e w' => ∃ u, e = .returned (.tuple #[u, .int .i64 (rtRes r).2]) ∧ RdT w' u (rtRes r).1 ∧ Below w.heap.size w w' := by
  obtain ⟨im, him, hzm0, hzm1, hzm2⟩ := info_parts infoMove
  obtain ⟨is, his, hzs0, hzs1, hzs2⟩ := info_parts infoMsT
  obtain ⟨L, S, next, fin⟩ := r
  obtain ⟨vn, vf, rfl, hn, hf⟩ := h
  simp only at hn hf
  obtain ⟨A, ka, rfl, a1, a2, a3⟩ := RdL.open hn
  obtain ⟨B, kb, rfl, b1, b2, b3⟩ := RdI.open hf
  unfold maxLen at a2 b2
  have HB := Lib.hid (below_step (below_alloc w (.cells #[.int .i64 L, .int .i64 S, .slice A next.length ka, .slice B fin.length kb] 53)) (below_alloc _ (.cells #[.int .i64 0, .int .i64 0, .slice none 0 0] 29)))
  have HR := Lib.hid ((Row.new w [.int .i64 L, .int .i64 S, .slice A next.length ka, .slice B fin.length kb] 53).alloc (.cells #[.int .i64 0, .int .i64 0, .slice none 0 0] 29))
  have hz := Row.new (w.alloc (.cells #[.int .i64 L, .int .i64 S, .slice A next.length ka, .slice B fin.length kb] 53)) [.int .i64 0, .int .i64 0, .slice none 0 0] 29
  have HZ := Lib.hid (show Row _ (w.heap.size + 1) _ _ by simpa using hz)
  clear hz
  have HK := Lib.hid (l06Ok_any w.heap.size ⟨L, S, next, fin⟩ _ (by
    obtain ⟨⟨q0, q1, q2, q3⟩, -⟩ := HR.out.four
    exact ⟨_, _, q0, q1, q2, q3, keepsII _ _ _ _ hn HB.out, keepsI _ _ _ _ hf HB.out⟩))
  clear hn hf
  by_cases hok : okO ⟨L, S, next, fin⟩ = true
  · have HOK := Lib.hid hok
    rw [hok] at HK
    obtain ⟨⟨l1, l2⟩, ⟨n1, n2⟩, ⟨s1, s2⟩, m1, -⟩ := okO_parts hok
    simp only at l1 l2 n1 n2 s1 s2 m1
    obtain ⟨l, rfl⟩ : ∃ l : Nat, L = l := ⟨L.toNat, by omega⟩
    obtain ⟨G, hG⟩ : ∃ G, rtG ⟨(l : Int), S, next, fin⟩ = G := ⟨_, rfl⟩
    have HE := Lib.hid (show rtRes ⟨(l : Int), S, next, fin⟩ = (⟨(l : Int), S, tableOf G (l + 2) (next.length + next.length)⟩, 0) by rw [rtRes, if_pos hok, ← hG, ← Nat.two_mul]; rfl)
    have HG1 := Lib.hid (show ∀ (q : Nat), q < next.length → (∀ (d : Nat) (x : List Int) (z : Int), d < l → next[q]? = some x → x[d]? = some z → G q d = (z, 1)) ∧ G q l = ((q : Int), 1) ∧ (∀ z, fin[q]? = some z → z < 0 → G q (l + 1) = (z, 0)) ∧ (∀ z, fin[q]? = some z → ¬ z < 0 → G q (l + 1) = ((next.length : Int) + z, -1)) from by
      intro q hq
      subst hG
      refine ⟨fun d x z hd hx hz => ?_, ?_, fun z hz h0 => ?_, fun z hz h0 => ?_⟩
      · simp only [rtG, if_pos hq]; rw [if_neg (by omega), if_neg (by omega)]; simp [List.getD, hx, hz]
      · simp only [rtG, if_pos hq, if_true]
      · simp only [rtG, if_pos hq]; rw [if_neg (by omega), if_pos (by omega)]; simp [List.getD, hz, h0]
      · simp only [rtG, if_pos hq]; rw [if_neg (by omega), if_pos (by omega)]; simp [List.getD, hz, h0])
    have HG2 := Lib.hid (show ∀ (q : Nat), (∀ (d : Nat), d < l → G (next.length + q) d = ((next.length : Int) + q, -1)) ∧ G (next.length + q) l = ((q : Int), 1) ∧ G (next.length + q) (l + 1) = (-2, 0) from by
      intro q
      subst hG
      have hq : ¬ next.length + q < next.length := by omega
      refine ⟨fun d hd => ?_, ?_, ?_⟩
      · simp only [rtG, if_neg hq]; rw [if_neg (by omega), if_neg (by omega)]; simp
      · simp only [rtG, if_neg hq, if_true]; exact Prod.ext (by show ((next.length + q : Nat) : Int) - next.length = q; omega) rfl
      · simp only [rtG, if_neg hq]; rw [if_neg (by omega), if_pos (by omega)])
    clear hok hG
    go_enter Try.func30, Try.ntmps30
    go_wp2_with fail
    refine HK.out.mono ?_
    rintro e w1 ⟨rfl, hq⟩
    have HT := Lib.hid (show RtI w w1.heap.size [.int .i64 (l : Int), .int .i64 S, .slice A next.length ka, .slice B fin.length kb] ⟨(l : Int), S, []⟩ (w1.alloc (.cells #[.int .i64 (l : Int), .int .i64 S, .slice none 0 0] 29)) from
      ⟨below_step (below_step HB.out hq.below) (below_alloc _ _), (HR.out.below hq.below HR.out.lt).alloc _, (HZ.out.below hq.below HZ.out.lt).alloc _, by have := (HZ.out.below hq.below HZ.out.lt).lt; omega, _, [], Row.new w1 [.int .i64 (l : Int), .int .i64 S, .slice none 0 0] _, owL_nil _ _ _ _, by simp⟩)
    obtain ⟨⟨c0, c1, c2, c3⟩, -⟩ := (HR.out.below hq.below HR.out.lt).four
    have lt1 := (HR.out.below hq.below HR.out.lt).lt
    clear hq HR HZ HB HK
    go_wp2
    generalize w1.alloc (.cells #[.int .i64 (l : Int), .int .i64 S, .slice none 0 0] 29) = W0 at *
    clear c0 c1 c2 c3 lt1
    generalize w1.heap.size = po at *
    go_loopw [6] (fun i wr => ∃ q : Nat, q ≤ next.length ∧ i = .int .i64 q ∧ RtI w po [.int .i64 (l : Int), .int .i64 S, .slice A next.length ka, .slice B fin.length kb] ⟨(l : Int), S, tableOf G (l + 2) q⟩ wr) (fun i _ => next.length - (intOf i).toNat)
    case atStart => exact ⟨0, Nat.zero_le _, rfl, by simpa [tableOf] using HT.out⟩
    case round =>
      clear HT
      obtain ⟨wo, hwo⟩ : ∃ wo, wo = wr := ⟨wr, rfl⟩
      subst hwo
      obtain ⟨q, hq, rfl, hI⟩ := hrel
      have HI := Lib.hid hI
      clear hI
      by_cases hlt : q < next.length
      · have j0 : (0 : Int) ≤ q := by omega
        have j1 : (q : Int) < next.length := by omega
        have j2 : (q : Int) < fin.length := by omega
        have H1 := Lib.hid (movesI0 wo)
        obtain ⟨b, off, ux, x, rfl, hx, hcx, hRx⟩ := a3 q hlt
        obtain ⟨bf, offf, z, rfl, hz, hcz⟩ := b3 q (by omega)
        have hxl := (okO_at HOK.out hx).1
        have hzb := okO_fin HOK.out hz
        simp only at hxl hzb
        have hxt := Lib.hid (fun t ht => (okO_at HOK.out hx).2 t ht)
        obtain ⟨C, kc, rfl, x1, x2, x3⟩ := RdI.open hRx
        unfold maxLen at x2
        have HGQ := Lib.hid (HG1.out q hlt)
        have HX := Lib.hid (show _ ∧ _ from ⟨hx, hz⟩)
        have HCX := Lib.hid (show _ ∧ _ from ⟨hcx, hcz⟩)
        clear hRx hx hz hcx hcz
        go_wp2
        have HB1 := Lib.hid (below_alloc wo (.cells #[] 66))
        generalize wo.alloc (.cells #[] 66) = W1 at *
        go_loopw [7, 8] (fun vl i wi => ∃ (d dl : Nat) (Bd : Option Addr), d ≤ l ∧ i = .int .i64 d ∧ vl = .slice Bd d dl ∧ Below wo.heap.size wo wi ∧ ∃ bs, OwP 66 wi wo.heap.size (.slice Bd d dl) ((rowOf G (l + 2) q).take d) bs) (fun _ i _ => l - (intOf i).toNat)
        case atStart => exact ⟨0, 0, _, Nat.zero_le _, rfl, rfl, HB1.out, _, H1.out⟩
        case round =>
          clear H1 HB1
          obtain ⟨d, dl, Bd, hd, rfl, rfl, hbd, bsd, hOd⟩ := hrel
          have hlend : ((rowOf G (l + 2) q).take d).length = d := by rw [List.length_take, rowOf_len]; omega
          have HD := Lib.hid (show _ ∧ _ from ⟨hbd, hOd⟩)
          have hsd := hbd.size
          obtain ⟨⟨c0, c1, c2, c3⟩, -⟩ := (HI.out.below hbd).2.1.four
          have lt1 := (HI.out.below hbd).2.1.lt
          have hbw := below_step HI.out.1 hbd
          have gx := below_keep hbw HCX.out.1
          have gz := below_keep hbw HCX.out.2
          clear hbd hOd hbw
          have k0 : (0 : Int) ≤ d := by omega
          by_cases hdl : d < l
          · obtain ⟨bt, offt, t, rfl, ht, hct⟩ := x3 d (by omega)
            have gt := below_keep (below_step HI.out.1 HD.out.1) hct
            have hv := HGQ.out.1 d x t hdl HX.out.1 ht
            have HTK := Lib.hid (show (rowOf G (l + 2) q).take (d + 1) = (rowOf G (l + 2) q).take d ++ [(t, 1)] from by rw [take_succ_of (rowOf_get G (by omega)), hv])
            have k1 : (d : Int) < l := by omega
            have k2 : (d : Int) < x.length := by omega
            have HG := Lib.hid (addMoves HD.out.1 HD.out.2 hlend (below_alloc wr (.cells #[.int .i64 t, .int .i64 1] 66)))
            clear hlend hct ht hv
            go_wp2_with (at_builtin; refine wpList_append_lies _ rfl _ _ 64 rfl wo.heap.size 66 im _ 2 16 Try.underlying64 him hzm0 hzm1 hzm2 rfl (by decide) (.slice Bd d dl) d _ rfl HG.out.1 ⟨wr.heap.size, 0, none⟩ 1 1 [.int .i64 t, .int .i64 1] rfl rfl (World.news_of_block (cs := #[.int .i64 t, .int .i64 1]) (t := 66) (fr := (0, 0)) (heap_alloc_new wr _)) (by simp [Value.oneCell']) (by omega) (by unfold maxLen; omega) (by omega) (by simp; omega) (wr.heap.size + 1) (by simp) ?_; intro g5 cap5 w5 hown5 hgrow5 hat5 hlt5; have HE5 := Lib.hid (HG.out.2 w5 g5 cap5 (d + 1) [((t : Int), (1 : Int))] (by simp) hgrow5 (by simpa [pcells, pcell] using hown5)); clear hown5 hgrow5 hat5 hlt5)
            go_roundw
            case rel => exact ⟨d + 1, _, _, by omega, by go_num, rfl, HE5.out.1, by rw [HTK.out]; exact HE5.out.2⟩
            case measure => simp [intOf]; omega
          · obtain rfl : d = l := by omega
            have k1 : ¬ (d : Int) < d := by omega
            have HG := Lib.hid (addMoves HD.out.1 HD.out.2 hlend (below_alloc wr (.cells #[.int .i64 (q : Int), .int .i64 1] 66)))
            clear hlend
            go_upto_region 14 with (at_builtin; refine wpList_append_lies _ rfl _ _ 64 rfl wo.heap.size 66 im _ 2 16 Try.underlying64 him hzm0 hzm1 hzm2 rfl (by decide) (.slice Bd d dl) d _ rfl HG.out.1 ⟨wr.heap.size, 0, none⟩ 1 1 [.int .i64 (q : Int), .int .i64 1] rfl rfl (World.news_of_block (cs := #[.int .i64 (q : Int), .int .i64 1]) (t := 66) (fr := (0, 0)) (heap_alloc_new wr _)) (by simp [Value.oneCell']) (by omega) (by unfold maxLen; omega) (by omega) (by simp; omega) (wr.heap.size + 1) (by simp) ?_; intro g5 cap5 w5 hown5 hgrow5 hat5 hlt5; have HE5 := Lib.hid (HG.out.2 w5 g5 cap5 (d + 1) [((q : Int), (1 : Int))] (by simp) hgrow5 (by simpa [pcells, pcell] using hown5)); clear hown5 hgrow5 hat5 hlt5)
            clear c0 c1 c2 c3 lt1 gx gz HG
            obtain ⟨hb5, bs5, hO5⟩ := HE5.out
            have hs5 := hb5.size
            obtain ⟨⟨c0, c1, c2, c3⟩, -⟩ := (HI.out.below hb5).2.1.four
            have lt1 := (HI.out.below hb5).2.1.lt
            have gz := below_keep (below_step HI.out.1 hb5) HCX.out.2
            have hlen5 : ((rowOf G (d + 2) q).take d ++ [((q : Int), (1 : Int))]).length = d + 1 := by rw [List.length_append, List.length_take, rowOf_len]; simp
            by_cases hneg : z < 0
            · have HROW := Lib.hid (rowOf_two G d q HGQ.out.2.1 (HGQ.out.2.2.1 z HX.out.2 hneg))
              have HG := Lib.hid (addMoves hb5 hO5 hlen5 (below_alloc w5 (.cells #[.int .i64 z, .int .i64 0] 66)))
              clear hlen5 hb5 hO5
              go_upto_region 17 with (at_builtin; refine wpList_append_lies _ rfl _ _ 64 rfl wo.heap.size 66 im _ 2 16 Try.underlying64 him hzm0 hzm1 hzm2 rfl (by decide) (.slice (some ⟨g5, 0, none⟩) (d + 1) cap5) (d + 1) _ rfl HG.out.1 ⟨w5.heap.size, 0, none⟩ 1 1 [.int .i64 z, .int .i64 0] rfl rfl (World.news_of_block (cs := #[.int .i64 z, .int .i64 0]) (t := 66) (fr := (0, 0)) (heap_alloc_new w5 _)) (by simp [Value.oneCell']) (by omega) (by unfold maxLen; omega) (by omega) (by simp; omega) (w5.heap.size + 1) (by simp) ?_; intro g7 cap7 w7 hown7 hgrow7 hat7 hlt7; have HE6 := Lib.hid (HG.out.2 w7 g7 cap7 (d + 1 + 1) [((z : Int), (0 : Int))] (by simp) hgrow7 (by simpa [pcells, pcell] using hown7)); clear hown7 hgrow7 hat7 hlt7)
              have HE7 := Lib.hid (show Below wo.heap.size wo w7 ∧ ∃ bs', OwP 66 w7 wo.heap.size (.slice (some ⟨g7, 0, none⟩) (d + 1 + 1) cap7) (rowOf G (d + 2) q) bs' by
                obtain ⟨hb, bs', hO⟩ := HE6.out
                rw [List.append_assoc] at hO
                exact ⟨hb, bs', by rw [HROW.out]; exact hO⟩)
              clear HG HE6
              clear c0 c1 c2 c3 lt1
              obtain ⟨hb7, bs7, hO7⟩ := HE7.out
              have hs7 := hb7.size
              have hpo := HI.out.2.2.2.1
              obtain ⟨Bm, km, vs, ho, hrn, pn, vn1, gN⟩ := HI.out.2.2.2.2.open
              rw [tableOf_len] at ho hrn pn vn1 gN
              have lpo := ho.lt
              have o2 := below_keep hb7 ho.three.1.2.2
              have f2 := below_keepf hb7 lpo (ho.free 2)
              have HO := Lib.hid (show _ ∧ _ ∧ _ ∧ _ ∧ _ ∧ _ from ⟨rows_below hrn (below_step hb7 (below_alloc w7 (.cells #[.slice (some ⟨g7, 0, none⟩) (d + 1 + 1) cap7] 64))), pn, vn1, gN, below_keep (below_alloc w7 (.cells #[.slice (some ⟨g7, 0, none⟩) (d + 1 + 1) cap7] 64)) o2, below_keepf (below_alloc w7 (.cells #[.slice (some ⟨g7, 0, none⟩) (d + 1 + 1) cap7] 64)) (Nat.lt_of_lt_of_le lpo hs7) f2⟩)
              clear ho hrn pn vn1 gN hb7 hO7 f2
              go_wp2_with (at_builtin; refine wpList_append_lies _ rfl _ _ 27 rfl (w.heap.size + 2) 64 is _ 1 24 Try.underlying27 his hzs0 hzs1 hzs2 rfl (by decide) (.slice Bm q km) q _ rfl HO.out.1 ⟨w7.heap.size, 0, none⟩ 1 1 [.slice (some ⟨g7, 0, none⟩) (d + 1 + 1) cap7] rfl rfl (World.news_of_block (cs := #[.slice (some ⟨g7, 0, none⟩) (d + 1 + 1) cap7]) (t := 64) (fr := (0, 0)) (heap_alloc_new w7 _)) (by simp [Value.oneCell']) (by omega) (by unfold maxLen; omega) (by omega) (by simp; omega) (w7.heap.size + 1) (by simp) ?_; go_loud (intro g6 cap6 w6 hown6 hgrow6 hat6 hlt6; have p2 := grown_cell hgrow6 HO.out.2.1 HO.out.2.2.2.2.1; have q2 := grown_free hgrow6 HO.out.2.1 (by simp; omega) HO.out.2.2.2.2.2; have HN := Lib.hid (rtMore HI.out HE7.out HO.out.2.2.1 HO.out.2.2.2.1 hgrow6 hown6 hat6); clear hown6 hgrow6 hat6 hlt6))
              go_roundw
              case rel => exact ⟨q + 1, by omega, by go_num, by rw [tableOf_succ]; exact HN.out⟩
              case measure => simp [intOf]; omega
            · have HROW := Lib.hid (rowOf_two G d q HGQ.out.2.1 (HGQ.out.2.2.2 z HX.out.2 (by omega)))
              have HG := Lib.hid (addMoves hb5 hO5 hlen5 (below_alloc w5 (.cells #[.int .i64 ((next.length : Int) + z), .int .i64 (-1)] 66)))
              clear hlen5 hb5 hO5
              go_upto_region 17 with (at_builtin; refine wpList_append_lies _ rfl _ _ 64 rfl wo.heap.size 66 im _ 2 16 Try.underlying64 him hzm0 hzm1 hzm2 rfl (by decide) (.slice (some ⟨g5, 0, none⟩) (d + 1) cap5) (d + 1) _ rfl HG.out.1 ⟨w5.heap.size, 0, none⟩ 1 1 [.int .i64 ((next.length : Int) + z), .int .i64 (-1)] rfl rfl (World.news_of_block (cs := #[.int .i64 ((next.length : Int) + z), .int .i64 (-1)]) (t := 66) (fr := (0, 0)) (heap_alloc_new w5 _)) (by simp [Value.oneCell']) (by omega) (by unfold maxLen; omega) (by omega) (by simp; omega) (w5.heap.size + 1) (by simp) ?_; intro g7 cap7 w7 hown7 hgrow7 hat7 hlt7; have HE6 := Lib.hid (HG.out.2 w7 g7 cap7 (d + 1 + 1) [((((next.length : Int) + z) : Int), ((-1) : Int))] (by simp) hgrow7 (by simpa [pcells, pcell] using hown7)); clear hown7 hgrow7 hat7 hlt7)
              have HE7 := Lib.hid (show Below wo.heap.size wo w7 ∧ ∃ bs', OwP 66 w7 wo.heap.size (.slice (some ⟨g7, 0, none⟩) (d + 1 + 1) cap7) (rowOf G (d + 2) q) bs' by
                obtain ⟨hb, bs', hO⟩ := HE6.out
                rw [List.append_assoc] at hO
                exact ⟨hb, bs', by rw [HROW.out]; exact hO⟩)
              clear HG HE6
              clear c0 c1 c2 c3 lt1
              obtain ⟨hb7, bs7, hO7⟩ := HE7.out
              have hs7 := hb7.size
              have hpo := HI.out.2.2.2.1
              obtain ⟨Bm, km, vs, ho, hrn, pn, vn1, gN⟩ := HI.out.2.2.2.2.open
              rw [tableOf_len] at ho hrn pn vn1 gN
              have lpo := ho.lt
              have o2 := below_keep hb7 ho.three.1.2.2
              have f2 := below_keepf hb7 lpo (ho.free 2)
              have HO := Lib.hid (show _ ∧ _ ∧ _ ∧ _ ∧ _ ∧ _ from ⟨rows_below hrn (below_step hb7 (below_alloc w7 (.cells #[.slice (some ⟨g7, 0, none⟩) (d + 1 + 1) cap7] 64))), pn, vn1, gN, below_keep (below_alloc w7 (.cells #[.slice (some ⟨g7, 0, none⟩) (d + 1 + 1) cap7] 64)) o2, below_keepf (below_alloc w7 (.cells #[.slice (some ⟨g7, 0, none⟩) (d + 1 + 1) cap7] 64)) (Nat.lt_of_lt_of_le lpo hs7) f2⟩)
              clear ho hrn pn vn1 gN hb7 hO7 f2
              go_wp2_with (at_builtin; refine wpList_append_lies _ rfl _ _ 27 rfl (w.heap.size + 2) 64 is _ 1 24 Try.underlying27 his hzs0 hzs1 hzs2 rfl (by decide) (.slice Bm q km) q _ rfl HO.out.1 ⟨w7.heap.size, 0, none⟩ 1 1 [.slice (some ⟨g7, 0, none⟩) (d + 1 + 1) cap7] rfl rfl (World.news_of_block (cs := #[.slice (some ⟨g7, 0, none⟩) (d + 1 + 1) cap7]) (t := 64) (fr := (0, 0)) (heap_alloc_new w7 _)) (by simp [Value.oneCell']) (by omega) (by unfold maxLen; omega) (by omega) (by simp; omega) (w7.heap.size + 1) (by simp) ?_; go_loud (intro g6 cap6 w6 hown6 hgrow6 hat6 hlt6; have p2 := grown_cell hgrow6 HO.out.2.1 HO.out.2.2.2.2.1; have q2 := grown_free hgrow6 HO.out.2.1 (by simp; omega) HO.out.2.2.2.2.2; have HN := Lib.hid (rtMore HI.out HE7.out HO.out.2.2.1 HO.out.2.2.2.1 hgrow6 hown6 hat6); clear hown6 hgrow6 hat6 hlt6))
              go_roundw
              case rel => exact ⟨q + 1, by omega, by go_num, by rw [tableOf_succ]; exact HN.out⟩
              case measure => simp [intOf]; omega
      · obtain rfl : q = next.length := by omega
        have j1 : ¬ (next.length : Int) < next.length := by omega
        clear hlt hq a3 b3
        have HT := HI
        clear HI
        go_wp2
        go_loopw [9] (fun i wr => ∃ q : Nat, q ≤ next.length ∧ i = .int .i64 q ∧ RtI w po [.int .i64 (l : Int), .int .i64 S, .slice A next.length ka, .slice B fin.length kb] ⟨(l : Int), S, tableOf G (l + 2) (next.length + q)⟩ wr) (fun i _ => next.length - (intOf i).toNat)
        case atStart => exact ⟨0, Nat.zero_le _, rfl, HT.out⟩
        case round =>
          clear HT
          obtain ⟨wo, hwo⟩ : ∃ wo, wo = wr := ⟨wr, rfl⟩
          subst hwo
          obtain ⟨q, hq, rfl, hI⟩ := hrel
          have HI := Lib.hid hI
          clear hI
          by_cases hlt : q < next.length
          · have j0 : (0 : Int) ≤ q := by omega
            have j2 : (q : Int) < next.length := by omega
            have H1 := Lib.hid (movesI0 wo)
            have HGQ := Lib.hid (HG2.out q)
            go_wp2
            have HB1 := Lib.hid (below_alloc wo (.cells #[] 66))
            generalize wo.alloc (.cells #[] 66) = W1 at *
            go_loopw [10, 11] (fun vl i wi => ∃ (d dl : Nat) (Bd : Option Addr), d ≤ l ∧ i = .int .i64 d ∧ vl = .slice Bd d dl ∧ Below wo.heap.size wo wi ∧ ∃ bs, OwP 66 wi wo.heap.size (.slice Bd d dl) ((rowOf G (l + 2) (next.length + q)).take d) bs) (fun _ i _ => l - (intOf i).toNat)
            case atStart => exact ⟨0, 0, _, Nat.zero_le _, rfl, rfl, HB1.out, _, H1.out⟩
            case round =>
              clear H1 HB1
              obtain ⟨d, dl, Bd, hd, rfl, rfl, hbd, bsd, hOd⟩ := hrel
              have hlend : ((rowOf G (l + 2) (next.length + q)).take d).length = d := by rw [List.length_take, rowOf_len]; omega
              have HD := Lib.hid (show _ ∧ _ from ⟨hbd, hOd⟩)
              have hsd := hbd.size
              obtain ⟨⟨c0, c1, c2, c3⟩, -⟩ := (HI.out.below hbd).2.1.four
              have lt1 := (HI.out.below hbd).2.1.lt
              clear hbd hOd
              have k0 : (0 : Int) ≤ d := by omega
              by_cases hdl : d < l
              · have hv := HGQ.out.1 d hdl
                have HTK := Lib.hid (show (rowOf G (l + 2) (next.length + q)).take (d + 1) = (rowOf G (l + 2) (next.length + q)).take d ++ [((next.length : Int) + q, -1)] from by rw [take_succ_of (rowOf_get G (by omega)), hv])
                have k1 : (d : Int) < l := by omega
                have HG := Lib.hid (addMoves HD.out.1 HD.out.2 hlend (below_alloc wr (.cells #[.int .i64 ((next.length : Int) + q), .int .i64 (-1)] 66)))
                clear hlend hv
                go_wp2_with (at_builtin; refine wpList_append_lies _ rfl _ _ 64 rfl wo.heap.size 66 im _ 2 16 Try.underlying64 him hzm0 hzm1 hzm2 rfl (by decide) (.slice Bd d dl) d _ rfl HG.out.1 ⟨wr.heap.size, 0, none⟩ 1 1 [.int .i64 ((next.length : Int) + q), .int .i64 (-1)] rfl rfl (World.news_of_block (cs := #[.int .i64 ((next.length : Int) + q), .int .i64 (-1)]) (t := 66) (fr := (0, 0)) (heap_alloc_new wr _)) (by simp [Value.oneCell']) (by omega) (by unfold maxLen; omega) (by omega) (by simp; omega) (wr.heap.size + 1) (by simp) ?_; intro g5 cap5 w5 hown5 hgrow5 hat5 hlt5; have HE5 := Lib.hid (HG.out.2 w5 g5 cap5 (d + 1) [(((next.length : Int) + q : Int), (-1 : Int))] (by simp) hgrow5 (by simpa [pcells, pcell] using hown5)); clear hown5 hgrow5 hat5 hlt5)
                go_roundw
                case rel => exact ⟨d + 1, _, _, by omega, by go_num, rfl, HE5.out.1, by rw [HTK.out]; exact HE5.out.2⟩
                case measure => simp [intOf]; omega
              · obtain rfl : d = l := by omega
                have k1 : ¬ (d : Int) < d := by omega
                have HROW := Lib.hid (rowOf_two G d (next.length + q) HGQ.out.2.1 HGQ.out.2.2)
                have HG := Lib.hid (addMoves HD.out.1 HD.out.2 hlend (below_alloc wr (.cells #[.int .i64 (q : Int), .int .i64 1, .int .i64 (-2), .int .i64 0] 66)))
                clear hlend
                go_upto_region 27 with (at_builtin; refine wpList_append_lies _ rfl _ _ 64 rfl wo.heap.size 66 im _ 2 16 Try.underlying64 him hzm0 hzm1 hzm2 rfl (by decide) (.slice Bd d dl) d _ rfl HG.out.1 ⟨wr.heap.size, 0, none⟩ 2 2 [.int .i64 (q : Int), .int .i64 1, .int .i64 (-2), .int .i64 0] rfl rfl (World.news_of_block (cs := #[.int .i64 (q : Int), .int .i64 1, .int .i64 (-2), .int .i64 0]) (t := 66) (fr := (0, 0)) (heap_alloc_new wr _)) (by simp [Value.oneCell']) (by omega) (by unfold maxLen; omega) (by omega) (by simp; omega) (wr.heap.size + 1) (by simp) ?_; intro g7 cap7 w7 hown7 hgrow7 hat7 hlt7; have HE6 := Lib.hid (HG.out.2 w7 g7 cap7 (d + 2) [((q : Int), (1 : Int)), (-2, 0)] (by simp) hgrow7 (by simpa [pcells, pcell] using hown7)); clear hown7 hgrow7 hat7 hlt7)
                have HE7 := Lib.hid (show Below wo.heap.size wo w7 ∧ ∃ bs', OwP 66 w7 wo.heap.size (.slice (some ⟨g7, 0, none⟩) (d + 2) cap7) (rowOf G (d + 2) (next.length + q)) bs' by
                  obtain ⟨hb, bs', hO⟩ := HE6.out
                  exact ⟨hb, bs', by rw [HROW.out]; exact hO⟩)
                clear HG HE6
                clear c0 c1 c2 c3 lt1
                obtain ⟨hb7, bs7, hO7⟩ := HE7.out
                have hs7 := hb7.size
                have hpo := HI.out.2.2.2.1
                obtain ⟨Bm, km, vs, ho, hrn, pn, vn1, gN⟩ := HI.out.2.2.2.2.open
                rw [tableOf_len] at ho hrn pn vn1 gN
                have lpo := ho.lt
                have o2 := below_keep hb7 ho.three.1.2.2
                have f2 := below_keepf hb7 lpo (ho.free 2)
                have HO := Lib.hid (show _ ∧ _ ∧ _ ∧ _ ∧ _ ∧ _ from ⟨rows_below hrn (below_step hb7 (below_alloc w7 (.cells #[.slice (some ⟨g7, 0, none⟩) (d + 2) cap7] 64))), pn, vn1, gN, below_keep (below_alloc w7 (.cells #[.slice (some ⟨g7, 0, none⟩) (d + 2) cap7] 64)) o2, below_keepf (below_alloc w7 (.cells #[.slice (some ⟨g7, 0, none⟩) (d + 2) cap7] 64)) (Nat.lt_of_lt_of_le lpo hs7) f2⟩)
                clear ho hrn pn vn1 gN hb7 hO7 f2
                go_wp2_with (at_builtin; refine wpList_append_lies _ rfl _ _ 27 rfl (w.heap.size + 2) 64 is _ 1 24 Try.underlying27 his hzs0 hzs1 hzs2 rfl (by decide) (.slice Bm (next.length + q) km) (next.length + q) _ rfl HO.out.1 ⟨w7.heap.size, 0, none⟩ 1 1 [.slice (some ⟨g7, 0, none⟩) (d + 2) cap7] rfl rfl (World.news_of_block (cs := #[.slice (some ⟨g7, 0, none⟩) (d + 2) cap7]) (t := 64) (fr := (0, 0)) (heap_alloc_new w7 _)) (by simp [Value.oneCell']) (by omega) (by unfold maxLen; omega) (by omega) (by simp; omega) (w7.heap.size + 1) (by simp) ?_; go_loud (intro g6 cap6 w6 hown6 hgrow6 hat6 hlt6; have p2 := grown_cell hgrow6 HO.out.2.1 HO.out.2.2.2.2.1; have q2 := grown_free hgrow6 HO.out.2.1 (by simp; omega) HO.out.2.2.2.2.2; have HN := Lib.hid (rtMore HI.out HE7.out HO.out.2.2.1 HO.out.2.2.2.1 hgrow6 hown6 hat6); clear hown6 hgrow6 hat6 hlt6))
                go_roundw
                case rel => exact ⟨q + 1, by omega, by go_num, by rw [← Nat.add_assoc, tableOf_succ]; exact HN.out⟩
                case measure => simp [intOf]; omega
          · obtain rfl : q = next.length := by omega
            have j2 : ¬ (next.length : Int) < next.length := by omega
            obtain ⟨Bm, km, bs, hrow, hOw⟩ := HI.out.2.2.2.2.own
            simp only [tableOf_len] at hrow hOw
            obtain ⟨⟨x0, x1, x2⟩, -⟩ := hrow.three
            obtain ⟨⟨z0, z1, z2⟩, zf⟩ := HI.out.2.2.1.three
            have lx := hrow.lt
            have lz := HI.out.2.2.1.lt
            have HXX := Lib.hid hOw
            clear hrow hOw
            go_wp2
            obtain ⟨W2, hW2, ⟨y0, y1, y2⟩, eO, eB⟩ := stored3T HI.out.2.2.1 HXX.out (Nat.lt_succ_self _) (Nat.le_succ _) HI.out.1
            rw [← hW2]
            clear hW2
            refine bodyPost_ret (v := .tuple #[.agg #[.int .i64 (l : Int), .int .i64 S, .slice Bm (next.length + next.length) km], .int .i64 0]) (by simp [results, Try.results30, go_sem, y0, y1, y2]) rfl ?_
            rw [HE.out]
            exact ⟨_, rfl, eO.rd, eB⟩
  · have hok' : okO ⟨L, S, next, fin⟩ = false := by simpa using hok
    have HE := Lib.hid (show rtRes ⟨L, S, next, fin⟩ = (⟨0, 0, []⟩, 1) by rw [rtRes, if_neg hok])
    rw [hok'] at HK
    clear hok hok' a3 b3
    go_enter Try.func30, Try.ntmps30
    go_wp2_with fail
    refine HK.out.mono ?_
    rintro e w1 ⟨rfl, hq⟩
    have HZ1 := Lib.hid (HZ.out.below hq.below HZ.out.lt)
    have HB1 := Lib.hid (below_step HB.out hq.below)
    obtain ⟨⟨z0, z1, z2⟩, zf⟩ := HZ1.out.three
    have lz := HZ1.out.lt
    clear hq HR HZ HB HK
    go_wp2
    obtain ⟨W2, hW2, ⟨y0, y1, y2⟩, eO, eB⟩ := stored3T HZ1.out (owT_zero w1 (w.heap.size + 2)) (Nat.lt_succ_self _) (Nat.le_succ _) HB1.out
    rw [← hW2]
    clear hW2
    refine bodyPost_ret (v := .tuple #[.agg #[.int .i64 0, .int .i64 0, .slice none 0 0], .int .i64 1]) (by simp [results, Try.results30, go_sem, y0, y1, y2]) rfl ?_
    rw [HE.out]
    exact ⟨_, rfl, eO.rd, eB⟩
end Go.Proofs.Ytfkicedhjipfmaa
