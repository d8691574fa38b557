/-
  A copy of a turner, by the model.
-/
import Derived.Test.YtfkicedhjipfmaaTd1
import Derived.Test.YtfkicedhjipfmaaV5
import Derived.Test.YtfkicedhjipfmaaCl
import Derived.Test.YtfkicedhjipfmaaOpp
import Derived.Test.YtfkicedhjipfmaaTdOppositeTurner
import Derived.Deep.RegionLaw
import Derived.Deep.AppendLies
namespace Go.Proofs.Ytfkicedhjipfmaa
open Go.RowKit

theorem rdP_news {w : World} {ad : Addr} {n c : Nat} {ms : List (Int × Int)} (h : RdP w (.slice (some ad) n c) ms) : ∀ j u, (pcells ms)[j]? = some u → w.cell? (ad.add j) = some u := by
  obtain ⟨A, cap, hv, h1, h2, h3⟩ := h
  simp only [Value.slice.injEq] at hv
  obtain ⟨hA, -, -⟩ := hv
  intro j u hu
  have hj := (List.getElem?_eq_some_iff.1 hu).1
  rw [pcells_len] at hj
  have hi : j / 2 < ms.length := by omega
  have hm : ms[j / 2]? = some ms[j / 2] := List.getElem?_eq_getElem hi
  obtain ⟨b, off, hA', hc0, hc1⟩ := h3 (j / 2) _ hm
  rw [← hA, Option.some.injEq] at hA'
  subst hA'
  rw [Addr.add_lit]
  obtain ⟨g0, g1⟩ := pcells_get hm
  by_cases hp : j % 2 = 0
  · have e : j / 2 * 2 = j := by omega
    rw [e] at g0 hc0
    rw [hu] at g0
    cases g0
    exact hc0
  · have e : j / 2 * 2 + 1 = j := by omega
    rw [e] at g1
    rw [show off + j / 2 * 2 + 1 = off + j by omega] at hc1
    rw [hu] at g1
    cases g1
    exact hc1

theorem pcells_one (ms : List (Int × Int)) : ∀ u ∈ pcells ms, u.oneCell' = true := by
  intro u hu
  obtain ⟨m, _, hm⟩ := List.mem_flatMap.1 hu
  simp only [pcell, List.mem_cons, List.not_mem_nil, or_false] at hm
  rcases hm with rfl | rfl <;> rfl

/-- A turner that a call has made, stored into a box of the caller's own and handed on. -/
theorem own_storedC {w W : World} {b lo : Nat} {L S : Int} {A : Option Addr} {n k : Nat} {t : TData} {bs : List Nat} {z0 z1 z2 : Value}
    (hz : Row W b 29 [z0, z1, z2]) (hb : Below w.heap.size w W) (hlo : w.heap.size ≤ b) (hbl : b < lo) (hO : OwT W lo (.agg #[.int .i64 L, .int .i64 S, .slice A n k]) t bs) :
    let W2 := (((W.setCell ⟨b, 0, none⟩ (.int .i64 L)).setCell ⟨b, 1, none⟩ (.int .i64 S)).setCell ⟨b, 2, none⟩ (.slice A n k));
    (W2.cell? ⟨b, 0, none⟩ = some (.int .i64 L) ∧ W2.cell? ⟨b, 1, none⟩ = some (.int .i64 S) ∧ W2.cell? ⟨b, 2, none⟩ = some (.slice A n k)) ∧ OwT W2 w.heap.size (.agg #[.int .i64 L, .int .i64 S, .slice A n k]) t bs ∧ Below w.heap.size w W2 := by
  intro W2
  have rF := (((hz.stored 0 (.int .i64 L)).stored 1 (.int .i64 S)).stored 2 (.slice A n k))
  have eO := (goodT.under (a := ⟨b, 2, none⟩) (goodT.under (a := ⟨b, 1, none⟩) (goodT.under (a := ⟨b, 0, none⟩) hO hbl (.int .i64 L)) hbl (.int .i64 S)) hbl (.slice A n k))
  have eB := (((hb.setCell (p := ⟨b, 0, none⟩) hlo (.int .i64 L)).setCell (p := ⟨b, 1, none⟩) hlo (.int .i64 S)).setCell (p := ⟨b, 2, none⟩) hlo (.slice A n k))
  exact ⟨(Row.three (a := .int .i64 L) (b := .int .i64 S) (c := .slice A n k) rF).1, goodT.mono eO (by omega), eB⟩

/-- The boxes of a call that makes a turner. -/
def CopI (w : World) (t : TData) (wr : World) : Prop :=
  Below w.heap.size w wr ∧ Row wr w.heap.size 29 [.int .i64 0, .int .i64 0, .slice none 0 0] ∧ BoxT wr (w.heap.size + 1) (w.heap.size + 1) t
theorem CopI.drew {w wr : World} {t : TData} (h : CopI w t wr) : CopI w t wr.drew := ⟨h.1.drew, h.2.1, h.2.2.drew⟩

set_option maxRecDepth 100000 in
set_option maxHeartbeats 3200000 in
theorem l02Copy_own (p : Nat) (t : TData) (w : World) (h : AtT w p t) (hok : OkT t) :
    Calls Try.prog 57 #[.pointer (some ⟨p, 0, none⟩)] w fun e w' => ∃ u bs, e = .returned u ∧ OwT w' w.heap.size u t bs ∧ Below w.heap.size w w' := by
  obtain ⟨isl, his, hzs0, hzs1, hzs2⟩ := info_parts infoOppositeTurnerMs
  obtain ⟨im, him, hzm0, hzm1, hzm2⟩ := info_parts infoMove
  obtain ⟨L, S, mv⟩ := t
  obtain ⟨l1, l2, n1, n2, s1, s2, hlen, -⟩ := hok
  simp only at l1 l2 n1 n2 s1 s2 hlen
  obtain ⟨vm, c0, c1, c2, hm⟩ := h
  obtain ⟨A, ca, rfl, a1, a2, a3⟩ := RdL.open hm
  unfold maxLen at a2
  simp only at *
  have HL := Lib.hid hlen
  have HC := Lib.hid (show _ ∧ _ ∧ _ from ⟨c0, c1, c2⟩)
  have ltp : p < w.heap.size := World.block_lt_of_cell? _ _ c0
  have hz := Row.new w [.int .i64 0, .int .i64 0, .slice none 0 0] 29
  have hb := BoxT.start (w.alloc (.cells #[.int .i64 0, .int .i64 0, .slice none 0 0] 29)) L S
  have HI := Lib.hid (show CopI w ⟨L, S, []⟩ ((w.alloc (.cells #[.int .i64 0, .int .i64 0, .slice none 0 0] 29)).alloc (.cells #[.int .i64 L, .int .i64 S, .slice none 0 0] 29)) from ⟨(below_alloc _ _).alloc (by simp) _, hz.alloc _, by simpa using hb⟩)
  clear hm hlen hz hb
  go_enter Try.func57, Try.ntmps57
  go_wp2_with fail
  go_region
  go_wp2
  generalize ((w.alloc (.cells #[.int .i64 0, .int .i64 0, .slice none 0 0] 29)).alloc (.cells #[.int .i64 L, .int .i64 S, .slice none 0 0] 29)) = W0 at *
  go_loopw [4] (fun i wr => ∃ s : Nat, s ≤ mv.length ∧ i = .int .i64 s ∧ CopI w ⟨L, S, mv.take s⟩ wr) (fun i _ => mv.length - (intOf i).toNat)
  case atStart => exact ⟨0, Nat.zero_le _, rfl, HI.out.drew⟩
  case round =>
    obtain ⟨s, hs, rfl, hI⟩ := hrel
    have HS := Lib.hid hI
    have hbw := hI.1
    have d0 := below_keep hbw c0
    have d1 := below_keep hbw c1
    have d2 := below_keep hbw c2
    clear hI
    by_cases hlt : s < mv.length
    · obtain ⟨b, off, u, x, rfl, hx, hc, hP⟩ := a3 s hlt
      have hxl := HL.out s x hx
      have hsh := hP.open
      obtain ⟨D, cd, rfl, e1, e2, e3⟩ := hsh
      obtain ⟨bx, offx, _, _, rfl, -⟩ := e3 0 (by omega)
      unfold maxLen at e2
      have gc := below_keep hbw hc
      have HX := Lib.hid hx
      have HN := Lib.hid (rdP_news (keepsP _ _ _ _ hP (below_step hbw (below_alloc wr (.cells #[] 66)))))
      have ow0 := World.ownsRow_lit (base := wr.heap.size) (e := 66) (size := 2) wr #[] 0 (Nat.le_refl _) (by unfold maxLen; omega) rfl
      have HO := Lib.hid ow0
      have hxl5 : x.length ≤ 5 := by omega
      have hxl3 : 0 < x.length := by omega
      have hs12 : s ≤ 12 := by omega
      have i1 : (0 : Int) ≤ s := by omega
      have i2 : (s : Int) < mv.length := by omega
      obtain ⟨-, hz, vm, bm, ho, hvm, hpn⟩ := HS.out
      have hblt : ∀ b ∈ bm, b < wr.heap.size := fun b hb => ((goodL (goodP 66) 64).lt hvm hb).2
      obtain ⟨vs, bss, hvs, q1, q2, q3, rfl, q5⟩ := hvm
      simp only at q1 q2 q3 ho
      have htl : (mv.take s).length = s := by rw [List.length_take]; omega
      rw [htl] at q1 q2
      obtain ⟨Bm, km, hsm⟩ := hvs.shape
      rw [q1] at hsm
      subst hsm
      have nb1 : ∀ b, b ≤ w.heap.size + 1 → b ∉ blks (.slice Bm s km) := fun b hb hm => by
        have := hvs.lt hm
        have e : b = w.heap.size + 1 := by omega
        subst e
        exact hpn (List.mem_append_left _ hm)
      have lpo := ho.lt
      have hfz := ho.free 2
      obtain ⟨⟨o0, o1, o2⟩, -⟩ := ho.three
      have HVS := Lib.hid (show wr.ownsRow (w.heap.size + 1) 64 1 (.slice Bm s km) s vs by have := hvs; unfold Own at this; rwa [q1] at this)
      have HN1 := Lib.hid nb1
      have HSZ3 := Lib.hid (show w.heap.size + 1 < wr.heap.size from lpo)
      have HVB := Lib.hid (show ∀ b ∈ blks (Value.slice Bm s km), b < wr.heap.size from fun b hb => (hvs.lt hb).2)
      have HH := Lib.hid (show _ ∧ _ ∧ _ ∧ _ ∧ _ ∧ _ ∧ _ ∧ _ from ⟨hbw, hz, ho, hvs, q3, q5, hpn, hblt⟩)
      have HE := Lib.hid (show _ ∧ _ ∧ _ from ⟨q1, q2, htl⟩)
      have ltpw : p < wr.heap.size := World.block_lt_of_cell? _ _ d0
      have ltbw : b < wr.heap.size := World.block_lt_of_cell? _ _ gc
      have HX1 := Lib.hid hxl
      clear hx hc hP e3 a3 ow0 hbw hz ho hvs q1 q2 q3 q5 hpn hblt nb1 o0 o1 htl c0 c1 c2 hxl
      go_wp2_with fail
      go_region_law
        (first
    | (refine step_append_lies _ (by rfl) _ _ _ (by rfl) wr.heap.size 66 im _ 2 16 Try.underlying64 him hzm0 hzm1 hzm2 rfl (by omega) (.slice (some ⟨wr.heap.size, 0, none⟩) 0 0) 0 [] (by rfl) (by first | exact HO.out | exact HO.out.drew | exact HO.out.drew.drew)
          ⟨bx, offx, none⟩ x.length cd (pcells x) (by rfl) (pcells_len x) (by first | exact HN.out) (pcells_one x)
          (by omega) (by unfold maxLen; omega) (by omega) (by simp) (wr.heap.size + 1) (by simp) ?_; intro g1 cap1 w4 hownA hgrowA hatA hltA;
        have hgA : (wr.alloc (.cells #[] 66)).grownBy w4 (some wr.heap.size) := (by first | exact hgrowA | exact undrew hgrowA | exact undrew (undrew hgrowA));
        have p1 := grown_cell (v := .slice (some ⟨wr.heap.size, 0, none⟩) 0 0) hgA (fun hm => by simp [blks, Value.ownBlock] at hm; omega) (below_keep (below_alloc _ _) o2); have p2 := grown_free (v := .slice (some ⟨wr.heap.size, 0, none⟩) 0 0) hgA (fun hm => by simp [blks, Value.ownBlock] at hm; omega) (by simp; omega) (below_keepf (below_alloc _ _) lpo hfz); have hszA : wr.heap.size + 1 ≤ w4.heap.size := (by have := hgA.size; simpa using this); have hloA : w.heap.size + 1 < w4.heap.size := (by omega);
        have HVS4 := Lib.hid (rows_same (HVS.out.alloc (.cells #[] 66)) (fun b hb => hgA.block b (by have := HVB.out b hb; simp; omega) (fun e => by have := HVB.out b hb; have := Option.some.inj e; omega))))
    | (refine step_append_lies _ (by rfl) _ _ _ (by rfl) (w.heap.size + 1) 64 isl _ 1 24 Try.underlying27 his hzs0 hzs1 hzs2 rfl (by omega) (.slice Bm s km) s vs (by rfl) (by first | exact HVS4.out.alloc _ | exact (HVS4.out.alloc _).drew | exact ((HVS4.out.alloc _).drew).drew)
          ⟨w4.heap.size, 0, none⟩ 1 1 [.slice (some ⟨g1, 0, none⟩) (0 + x.length) cap1] (by rfl) (by rfl) (World.news_of_block (cs := #[.slice (some ⟨g1, 0, none⟩) (0 + x.length) cap1]) (t := 64) (fr := (0, 0)) (heap_alloc_new w4 _)) (by simp [Value.oneCell'])
          (by omega) (by unfold maxLen; omega) (by omega) (by have := HSZ3.out; simp; omega) (w4.heap.size + 1) (by simp) ?_; intro g2 cap2 w5 hownB hgrowB hatB hltB;
        have hgB : (w4.alloc (.cells #[.slice (some ⟨g1, 0, none⟩) (0 + x.length) cap1] 64)).grownBy w5 (Value.slice Bm s km).ownBlock := (by first | exact hgrowB | exact undrew hgrowB | exact undrew (undrew hgrowB));
        have r1 := grown_cell hgB (HN1.out _ (Nat.le_refl _)) (below_keep (below_alloc _ _) p1); have r2 := grown_free hgB (HN1.out _ (Nat.le_refl _)) (by simp; omega) (below_keepf (below_alloc _ _) (by omega) p2))
    | (refine step_append_lies _ (by rfl) _ _ _ (by rfl) (w.heap.size + 1) 64 isl _ 1 24 Try.underlying27 his hzs0 hzs1 hzs2 rfl (by omega) (.slice Bm s km) s vs (by rfl) (by first | exact HVS4.out.alloc _ | exact (HVS4.out.alloc _).drew | exact ((HVS4.out.alloc _).drew).drew)
          ⟨w4.heap.size, 0, none⟩ 1 1 [.slice (some ⟨g1, 0, none⟩) (x.length) cap1] (by rfl) (by rfl) (World.news_of_block (cs := #[.slice (some ⟨g1, 0, none⟩) (x.length) cap1]) (t := 64) (fr := (0, 0)) (heap_alloc_new w4 _)) (by simp [Value.oneCell'])
          (by omega) (by unfold maxLen; omega) (by omega) (by have := HSZ3.out; simp; omega) (w4.heap.size + 1) (by simp) ?_; intro g2 cap2 w5 hownB hgrowB hatB hltB;
        have hgB : (w4.alloc (.cells #[.slice (some ⟨g1, 0, none⟩) (x.length) cap1] 64)).grownBy w5 (Value.slice Bm s km).ownBlock := (by first | exact hgrowB | exact undrew hgrowB | exact undrew (undrew hgrowB));
        have r1 := grown_cell hgB (HN1.out _ (Nat.le_refl _)) (below_keep (below_alloc _ _) p1); have r2 := grown_free hgB (HN1.out _ (Nat.le_refl _)) (by simp; omega) (below_keepf (below_alloc _ _) (by omega) p2)))
      all_goals
        go_wp2
        obtain ⟨hbw, hz, ho, hvs, q3, q5, hpn, hblt⟩ := HH.out
        obtain ⟨q1, q2, htl⟩ := HE.out
        have hlt0 := HSZ3.out
        have hx0 := HX.out
        simp only [Nat.zero_add, List.nil_append] at hownA hgB
        have nbr : ∀ b, b < wr.heap.size → b ∉ blks (.slice (some ⟨wr.heap.size, 0, none⟩) 0 0) := fun b hb hm => by simp [blks, Value.ownBlock] at hm; omega
        have hgA' : (wr.alloc (.cells #[] 66)).grownBy w4 (Value.slice (some ⟨wr.heap.size, 0, none⟩) 0 0).ownBlock := hgA
        have hwA := below_alloc wr (.cells #[] 66)
        have ho4 := grown_row hgA' (ho.alloc _) (nbr _ hlt0)
        have hv4 : Own w4 64 (w.heap.size + 1) (.slice Bm s km) vs := by unfold Own; rw [q1]; exact HVS4.out
        have e34 := fun (i : Nat) u x' b h1 h2 h3 => grown_keep (goodP 66) hgA' ((goodP 66).below (q3 i u x' b h1 h2 h3) hwA) (fun c hc hm => nbr c (hblt c (List.mem_append_right _ (mem_bss h3 hc))) hm)
        have hrow : OwP 66 w4 (w.heap.size + 1) (.slice (some ⟨g1, 0, none⟩) x.length cap1) x [g1] := OwP.snoc (World.ownsRow.mono hownA (by omega)) rfl rfl rfl
        have hg1 : wr.heap.size ≤ g1 := by
          rcases hatA with h | h
          · have : wr.heap.size = g1 := Option.some.inj h
            omega
          · have : g1 = wr.heap.size + 1 := by simpa using h
            omega
        have hbA := (below_step hbw hwA).trans (grown_below hgA' (B := w.heap.size) (by simp; have := hbw.size; omega) (fun b hm => by simp [blks, Value.ownBlock] at hm; omega))
        have hz4 := grown_row hgA' (hz.alloc _) (nbr _ (by omega))
        have hres : CopI w ⟨L, S, mv.take (s + 1)⟩ (w5.setCell ⟨w.heap.size + 1, 2, none⟩ (.slice (some ⟨g2, 0, none⟩) (s + 1) cap2)) := by
          refine ⟨app_below hbA hgB (fun b hb => by have := hv4.lt hb; omega) (by omega), app_row hgB hz4 (HN1.out _ (by omega)) (by omega), ?_⟩
          rw [take_succ_of hx0]
          refine BoxT.snoc ho4 hv4 (by rw [q1, htl]) (by rw [q2, htl]) e34 q5 hpn hrow (fun b hb hm => ?_) (fun hm => ?_) hgB (by first | exact hownB | (simp only [Nat.zero_add] at hownB; exact hownB)) (by rw [htl]) hatB
          · simp only [List.mem_singleton] at hb
            have := hblt b hm
            omega
          · simp only [List.mem_singleton] at hm
            omega
        go_roundw
        case rel => exact ⟨s + 1, by omega, by go_num, by first | exact hres | exact hres.drew | exact hres.drew.drew⟩
        case measure => simp [intOf]; omega
    · have es : s = mv.length := by omega
      subst es
      obtain ⟨-, hz, vm, bm, ho, hvm, hpn⟩ := HS.out
      rw [List.take_of_length_le (Nat.le_refl _)] at hvm
      obtain ⟨Am, km, rfl⟩ := OwL.shape hvm
      simp only at ho hvm
      obtain ⟨⟨o0, o1, o2⟩, -⟩ := ho.three
      obtain ⟨⟨z0, z1, z2⟩, zf⟩ := hz.three
      have lz := hz.lt
      have HH := Lib.hid (own_storedC (w := w) hz hbw (Nat.le_refl _) (Nat.lt_succ_self _) (t := ⟨L, S, mv⟩) ⟨_, bm, rfl, hvm, rfl, (goodL (goodP _) _).nodup hvm⟩)
      clear hz ho hvm hpn hbw a3
      go_wp2
      obtain ⟨⟨y0, y1, y2⟩, eO, eB⟩ := HH.out
      generalize (((wr.setCell ⟨w.heap.size, 0, none⟩ (.int .i64 L)).setCell ⟨w.heap.size, 1, none⟩ (.int .i64 S)).setCell ⟨w.heap.size, 2, none⟩ (.slice Am mv.length km)) = W2 at *
      refine bodyPost_ret (v := .agg #[.int .i64 L, .int .i64 S, .slice Am mv.length km]) (by simp [results, Try.results57, go_sem, y0, y1, y2]) rfl ?_
      first | exact ⟨_, _, rfl, eO, eB⟩ | exact ⟨_, rfl, ⟨_, eO⟩, eB⟩
end Go.Proofs.Ytfkicedhjipfmaa
