/-
  The mirrored turner: the model's answer.
-/
import Derived.Test.YtfkicedhjipfmaaMi3
import Derived.Deep.CutRange
import Derived.BigRegion
namespace Go.Proofs.Ytfkicedhjipfmaa
open Go.RowKit

/-- An append that the walk does not take apart: its outcome is laid ahead of the walk, as an equation. -/
def heldAppend (ats : Array TypeId) (ty : TypeId) (args : Array Value) : Sem Value := Builtin.append_ ats ty args
theorem builtin_append_held (ats : Array TypeId) (ty : TypeId) (cs : Array Bool) (args : Array Value) : builtin .append ats ty cs args = (do pure (.value (← heldAppend ats ty args))) := rfl
attribute [local go_sem ↓ high] builtin_append_held

set_option maxRecDepth 100000 in
set_option maxHeartbeats 3200000 in
theorem specMir_own (v : Value) (t : TData) (w : World) (h : RdT w v t) :
    Calls Try.prog 23 #[v] w fun e w' => ∃ u bs, e = .returned (.tuple #[u, .int .i64 (mirRes t).2]) ∧ OwT w' w.heap.size u (mirRes t).1 bs ∧ Below w.heap.size w w' := by
  obtain ⟨isl, his, hzs0, hzs1, hzs2⟩ := info_parts infoMirrorTurnerMs
  obtain ⟨im, him, hzm0, hzm1, hzm2⟩ := info_parts infoMove
  obtain ⟨vm, rfl, hA⟩ := atT_box h 29
  obtain ⟨_, e0, hm0⟩ := h
  cases e0
  obtain ⟨A, ca, rfl, a1, a2, a3⟩ := RdL.open hm0
  have hA0 := hA.below (below_alloc _ (.cells #[.int .i64 0, .int .i64 0, .slice none 0 0] 29))
  have HV := Lib.hid (l02Ok_any _ _ _ hA0)
  have hr := (Row.new w [.int .i64 t.L, .int .i64 t.S, .slice A t.mv.length ca] 29).alloc (.cells #[.int .i64 0, .int .i64 0, .slice none 0 0] 29)
  have hz := Row.new (w.alloc (.cells #[.int .i64 t.L, .int .i64 t.S, .slice A t.mv.length ca] 29)) [.int .i64 0, .int .i64 0, .slice none 0 0] 29
  have HZ := Lib.hid (show Row _ (w.heap.size + 1) _ _ by simpa using hz)
  have HR := Lib.hid hr
  have HB := Lib.hid ((below_alloc w (.cells #[.int .i64 t.L, .int .i64 t.S, .slice A t.mv.length ca] 29)).alloc (by simp) (.cells #[.int .i64 0, .int .i64 0, .slice none 0 0] 29))
  unfold maxLen at a2
  clear hm0 hA hA0 hr hz
  by_cases hok : okT t = true
  · have HK := Lib.hid (okT_out hok)
    have l1 := HK.out.l1
    have l2 := HK.out.l2
    have n1 := HK.out.n1
    have n2 := HK.out.n2
    have HOK := Lib.hid hok
    obtain ⟨c, hc⟩ : ∃ c : Nat, (c : Int) = t.L + 2 := ⟨(t.L + 2).toNat, by omega⟩
    have c5 : (c : Int) ≤ 5 := by omega
    have HC := Lib.hid hc
    clear hc
    go_enter Try.func23, Try.ntmps23
    go_wp2_with fail
    refine HV.out.mono ?_
    generalize (w.alloc (.cells #[.int .i64 t.L, .int .i64 t.S, .slice A t.mv.length ca] 29)).alloc (.cells #[.int .i64 0, .int .i64 0, .slice none 0 0] 29) = W0 at *
    rintro e w1 ⟨rfl, hb1⟩
    have hI : MirI w w1.heap.size [.int .i64 t.L, .int .i64 t.S, .slice A t.mv.length ca] ⟨t.L, t.mv.length, []⟩ (w1.alloc (.cells #[.int .i64 t.L, .int .i64 (t.mv.length : Int), .slice none 0 0] 29)) :=
      ⟨below_step (below_step HB.out hb1) (below_alloc _ _), (HR.out.below hb1 HR.out.lt).alloc _, (HZ.out.below hb1 HZ.out.lt).alloc _, by have := (HZ.out.below hb1 HZ.out.lt).lt; omega, BoxT.start _ _ _⟩
    have HI := Lib.hid hI
    obtain ⟨⟨b0, b1, b2⟩, -⟩ := (HR.out.below hb1 HR.out.lt).three
    have lt1 := (HR.out.below hb1 HR.out.lt).lt
    clear hb1 hI HZ HB HR
    go_wp2
    clear hok
    generalize w1.heap.size = lo at *
    generalize w1.alloc (.cells #[.int .i64 t.L, .int .i64 (t.mv.length : Int), .slice none 0 0] 29) = w2 at *
    clear b0 b1 b2 lt1
    go_loopw [6] (fun i wr => ∃ s : Nat, s ≤ t.mv.length ∧ i = .int .i64 s ∧ MirI w lo [.int .i64 t.L, .int .i64 t.S, .slice A t.mv.length ca] ⟨t.L, t.mv.length, tableOf (mirG t) c s⟩ wr) (fun i _ => t.mv.length - (intOf i).toNat)
    case atStart => exact ⟨0, Nat.zero_le _, rfl, HI.out⟩
    case round =>
      obtain ⟨wo, hwo⟩ : ∃ wo, wo = wr := ⟨wr, rfl⟩
      subst hwo
      obtain ⟨s, hs, rfl, hI⟩ := hrel
      have HS := Lib.hid hI
      obtain ⟨⟨b0, b1, b2⟩, -⟩ := hI.2.1.three
      have ltr := hI.2.1.lt
      clear hI
      by_cases hlt : s < t.mv.length
      · obtain ⟨b, off, p, x, rfl, hx, hcx, hP⟩ := a3 s hlt
        have hxl := HK.out.len s x hx
        have hsh := hP.open
        obtain ⟨D, cd, rfl, d1, d2, d3⟩ := hsh
        obtain ⟨bx, offx, _, _, rfl, -⟩ := d3 0 (by omega)
        unfold maxLen at d2
        have HX := Lib.hid (show _ ∧ _ from ⟨hx, hxl⟩)
        have HCX := Lib.hid hcx
        have HP := Lib.hid hP
        have i1 : (0 : Int) ≤ s := by omega
        have i2 : (s : Int) < t.mv.length := by omega
        have ow0 := World.ownsRow_lit (base := wo.heap.size) (e := 66) (size := 2) wo #[] 0 (Nat.le_refl _) (by unfold maxLen; omega) rfl
        have HO := Lib.hid ow0
        have xl5 : (x.length : Int) = t.L + 2 := hxl
        have XL := Lib.hid xl5
        clear hx hcx hP hxl ow0 a3 d3 xl5
        go_wp2
        clear b0 b1 b2 ltr
        go_loopw [7, 8] (fun u i wr => ∃ (k kn : Nat) (Bn : Option Addr), k ≤ c ∧ i = .int .i64 k ∧ u = .slice Bn k kn ∧ Below wo.heap.size wo wr ∧ wr.ownsRow wo.heap.size 66 2 (.slice Bn k kn) k (pcells (mirPart (mirG t) s k))) (fun _ i _ => c - (intOf i).toNat)
        case atStart => exact ⟨0, 0, _, Nat.zero_le _, rfl, rfl, below_alloc _ _, HO.out⟩
        case round =>
          obtain ⟨k, kn, Bn, hk, rfl, rfl, hb, how⟩ := hrel
          have hI := HS.out.below hb
          obtain ⟨⟨b0, b1, b2⟩, -⟩ := hI.2.1.three
          have hbw := hI.1
          have HI2 := Lib.hid (show _ ∧ _ ∧ _ from ⟨hb, how, hI⟩)
          have gx := below_keep hbw HCX.out
          have ltr := hI.2.1.lt
          have HWB := Lib.hid hbw
          have hcc := HC.out
          clear hI hb how hbw
          by_cases hklt : k < c
          · have hsw : (swapK t.L k : Int) < t.L + 2 := swapK_lt l1 (by omega)
            obtain ⟨m, hm⟩ : ∃ m, x[swapK t.L k]? = some m := ⟨_, List.getElem?_eq_getElem (by have := XL.out; omega)⟩
            have hmv := okMove_out (HK.out.move s x _ m HX.out.1 hm)
            obtain ⟨gm0, gm1⟩ := rdP_cell (keepsP _ _ _ _ HP.out HWB.out) hm
            have hG : mirG t s k = (m.1, -m.2) := by
              unfold mirG mirM moveAt
              rw [if_pos hlt]
              simp [List.getD, HX.out.1, hm]
            obtain ⟨mx, my⟩ := m
            simp only at hmv gm0 gm1 hG
            have m1 : -1 ≤ my := by omega
            have m2 : my ≤ 1 := by omega
            have HG := Lib.hid hG
            have k1 : (0 : Int) ≤ k := by omega
            have k2 : (k : Int) < t.L + 2 := by omega
            have hx5 := XL.out
            clear hm hmv hG hcc
            by_cases hkL : (k : Int) < t.L
            · have e : swapK t.L k = k := by unfold swapK; rw [if_neg (by omega), if_neg (by omega)]
              rw [e] at gm0 gm1
              have k3 : (k : Int) < x.length := by omega
              clear e hsw hx5
              go_wp2_with (at_builtin; refine wpList_append_lies _ rfl _ _ 64 rfl wo.heap.size 66 im _ 2 16 Try.underlying64 him hzm0 hzm1 hzm2 rfl (by decide) (.slice Bn k kn) k _ rfl ((HI2.out.2.1.alloc (.cells #[.int .i64 mx, .int .i64 my] 66)).alloc _) ⟨wr.heap.size + 1, 0, none⟩ 1 1 [.int .i64 mx, .int .i64 (-my)] rfl rfl (World.news_of_block (cs := #[.int .i64 mx, .int .i64 (-my)]) (t := 66) (fr := (0, 0)) (by simpa using heap_alloc_new (wr.alloc (.cells #[.int .i64 mx, .int .i64 my] 66)) (.cells #[.int .i64 mx, .int .i64 (-my)] 66))) (by simp [Value.oneCell']) (by omega) (by unfold maxLen; omega) (by omega) (by have := HI2.out.1.size; simp; omega) (wr.heap.size + 1 + 1) (by simp) ?_; intro g cap w2 hown1 hgrow hat hlt2)
              have hb := HI2.out.1
              have hres : Below wo.heap.size wo w2 := (below_step (below_step hb (below_alloc wr _)) (below_alloc _ _)).trans (grown_below hgrow (by have := hb.size; simp; omega) (fun b hm => (World.ownsRow.lt HI2.out.2.1 b (mem_blks.1 hm)).1))
              rw [show pcells (mirPart (mirG t) s k) ++ [Value.int .i64 mx, .int .i64 (-my)] = pcells (mirPart (mirG t) s (k + 1)) by rw [mirPart_succ, HG.out, pcells_snoc]] at hown1
              have HN := Lib.hid (show _ ∧ _ from ⟨hres, hown1⟩)
              clear hb hres hown1 hgrow hat
              go_roundw
              case rel => exact ⟨k + 1, cap, _, by omega, by go_num, rfl, HN.out.1, HN.out.2⟩
              case measure => simp [intOf]; omega
            · have f1 : 0 ≤ 2 * t.L + 1 - (k : Int) := by omega
              have f2 : 2 * t.L + 1 - (k : Int) < x.length := by omega
              have f3 : (2 * t.L + 1 - (k : Int)).toNat = swapK t.L k := by
                unfold swapK
                by_cases h1 : (k : Int) = t.L
                · rw [if_pos h1]; omega
                · rw [if_neg h1, if_pos (by omega)]; omega
              clear hsw hx5
              go_wp2_with (at_builtin; refine wpList_append_lies _ rfl _ _ 64 rfl wo.heap.size 66 im _ 2 16 Try.underlying64 him hzm0 hzm1 hzm2 rfl (by decide) (.slice Bn k kn) k _ rfl ((HI2.out.2.1.alloc (.cells #[.int .i64 mx, .int .i64 my] 66)).alloc _) ⟨wr.heap.size + 1, 0, none⟩ 1 1 [.int .i64 mx, .int .i64 (-my)] rfl rfl (World.news_of_block (cs := #[.int .i64 mx, .int .i64 (-my)]) (t := 66) (fr := (0, 0)) (by simpa using heap_alloc_new (wr.alloc (.cells #[.int .i64 mx, .int .i64 my] 66)) (.cells #[.int .i64 mx, .int .i64 (-my)] 66))) (by simp [Value.oneCell']) (by omega) (by unfold maxLen; omega) (by omega) (by have := HI2.out.1.size; simp; omega) (wr.heap.size + 1 + 1) (by simp) ?_; intro g cap w2 hown1 hgrow hat hlt2)
              have hb := HI2.out.1
              have hres : Below wo.heap.size wo w2 := (below_step (below_step hb (below_alloc wr _)) (below_alloc _ _)).trans (grown_below hgrow (by have := hb.size; simp; omega) (fun b hm => (World.ownsRow.lt HI2.out.2.1 b (mem_blks.1 hm)).1))
              rw [show pcells (mirPart (mirG t) s k) ++ [Value.int .i64 mx, .int .i64 (-my)] = pcells (mirPart (mirG t) s (k + 1)) by rw [mirPart_succ, HG.out, pcells_snoc]] at hown1
              have HN := Lib.hid (show _ ∧ _ from ⟨hres, hown1⟩)
              clear hb hres hown1 hgrow hat
              go_roundw
              case rel => exact ⟨k + 1, cap, _, by omega, by go_num, rfl, HN.out.1, HN.out.2⟩
              case measure => simp [intOf]; omega
          · obtain rfl : k = c := by omega
            obtain ⟨hbw, hz, hr0, hlo, vm, bm, ho, hvm, hpn⟩ := HS.out
            have hblt : ∀ b ∈ bm, b < wo.heap.size := fun b hb => ((goodL (goodP 66) 64).lt hvm hb).2
            have hloo := ho.lt
            obtain ⟨vs, bss, hvs, e1, e2, e3, rfl, e5⟩ := hvm
            simp only at e1 e2 e3 ho
            rw [tableOf_len] at e1 e2
            obtain ⟨Bm, km, hsm⟩ := hvs.shape
            rw [e1] at hsm
            subst hsm
            have hb := HI2.out.1
            have ho2 := ho.below hb ho.lt
            have hvs2 := hvs.below hb
            have e32 := fun (i : Nat) u x b h1 h2 h3 => (goodP 66).below (e3 i u x b h1 h2 h3) hb
            have hown0 : wr.ownsRow lo 64 1 (.slice Bm s km) s vs := by
              have := hvs2
              unfold Own at this
              rwa [e1] at this
            have nb1 : ∀ b, b ≤ lo → b ∉ blks (.slice Bm s km) := fun b hb hm => by
              have := hvs.lt hm
              have e : b = lo := by omega
              subst e
              exact hpn (List.mem_append_left _ hm)
            have hrow : OwP 66 wr lo (.slice Bn k kn) (rowOf (mirG t) k s) (blks (.slice Bn k kn)) := ⟨by rw [rowOf_len]; exact World.ownsRow.mono HI2.out.2.1 (by omega), rfl⟩
            have hbk : ∀ b ∈ blks (.slice Bn k kn), wo.heap.size ≤ b := fun b hm => (World.ownsRow.lt HI2.out.2.1 b (mem_blks.1 hm)).1
            have lpo := ho2.lt
            have hfz := ho2.free 2
            obtain ⟨⟨o0, o1, o2⟩, -⟩ := ho2.three
            have HH := Lib.hid (show _ ∧ _ ∧ _ ∧ _ ∧ _ ∧ _ ∧ _ ∧ _ ∧ _ from ⟨HI2.out.2.2, ho2, hvs2, e32, e5, hpn, hrow, hblt, hown0⟩)
            have HE := Lib.hid (show _ ∧ _ from ⟨e1, e2⟩)
            have HNB := Lib.hid nb1
            have HBK := Lib.hid hbk
            have HGL := Lib.hid (show wo.heap.size ≤ wr.heap.size ∧ lo < wo.heap.size ∧ w.heap.size + 2 ≤ lo from ⟨hb.size, hloo, hlo⟩)
            have s12 : s ≤ 12 := by omega
            clear hbw hz hr0 hlo ho hvs e1 e2 e3 e5 hpn hb ho2 hvs2 e32 hown0 nb1 hrow hbk hblt hloo o0 o1
            go_wp2_with (at_builtin; refine wpList_append_lies _ rfl _ _ 27 rfl lo 64 isl (.slice none 0 0) 1 24 Try.underlying27 his hzs0 hzs1 hzs2 rfl (by decide) (.slice Bm s km) s _ rfl (HH.out.2.2.2.2.2.2.2.2.alloc _) ⟨wr.heap.size, 0, none⟩ 1 1 [.slice Bn k kn] rfl rfl (World.news_of_block (cs := #[.slice Bn k kn]) (t := 64) (fr := (0, 0)) (heap_alloc_new wr _)) (by simp [Value.oneCell']) (by omega) (by unfold maxLen; omega) (by omega) (by have := HGL.out; simp; omega) (wr.heap.size + 1) (by simp) ?_; intro g cap w2 hown1 hgrow hat hlt2; have p1 := grown_cell hgrow (HNB.out _ (Nat.le_refl _)) (below_keep (below_alloc _ _) o2); have p2 := grown_free hgrow (HNB.out _ (Nat.le_refl _)) (by simp; omega) (below_keepf (below_alloc _ _) lpo hfz))
            obtain ⟨hI3, ho2, hvs2, e32, e5, hpn, hrow, hblt, -⟩ := HH.out
            obtain ⟨e1, e2⟩ := HE.out
            obtain ⟨hg1, hg2, hg3⟩ := HGL.out
            have hbk := HBK.out
            have hres : MirI w lo [.int .i64 t.L, .int .i64 t.S, .slice (some ⟨b, off, none⟩) t.mv.length ca] ⟨t.L, t.mv.length, tableOf (mirG t) k (s + 1)⟩ (w2.setCell ⟨lo, 2, none⟩ (.slice (some ⟨g, 0, none⟩) (s + 1) cap)) := by
              refine ⟨app_below hI3.1 hgrow (fun b hb => by have := hvs2.lt hb; omega) (by omega), app_row hgrow hI3.2.1 (HNB.out _ (by omega)) (by omega), app_row hgrow hI3.2.2.1 (HNB.out _ (by omega)) (by omega), hg3, ?_⟩
              rw [tableOf_succ]
              refine BoxT.snoc ho2 hvs2 (by rw [e1, tableOf_len]) (by rw [e2, tableOf_len]) e32 e5 hpn hrow (fun b hb hm => ?_) (fun hm => ?_) hgrow hown1 (by rw [tableOf_len]) hat
              · have := hblt b hm
                have := hbk b hb
                omega
              · have := hbk lo hm
                omega
            go_roundw
            case rel => exact ⟨s + 1, by omega, by go_num, hres⟩
            case measure => simp [intOf]; omega
      · obtain rfl : s = t.mv.length := by omega
        have ow0 := World.ownsRow_lit (base := wo.heap.size) (e := 66) (size := 2) wo #[] 0 (Nat.le_refl _) (by unfold maxLen; omega) rfl
        have HO := Lib.hid ow0
        clear ow0 a3
        obtain ⟨c0, rfl⟩ : ∃ c0, c = c0 + 1 := ⟨c - 1, by have := HC.out; omega⟩
        go_wp2
        clear b0 b1 b2 ltr
        go_loopw [11, 12] (fun u i wr => ∃ (k kn : Nat) (Bn : Option Addr), k ≤ c0 ∧ i = .int .i64 k ∧ u = .slice Bn k kn ∧ Below wo.heap.size wo wr ∧ wr.ownsRow wo.heap.size 66 2 (.slice Bn k kn) k (pcells (mirPart (mirG t) t.mv.length k))) (fun _ i _ => c0 - (intOf i).toNat)
        case atStart => exact ⟨0, 0, _, Nat.zero_le _, rfl, rfl, below_alloc _ _, HO.out⟩
        case round =>
          obtain ⟨k, kn, Bn, hk, rfl, rfl, hb, how⟩ := hrel
          have hI := HS.out.below hb
          obtain ⟨⟨b0, b1, b2⟩, -⟩ := hI.2.1.three
          have HI2 := Lib.hid (show _ ∧ _ ∧ _ from ⟨hb, how, hI⟩)
          have ltr := hI.2.1.lt
          have hcc := HC.out
          clear hI hb how
          by_cases hklt : k < c0
          · have hG : mirG t t.mv.length k = ((t.mv.length : Int), 1) := by
              unfold mirG
              rw [if_neg (by omega), if_neg (by omega)]
            have HG := Lib.hid hG
            have k1 : (0 : Int) ≤ k := by omega
            have k2 : (k : Int) ≤ t.L := by omega
            clear hG hcc
            go_wp2_with (at_builtin; refine wpList_append_lies _ rfl _ _ 64 rfl wo.heap.size 66 im _ 2 16 Try.underlying64 him hzm0 hzm1 hzm2 rfl (by decide) (.slice Bn k kn) k _ rfl (HI2.out.2.1.alloc _) ⟨wr.heap.size, 0, none⟩ 1 1 [.int .i64 (t.mv.length : Int), .int .i64 1] rfl rfl (World.news_of_block (cs := #[.int .i64 (t.mv.length : Int), .int .i64 1]) (t := 66) (fr := (0, 0)) (heap_alloc_new wr _)) (by simp [Value.oneCell']) (by omega) (by unfold maxLen; omega) (by omega) (by have := HI2.out.1.size; simp; omega) (wr.heap.size + 1) (by simp) ?_; intro g cap w2 hown1 hgrow hat hlt2)
            have hb := HI2.out.1
            have hres : Below wo.heap.size wo w2 := (below_step hb (below_alloc wr _)).trans (grown_below hgrow (by have := hb.size; simp; omega) (fun b hm => (World.ownsRow.lt HI2.out.2.1 b (mem_blks.1 hm)).1))
            rw [show pcells (mirPart (mirG t) t.mv.length k) ++ [Value.int .i64 (t.mv.length : Int), .int .i64 1] = pcells (mirPart (mirG t) t.mv.length (k + 1)) by rw [mirPart_succ, HG.out, pcells_snoc]] at hown1
            have HN := Lib.hid (show _ ∧ _ from ⟨hres, hown1⟩)
            clear hb hres hown1 hgrow hat
            go_roundw
            case rel => exact ⟨k + 1, cap, _, by omega, by go_num, rfl, HN.out.1, HN.out.2⟩
            case measure => simp [intOf]; omega
          · obtain rfl : k = c0 := by omega
            obtain ⟨hbw, hz, hr0, hlo, vm, bm, ho, hvm, hpn⟩ := HS.out
            have hblt : ∀ b ∈ bm, b < wo.heap.size := fun b hb => ((goodL (goodP 66) 64).lt hvm hb).2
            have hloo := ho.lt
            have hb := HI2.out.1
            obtain ⟨s0, hs0⟩ : ∃ s0 : Nat, t.S = s0 := ⟨t.S.toNat, by have := HK.out.s1; omega⟩
            have hs0n : s0 < t.mv.length := by have := HK.out.s2; omega
            have hrow0 : (tableOf (mirG t) (k + 1) t.mv.length)[s0]? = some (rowOf (mirG t) (k + 1) s0) := by simp [tableOf, hs0n]
            obtain ⟨gm, capm, um, bmm, hvv, hcm, hRm, -, -⟩ := OwL.member (goodP 66) ((goodL (goodP 66) 64).below hvm hb) hrow0
            simp only [tableOf_len] at hvv
            obtain ⟨vs, bss, hvs, e1, e2, e3, rfl, e5⟩ := hvm
            simp only at e1 e2 e3 ho
            rw [tableOf_len] at e1 e2
            subst hvv
            rcases hRm.nil_or with ⟨_, h0⟩ | ⟨gr, cr, rfl, rfl, hcr1, hcr2⟩
            · have := congrArg List.length h0
              rw [rowOf_len, List.length_nil] at this
              omega
            rw [rowOf_len] at hcm hcr1
            unfold maxLen at hcr2
            obtain ⟨mv, hmv⟩ : ∃ mv, mirG t t.mv.length k = mv := ⟨_, rfl⟩
            have hsame : (rowOf (mirG t) (k + 1) s0)[k]? = some mv := by
              rw [rowOf_get _ (Nat.lt_succ_self k), ← hmv]
              unfold mirG
              rw [if_pos hs0n, if_neg (by omega), if_pos (show (k : Int) = t.L + 1 by omega), show t.S.toNat = s0 by omega, show swapK t.L k = t.L.toNat from by unfold swapK; rw [if_neg (by omega), if_pos (show (k : Int) = t.L + 1 by omega)]]
            obtain ⟨mx, my⟩ := mv
            obtain ⟨gq0, gq1⟩ := pcells_get hsame
            have gm0 := (hRm.1.cellAt (k * 2) (by rw [rowOf_len]; omega)).trans gq0
            have gm1 := (hRm.1.cellAt (k * 2 + 1) (by rw [rowOf_len]; omega)).trans gq1
            simp only at gm0 gm1
            have ho2 := ho.below hb ho.lt
            have hvs2 := hvs.below hb
            have e32 := fun (i : Nat) u x b h1 h2 h3 => (goodP 66).below (e3 i u x b h1 h2 h3) hb
            have HVS := Lib.hid (show wr.ownsRow lo 64 1 (.slice (some ⟨gm, 0, none⟩) t.mv.length capm) t.mv.length vs by
              have := hvs2
              unfold Own at this
              rwa [e1] at this)
            have HN1 := Lib.hid (show ∀ b, b ≤ lo → b ∉ blks (.slice (some ⟨gm, 0, none⟩) t.mv.length capm) from fun b hb hm => by
              have := hvs.lt hm
              have e : b = lo := by omega
              subst e
              exact hpn (List.mem_append_left _ hm))
            have HNR := Lib.hid (show ∀ b, b < wo.heap.size → b ∉ blks (.slice Bn k kn) from fun b hb hm => by
              have := (World.ownsRow.lt HI2.out.2.1 b (mem_blks.1 hm)).1
              omega)
            have HVB := Lib.hid (show ∀ b ∈ blks (Value.slice (some ⟨gm, 0, none⟩) t.mv.length capm), b < wo.heap.size from fun b hb => (hvs.lt hb).2)
            have HLO := Lib.hid hloo
            have HSZ3 := Lib.hid (show wo.heap.size ≤ wr.heap.size from hb.size)
            have lpo := ho2.lt
            have hfz := ho2.free 2
            obtain ⟨⟨o0, o1, o2⟩, -⟩ := ho2.three
            have HH := Lib.hid (show _ ∧ _ ∧ _ ∧ _ ∧ _ ∧ _ ∧ _ from ⟨HI2.out.2.2, ho2, hvs2, e32, e5, hpn, hblt⟩)
            have HE := Lib.hid (show _ ∧ _ from ⟨e1, e2⟩)
            have HMV := Lib.hid hmv
            have f1 : 0 ≤ t.S := by omega
            have f2 : t.S < t.mv.length := by omega
            have g1 : 0 ≤ t.L + 1 := by omega
            have g2 : t.L + 1 < ((k + 1 : Nat) : Int) := by omega
            have g4 : t.L + 1 < (k : Int) + 1 := by omega
            have hk4 : k ≤ 4 := by omega
            have hn12 : t.mv.length ≤ 12 := by omega
            have F3 := Lib.hid (show t.S.toNat = s0 by omega)
            have G3 := Lib.hid (show (t.L + 1).toNat = k by omega)
            have hcl : ¬ (k : Int) ≤ t.L := by omega
            clear hbw hz hr0 hlo ho hvs e1 e2 e3 e5 hpn hb ho2 hvs2 e32 hblt hloo o0 o1 hRm hsame gq0 gq1 hrow0 hs0 hmv hcc hs0n
            have HWR := Lib.hid (show IntKind.i64.wrap (t.L + 1) = t.L + 1 from IntWalk.i64_in _ (by omega))
            have f3 := F3.out
            go_upto_region 23 with fail
            have hpos := HSZ3.out
            have hloo := HLO.out
            obtain ⟨g1', cap1, w4, hrun1, hownA, hgA, hatA, hltA⟩ := run_append_lies (P := Try.prog) (w := (wr.alloc (.cells #[.int .i64 mx, .int .i64 my] 66)).drew) 64 64 wo.heap.size 66 im _ 2 16 Try.underlying64 him hzm0 hzm1 hzm2 rfl (by decide) (.slice Bn k kn) k (pcells (mirPart (mirG t) t.mv.length k)) (HI2.out.2.1.alloc _).drew ⟨wr.heap.size, 0, none⟩ 1 1 [.int .i64 mx, .int .i64 my] rfl (World.news_of_block (cs := #[.int .i64 mx, .int .i64 my]) (t := 66) (fr := (0, 0)) (heap_alloc_new wr _)) (by simp [Value.oneCell']) (by omega) (by unfold maxLen; omega) (by omega) (by simp; omega) (wr.heap.size + 1) (by simp)
            have hrun1 : (heldAppend _ _ _).run _ _ = _ := hrun1
            have hgA := undrew hgA
            have p1 := grown_cell hgA (HNR.out _ HLO.out) (below_keep (below_alloc _ _) o2)
            have p2 := grown_free hgA (HNR.out _ HLO.out) (by simp; omega) (below_keepf (below_alloc _ _) lpo hfz)
            have hszA : wr.heap.size + 1 ≤ w4.heap.size := by have := hgA.size; simpa using this
            have hloA : lo < w4.heap.size := by omega
            have HVS4 := Lib.hid (rows_same (HVS.out.alloc (.cells #[.int .i64 mx, .int .i64 my] 66)) (fun b hb => hgA.block b (by have := HVB.out b hb; have := HSZ3.out; simp; omega) (fun e => HNR.out b (HVB.out b hb) (mem_blks.2 e.symm))))
            obtain ⟨g2', cap2, w5, hrun2, hownB, hgB, hatB, hltB⟩ := run_append_lies (P := Try.prog) (w := w4.alloc (.cells #[.slice (some ⟨g1', 0, none⟩) (k + 1) cap1] 64)) 27 27 lo 64 isl _ 1 24 Try.underlying27 his hzs0 hzs1 hzs2 rfl (by decide) (.slice (some ⟨gm, 0, none⟩) t.mv.length capm) t.mv.length vs (HVS4.out.alloc _) ⟨w4.heap.size, 0, none⟩ 1 1 [.slice (some ⟨g1', 0, none⟩) (k + 1) cap1] rfl (World.news_of_block (cs := #[.slice (some ⟨g1', 0, none⟩) (k + 1) cap1]) (t := 64) (fr := (0, 0)) (heap_alloc_new w4 _)) (by simp [Value.oneCell']) (by omega) (by unfold maxLen; omega) (by omega) (by simp; omega) (w4.heap.size + 1) (by simp)
            have hrun2 : (heldAppend _ _ _).run _ _ = _ := hrun2
            have r1 := grown_cell hgB (HN1.out _ (Nat.le_refl _)) (below_keep (below_alloc _ _) p1)
            have r2 := grown_free hgB (HN1.out _ (Nat.le_refl _)) (by simp; omega) (below_keepf (below_alloc _ _) (by omega) p2)
            have HAA := Lib.hid (show _ ∧ _ ∧ _ ∧ _ ∧ _ ∧ _ from ⟨hownA, hgA, hatA, hownB, hgB, hatB⟩)
            clear hownA hgA hatA hownB hgB hatB hpos hloo
            have g3 := G3.out
            have hwr := HWR.out
            go_region
            clear hrun1 hrun2 hwr g3 f3
            all_goals
                obtain ⟨hownA, hgA, hatA, hownB, hgB, hatB⟩ := HAA.out
                obtain ⟨hI3, ho3, hvs3, e33, e5, hpo, hblt⟩ := HH.out
                obtain ⟨e1, e2⟩ := HE.out
                have hlt0 := HLO.out
                have hsz3 := HSZ3.out
                have hw2 := hI3.2.2.2.1
                have hwA := below_alloc wr (.cells #[.int .i64 mx, .int .i64 my] 66)
                have ho4 := grown_row hgA (ho3.alloc _) (HNR.out _ hlt0)
                have hv4 : Own w4 64 lo (.slice (some ⟨gm, 0, none⟩) t.mv.length capm) vs := by unfold Own; rw [e1]; exact HVS4.out
                have e34 := fun (i : Nat) u x' b h1 h2 h3 => grown_keep (goodP 66) hgA ((goodP 66).below (e33 i u x' b h1 h2 h3) hwA) (fun c hc hm => HNR.out c (hblt c (List.mem_append_right _ (mem_bss h3 hc))) hm)
                have hrow : OwP 66 w4 lo (.slice (some ⟨g1', 0, none⟩) (k + 1) cap1) (rowOf (mirG t) (k + 1) t.mv.length) [g1'] := by
                  refine OwP.snoc (World.ownsRow.mono hownA (by omega)) ?_ (by rw [rowOf_len]) rfl
                  rw [← mirPart_full, mirPart_succ, HMV.out, pcells_snoc]
                have hg1 : wo.heap.size ≤ g1' := by
                  rcases hatA with h | h
                  · exact (World.ownsRow.lt HI2.out.2.1 g1' h).1
                  · have : g1' = wr.heap.size + 1 := by simpa using h
                    omega
                have hbA := (below_step hI3.1 hwA).trans (grown_below hgA (B := w.heap.size) (by simp; have := hI3.1.size; omega) (fun b hm => by have := (World.ownsRow.lt HI2.out.2.1 b (mem_blks.1 hm)).1; omega))
                have hr4 := grown_row hgA (hI3.2.1.alloc _) (HNR.out _ (by omega))
                have hz4 := grown_row hgA (hI3.2.2.1.alloc _) (HNR.out _ (by omega))
                have hres : MirI w lo [.int .i64 t.L, .int .i64 t.S, .slice A t.mv.length ca] ⟨t.L, t.mv.length, tableOf (mirG t) (k + 1) (t.mv.length + 1)⟩ (w5.setCell ⟨lo, 2, none⟩ (.slice (some ⟨g2', 0, none⟩) (t.mv.length + 1) cap2)) := by
                  refine ⟨app_below hbA hgB (fun b hb => by have := hv4.lt hb; omega) (by omega), app_row hgB hr4 (HN1.out _ (by omega)) (by omega), app_row hgB hz4 (HN1.out _ (by omega)) (by omega), hw2, ?_⟩
                  rw [tableOf_succ]
                  refine BoxT.snoc ho4 hv4 (by rw [e1, tableOf_len]) (by rw [e2, tableOf_len]) e34 e5 hpo hrow (fun b hb hm => ?_) (fun hm => ?_) hgB hownB (by rw [tableOf_len]) hatB
                  · simp only [List.mem_singleton] at hb
                    have := hblt b hm
                    omega
                  · simp only [List.mem_singleton] at hm
                    omega
                generalize w5.setCell ⟨lo, 2, none⟩ (.slice (some ⟨g2', 0, none⟩) (t.mv.length + 1) cap2) = w6 at hres ⊢
                obtain ⟨kbw, -, kz, klo, vm', bm', ko, kvm, kpn⟩ := hres
                obtain ⟨Am, km, rfl⟩ := OwL.shape kvm
                simp only [tableOf_len] at ko kvm
                have hO : OwT w6 lo (.agg #[.int .i64 t.L, .int .i64 t.mv.length, .slice Am (t.mv.length + 1) km]) ⟨t.L, t.mv.length, tableOf (mirG t) (k + 1) (t.mv.length + 1)⟩ bm' := ⟨_, bm', rfl, kvm, rfl, (goodL (goodP _) _).nodup kvm⟩
                have HT := Lib.hid (l02Told_anyM _ _ w6 hO.rd)
                obtain ⟨⟨q0, q1, q2⟩, -⟩ := ko.three
                have HH2 := Lib.hid (show _ ∧ _ ∧ _ ∧ _ from ⟨kbw, kz, hO, klo⟩)
                have hres2 := told_mir HK.out HOK.out HC.out
                clear hownA hgA hatA hownB hgB hatB hI3 ho3 hvs3 e33 e5 hpo hblt e1 e2 hlt0 hsz3 hw2 hwA ho4 hv4 e34 hrow hg1 hbA hr4 hz4 kbw kz klo ko kvm kpn hO o2 lpo hfz p1 p2 r1 r2 gm0 gm1
                rcases hres2 with ⟨hokt, hmr⟩ | ⟨hokt, hmr⟩
                · rw [if_pos hokt] at HT
                  have HOT := Lib.hid (show toldResM ⟨t.L, t.mv.length, tableOf (mirG t) (k + 1) (t.mv.length + 1)⟩ = (⟨t.L, t.mv.length, tableOf (mirG t) (k + 1) (t.mv.length + 1)⟩, 0) by simp [toldResM, hokt])
                  rw [HOT.out] at HT
                  have HMR := Lib.hid hmr
                  clear hokt hmr
                  go_wp2_with fail
                  refine HT.out.mono ?_
                  rintro e w3 ⟨rfl, hb⟩
                  obtain ⟨hbw, hz, hO, hlo⟩ := HH2.out
                  have hz3 := hz.below hb hz.lt
                  have HF := Lib.hid (own_storedM (w := w) hz3 (below_step hbw hb) (by omega) (by omega) (goodT.below hO hb))
                  obtain ⟨⟨z0, z1, z2⟩, zf⟩ := hz3.three
                  have lz := hz3.lt
                  clear hbw hz hO hlo hz3 hb q0 q1 q2
                  go_wp2
                  obtain ⟨⟨y0, y1, y2⟩, eO, eB⟩ := HF.out
                  rw [HMR.out]
                  generalize (((w3.setCell ⟨w.heap.size + 1, 0, none⟩ (.int .i64 t.L)).setCell ⟨w.heap.size + 1, 1, none⟩ (.int .i64 t.mv.length)).setCell ⟨w.heap.size + 1, 2, none⟩ (.slice Am (t.mv.length + 1) km)) = W2 at *
                  refine bodyPost_ret (v := .tuple #[.agg #[.int .i64 t.L, .int .i64 t.mv.length, .slice Am (t.mv.length + 1) km], .int .i64 0]) (by simp [results, Try.results23, go_sem, y0, y1, y2]) rfl ?_
                  exact ⟨_, _, rfl, eO, eB⟩
                · rw [if_neg (by rw [hokt]; decide)] at HT
                  have HOT := Lib.hid (show toldResM ⟨t.L, t.mv.length, tableOf (mirG t) (k + 1) (t.mv.length + 1)⟩ = (⟨0, 0, []⟩, 3) by simp [toldResM, hokt])
                  rw [HOT.out] at HT
                  have HMR := Lib.hid hmr
                  clear hokt hmr
                  go_wp2_with fail
                  refine HT.out.mono ?_
                  rintro e w3 ⟨rfl, hb⟩
                  obtain ⟨hbw, hz, hO, hlo⟩ := HH2.out
                  have hz3 := hz.below hb hz.lt
                  have HF := Lib.hid (own_storedM (w := w) (A := none) (n := 0) (k := 0) (L := 0) (S := 0) hz3 (below_step hbw hb) (by omega) hz3.lt (t := ⟨0, 0, []⟩) ⟨_, [], rfl, owL_nil _ _ _ _, rfl, by simp⟩)
                  obtain ⟨⟨z0, z1, z2⟩, zf⟩ := hz3.three
                  have lz := hz3.lt
                  clear hbw hz hO hlo hz3 hb q0 q1 q2
                  go_wp2
                  obtain ⟨⟨y0, y1, y2⟩, eO, eB⟩ := HF.out
                  rw [HMR.out]
                  generalize (((w3.setCell ⟨w.heap.size + 1, 0, none⟩ (.int .i64 0)).setCell ⟨w.heap.size + 1, 1, none⟩ (.int .i64 0)).setCell ⟨w.heap.size + 1, 2, none⟩ (.slice none 0 0)) = W2 at *
                  refine bodyPost_ret (v := .tuple #[.agg #[.int .i64 0, .int .i64 0, .slice none 0 0], .int .i64 3]) (by simp [results, Try.results23, go_sem, y0, y1, y2]) rfl ?_
                  exact ⟨_, _, rfl, eO, eB⟩
  · have hok' : okT t = false := by simpa using hok
    clear hok a3
    have HOK := Lib.hid hok'
    go_enter Try.func23, Try.ntmps23
    go_wp2_with fail
    refine HV.out.mono ?_
    generalize (w.alloc (.cells #[.int .i64 t.L, .int .i64 t.S, .slice A t.mv.length ca] 29)).alloc (.cells #[.int .i64 0, .int .i64 0, .slice none 0 0] 29) = W0 at *
    rintro e w1 ⟨rfl, hq⟩
    have hz1 := HZ.out.below hq HZ.out.lt
    have HH := Lib.hid (own_storedM (w := w) (A := none) (n := 0) (k := 0) (L := 0) (S := 0) hz1 (below_step HB.out hq) (by omega) hz1.lt (t := ⟨0, 0, []⟩) ⟨_, [], rfl, owL_nil _ _ _ _, rfl, by simp⟩)
    obtain ⟨⟨z0, z1, z2⟩, zf⟩ := hz1.three
    have lz := hz1.lt
    clear hz1 hq
    go_wp2
    obtain ⟨⟨y0, y1, y2⟩, eO, eB⟩ := HH.out
    have hres : mirRes t = (⟨0, 0, []⟩, 1) := by simp [mirRes, HOK.out]
    rw [hres]
    generalize (((w1.setCell ⟨w.heap.size + 1, 0, none⟩ (.int .i64 0)).setCell ⟨w.heap.size + 1, 1, none⟩ (.int .i64 0)).setCell ⟨w.heap.size + 1, 2, none⟩ (.slice none 0 0)) = W2 at *
    refine bodyPost_ret (v := .tuple #[.agg #[.int .i64 0, .int .i64 0, .slice none 0 0], .int .i64 1]) (by simp [results, Try.results23, go_sem, y0, y1, y2]) rfl ?_
    exact ⟨_, _, rfl, eO, eB⟩
theorem specMir_any (v : Value) (t : TData) (w : World) (h : RdT w v t) :
    Calls Try.prog 23 #[v] w fun e w' => ∃ u, e = .returned (.tuple #[u, .int .i64 (mirRes t).2]) ∧ RdT w' u (mirRes t).1 ∧ Below w.heap.size w w' :=
  (specMir_own v t w h).mono fun e w' ⟨u, bs, he, hu, hb⟩ => ⟨u, he, hu.rd, hb⟩
end Go.Proofs.Ytfkicedhjipfmaa
