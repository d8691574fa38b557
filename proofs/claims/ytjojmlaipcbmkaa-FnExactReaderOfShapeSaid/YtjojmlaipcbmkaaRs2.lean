/-
  ReaderOfShape: the program's answer.
-/
import Derived.Test.YtjojmlaipcbmkaaRs1
namespace Go.Proofs.Ytjojmlaipcbmkaa
open Go.RowKit

/-- What stands while the rows are being made. -/
def RsI (w : World) (lo po : Nat) (acc : List Bool) (rows : List (List Int)) (wr : World) : Prop :=
  Below w.heap.size w wr ∧ Row wr w.heap.size 29 [.int .i64 0, .int .i64 0, .slice none 0 0, .slice none 0 0] ∧ BoxR wr lo po ⟨1, 0, acc, rows⟩
/-- One round of it. -/
theorem RsI.row {w wr : World} {lo po : Nat} {acc : List Bool} {rows : List (List Int)} (h : RsI w lo po acc rows wr) (hlo : w.heap.size < lo) (hlp : lo ≤ po) :
    ∃ Aa ka Bn kn, ∃ vs : List Value, Row wr po 29 [.int .i64 1, .int .i64 0, .slice Aa acc.length ka, .slice Bn rows.length kn] ∧ wr.ownsRow lo 47 1 (.slice Bn rows.length kn) rows.length vs ∧ po ∉ blks (.slice Bn rows.length kn) ∧
      ∀ (to : Int) (w2 : World) (g cap : Nat), w2.ownsRow lo 47 1 (.slice (some ⟨g, 0, none⟩) (rows.length + 1) cap) (rows.length + 1) (vs ++ [.slice (some ⟨wr.heap.size, 0, none⟩) 1 1]) →
        ((wr.alloc (.cells #[.int .i64 to] 2)).alloc (.cells #[.slice (some ⟨wr.heap.size, 0, none⟩) 1 1] 47)).grownBy w2 (Value.slice Bn rows.length kn).ownBlock → ((Value.slice Bn rows.length kn).ownBlock = some g ∨ g = wr.heap.size + 1 + 1) →
        RsI w lo po acc (rows ++ [[to]]) (w2.setCell ⟨po, 3, none⟩ (.slice (some ⟨g, 0, none⟩) (rows.length + 1) cap)) := by
  obtain ⟨hb, hz, hbx⟩ := h
  obtain ⟨Aa, ka, Bn, kn, ba, vs, bss, ho, ha, hv, e1, e2, e3, e5, hd, hp⟩ := hbx.open
  have hvl : wr.ownsRow lo 47 1 (.slice Bn rows.length kn) rows.length vs := by have := hv; unfold Own at this; rwa [e1] at this
  have hp2 : po ∉ blks (.slice Bn rows.length kn) := fun hm => hp (by simp [hm])
  have hzn : w.heap.size ∉ blks (.slice Bn rows.length kn) := fun hm => by have := (hv.lt hm).1; omega
  have hll : lo ≤ wr.heap.size := by have := ho.lt; omega
  refine ⟨Aa, ka, Bn, kn, vs, ho, hvl, hp2, fun to w2 g cap hown hg hat => ⟨?_, ?_, ?_⟩⟩
  · have h1 : Below w.heap.size w ((wr.alloc (.cells #[.int .i64 to] 2)).alloc (.cells #[.slice (some ⟨wr.heap.size, 0, none⟩) 1 1] 47)) := below_step (below_step hb (below_alloc _ _)) (below_alloc _ _)
    exact (h1.trans (grown_below hg h1.size (fun b hm => by have := (hv.lt hm).1; omega))).setCell (p := ⟨po, 3, none⟩) (by show w.heap.size ≤ po; omega) _
  · exact (grown_row hg ((hz.alloc _).alloc _) hzn).other (by show po ≠ w.heap.size; omega) _
  · exact BoxR.row1 (r := ⟨1, 0, acc, rows⟩) ho ha hv e1 e2 e3 e5 hd hp hll hg hown hat

set_option maxRecDepth 100000 in
set_option maxHeartbeats 1600000 in
theorem implReaderOfShape_own (tail : Int) (v : Value) (acc : List Bool) (w : World) (h : RdB w v acc) (hs : BSmall acc) :
    Calls Try.prog 37 #[.int .i64 tail, v] w fun e w' => ∃ u bs, e = .returned (.tuple #[u, .int .i64 (shapeRes tail acc).2]) ∧ OwR w' w.heap.size u (shapeRes tail acc).1 bs ∧ Below w.heap.size w w' := by
  obtain ⟨isl, his, hzs0, hzs1, hzs2⟩ := info_parts infoIs
  have hB0 := below_alloc w (.cells #[.int .i64 0, .int .i64 0, .slice none 0 0, .slice none 0 0] 29)
  have hz0 := Row.new w [.int .i64 0, .int .i64 0, .slice none 0 0, .slice none 0 0] 29
  have hsz0 : (w.alloc (.cells #[.int .i64 0, .int .i64 0, .slice none 0 0, .slice none 0 0] 29)).heap.size = w.heap.size + 1 := by simp
  have hn : (acc.length : Int) ≤ 281474976710656 := by unfold BSmall at hs; omega
  by_cases hok : shapeOk tail acc.length = true
  · have hok2 := hok
    simp only [shapeOk, within, Bool.and_eq_true, decide_eq_true_eq] at hok2
    obtain ⟨⟨n1, n2⟩, t0, t1⟩ := hok2
    have HRES := Lib.hid (show shapeRes tail acc = (⟨1, 0, acc, shapeRows tail acc.length⟩, 0) by rw [shapeRes, if_pos hok])
    have HCL := Lib.hid (cloneB_own v acc _ (keepsB _ _ _ _ h hB0) (by omega))
    obtain ⟨A, ka, rfl⟩ := rdB_shape h
    have HI0 := Lib.hid (show _ ∧ _ ∧ _ from ⟨hB0, hz0, hsz0⟩)
    have d1 : tail < (acc.length : Int) := by omega
    have d2 : ¬ (300 : Int) < acc.length := by omega
    clear hB0 hz0 hsz0 hok h
    go_enter Try.func37, Try.ntmps37
    go_wp2_with (go_at_call 86; refine (isState_any _ _ _).mono ?_; rintro e w' ⟨rfl, rfl⟩)
    refine HCL.out.mono ?_
    generalize w.alloc (.cells #[.int .i64 0, .int .i64 0, .slice none 0 0, .slice none 0 0] 29) = w0 at *
    rintro e w1 ⟨u, bu, rfl, hu, hb⟩
    obtain ⟨Au, ku, rfl⟩ := owB_shape hu
    have HB1 := Lib.hid (show _ ∧ _ ∧ _ ∧ _ from ⟨below_step HI0.out.1 hb, HI0.out.2.1.below hb HI0.out.2.1.lt, (goodV bools 4).mono hu (show w.heap.size + 1 ≤ _ by rw [HI0.out.2.2]; exact Nat.le_refl _), (show w0.heap.size ≤ w1.heap.size from hb.size)⟩)
    have HBX := Lib.hid (show RsI w (w.heap.size + 1) w1.heap.size acc ((shapeRows tail acc.length).take 0) (w1.alloc (.cells #[.int .i64 1, .int .i64 0, .slice Au acc.length ku, .slice none 0 0] 29)) from
      ⟨below_step HB1.out.1 (below_alloc _ _), HB1.out.2.1.alloc _, _, _, bu, [], Row.new w1 _ _, (goodV bools 4).below HB1.out.2.2.1 (below_alloc _ _), owL_nil _ _ _ _, by simpa using (goodV bools 4).nodup HB1.out.2.2.1, fun hm => by have := ((goodV bools 4).lt HB1.out.2.2.1 (by simpa using hm)).2; omega⟩)
    have HP := Lib.hid (show w.heap.size + 1 ≤ w1.heap.size from by have := HB1.out.2.2.2; have := HI0.out.2.2; omega)
    clear hu hb HCL d1 d2
    go_wp2
    generalize w1.alloc (.cells #[.int .i64 1, .int .i64 0, .slice Au acc.length ku, .slice none 0 0] 29) = w2 at *
    generalize w1.heap.size = po at *
    go_loopw [8] (fun i wr => ∃ k : Nat, k + 1 ≤ acc.length ∧ i = .int .i64 ((k : Int) + 1) ∧ RsI w (w.heap.size + 1) po acc ((shapeRows tail acc.length).take k) wr) (fun i _ => acc.length - (intOf i).toNat)
    case atStart => exact ⟨0, by omega, rfl, HBX.out⟩
    case round =>
      obtain ⟨k, hk, rfl, hI⟩ := hrel
      have HI := Lib.hid hI
      obtain ⟨Aa, kaa, Bn, kn, vs, ho, hv, hpn, hstep⟩ := hI.row (Nat.lt_succ_self _) HP.out
      have hlen : ((shapeRows tail acc.length).take k).length = k := by rw [List.length_take, shapeRows_len]; omega
      rw [hlen] at ho hv hpn hstep
      have HST := Lib.hid hstep
      have HV := Lib.hid (show _ ∧ _ from ⟨hv, hpn⟩)
      obtain ⟨⟨o0, o1, o2, o3⟩, -⟩ := ho.four
      have of3 := ho.free 3
      have lo3 := ho.lt
      have hw2 := hI.1.size
      have HPP := HP.out
      by_cases hlt : ((k : Int) + 1) < acc.length
      · have HTK := Lib.hid (show (shapeRows tail acc.length).take (k + 1) = (shapeRows tail acc.length).take k ++ [[(k : Int) + 1]] by rw [shapeRows_take tail (by omega), if_neg (by omega)])
        clear hI ho hv hpn hstep hlen
        go_wp2_with (at_builtin; refine wpList_append_lies _ rfl _ _ 23 rfl (w.heap.size + 1) 47 isl _ 1 24 Try.underlying23 his hzs0 hzs1 hzs2 rfl (by decide) (.slice Bn k kn) k vs rfl (rows_below (rows_below HV.out.1 (below_alloc _ _)) (below_alloc _ _)) ⟨wr.heap.size + 1, 0, none⟩ 1 1 [.slice (some ⟨wr.heap.size, 0, none⟩) 1 1] rfl rfl (World.news_of_block (cs := #[.slice (some ⟨wr.heap.size, 0, none⟩) 1 1]) (t := 47) (fr := (0, 0)) (by simpa using heap_alloc_new (wr.alloc (.cells #[.int .i64 ((k : Int) + 1)] 2)) (.cells #[.slice (some ⟨wr.heap.size, 0, none⟩) 1 1] 47))) (by simp [Value.oneCell']) (by omega) (by unfold maxLen; omega) (by omega) (by simp; omega) (wr.heap.size + 1 + 1) (by simp) ?_; intro g cap w5 hown5 hgrow5 hat5 hlt5; have p1 := grown_cell hgrow5 HV.out.2 (below_keep (below_step (below_alloc wr _) (below_alloc _ _)) o3); have p2 := grown_free hgrow5 HV.out.2 (by simp; omega) (below_keepf (below_step (below_alloc wr _) (below_alloc _ _)) lo3 of3); have p3 := World.block_lt_of_cell? _ _ p1)
        have HE := Lib.hid (HST.out ((k : Int) + 1) w5 g cap hown5 hgrow5 hat5)
        clear hown5 hgrow5 hat5 hlt5 p1 p2 p3 o0 o1 o2 o3 of3
        go_roundw
        case rel => exact ⟨k + 1, by omega, by go_num, by rw [HTK.out]; exact HE.out⟩
        case measure => simp [intOf]; omega
      · have HTK := Lib.hid (show shapeRows tail acc.length = (shapeRows tail acc.length).take k ++ [[tail]] by
          have e1 : acc.length = k + 1 := by omega
          have := shapeRows_take tail (n := acc.length) (k := k) (by omega)
          rw [if_pos (by omega), ← e1, List.take_of_length_le (by rw [shapeRows_len]; exact Nat.le_refl _)] at this
          exact this)
        have hk3 : k ≤ 300 := by omega
        clear hI ho hv hpn hstep hlen
        go_wp2_with (at_builtin; refine wpList_append_lies _ rfl _ _ 23 rfl (w.heap.size + 1) 47 isl _ 1 24 Try.underlying23 his hzs0 hzs1 hzs2 rfl (by decide) (.slice Bn k kn) k vs rfl (rows_below (rows_below HV.out.1 (below_alloc _ _)) (below_alloc _ _)) ⟨wr.heap.size + 1, 0, none⟩ 1 1 [.slice (some ⟨wr.heap.size, 0, none⟩) 1 1] rfl rfl (World.news_of_block (cs := #[.slice (some ⟨wr.heap.size, 0, none⟩) 1 1]) (t := 47) (fr := (0, 0)) (by simpa using heap_alloc_new (wr.alloc (.cells #[.int .i64 tail] 2)) (.cells #[.slice (some ⟨wr.heap.size, 0, none⟩) 1 1] 47))) (by simp [Value.oneCell']) (by omega) (by unfold maxLen; omega) (by omega) (by simp; omega) (wr.heap.size + 1 + 1) (by simp) ?_; intro g cap w5 hown5 hgrow5 hat5 hlt5; have p1 := grown_cell hgrow5 HV.out.2 (below_keep (below_step (below_alloc wr _) (below_alloc _ _)) o3); have p2 := grown_free hgrow5 HV.out.2 (by simp; omega) (below_keepf (below_step (below_alloc wr _) (below_alloc _ _)) lo3 of3); have p3 := World.block_lt_of_cell? _ _ p1; have HE := Lib.hid (HST.out tail w5 g cap hown5 hgrow5 hat5); have hEx := HE.out; rw [← HTK.out] at hEx; have hzz := hEx.2.1; obtain ⟨Ax, kx, Bx, kbx, bax, vsx, bssx, hox, hax, hvx, ex1, ex2, ex3, ex5, hdx, hpx⟩ := hEx.2.2.open; obtain ⟨⟨x0, x1, x2, x3⟩, -⟩ := hox.four; obtain ⟨⟨z0, z1, z2, z3⟩, zf⟩ := hzz.four; have lz := hzz.lt; have lx := hox.lt; have HXX := Lib.hid (show _ ∧ _ ∧ _ from ⟨hEx.1, hzz, (show OwR _ (w.heap.size + 1) (.agg #[.int .i64 1, .int .i64 0, .slice Ax acc.length kx, .slice Bx _ kbx]) ⟨1, 0, acc, _⟩ _ from ⟨_, _, _, _, rfl, hax, ⟨vsx, bssx, hvx, ex1, ex2, ex3, rfl, ex5⟩, rfl, hdx⟩)⟩); clear hown5 hgrow5 hat5 hlt5 hEx hzz hox hax hvx ex1 ex2 ex3 ex5 hdx hpx)
        obtain ⟨hbx, hzx, hOx⟩ := HXX.out
        obtain ⟨⟨y0, y1, y2, y3⟩, eO, eB⟩ := stored4R hzx hOx (Nat.lt_succ_self _) (Nat.le_refl _) hbx
        generalize ((((((w5.setCell ⟨po, 3, none⟩ (.slice (some ⟨g, 0, none⟩) (k + 1) cap))).setCell ⟨w.heap.size, 0, none⟩ (.int .i64 1)).setCell ⟨w.heap.size, 1, none⟩ (.int .i64 0)).setCell ⟨w.heap.size, 2, none⟩ (.slice Ax acc.length kx)).setCell ⟨w.heap.size, 3, none⟩ (.slice Bx (shapeRows tail acc.length).length kbx)) = W2 at *
        refine bodyPost_ret (v := .tuple #[.agg #[.int .i64 1, .int .i64 0, .slice Ax acc.length kx, .slice Bx (shapeRows tail acc.length).length kbx], .int .i64 0]) (by simp [results, Try.results37, go_sem, y0, y1, y2, y3]) rfl ?_
        rw [HRES.out]
        first | exact ⟨_, _, rfl, eO, eB⟩ | exact ⟨_, rfl, ⟨_, eO⟩, eB⟩
  · have hok' : shapeOk tail acc.length = false := by simpa using hok
    have HRES := Lib.hid (show shapeRes tail acc = (⟨0, 0, [], []⟩, 2) by rw [shapeRes, if_neg hok])
    obtain ⟨A, ka, rfl⟩ := rdB_shape h
    have hO : OwR (w.alloc (.cells #[.int .i64 0, .int .i64 0, .slice none 0 0, .slice none 0 0] 29)) w.heap.size (.agg #[.int .i64 0, .int .i64 0, .slice none 0 0, .slice none 0 0]) ⟨0, 0, [], []⟩ [] := ⟨_, _, [], [], rfl, owV_nil bools [] rfl _ _ _, owL_nil _ _ _ _, rfl, by simp⟩
    have HI0 := Lib.hid (show _ ∧ _ from ⟨hB0, hO⟩)
    obtain ⟨⟨y0, y1, y2, y3⟩, -⟩ := hz0.four
    clear hB0 hsz0 hok h hO hz0
    by_cases h300 : (300 : Int) < acc.length
    · clear hok'
      go_enter Try.func37, Try.ntmps37
      go_wp2
      refine bodyPost_ret (v := .tuple #[.agg #[.int .i64 0, .int .i64 0, .slice none 0 0, .slice none 0 0], .int .i64 2]) (by simp [results, Try.results37, go_sem, y0, y1, y2, y3]) rfl ?_
      rw [HRES.out]
      first | exact ⟨_, _, rfl, HI0.out.2, HI0.out.1⟩ | exact ⟨_, rfl, ⟨_, HI0.out.2⟩, HI0.out.1⟩
    · have hd : decide (0 ≤ tail ∧ tail < (acc.length : Int)) = false := by
        simp only [shapeOk, within, Bool.and_eq_false_iff, decide_eq_false_iff_not] at hok' ⊢; omega
      have HIS := Lib.hid (fun W => isState_any tail acc.length W)
      rw [hd] at HIS
      clear hok' hd
      go_enter Try.func37, Try.ntmps37
      go_wp2_with (go_at_call 86; refine (HIS.out _).mono ?_; rintro e w' ⟨rfl, rfl⟩)
      refine bodyPost_ret (v := .tuple #[.agg #[.int .i64 0, .int .i64 0, .slice none 0 0, .slice none 0 0], .int .i64 2]) (by simp [results, Try.results37, go_sem, y0, y1, y2, y3]) rfl ?_
      rw [HRES.out]
      first | exact ⟨_, _, rfl, HI0.out.2, HI0.out.1⟩ | exact ⟨_, rfl, ⟨_, HI0.out.2⟩, HI0.out.1⟩
end Go.Proofs.Ytjojmlaipcbmkaa
