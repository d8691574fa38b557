/-
  ManyOf: the program's walk.
-/
import Derived.Test.YtcofcgijlbppkaaMo1
import Derived.Test.YtcofcgijlbppkaaCl
import Derived.Test.YtcofcgijlbppkaaT7
import Derived.Deep.RegionHeld3
import Derived.Deep.CutRange
namespace Go.Proofs.Ytcofcgijlbppkaa
open Go.RowKit

/-- A row's lists so far, the others being empty. -/
def rowPart (x : List Int) (k : Nat) : List (List Int) := (wideR x).take k ++ List.replicate (x.length - k) []
theorem rowPart_zero (x : List Int) : rowPart x 0 = List.replicate x.length [] := by simp [rowPart]
theorem rowPart_full (x : List Int) : rowPart x x.length = wideR x := by
  rw [rowPart, List.take_of_length_le (by rw [wideR_len]; exact Nat.le_refl _), Nat.sub_self]; simp
theorem rowPart_len {x : List Int} {k : Nat} (h : k ≤ x.length) : (rowPart x k).length = x.length := by simp [rowPart, wideR_len]; omega
theorem rowPart_at {x : List Int} {k : Nat} (h : k < x.length) : (rowPart x k)[k]? = some [] := by
  rw [rowPart, List.getElem?_append_right (by simp [wideR_len]; omega)]
  simp only [List.length_take, wideR_len, Nat.min_eq_left (Nat.le_of_lt h), Nat.sub_self, List.getElem?_replicate]
  rw [if_pos (by omega)]
theorem rowPart_set {x : List Int} {k : Nat} {m : Int} (h : x[k]? = some m) : (rowPart x k).set k [m] = rowPart x (k + 1) := by
  have hk := (List.getElem?_eq_some_iff.1 h).1
  have e : x.length - k = (x.length - (k + 1)) + 1 := by omega
  have hm : (wideR x)[k]? = some [m] := by simp [wideR, h]
  rw [rowPart, rowPart, List.set_append, if_neg (by simp [wideR_len]; omega), take_succ_of hm, e, List.replicate_succ]
  simp [wideR_len, Nat.min_eq_left (Nat.le_of_lt hk)]

set_option maxRecDepth 100000 in
set_option maxHeartbeats 12800000 in
theorem implMo_own (v : Value) (r : RData) (w : World) (h : RdR w v r) :
    Calls Try.prog 8 #[v] w fun e w' => ∃ u bs, e = .returned (.tuple #[u, .int .i64 (manyOfRes r).2]) ∧ OwM w' w.heap.size u (manyOfRes r).1 bs ∧ Below w.heap.size w w' := by
  obtain ⟨il, hil, hzl0, hzl1, hzl2⟩ := info_parts infoIIs
  have HV := Lib.hid (fun W (hb : Below w.heap.size w W) => ValidReader_any v r W (keepsR _ _ _ _ h hb))
  obtain ⟨va, vn, rfl, ha, hn⟩ := h
  have HRA := Lib.hid ha
  obtain ⟨A, ca, rfl, a1, a2, -⟩ := ha.open
  obtain ⟨B, cb, rfl, b1, b2, a3⟩ := RdL.open hn
  unfold maxLen at a2 b2
  have HB := Lib.hid ((below_alloc w (.cells #[.int .i64 r.L, .int .i64 r.S, .slice A r.acc.length ca, .slice B r.next.length cb] 33)).alloc (by simp) (.cells #[.int .i64 0, .slice none 0 0, .slice none 0 0, .slice none 0 0] 30))
  have hr1 := (Row.new w [.int .i64 r.L, .int .i64 r.S, .slice A r.acc.length ca, .slice B r.next.length cb] 33).alloc (.cells #[.int .i64 0, .slice none 0 0, .slice none 0 0, .slice none 0 0] 30)
  have hr2 : Row ((w.alloc (.cells #[.int .i64 r.L, .int .i64 r.S, .slice A r.acc.length ca, .slice B r.next.length cb] 33)).alloc (.cells #[.int .i64 0, .slice none 0 0, .slice none 0 0, .slice none 0 0] 30)) (w.heap.size + 1) 30 [.int .i64 0, .slice none 0 0, .slice none 0 0, .slice none 0 0] := by
    simpa using Row.new (w.alloc (.cells #[.int .i64 r.L, .int .i64 r.S, .slice A r.acc.length ca, .slice B r.next.length cb] 33)) [.int .i64 0, .slice none 0 0, .slice none 0 0, .slice none 0 0] 30
  have HR := Lib.hid (show _ ∧ _ from ⟨hr1, hr2⟩)
  clear ha hn hr1 hr2
  go_enter Try.func8, Try.ntmps8
  go_wp2_with fail
  refine (HV.out _ HB.out).mono ?_
  generalize (w.alloc (.cells #[.int .i64 r.L, .int .i64 r.S, .slice A r.acc.length ca, .slice B r.next.length cb] 33)).alloc (.cells #[.int .i64 0, .slice none 0 0, .slice none 0 0, .slice none 0 0] 30) = W1 at *
  rintro e W0 ⟨rfl, hb1⟩
  have HB1 := Lib.hid (below_step HB.out hb1)
  have HR1 := Lib.hid (HR.out.2.below hb1 HR.out.2.lt)
  have HT1 := Lib.hid (HR.out.1.below hb1 HR.out.1.lt)
  clear hb1
  by_cases hok : okR r = true
  · have HOK := Lib.hid (okR_out hok)
    obtain ⟨⟨t0, t1, t2, t3⟩, -⟩ := HT1.out.four
    by_cases hn : r.acc.length ≤ 10
    · have d1 : decide (10 < (r.acc.length : Int)) = false := by simp; omega
      have HRES := Lib.hid (show manyOfRes r = (manyR r, 0) by unfold manyOfRes; rw [if_pos hok, if_pos hn])
      have HLN := Lib.hid (show ∀ (s : Nat) x, r.next[s]? = some x → (x.length : Int) = r.L from HOK.out.len)
      have l2 := HOK.out.l2
      have nl : r.next.length ≤ 10 := by have := HOK.out.nl; omega
      have HCL := Lib.hid (fun W (hb : Below W0.heap.size W0 W) => cloneB_own (.slice A r.acc.length ca) r.acc W (keepsB _ _ _ _ HRA.out (below_step HB1.out hb)) (by omega))
      go_upto_region 5 with fail
      clear d1 hok
      have hpp := HT1.out.lt
      go_cut [4] from 19 to 27 (fun s4 wx => ∃ (po sa : Nat) (cv : Nat) (av : Option Addr), s4 = .pointer (some ⟨po, 0, none⟩) ∧ MofI w wx (w.heap.size + 1) po wx.heap.size r.L [r.S] r.acc (.slice (some ⟨sa, 0, none⟩) 1 1) (.slice av r.acc.length cv) (.slice none 0 0) [] ∧ Below W0.heap.size W0 wx)
      case first =>
        have HD := Lib.hid (show _ ∧ _ ∧ _ from ⟨t0, t1, t2⟩)
        go_region_held3 (fun W => W.cell? ⟨w.heap.size, 0, none⟩ = some (.int .i64 r.L) ∧ W.cell? ⟨w.heap.size, 1, none⟩ = some (.int .i64 r.S) ∧ W.cell? ⟨w.heap.size, 2, none⟩ = some (.slice A r.acc.length ca))
          (exact ⟨below_keep (by (repeat (first | with_reducible exact Below.refl _ _ | with_reducible exact HTc.out.bel | with_reducible refine Below.drew ?_ | with_reducible refine below_step ?_ (below_alloc _ _) | with_reducible refine Below.setCell ?_ (by first | exact Nat.le_refl _ | (dsimp only; omega)) _))) HD.out.1, below_keep (by (repeat (first | with_reducible exact Below.refl _ _ | with_reducible exact HTc.out.bel | with_reducible refine Below.drew ?_ | with_reducible refine below_step ?_ (below_alloc _ _) | with_reducible refine Below.setCell ?_ (by first | exact Nat.le_refl _ | (dsimp only; omega)) _))) HD.out.2.1, below_keep (by (repeat (first | with_reducible exact Below.refl _ _ | with_reducible exact HTc.out.bel | with_reducible refine Below.drew ?_ | with_reducible refine below_step ?_ (below_alloc _ _) | with_reducible refine Below.setCell ?_ (by first | exact Nat.le_refl _ | (dsimp only; omega)) _))) HD.out.2.2⟩)
          (first | (go_at_call 26; (with_reducible refine (HCL.out _ ?_).mono ?_); (focus (repeat (first | with_reducible exact Below.refl _ _ | with_reducible exact HTc.out.bel | with_reducible refine Below.drew ?_ | with_reducible refine below_step ?_ (below_alloc _ _) | with_reducible refine Below.setCell ?_ (by first | exact Nat.le_refl _ | (dsimp only; omega)) _))); rintro e wk ⟨u0, bk, rfl, hu, hbk⟩; obtain ⟨Bk, ck, rfl⟩ := owB_shape hu; (first | (have HTc := Lib.hid (Rg.cong (oa' := none) (ox' := none) (Rg.c (Rg.base (W0 := W0) (S := r.S) (acc := r.acc)) hbk hu) (by first | rfl | simp) (by first | rfl | simp) rfl rfl)) | (have HTc := Lib.hid (Rg.cong (oa' := (some W0.heap.size)) (ox' := none) (Rg.c (Rg.a (Rg.base (W0 := W0) (S := r.S) (acc := r.acc))) hbk hu) (by first | rfl | simp) (by first | rfl | simp) rfl rfl)) | (have HTc := Lib.hid (Rg.cong (oa' := none) (ox' := (some W0.heap.size)) (Rg.c (Rg.x (Rg.base (W0 := W0) (S := r.S) (acc := r.acc)) _ _ _ _) hbk hu) (by first | rfl | simp) (by first | rfl | simp) rfl rfl); obtain ⟨⟨x0, x1, x2, x3⟩, xf⟩ := (HTc.out.rx _ rfl).2.1.four; have lx := HTc.out.oldX rfl) | (have HTc := Lib.hid (Rg.cong (oa' := (some W0.heap.size)) (ox' := (some (W0.heap.size + 1))) (Rg.c (Rg.x (Rg.a (Rg.base (W0 := W0) (S := r.S) (acc := r.acc))) _ _ _ _) hbk hu) (by first | rfl | simp) (by first | rfl | simp) rfl rfl); obtain ⟨⟨x0, x1, x2, x3⟩, xf⟩ := (HTc.out.rx _ rfl).2.1.four; have lx := HTc.out.oldX rfl) | (have HTc := Lib.hid (Rg.cong (oa' := (some (W0.heap.size + 1))) (ox' := (some W0.heap.size)) (Rg.c (Rg.a (Rg.x (Rg.base (W0 := W0) (S := r.S) (acc := r.acc)) _ _ _ _)) hbk hu) (by first | rfl | simp) (by first | rfl | simp) rfl rfl); obtain ⟨⟨x0, x1, x2, x3⟩, xf⟩ := (HTc.out.rx _ rfl).2.1.four; have lx := HTc.out.oldX rfl) | (have HTc := Lib.hid (Rg.cong (oa' := none) (ox' := none) (Rg.c (Rg.drew (Rg.base (W0 := W0) (S := r.S) (acc := r.acc))) hbk hu) (by first | rfl | simp) (by first | rfl | simp) rfl rfl)) | (have HTc := Lib.hid (Rg.cong (oa' := (some W0.heap.size)) (ox' := none) (Rg.c (Rg.drew (Rg.a (Rg.base (W0 := W0) (S := r.S) (acc := r.acc)))) hbk hu) (by first | rfl | simp) (by first | rfl | simp) rfl rfl)) | (have HTc := Lib.hid (Rg.cong (oa' := none) (ox' := (some W0.heap.size)) (Rg.c (Rg.drew (Rg.x (Rg.base (W0 := W0) (S := r.S) (acc := r.acc)) _ _ _ _)) hbk hu) (by first | rfl | simp) (by first | rfl | simp) rfl rfl); obtain ⟨⟨x0, x1, x2, x3⟩, xf⟩ := (HTc.out.rx _ rfl).2.1.four; have lx := HTc.out.oldX rfl) | (have HTc := Lib.hid (Rg.cong (oa' := (some W0.heap.size)) (ox' := (some (W0.heap.size + 1))) (Rg.c (Rg.drew (Rg.x (Rg.a (Rg.base (W0 := W0) (S := r.S) (acc := r.acc))) _ _ _ _)) hbk hu) (by first | rfl | simp) (by first | rfl | simp) rfl rfl); obtain ⟨⟨x0, x1, x2, x3⟩, xf⟩ := (HTc.out.rx _ rfl).2.1.four; have lx := HTc.out.oldX rfl) | (have HTc := Lib.hid (Rg.cong (oa' := (some (W0.heap.size + 1))) (ox' := (some W0.heap.size)) (Rg.c (Rg.drew (Rg.a (Rg.x (Rg.base (W0 := W0) (S := r.S) (acc := r.acc)) _ _ _ _))) hbk hu) (by first | rfl | simp) (by first | rfl | simp) rfl rfl); obtain ⟨⟨x0, x1, x2, x3⟩, xf⟩ := (HTc.out.rx _ rfl).2.1.four; have lx := HTc.out.oldX rfl) | (have HTc := Lib.hid (Rg.cong (oa' := none) (ox' := none) (Rg.c (Rg.drew (Rg.drew (Rg.base (W0 := W0) (S := r.S) (acc := r.acc)))) hbk hu) (by first | rfl | simp) (by first | rfl | simp) rfl rfl)) | (have HTc := Lib.hid (Rg.cong (oa' := (some W0.heap.size)) (ox' := none) (Rg.c (Rg.drew (Rg.drew (Rg.a (Rg.base (W0 := W0) (S := r.S) (acc := r.acc))))) hbk hu) (by first | rfl | simp) (by first | rfl | simp) rfl rfl)) | (have HTc := Lib.hid (Rg.cong (oa' := none) (ox' := (some W0.heap.size)) (Rg.c (Rg.drew (Rg.drew (Rg.x (Rg.base (W0 := W0) (S := r.S) (acc := r.acc)) _ _ _ _))) hbk hu) (by first | rfl | simp) (by first | rfl | simp) rfl rfl); obtain ⟨⟨x0, x1, x2, x3⟩, xf⟩ := (HTc.out.rx _ rfl).2.1.four; have lx := HTc.out.oldX rfl) | (have HTc := Lib.hid (Rg.cong (oa' := (some W0.heap.size)) (ox' := (some (W0.heap.size + 1))) (Rg.c (Rg.drew (Rg.drew (Rg.x (Rg.a (Rg.base (W0 := W0) (S := r.S) (acc := r.acc))) _ _ _ _))) hbk hu) (by first | rfl | simp) (by first | rfl | simp) rfl rfl); obtain ⟨⟨x0, x1, x2, x3⟩, xf⟩ := (HTc.out.rx _ rfl).2.1.four; have lx := HTc.out.oldX rfl) | (have HTc := Lib.hid (Rg.cong (oa' := (some (W0.heap.size + 1))) (ox' := (some W0.heap.size)) (Rg.c (Rg.drew (Rg.drew (Rg.a (Rg.x (Rg.base (W0 := W0) (S := r.S) (acc := r.acc)) _ _ _ _)))) hbk hu) (by first | rfl | simp) (by first | rfl | simp) rfl rfl); obtain ⟨⟨x0, x1, x2, x3⟩, xf⟩ := (HTc.out.rx _ rfl).2.1.four; have lx := HTc.out.oldX rfl) | (have HTc := Lib.hid (Rg.cong (oa' := none) (ox' := none) (Rg.c (Rg.drew (Rg.drew (Rg.drew (Rg.base (W0 := W0) (S := r.S) (acc := r.acc))))) hbk hu) (by first | rfl | simp) (by first | rfl | simp) rfl rfl)) | (have HTc := Lib.hid (Rg.cong (oa' := (some W0.heap.size)) (ox' := none) (Rg.c (Rg.drew (Rg.drew (Rg.drew (Rg.a (Rg.base (W0 := W0) (S := r.S) (acc := r.acc)))))) hbk hu) (by first | rfl | simp) (by first | rfl | simp) rfl rfl)) | (have HTc := Lib.hid (Rg.cong (oa' := none) (ox' := (some W0.heap.size)) (Rg.c (Rg.drew (Rg.drew (Rg.drew (Rg.x (Rg.base (W0 := W0) (S := r.S) (acc := r.acc)) _ _ _ _)))) hbk hu) (by first | rfl | simp) (by first | rfl | simp) rfl rfl); obtain ⟨⟨x0, x1, x2, x3⟩, xf⟩ := (HTc.out.rx _ rfl).2.1.four; have lx := HTc.out.oldX rfl) | (have HTc := Lib.hid (Rg.cong (oa' := (some W0.heap.size)) (ox' := (some (W0.heap.size + 1))) (Rg.c (Rg.drew (Rg.drew (Rg.drew (Rg.x (Rg.a (Rg.base (W0 := W0) (S := r.S) (acc := r.acc))) _ _ _ _)))) hbk hu) (by first | rfl | simp) (by first | rfl | simp) rfl rfl); obtain ⟨⟨x0, x1, x2, x3⟩, xf⟩ := (HTc.out.rx _ rfl).2.1.four; have lx := HTc.out.oldX rfl) | (have HTc := Lib.hid (Rg.cong (oa' := (some (W0.heap.size + 1))) (ox' := (some W0.heap.size)) (Rg.c (Rg.drew (Rg.drew (Rg.drew (Rg.a (Rg.x (Rg.base (W0 := W0) (S := r.S) (acc := r.acc)) _ _ _ _))))) hbk hu) (by first | rfl | simp) (by first | rfl | simp) rfl rfl); obtain ⟨⟨x0, x1, x2, x3⟩, xf⟩ := (HTc.out.rx _ rfl).2.1.four; have lx := HTc.out.oldX rfl)); have hszc := HTc.out.bel.size; clear hu))
        all_goals
          go_wp2_with fail
          go_meet
          refine Rg.made ?_ HB1.out HR1.out (by omega)
          iterate 5 apply Exists.intro
          apply And.intro
          (focus (repeat (first | with_reducible exact Rg.base | with_reducible exact HTc.out | with_reducible apply Rg.drew | with_reducible apply Rg.a | with_reducible apply Rg.e | with_reducible apply Rg.x | with_reducible apply Rg.set4)))
          exact ⟨_, _, _, _, _, rfl, rfl, rfl, rfl, (by first | with_reducible rfl | (simp; done)), (by first | with_reducible rfl | (simp; done))⟩
      case rest =>
        obtain ⟨po, sa, cv, av, rfl, hI0, hb0⟩ := hcut
        have HTW := Lib.hid (HT1.out.below hb0 HT1.out.lt)
        have HI0 := Lib.hid hI0
        clear t0 t1 t2 t3 hpp hI0 hb0
        obtain ⟨⟨t0, t1, t2, t3⟩, -⟩ := HTW.out.four
        have tl := HTW.out.lt
        obtain ⟨lo, hlo⟩ : ∃ lo, wc.heap.size = lo := ⟨_, rfl⟩
        rw [hlo] at HI0
        have HLO := Lib.hid hlo
        clear hlo
        go_wp2
        clear t0 t1 t2 t3 tl
        go_loopw [31] (fun i wr => ∃ (k : Nat) (vm : Value), k ≤ r.next.length ∧ i = .int .i64 k ∧ MofI w wr (w.heap.size + 1) po lo r.L [r.S] r.acc (.slice (some ⟨sa, 0, none⟩) 1 1) (.slice av r.acc.length cv) vm ((r.next.map wideR).take k)) (fun i _ => r.next.length - (intOf i).toNat)
        case atStart => exact ⟨0, _, Nat.zero_le _, rfl, by simpa using HI0.out⟩
        case round =>
          clear HI0
          obtain ⟨wo, hwo⟩ : ∃ wo, wo = wr := ⟨wr, rfl⟩
          subst hwo
          obtain ⟨k, vm, hk, rfl, hI⟩ := hrel
          by_cases hlt : k < r.next.length
          · obtain ⟨b, off, ux, x, rfl, hx, hc, hRx⟩ := a3 k hlt
            have hxl := HLN.out k x hx
            have hx5 : x.length ≤ 5 := by omega
            obtain ⟨C, cx, rfl, x1, x2, x3⟩ := RdI.open hRx
            unfold maxLen at x2
            have gc := below_keep hI.bel hc
            have HTK := Lib.hid (show (r.next.map wideR).take (k + 1) = (r.next.map wideR).take k ++ [wideR x] from take_succ_of (by simp [hx]))
            have hylen : ((r.next.map wideR).take k).length = k := by simp; omega
            have HI := Lib.hid hI
            have HYL := Lib.hid hylen
            have hmk := run_make_row' (P := Try.prog) 23 27 (.slice none 0 0) 24 Try.underlying23 infoIs rfl .i64 .i64 x.length (by omega) (by omega)
            have h0 := fam_whole (goodV ints 2) (lo := wo.heap.size) (Row.made wo (.slice none 0 0) x.length 27) (xs := rowPart x 0) (bss := List.replicate x.length []) (by rw [rowPart_zero]; simp) (by simp) (by simp; unfold maxLen; omega) (fun i u y bb hu hy hbb => by
              rw [rowPart_zero] at hy
              simp only [List.getElem?_replicate] at hu hy hbb
              split at hu
              · rw [if_pos (by assumption)] at hy hbb
                cases hu; cases hy; cases hbb
                exact owV_nil ints [] rfl _ _ _
              · cases hu) (by simp) (Nat.le_refl _)
            rw [rowPart_len (Nat.zero_le _)] at h0
            have H0 := Lib.hid (show ∃ bs, OwL (OwV ints 2) 27 (wo.alloc (.cells (madeCells #[.slice none 0 0] x.length) 27)) wo.heap.size (.slice (some ⟨wo.heap.size, 0, none⟩) x.length x.length) (rowPart x 0) bs from ⟨_, h0⟩)
            have HXB := Lib.hid hI.bel
            have i1 : (0 : Int) ≤ k := by omega
            have i2 : (k : Int) < r.next.length := by omega
            clear hx hc hRx hI hylen h0 hxl
            go_wp2
            clear hmk gc
            have HBM := Lib.hid (below_alloc wo (.cells (madeCells #[.slice none 0 0] x.length) 27))
            generalize wo.alloc (.cells (madeCells #[.slice none 0 0] x.length) 27) = W4 at *
            go_loopw [40] (fun i wi => ∃ c : Nat, c ≤ x.length ∧ i = .int .i64 c ∧ Below wo.heap.size wo wi ∧ ∃ bs, OwL (OwV ints 2) 27 wi wo.heap.size (.slice (some ⟨wo.heap.size, 0, none⟩) x.length x.length) (rowPart x c) bs) (fun i _ => x.length - (intOf i).toNat)
            case atStart => exact ⟨0, Nat.zero_le _, rfl, HBM.out, H0.out⟩
            case round =>
              clear H0 HBM
              obtain ⟨c, hc, rfl, hb, bs, hO⟩ := hrel
              have HQ := Lib.hid (show _ ∧ _ from ⟨hb, hO⟩)
              by_cases hlc : c < x.length
              · obtain ⟨bt, offt, tx, rfl, ht, hct⟩ := x3 c hlc
                have hbw := below_step HXB.out hb
                have gt := below_keep hbw hct
                have HT := Lib.hid ht
                have j1 : (0 : Int) ≤ c := by omega
                have j2 : (c : Int) < x.length := by omega
                clear ht hct hb hbw
                have HS := Lib.hid (rowPart_set HT.out)
                obtain ⟨g', cap', u, bu, hv, hcu, hfu, hgl, hlo, hRu, hgb, hsub, hset⟩ := OwL.memberNew (goodV ints 2) hO (rowPart_at hlc)
                rw [rowPart_len hc] at hv
                cases hv
                have hnew : OwV ints 2 (wr.alloc (.cells #[.int .i64 tx] 2)) wo.heap.size (.slice (some ⟨wr.heap.size, 0, none⟩) 1 1) [tx] [wr.heap.size] := by
                  have hrw : Row (wr.alloc (.cells #[.int .i64 tx] 2)) wr.heap.size 2 (ints [tx]) := Row.new wr [.int .i64 tx] 2
                  exact ⟨hrw.own (by have := HQ.out.1.size; omega) (by simp [ints, maxLen]), rfl⟩
                obtain ⟨bs', hO', -⟩ := hset _ _ _ _ hnew (fun k hk _ => (below_alloc wr (.cells #[.int .i64 tx] 2)).block k hk) (fun c hc => by simp at hc; omega)
                rw [HS.out] at hO'
                have hbe := (below_step HQ.out.1 (below_alloc wr (.cells #[.int .i64 tx] 2))).setCell (p := ⟨wo.heap.size, c, none⟩) (Nat.le_refl _) (.slice (some ⟨wr.heap.size, 0, none⟩) 1 1)
                have he2 := World.setCell_alloc_past (w := wr) (.cells #[.int .i64 tx] 2) wo.heap.size c (.slice (some ⟨wr.heap.size, 0, none⟩) 1 1) (by omega)
                rw [he2] at hbe hO'
                have HE := Lib.hid (show _ ∧ _ from ⟨hbe, hO'⟩)
                clear he2 hO hRu hgb hsub hset hnew hO' hbe
                go_wp2
                go_roundw
                case rel => exact ⟨c + 1, by omega, by go_num, HE.out.1, bs', HE.out.2⟩
                case measure => simp [intOf]; omega
              · obtain rfl : c = x.length := by omega
                rw [rowPart_full] at hO
                have hIw := HI.out.below hb
                obtain ⟨⟨b0, b1, b2, b3⟩, -⟩ := hIw.box.four
                have bf := hIw.box.free 3
                have lbx := hIw.box.lt
                obtain ⟨⟨Bv, kv, hvm⟩, hpo, vs, how, hbv, hgrow⟩ := HI.out.grow
                rw [HYL.out] at hvm how hgrow
                subst hvm
                have HH := Lib.hid (show _ ∧ _ ∧ _ ∧ _ ∧ _ ∧ _ from ⟨hpo, rows_below how hb, hbv, hgrow, hb, hO⟩)
                have hsz := hb.size
                have hl3 := HI.out.lt3
                clear hpo how hbv hgrow hb hO hIw x3
                go_wp2_with (at_builtin; refine wpList_append_lies _ rfl _ _ 28 rfl lo 23 il _ 1 24 Try.underlying28 hil hzl0 hzl1 hzl2 rfl (by decide) (.slice Bv k kv) k _ rfl (HH.out.2.1.alloc _) ⟨wr.heap.size, 0, none⟩ 1 1 [.slice (some ⟨wo.heap.size, 0, none⟩) x.length x.length] rfl rfl (World.news_of_block (cs := #[.slice (some ⟨wo.heap.size, 0, none⟩) x.length x.length]) (t := 23) (fr := (0, 0)) (heap_alloc_new wr _)) (by simp [Value.oneCell']) (by omega) (by unfold maxLen; omega) (by omega) (by simp; omega) (wr.heap.size + 1) (by simp) ?_; intro g cap w5 hown5 hgrow5 hat5 hlt5; have r1 := grown_cell hgrow5 HH.out.1 (below_keep (below_alloc _ _) b3); have r2 := grown_free hgrow5 HH.out.1 (by simp; omega) (below_keepf (below_alloc _ _) lbx bf); have r3 := World.block_lt_of_cell? _ _ r1; have HE := Lib.hid (HH.out.2.2.2.1 wr _ _ _ HH.out.2.2.2.2.1 HH.out.2.2.2.2.2 _ w5 g (k + 1) cap hgrow5 hown5 hat5); clear hown5 hgrow5 hat5 hlt5)
                go_roundw
                case rel => exact ⟨k + 1, _, by omega, by go_num, by rw [HTK.out]; exact HE.out⟩
                case measure => simp [intOf]; omega
          · obtain rfl : k = r.next.length := by omega
            obtain ⟨Bv, nv, kv, rfl⟩ : ∃ Bv nv kv, vm = .slice Bv nv kv := by
              obtain ⟨bs0, hO0⟩ := hI.nx
              obtain ⟨B, c, e⟩ := OwL.shape hO0
              exact ⟨_, _, _, e⟩
            obtain ⟨⟨b0, b1, b2, b3⟩, -⟩ := hI.box.four
            have lb := hI.box.lt
            obtain ⟨⟨z0, z1, z2, z3⟩, zf⟩ := hI.res.four
            have lz := hI.res.lt
            have HI := Lib.hid hI
            clear hI a3
            go_wp2
            obtain ⟨W, hW, ⟨y0, y1, y2, y3⟩, ⟨bo, hO⟩, hbz⟩ := HI.out.stored
            rw [← hW]
            clear hW
            refine bodyPost_ret (v := .tuple #[.agg #[.int .i64 r.L, .slice (some ⟨sa, 0, none⟩) 1 1, .slice av r.acc.length cv, .slice Bv nv kv], .int .i64 0]) (by simp [results, Try.results8, go_sem, y0, y1, y2, y3]) rfl ?_
            rw [HRES.out]
            rw [List.take_of_length_le (by simp)] at hO
            exact ⟨_, _, rfl, hO, hbz⟩
    · have d1 : decide (10 < (r.acc.length : Int)) = true := by simp; omega
      have HRES := Lib.hid (show manyOfRes r = (⟨0, [], [], []⟩, 3) by unfold manyOfRes; rw [if_pos hok, if_neg hn])
      clear hn a3
      obtain ⟨⟨z0, z1, z2, z3⟩, zf⟩ := HR1.out.four
      have lz := HR1.out.lt
      go_wp2
      have hrow := (((HR1.out.stored 0 (.int .i64 0)).stored 1 (.slice none 0 0)).stored 2 (.slice none 0 0)).stored 3 (.slice none 0 0)
      obtain ⟨⟨y0, y1, y2, y3⟩, -⟩ := (show Row _ _ 30 [.int .i64 0, .slice none 0 0, .slice none 0 0, .slice none 0 0] from hrow).four
      have hbz := (((HB1.out.setCell (p := ⟨w.heap.size + 1, 0, none⟩) (by show w.heap.size ≤ w.heap.size + 1; omega) (.int .i64 0)).setCell (p := ⟨w.heap.size + 1, 1, none⟩) (by show w.heap.size ≤ w.heap.size + 1; omega) (.slice none 0 0)).setCell (p := ⟨w.heap.size + 1, 2, none⟩) (by show w.heap.size ≤ w.heap.size + 1; omega) (.slice none 0 0)).setCell (p := ⟨w.heap.size + 1, 3, none⟩) (by show w.heap.size ≤ w.heap.size + 1; omega) (.slice none 0 0)
      refine bodyPost_ret (v := .tuple #[.agg #[.int .i64 0, .slice none 0 0, .slice none 0 0, .slice none 0 0], .int .i64 3]) (by simp [results, Try.results8, go_sem, y0, y1, y2, y3]) rfl ?_
      rw [HRES.out]
      exact ⟨_, [], rfl, ⟨_, _, _, [], [], [], rfl, owV_nil ints [] rfl _ _ _, owV_nil bools [] rfl _ _ _, owL_nil _ _ _ _, rfl, by simp⟩, hbz⟩
  · have hok' : okR r = false := by simpa using hok
    have HRES := Lib.hid (show manyOfRes r = (⟨0, [], [], []⟩, 1) by unfold manyOfRes; rw [if_neg hok])
    clear hok a3
    obtain ⟨⟨z0, z1, z2, z3⟩, zf⟩ := HR1.out.four
    have lz := HR1.out.lt
    go_wp2
    have hrow := (((HR1.out.stored 0 (.int .i64 0)).stored 1 (.slice none 0 0)).stored 2 (.slice none 0 0)).stored 3 (.slice none 0 0)
    obtain ⟨⟨y0, y1, y2, y3⟩, -⟩ := (show Row _ _ 30 [.int .i64 0, .slice none 0 0, .slice none 0 0, .slice none 0 0] from hrow).four
    have hbz := (((HB1.out.setCell (p := ⟨w.heap.size + 1, 0, none⟩) (by show w.heap.size ≤ w.heap.size + 1; omega) (.int .i64 0)).setCell (p := ⟨w.heap.size + 1, 1, none⟩) (by show w.heap.size ≤ w.heap.size + 1; omega) (.slice none 0 0)).setCell (p := ⟨w.heap.size + 1, 2, none⟩) (by show w.heap.size ≤ w.heap.size + 1; omega) (.slice none 0 0)).setCell (p := ⟨w.heap.size + 1, 3, none⟩) (by show w.heap.size ≤ w.heap.size + 1; omega) (.slice none 0 0)
    refine bodyPost_ret (v := .tuple #[.agg #[.int .i64 0, .slice none 0 0, .slice none 0 0, .slice none 0 0], .int .i64 1]) (by simp [results, Try.results8, go_sem, y0, y1, y2, y3]) rfl ?_
    rw [HRES.out]
    exact ⟨_, [], rfl, ⟨_, _, _, [], [], [], rfl, owV_nil ints [] rfl _ _ _, owV_nil bools [] rfl _ _ _, owL_nil _ _ _ _, rfl, by simp⟩, hbz⟩
end Go.Proofs.Ytcofcgijlbppkaa
