/-
  Crossing sequences: the program's walk.
-/
import Derived.Test.YtdkalefepdlccaaCr2
import Derived.BigRegion
namespace Go.Proofs.Ytdkalefepdlccaa
open Go.RowKit

def heldAppendC (ats : Array TypeId) (ty : TypeId) (args : Array Value) : Sem Value := Builtin.append_ ats ty args
theorem builtin_append_heldC (ats : Array TypeId) (ty : TypeId) (cs : Array Bool) (args : Array Value) : builtin .append ats ty cs args = (do pure (.value (← heldAppendC ats ty args))) := rfl
theorem undrewC {w w' : World} {r : Option Nat} (h : w.drew.grownBy w' r) : w.grownBy w' r := ⟨h.os, h.tape, h.output, h.size, h.block⟩

theorem countBorders_any (s : ByteArray) (w : World) (hs : s.size ≤ 60) :
    Calls Try.prog 73 #[.string s] w fun e w' => e = .returned (.int .i64 ((s.size + 1 : Nat) : Int)) ∧ w = w' := by
  have HC := Lib.hid (countCells_any s w hs)
  go_enter Try.func73, Try.ntmps73
  go_wp2_with fail
  refine HC.out.mono ?_
  rintro e w' ⟨rfl, rfl⟩
  go_wp2
  go_ret
  exact ⟨ret_int (by push_cast; omega), rfl⟩

section
attribute [local go_sem ↓ high] builtin_append_heldC
set_option maxRecDepth 100000 in
set_option maxHeartbeats 6400000 in
theorem implCrossings_own (v : Value) (t : TData) (s : ByteArray) (w : World) (h : RdT w v t) (hs : s.size ≤ maxLen) :
    Calls Try.prog 36 #[v, .string s] w fun e w' => ∃ u bs, e = .returned (.tuple #[u, .int .i64 (crossRes t s).2]) ∧ OwL (OwV ints 2) 42 w' w.heap.size u (crossRes t s).1 bs ∧ Below w.heap.size w w' := by
  obtain ⟨im, him, hzm0, hzm1, hzm2⟩ := info_parts infoI64
  have HG := Lib.hid (fun W (hb : Below w.heap.size w W) => wordCode_any v t s W (keepsT _ _ _ _ h hb) hs)
  have HC := Lib.hid (fun W (hb : Below w.heap.size w W) (ok : OkT t) hl h6 => courseOn_own v t s W (keepsT _ _ _ _ h hb) ok hl h6)
  obtain ⟨A, c, rfl⟩ := h.shape
  have HR := Lib.hid (Row.new w [.int .i64 t.L, .int .i64 t.S, .slice A t.mv.length c] 31)
  have HB := Lib.hid (below_alloc w (.cells #[.int .i64 t.L, .int .i64 t.S, .slice A t.mv.length c] 31))
  clear h
  go_enter Try.func36, Try.ntmps36
  go_wp2_with fail
  refine (HG.out _ HB.out).mono ?_
  rintro e w1 ⟨rfl, hb1⟩
  have HB1 := Lib.hid (below_step HB.out hb1)
  obtain ⟨⟨b0, b1, b2⟩, -⟩ := (HR.out.below hb1 HR.out.lt).three
  clear hb1
  rcases givenC_or t s with hg | hg
  · obtain ⟨ok1, ok2⟩ := givenC_zero hg
    obtain ⟨s60, hl⟩ := okWord_parts ok2
    have hlen := run_len t s hg
    have HG0 := Lib.hid hg
    have HS60 := Lib.hid s60
    have HPL := Lib.hid (run_ok (okT_out ok1) hl)
    have HPOS := Lib.hid (run_pos t s)
    have HCC := Lib.hid (HC.out w1 HB1.out (okT_out ok1) hl s60)
    rw [hg]
    clear hg ok1 ok2 s60 hl
    go_wp2_with fail
    refine HCC.out.mono ?_
    rintro e w2 ⟨u, bs, rfl, hu, hb2⟩
    rcases hu.nil_or with ⟨rfl, hnil⟩ | ⟨gP, cap, rfl, rfl, hcn, -⟩
    · have h0 := HPOS.out
      have := congrArg List.length hnil
      simp at this
      simp [this] at h0
    have HB2 := Lib.hid (below_step HB1.out hb2)
    have HRD := Lib.hid hu.rd
    clear hu hb2 b0 b1 b2
    have hlc : ((runN t s).places.map pI).length = (runN t s).places.length := by simp
    rw [hlc] at HRD hcn ⊢
    clear hlc
    by_cases hv : (runN t s).verdict = 3
    · have d1 : ((runN t s).verdict == 3) = true := by simpa using hv
      have HRES := Lib.hid (show crossRes t s = ([], 4) by simp [crossRes, HG0.out, hv])
      clear hv hlen hcn
      go_wp2
      refine bodyPost_ret (v := .tuple #[.slice none 0 0, .int .i64 4]) (by simp [results, Try.results36, go_sem]) rfl ?_
      rw [HRES.out]
      exact ⟨_, _, rfl, owL_nil _ _ _ _, below_step HB2.out (below_alloc _ _)⟩
    · have d1 : ((runN t s).verdict == 3) = false := by simpa using hv
      have HRES := Lib.hid (show crossRes t s = (crossN t s, 0) by simp [crossRes, HG0.out, hv])
      have HCN := Lib.hid (show crossN t s = crossL s.size (runN t s).places ((runN t s).places.length - 1) from rfl)
      clear hv
      generalize hpl : (runN t s).places = pl at *
      generalize (runN t s).verdict = vd at *
      generalize (runN t s).loop = lp at *
      clear hpl
      have hpos := HPOS.out
      obtain ⟨m, hm⟩ : ∃ m, pl.length = m + 1 := ⟨pl.length - 1, by omega⟩
      have HM := Lib.hid hm
      have hcb := below_alloc w2 (.cells #[.slice (some ⟨gP, 0, none⟩) (m + 1) cap, .int .i64 vd, .int .i64 (lp : Int)] 89)
      have hrc := Row.new w2 [.slice (some ⟨gP, 0, none⟩) (m + 1) cap, .int .i64 vd, .int .i64 (lp : Int)] 89
      rw [hm] at HRD hcn hlen ⊢
      have HRD3 := Lib.hid (keepsP _ _ _ _ HRD.out hcb)
      have HB3 := Lib.hid (below_step HB2.out hcb)
      have HRC := Lib.hid hrc
      have HLT := Lib.hid (show w2.heap.size < _ from hrc.lt)
      obtain ⟨Z, hZ⟩ : ∃ Z : Nat, Z = s.size + 1 := ⟨_, rfl⟩
      have HZ := Lib.hid hZ
      have HCB := Lib.hid (show ∀ W, Calls Try.prog 73 #[.string s] W fun e w' => e = .returned (.int .i64 (Z : Int)) ∧ W = w' from fun W => (countBorders_any s W HS60.out).mono fun e w' hh => ⟨hh.1.trans (by rw [hZ]), hh.2⟩)
      have hmk := run_make_row' (P := Try.prog) 47 42 (.slice none 0 0) 24 Try.underlying47 infoIs rfl .i64 .i64 Z (by have := HS60.out; omega) (by have := HS60.out; omega)
      clear hm hpos hrc hcb HRD hZ
      obtain ⟨B0, hB0⟩ : ∃ B0 : Value, B0 = .slice (some ⟨gP, 0, none⟩) (m + 1) cap := ⟨_, rfl⟩
      obtain ⟨c0, hcap⟩ | ⟨c0, hcap⟩ : (m = 0 ∧ cap = 1) ∨ (m ≤ cap - 1 ∧ 1 < cap) := by omega
      · subst c0; subst hcap
        clear hB0
        go_wp2_with (go_at_call 73; refine (HCB.out _).mono ?_; rintro e w' ⟨rfl, rfl⟩)
        clear hmk
        have HI0 := CrI.start (w2.alloc (.cells #[.slice (some ⟨gP, 0, none⟩) (0 + 1) 1, .int .i64 vd, .int .i64 (lp : Int)] 89)) s.size HS60.out pl
        rw [show (w2.alloc (.cells #[.slice (some ⟨gP, 0, none⟩) (0 + 1) 1, .int .i64 vd, .int .i64 (lp : Int)] 89)).heap.size = w2.heap.size + 1 by simp, ← HZ.out] at HI0
        have HI0 := Lib.hid HI0
        simp only [Nat.zero_add] at *
        generalize hW3 : w2.alloc (.cells #[.slice (some ⟨gP, 0, none⟩) 1 1, .int .i64 vd, .int .i64 (lp : Int)] 89) = W3 at *
        generalize W3.alloc (.cells (madeCells #[.slice none 0 0] Z) 42) = W4 at *
        clear hW3
        refine wp_loop_rounds 1 ?_
        rw [rounds_succ]
        go_wp2
        obtain ⟨hb, bs', hO⟩ := HI0.out
        refine bodyPost_ret (v := .tuple #[.slice (some ⟨w2.heap.size + 1, 0, none⟩) Z Z, .int .i64 0]) (by simp [results, Try.results36, go_sem]) rfl ?_
        rw [HRES.out, HCN.out, HM.out]
        have hO := (goodL (goodV ints 2) 42).mono hO HB3.out.size
        rw [← HZ.out] at hO
        exact ⟨_, _, rfl, hO, HB3.out.trans (hb.mono HB3.out.size)⟩
      · have k1 : (1 : Int) ≤ cap := by omega
        have k2 : ((m : Int) + 1) ≤ cap := by omega
        have k3 : (1 : Int) ≤ ((m : Int) + 1) := by omega
        have k4 : (1 : Int) ≠ cap := by omega
        clear hB0
        go_wp2_with (go_at_call 73; refine (HCB.out _).mono ?_; rintro e w' ⟨rfl, rfl⟩)
        clear hmk k1 k2 k3 k4
        have HI0 := CrI.start (w2.alloc (.cells #[.slice (some ⟨gP, 0, none⟩) (m + 1) cap, .int .i64 vd, .int .i64 (lp : Int)] 89)) s.size HS60.out pl
        rw [show (w2.alloc (.cells #[.slice (some ⟨gP, 0, none⟩) (m + 1) cap, .int .i64 vd, .int .i64 (lp : Int)] 89)).heap.size = w2.heap.size + 1 by simp, ← HZ.out] at HI0
        have HI0 := Lib.hid HI0
        generalize hW3 : w2.alloc (.cells #[.slice (some ⟨gP, 0, none⟩) (m + 1) cap, .int .i64 vd, .int .i64 (lp : Int)] 89) = W3 at *
        generalize W3.alloc (.cells (madeCells #[.slice none 0 0] Z) 42) = W4 at *
        clear hW3
        go_loopw [32] (fun i wr => ∃ k : Nat, k ≤ m ∧ i = .int .i64 k ∧ CrI W3 (w2.heap.size + 1) Z s.size pl k wr) (fun i _ => m - (intOf i).toNat)
        case atStart => exact ⟨0, Nat.zero_le _, rfl, HI0.out⟩
        case round =>
          clear HI0
          obtain ⟨k, hk, rfl, hI⟩ := hrel
          have HI := Lib.hid hI
          have hb := hI.1
          clear hI
          by_cases hlt : k < m
          · have hml := HM.out
            obtain ⟨p, hp⟩ : ∃ p, pl[k]? = some p := ⟨_, List.getElem?_eq_getElem (by omega)⟩
            obtain ⟨q, hq⟩ : ∃ q, pl[k + 1]? = some q := ⟨_, List.getElem?_eq_getElem (by omega)⟩
            have hrd := keepsP _ _ _ _ HRD3.out hb
            obtain ⟨b, off, hB1, c0, c1⟩ := rdP_at hrd (i := k) (m := pI p) (by rw [List.getElem?_map, hp]; rfl)
            cases hB1
            obtain ⟨b, off, hB1, d0, d1⟩ := rdP_at hrd (i := k + 1) (m := pI q) (by rw [List.getElem?_map, hq]; rfl)
            cases hB1
            rw [show 0 + (k + 1) * 2 = 2 + k * 2 by omega] at d0 d1
            rw [Nat.zero_add] at c0 c1
            unfold pI at c0 c1 d0 d1
            simp only at c0 c1 d0 d1
            obtain ⟨⟨e0, e1, e2⟩, -⟩ := (HRC.out.below hb HLT.out).three
            have hpo := (HPL.out p (List.mem_of_getElem? hp)).2
            have hqo := (HPL.out q (List.mem_of_getElem? hq)).2
            have HP := Lib.hid (show _ ∧ _ from ⟨hp, hq⟩)
            have i1 : (0 : Int) ≤ k := by omega
            have i2 : (k : Int) < m := by omega
            have i3 : (k : Int) < (m : Int) + 1 := by omega
            have lc := World.block_lt_of_cell? _ _ c0
            have le := World.block_lt_of_cell? _ _ e0
            clear hb hp hq hrd hml
            by_cases heq : p.2 = q.2
            · have g1 : ((p.2 : Int) != (q.2 : Int)) = false := by simp [heq]
              have HE := Lib.hid (show CrI W3 (w2.heap.size + 1) Z s.size pl (k + 1) ((wr.alloc (.cells #[.int .i64 (q.1 : Int), .int .i64 (q.2 : Int)] 70)).alloc (.cells #[.int .i64 (p.1 : Int), .int .i64 (p.2 : Int)] 70)) from ((HI.out.same HP.out.1 HP.out.2 heq).below (below_alloc _ _)).below (below_alloc _ _))
              clear heq
              go_wp2
              go_roundw
              case rel => exact ⟨k + 1, by omega, by go_num, HE.out⟩
              case measure => simp [intOf]; omega
            · have g1 : ((p.2 : Int) != (q.2 : Int)) = true := by simp; omega
              rcases Nat.lt_or_gt_of_ne heq with hlt2 | hlt2
              · have hbn : borderN p q = p.2 := by unfold borderN; omega
                have hbq := (Row.new wr [.int .i64 (q.1 : Int), .int .i64 (q.2 : Int)] 70).alloc (.cells #[.int .i64 (p.1 : Int), .int .i64 (p.2 : Int)] 70)
                have hcr := ((HI.out.below (below_alloc wr (.cells #[.int .i64 (q.1 : Int), .int .i64 (q.2 : Int)] 70))).below (below_alloc _ (.cells #[.int .i64 (p.1 : Int), .int .i64 (p.2 : Int)] 70)))
                have hsz0 := hcr.1.size
                have hcr := hcr.cross HP.out.1 HP.out.2 heq (by rw [hbn]; omega)
                rw [hbn] at hcr
                obtain ⟨lg, u, n, cu, fu, hnk, ⟨Bu, ku, rfl⟩, hgu, hub, xs, hown, hnext⟩ := hcr
                have HH := Lib.hid (show _ ∧ _ ∧ _ ∧ _ from ⟨hgu, hown, hnext, hsz0⟩)
                obtain ⟨⟨y0, y1⟩, -⟩ := hbq.two
                have lq := hbq.lt
                have hnk2 : n ≤ 745 := by omega
                have j1 : (p.2 : Int) < (Z : Int) := by have := HZ.out; omega
                have j2 : (0 : Int) ≤ (p.2 : Int) := by omega
                clear hgu hub hown hnext hsz0 hbq heq hbn
                go_wp2_with fail
                generalize (wr.alloc (.cells #[.int .i64 (q.1 : Int), .int .i64 (q.2 : Int)] 70)).alloc (.cells #[.int .i64 (p.1 : Int), .int .i64 (p.2 : Int)] 70) = W5 at *
                obtain ⟨g3, cap3, w3, hrun, hown3, hgrow3, hat3, -⟩ := run_append_lies (P := Try.prog) (w := (W5.alloc (.cells #[.int .i64 (q.1 : Int)] 2)).drew) 42 42 W3.heap.size 2 im _ 1 8 Try.underlying42 him hzm0 hzm1 hzm2 rfl (by decide) (.slice Bu n ku) n _ (HH.out.2.1.alloc _).drew ⟨W5.heap.size, 0, none⟩ 1 1 [.int .i64 (q.1 : Int)] rfl (World.news_of_block (cs := #[.int .i64 (q.1 : Int)]) (t := 2) (fr := (0, 0)) (heap_alloc_new W5 _)) (by simp [Value.oneCell']) (by omega) (by unfold maxLen; omega) (by omega) (by have := HH.out.2.2.2; simp; omega) (W5.heap.size + 1) (by simp)
                have hrun1 : (heldAppendC _ _ _).run _ _ = _ := hrun
                have hgA := undrewC hgrow3
                have p1 := grown_cell hgA HH.out.1 (below_keep (below_alloc _ _) cu)
                have p2 := grown_free hgA HH.out.1 (by simp; omega) (below_keepf (below_alloc _ _) lg fu)
                have p3 := World.block_lt_of_cell? _ _ p1
                have HE := Lib.hid (HH.out.2.2.1 w3 g3 cap3 hown3 hgA hat3)
                clear hrun hown3 hgrow3 hat3 hgA
                go_region
                clear hrun1
                all_goals
                  go_wp2
                  go_roundw
                  case rel => exact ⟨k + 1, by omega, by go_num, HE.out⟩
                  case measure => simp [intOf]; omega
              · have hbn : borderN p q = q.2 := by unfold borderN; omega
                have hbq := (Row.new wr [.int .i64 (q.1 : Int), .int .i64 (q.2 : Int)] 70).alloc (.cells #[.int .i64 (p.1 : Int), .int .i64 (p.2 : Int)] 70)
                have hcr := ((HI.out.below (below_alloc wr (.cells #[.int .i64 (q.1 : Int), .int .i64 (q.2 : Int)] 70))).below (below_alloc _ (.cells #[.int .i64 (p.1 : Int), .int .i64 (p.2 : Int)] 70)))
                have hsz0 := hcr.1.size
                have hcr := hcr.cross HP.out.1 HP.out.2 heq (by rw [hbn]; omega)
                rw [hbn] at hcr
                obtain ⟨lg, u, n, cu, fu, hnk, ⟨Bu, ku, rfl⟩, hgu, hub, xs, hown, hnext⟩ := hcr
                have HH := Lib.hid (show _ ∧ _ ∧ _ ∧ _ from ⟨hgu, hown, hnext, hsz0⟩)
                obtain ⟨⟨y0, y1⟩, -⟩ := hbq.two
                have lq := hbq.lt
                have hnk2 : n ≤ 745 := by omega
                have j1 : (q.2 : Int) < (Z : Int) := by have := HZ.out; omega
                have j2 : (0 : Int) ≤ (q.2 : Int) := by omega
                clear hgu hub hown hnext hsz0 hbq heq hbn
                go_wp2_with fail
                generalize (wr.alloc (.cells #[.int .i64 (q.1 : Int), .int .i64 (q.2 : Int)] 70)).alloc (.cells #[.int .i64 (p.1 : Int), .int .i64 (p.2 : Int)] 70) = W5 at *
                obtain ⟨g3, cap3, w3, hrun, hown3, hgrow3, hat3, -⟩ := run_append_lies (P := Try.prog) (w := (W5.alloc (.cells #[.int .i64 (q.1 : Int)] 2)).drew) 42 42 W3.heap.size 2 im _ 1 8 Try.underlying42 him hzm0 hzm1 hzm2 rfl (by decide) (.slice Bu n ku) n _ (HH.out.2.1.alloc _).drew ⟨W5.heap.size, 0, none⟩ 1 1 [.int .i64 (q.1 : Int)] rfl (World.news_of_block (cs := #[.int .i64 (q.1 : Int)]) (t := 2) (fr := (0, 0)) (heap_alloc_new W5 _)) (by simp [Value.oneCell']) (by omega) (by unfold maxLen; omega) (by omega) (by have := HH.out.2.2.2; simp; omega) (W5.heap.size + 1) (by simp)
                have hrun1 : (heldAppendC _ _ _).run _ _ = _ := hrun
                have hgA := undrewC hgrow3
                have p1 := grown_cell hgA HH.out.1 (below_keep (below_alloc _ _) cu)
                have p2 := grown_free hgA HH.out.1 (by simp; omega) (below_keepf (below_alloc _ _) lg fu)
                have p3 := World.block_lt_of_cell? _ _ p1
                have HE := Lib.hid (HH.out.2.2.1 w3 g3 cap3 hown3 hgA hat3)
                clear hrun hown3 hgrow3 hat3 hgA
                go_region
                clear hrun1
                all_goals
                  go_wp2
                  go_roundw
                  case rel => exact ⟨k + 1, by omega, by go_num, HE.out⟩
                  case measure => simp [intOf]; omega
          · obtain rfl : k = m := by omega
            clear hb
            go_wp2
            obtain ⟨hb, bs', hO⟩ := HI.out
            refine bodyPost_ret (v := .tuple #[.slice (some ⟨w2.heap.size + 1, 0, none⟩) Z Z, .int .i64 0]) (by simp [results, Try.results36, go_sem]) rfl ?_
            rw [HRES.out, HCN.out, HM.out]
            have hO := (goodL (goodV ints 2) 42).mono hO HB3.out.size
            rw [← HZ.out] at hO
            exact ⟨_, _, rfl, hO, HB3.out.trans (hb.mono HB3.out.size)⟩
  · have HRES := Lib.hid (show crossRes t s = ([], 1) by simp [crossRes, hg])
    rw [hg]
    clear hg
    go_wp2
    refine bodyPost_ret (v := .tuple #[.slice none 0 0, .int .i64 1]) (by simp [results, Try.results36, go_sem]) rfl ?_
    rw [HRES.out]
    exact ⟨_, _, rfl, owL_nil _ _ _ _, HB1.out⟩
end
end Go.Proofs.Ytdkalefepdlccaa
