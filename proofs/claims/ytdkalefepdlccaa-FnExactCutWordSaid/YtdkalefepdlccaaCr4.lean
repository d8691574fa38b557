/-
  Crossing sequences: the model's walk.
-/
import Derived.Test.YtdkalefepdlccaaCr3
namespace Go.Proofs.Ytdkalefepdlccaa
open Go.RowKit

theorem l00Min_fst (a b : Int) (w : World) (h : a ≤ b) : Calls Try.prog 109 #[.int .i64 a, .int .i64 b] w fun e w' => e = .returned (.int .i64 a) ∧ w = w' := by
  by_cases h2 : a < b
  · go_enter Try.func109, Try.ntmps109
    go_wp2
    go_ret
    exact ⟨rfl, rfl⟩
  · obtain rfl : a = b := by omega
    go_enter Try.func109, Try.ntmps109
    go_wp2
    go_ret
    exact ⟨rfl, rfl⟩
theorem l00Min_snd (a b : Int) (w : World) (h : b ≤ a) : Calls Try.prog 109 #[.int .i64 a, .int .i64 b] w fun e w' => e = .returned (.int .i64 b) ∧ w = w' := by
  have h2 : ¬ a < b := by omega
  go_enter Try.func109, Try.ntmps109
  go_wp2
  go_ret
  exact ⟨rfl, rfl⟩

/-- What has been made of the empty sequences. -/
def CrN (W : World) (k : Nat) (v : Value) (wr : World) : Prop := Below W.heap.size W wr ∧ ∃ bs, OwL (OwV ints 2) 42 wr W.heap.size v (List.replicate k []) bs
theorem CrN.start (W : World) : CrN W 0 (.slice (some ⟨W.heap.size, 0, none⟩) 0 0) (W.alloc (.cells #[] 42)) :=
  ⟨below_alloc _ _, _, [], [], World.ownsRow_lit (base := W.heap.size) (e := 42) (size := 1) W #[] 0 (Nat.le_refl _) (by unfold maxLen; omega) rfl, rfl, rfl, fun i u x b hi => by simp at hi, rfl, by simp [blks, Value.ownBlock]⟩

section
attribute [local go_sem ↓ high] builtin_append_heldC
set_option maxRecDepth 100000 in
set_option maxHeartbeats 6400000 in
theorem l04Crossings_own (b0 : Nat) (t : TData) (s : ByteArray) (w : World) (h : AtT w b0 t) (hs : s.size ≤ maxLen) :
    Calls Try.prog 72 #[.pointer (some ⟨b0, 0, none⟩), .string s] w fun e w' => ∃ u bs, e = .returned (.tuple #[u, .int .i64 (crossRes t s).2]) ∧ OwL (OwV ints 2) 42 w' w.heap.size u (crossRes t s).1 bs ∧ Below w.heap.size w w' := by
  obtain ⟨im, him, hzm0, hzm1, hzm2⟩ := info_parts infoI64
  obtain ⟨il, hil, hzl0, hzl1, hzl2⟩ := info_parts infoIs
  obtain ⟨vm, b1, b2, b3, hm⟩ := h
  have HG := Lib.hid (specRunTurner_any _ t s w (show RdT w (.agg #[.int .i64 t.L, .int .i64 t.S, vm]) t from ⟨vm, rfl, hm⟩) hs)
  have HRUN := Lib.hid (fun (h0 : givenC t s = 0) => run_len t s h0)
  clear hm
  go_enter Try.func72, Try.ntmps72
  go_wp2_with fail
  refine HG.out.mono ?_
  rintro e w1 ⟨u, bs, rfl, hu, hb1⟩
  have HB1 := Lib.hid hb1
  clear hb1 b1 b2 b3
  rcases givenC_or t s with hg | hg
  · obtain ⟨ok1, ok2⟩ := givenC_zero hg
    obtain ⟨s60, hl⟩ := okWord_parts ok2
    have hlen := run_len t s hg
    have HS60 := Lib.hid s60
    have HPL := Lib.hid (run_ok (okT_out ok1) hl)
    have HPOS := Lib.hid (run_pos t s)
    have hrr : runRes t s = ((runN t s).places.map pI, (runN t s).verdict, 0) := by simp [runRes, hg]
    have HG0 := Lib.hid hg
    rw [hrr] at hu ⊢
    simp only at hu ⊢
    rcases hu.nil_or with ⟨rfl, hnil⟩ | ⟨gP, cap, rfl, rfl, hcn, -⟩
    · have h0 := HPOS.out
      have := congrArg List.length hnil
      simp at this
      simp [this] at h0
    have HRD := Lib.hid hu.rd
    clear hu hg ok1 ok2 hl hrr
    have hlc : ((runN t s).places.map pI).length = (runN t s).places.length := by simp
    rw [hlc] at HRD hcn ⊢
    clear hlc
    by_cases hv : (runN t s).verdict = 3
    · have d1 : ((runN t s).verdict == 3) = true := by simpa using hv
      have HRES := Lib.hid (show crossRes t s = ([], 4) by simp [crossRes, HG0.out, hv])
      have HO := Lib.hid (CrN.start w1)
      clear hv hlen hcn s60
      go_wp2
      refine bodyPost_ret (v := .tuple #[.slice (some ⟨w1.heap.size, 0, none⟩) 0 0, .int .i64 4]) (by simp [results, Try.results72, go_sem]) rfl ?_
      rw [HRES.out]
      obtain ⟨hb, bs, hO⟩ := HO.out
      exact ⟨_, _, rfl, (goodL (goodV ints 2) 42).mono hO HB1.out.size, below_step HB1.out (below_alloc _ _)⟩
    · have d1 : ((runN t s).verdict == 3) = false := by simpa using hv
      have HRES := Lib.hid (show crossRes t s = (crossN t s, 0) by simp [crossRes, HG0.out, hv])
      have HCN := Lib.hid (show crossN t s = crossL s.size (runN t s).places ((runN t s).places.length - 1) from rfl)
      clear hv
      generalize hpl : (runN t s).places = pl at *
      generalize (runN t s).verdict = vd at *
      clear hpl
      have hpos := HPOS.out
      obtain ⟨m, hm⟩ : ∃ m, pl.length = m + 1 := ⟨pl.length - 1, by omega⟩
      have HM := Lib.hid hm
      rw [hm] at HRD hcn hlen ⊢
      have HRD3 := Lib.hid HRD.out
      have HC0 := Lib.hid (CrN.start w1)
      clear hm hpos HRD
      go_wp2
      generalize w1.alloc (.cells #[] 42) = W2 at *
      generalize hW3 : w1 = W3 at *
      clear hW3
      go_loopw [9, 10] (fun v i wr => ∃ (k kn : Nat) (Bn : Option Addr), k ≤ s.size + 1 ∧ i = .int .i64 k ∧ v = .slice Bn k kn ∧ CrN W3 k (.slice Bn k kn) wr) (fun _ i _ => s.size + 1 - (intOf i).toNat)
      case atStart => exact ⟨0, 0, _, Nat.zero_le _, rfl, rfl, HC0.out⟩
      case round =>
        clear HC0
        obtain ⟨k, kn, Bn, hk, rfl, rfl, hI⟩ := hrel
        have HI := Lib.hid hI
        clear hI
        by_cases hlt : k < s.size + 1
        · obtain ⟨hb, bs, hO⟩ := HI.out
          obtain ⟨vs, how, hbv, hnext⟩ := OwL.grow (goodV ints 2) hO
          rw [List.length_replicate] at how hnext
          have HH := Lib.hid (show _ ∧ _ ∧ _ ∧ _ from ⟨hb, how, hbv, hnext⟩)
          have i1 : (0 : Int) ≤ k := by omega
          have i2 : (k : Int) ≤ s.size := by omega
          have k60 : k ≤ 61 := by omega
          clear hb hO how hbv hnext
          obtain ⟨g3, cap3, w3, hrun, hown3, hgrow3, hat3, -⟩ := run_append_lies (P := Try.prog) (w := (wr.alloc (.cells #[] 2)).alloc (.cells #[.slice (some ⟨wr.heap.size, 0, none⟩) 0 0] 42)) 47 47 W3.heap.size 42 il _ 1 24 Try.underlying47 hil hzl0 hzl1 hzl2 rfl (by decide) (.slice Bn k kn) k _ ((HH.out.2.1.alloc _).alloc _) ⟨wr.heap.size + 1, 0, none⟩ 1 1 [.slice (some ⟨wr.heap.size, 0, none⟩) 0 0] rfl (World.news_of_block (cs := #[.slice (some ⟨wr.heap.size, 0, none⟩) 0 0]) (t := 42) (fr := (0, 0)) (by simpa using heap_alloc_new (wr.alloc (.cells #[] 2)) (.cells #[.slice (some ⟨wr.heap.size, 0, none⟩) 0 0] 42))) (by simp [Value.oneCell']) (by omega) (by unfold maxLen; omega) (by omega) (by have := HH.out.1.size; simp; omega) (wr.heap.size + 1 + 1) (by simp)
          have hrun1 : (heldAppendC _ _ _).run _ _ = _ := hrun
          have hnew : OwV ints 2 (wr.alloc (.cells #[] 2)) W3.heap.size (.slice (some ⟨wr.heap.size, 0, none⟩) 0 0) [] [wr.heap.size] := ⟨World.ownsRow_lit (base := W3.heap.size) (e := 2) (size := 1) wr #[] 0 HH.out.1.size (by unfold maxLen; omega) rfl, rfl⟩
          obtain ⟨bs', hO'⟩ := HH.out.2.2.2 _ _ _ _ (below_alloc wr _) hnew (fun c hc => by simp at hc; omega) _ w3 g3 (k + 1) cap3 hgrow3 hown3 (by rw [show (wr.alloc (.cells #[] 2)).heap.size = wr.heap.size + 1 by simp]; exact hat3)
          rw [← List.replicate_succ'] at hO'
          have hbe := (below_step (below_step HH.out.1 (below_alloc wr (.cells #[] 2))) (below_alloc _ (.cells #[.slice (some ⟨wr.heap.size, 0, none⟩) 0 0] 42))).trans (grown_below hgrow3 (by have := HH.out.1.size; simp; omega) (fun b hb => (HH.out.2.2.1 b hb).1))
          have HE := Lib.hid (show CrN W3 (k + 1) (.slice (some ⟨g3, 0, none⟩) (k + 1) cap3) w3 from ⟨hbe, bs', hO'⟩)
          clear hrun hown3 hgrow3 hat3 hO' hbe hnew
          go_wp2
          clear hrun1
          go_roundw
          case rel => exact ⟨k + 1, cap3, _, by omega, by go_num, rfl, HE.out⟩
          case measure => simp [intOf]; omega
        · obtain ⟨kz, hkz⟩ : ∃ kz, kz = k := ⟨k, rfl⟩
          subst hkz
          have HKZ := Lib.hid (show kz = s.size + 1 by omega)
          have hkz1 : (s.size : Int) < (kz : Int) := by omega
          have hkz2 : decide (kz ≤ s.size) = false := by simp; omega
          clear hk hlt
          have hI := HI.out
          obtain ⟨hb, bs, hO⟩ := hI
          obtain ⟨gL, cL, -, -, hsl, -⟩ := OwL.memberNew (goodV ints 2) hO (j := 0) (x := []) (by rw [List.getElem?_replicate, if_pos (by have := HKZ.out; omega)])
          rw [List.length_replicate] at hsl
          cases hsl
          rw [HKZ.out] at hO
          have HI0 := Lib.hid (show CrI W3 gL kn s.size pl 0 wr from ⟨hb, bs, hO⟩)
          clear hb hO HI
          go_wp2
          go_loopw [11] (fun i wr => ∃ k : Nat, k ≤ m ∧ i = .int .i64 ((k : Int) + 1) ∧ CrI W3 gL kn s.size pl k wr) (fun i _ => m + 1 - (intOf i).toNat)
          case atStart => exact ⟨0, Nat.zero_le _, rfl, HI0.out⟩
          case round =>
            clear HI0
            obtain ⟨k, hk, rfl, hI⟩ := hrel
            have HI := Lib.hid hI
            clear hI
            by_cases hlt : k < m
            · have hml := HM.out
              obtain ⟨p, hp⟩ : ∃ p, pl[k]? = some p := ⟨_, List.getElem?_eq_getElem (by omega)⟩
              obtain ⟨q, hq⟩ : ∃ q, pl[k + 1]? = some q := ⟨_, List.getElem?_eq_getElem (by omega)⟩
              have hpo := (HPL.out p (List.mem_of_getElem? hp)).2
              have hqo := (HPL.out q (List.mem_of_getElem? hq)).2
              have HP := Lib.hid (show _ ∧ _ from ⟨hp, hq⟩)
              clear hp hq hml
              have hrd := keepsP _ _ _ _ HRD3.out HI.out.1
              obtain ⟨b, off, hB1, c0, c1⟩ := rdP_at hrd (i := k) (m := pI p) (by rw [List.getElem?_map, HP.out.1]; rfl)
              cases hB1
              obtain ⟨b, off, hB1, d0, d1⟩ := rdP_at hrd (i := k + 1) (m := pI q) (by rw [List.getElem?_map, HP.out.2]; rfl)
              cases hB1
              rw [Nat.zero_add] at c0 c1 d0 d1
              unfold pI at c0 c1 d0 d1
              simp only at c0 c1 d0 d1
              have lc := World.block_lt_of_cell? _ _ c0
              clear hrd
              have i1 : (0 : Int) ≤ (k : Int) + 1 := by omega
              have i2 : (k : Int) + 1 < (m : Int) + 1 := by omega
              have i3 : (0 : Int) ≤ (k : Int) := by omega
              have i4 : (k : Int) < (m : Int) + 1 := by omega
              have i5 : ((k : Int) + 1).toNat = k + 1 := by omega
              have w1 : IntKind.i64.wrap ((k : Int) + 1 - 1) = (k : Int) := by rw [show (k : Int) + 1 - 1 = k by omega]; exact IntWalk.i64_in _ (by omega)
              have w2 : IntKind.i64.wrap (k : Int) = (k : Int) := IntWalk.i64_in _ (by omega)
              by_cases heq : p.2 = q.2
              · have g1 : ((q.2 : Int) != (p.2 : Int)) = false := by simp [heq]
                have HE := Lib.hid (HI.out.same HP.out.1 HP.out.2 heq)
                clear heq
                go_wp2_with fail
                go_quiet (fail)
                have HE5 := Lib.hid (HE.out.below (below_drewN' wr nq))
                generalize wr.drewN nq = W5 at *
                clear w1 w2 c0 c1 d0 d1 lc i5 i1 i2 i3 i4
                go_wp2
                go_roundw
                case rel => exact ⟨k + 1, by omega, by go_num, HE5.out⟩
                case measure => simp [intOf]; omega
              · have g1 : ((q.2 : Int) != (p.2 : Int)) = true := by simp; omega
                go_wp2_with fail
                go_quiet (fail)
                have HI5 := Lib.hid (HI.out.below (below_drewN' wr nq))
                generalize wr.drewN nq = W5 at *
                clear c0 c1 d0 d1 lc
                have hrd := keepsP _ _ _ _ HRD3.out HI5.out.1
                obtain ⟨b, off, hB1, c0, c1⟩ := rdP_at hrd (i := k) (m := pI p) (by rw [List.getElem?_map, HP.out.1]; rfl)
                cases hB1
                obtain ⟨b, off, hB1, d0, d1⟩ := rdP_at hrd (i := k + 1) (m := pI q) (by rw [List.getElem?_map, HP.out.2]; rfl)
                cases hB1
                rw [Nat.zero_add] at c0 c1 d0 d1
                unfold pI at c0 c1 d0 d1
                simp only at c0 c1 d0 d1
                have lc := World.block_lt_of_cell? _ _ c0
                clear hrd
                rcases Nat.lt_or_gt_of_ne heq with hlt2 | hlt2
                · have hbn : borderN p q = p.2 := by unfold borderN; omega
                  have hmn : IntKind.i64.wrap (p.2 : Int) = (p.2 : Int) := IntWalk.i64_in _ (by omega)
                  clear hmn
                  have HM1 := Lib.hid (fun W => l00Min_snd (q.2 : Int) (p.2 : Int) W (by omega))
                  go_wp2_with fail
                  go_quiet ((go_at_call 109; exact Calls.quiet_of_same ((HM1.out _).mono fun _ _ ⟨a, b⟩ => ⟨a, b.symm⟩)))
                  have HI6 := Lib.hid (HI5.out.below (below_drewN' W5 nq))
                  generalize W5.drewN nq = W6 at *
                  clear c0 c1 d0 d1 lc
                  have hrd := keepsP _ _ _ _ HRD3.out HI6.out.1
                  obtain ⟨b, off, hB1, c0, c1⟩ := rdP_at hrd (i := k) (m := pI p) (by rw [List.getElem?_map, HP.out.1]; rfl)
                  cases hB1
                  obtain ⟨b, off, hB1, d0, d1⟩ := rdP_at hrd (i := k + 1) (m := pI q) (by rw [List.getElem?_map, HP.out.2]; rfl)
                  cases hB1
                  rw [Nat.zero_add] at c0 c1 d0 d1
                  unfold pI at c0 c1 d0 d1
                  simp only at c0 c1 d0 d1
                  have lc := World.block_lt_of_cell? _ _ c0
                  clear hrd
                  have hcr := HI6.out.cross HP.out.1 HP.out.2 heq (by rw [hbn]; omega)
                  have hsz0 := HI6.out.1.size
                  rw [hbn] at hcr
                  obtain ⟨lg, u, n, cu, fu, hnk, ⟨Bu, ku, rfl⟩, hgu, hub, xs, hown, hnext⟩ := hcr
                  have HH := Lib.hid (show _ ∧ _ ∧ _ ∧ _ from ⟨hgu, hown, hnext, hsz0⟩)
                  have hnk2 : n ≤ 745 := by omega
                  have j1 : (p.2 : Int) < (kz : Int) := by omega
                  have j2 : (0 : Int) ≤ (p.2 : Int) := by omega
                  clear hgu hub hown hnext hsz0 heq hbn
                  go_wp2_with fail
                  obtain ⟨g3, cap3, w3, hrun, hown3, hgrow3, hat3, -⟩ := run_append_lies (P := Try.prog) (w := (W6.alloc (.cells #[.int .i64 (q.1 : Int)] 2)).drew) 42 42 W3.heap.size 2 im _ 1 8 Try.underlying42 him hzm0 hzm1 hzm2 rfl (by decide) (.slice Bu n ku) n _ (HH.out.2.1.alloc _).drew ⟨W6.heap.size, 0, none⟩ 1 1 [.int .i64 (q.1 : Int)] rfl (World.news_of_block (cs := #[.int .i64 (q.1 : Int)]) (t := 2) (fr := (0, 0)) (heap_alloc_new W6 _)) (by simp [Value.oneCell']) (by omega) (by unfold maxLen; omega) (by omega) (by have := HH.out.2.2.2; simp; omega) (W6.heap.size + 1) (by simp)
                  have hrun1 : (heldAppendC _ _ _).run _ _ = _ := hrun
                  have hgA := undrewC hgrow3
                  have p1 := grown_cell hgA HH.out.1 (below_keep (below_alloc _ _) cu)
                  have p2 := grown_free hgA HH.out.1 (by simp; omega) (below_keepf (below_alloc _ _) lg fu)
                  have p3 := World.block_lt_of_cell? _ _ p1
                  have HE := Lib.hid (HH.out.2.2.1 w3 g3 cap3 hown3 hgA hat3)
                  clear hrun hown3 hgrow3 hat3 hgA
                  go_region
                  clear hrun1
                  all_goals
                    go_wp2
                    go_roundw
                    case rel => exact ⟨k + 1, by omega, by go_num, HE.out⟩
                    case measure => simp [intOf]; omega
                · have hbn : borderN p q = q.2 := by unfold borderN; omega
                  have hmn : IntKind.i64.wrap (q.2 : Int) = (q.2 : Int) := IntWalk.i64_in _ (by omega)
                  clear hmn
                  have HM1 := Lib.hid (fun W => l00Min_fst (q.2 : Int) (p.2 : Int) W (by omega))
                  go_wp2_with fail
                  go_quiet ((go_at_call 109; exact Calls.quiet_of_same ((HM1.out _).mono fun _ _ ⟨a, b⟩ => ⟨a, b.symm⟩)))
                  have HI6 := Lib.hid (HI5.out.below (below_drewN' W5 nq))
                  generalize W5.drewN nq = W6 at *
                  clear c0 c1 d0 d1 lc
                  have hrd := keepsP _ _ _ _ HRD3.out HI6.out.1
                  obtain ⟨b, off, hB1, c0, c1⟩ := rdP_at hrd (i := k) (m := pI p) (by rw [List.getElem?_map, HP.out.1]; rfl)
                  cases hB1
                  obtain ⟨b, off, hB1, d0, d1⟩ := rdP_at hrd (i := k + 1) (m := pI q) (by rw [List.getElem?_map, HP.out.2]; rfl)
                  cases hB1
                  rw [Nat.zero_add] at c0 c1 d0 d1
                  unfold pI at c0 c1 d0 d1
                  simp only at c0 c1 d0 d1
                  have lc := World.block_lt_of_cell? _ _ c0
                  clear hrd
                  have hcr := HI6.out.cross HP.out.1 HP.out.2 heq (by rw [hbn]; omega)
                  have hsz0 := HI6.out.1.size
                  rw [hbn] at hcr
                  obtain ⟨lg, u, n, cu, fu, hnk, ⟨Bu, ku, rfl⟩, hgu, hub, xs, hown, hnext⟩ := hcr
                  have HH := Lib.hid (show _ ∧ _ ∧ _ ∧ _ from ⟨hgu, hown, hnext, hsz0⟩)
                  have hnk2 : n ≤ 745 := by omega
                  have j1 : (q.2 : Int) < (kz : Int) := by omega
                  have j2 : (0 : Int) ≤ (q.2 : Int) := by omega
                  clear hgu hub hown hnext hsz0 heq hbn
                  go_wp2_with fail
                  obtain ⟨g3, cap3, w3, hrun, hown3, hgrow3, hat3, -⟩ := run_append_lies (P := Try.prog) (w := (W6.alloc (.cells #[.int .i64 (q.1 : Int)] 2)).drew) 42 42 W3.heap.size 2 im _ 1 8 Try.underlying42 him hzm0 hzm1 hzm2 rfl (by decide) (.slice Bu n ku) n _ (HH.out.2.1.alloc _).drew ⟨W6.heap.size, 0, none⟩ 1 1 [.int .i64 (q.1 : Int)] rfl (World.news_of_block (cs := #[.int .i64 (q.1 : Int)]) (t := 2) (fr := (0, 0)) (heap_alloc_new W6 _)) (by simp [Value.oneCell']) (by omega) (by unfold maxLen; omega) (by omega) (by have := HH.out.2.2.2; simp; omega) (W6.heap.size + 1) (by simp)
                  have hrun1 : (heldAppendC _ _ _).run _ _ = _ := hrun
                  have hgA := undrewC hgrow3
                  have p1 := grown_cell hgA HH.out.1 (below_keep (below_alloc _ _) cu)
                  have p2 := grown_free hgA HH.out.1 (by simp; omega) (below_keepf (below_alloc _ _) lg fu)
                  have p3 := World.block_lt_of_cell? _ _ p1
                  have HE := Lib.hid (HH.out.2.2.1 w3 g3 cap3 hown3 hgA hat3)
                  clear hrun hown3 hgrow3 hat3 hgA
                  go_region
                  clear hrun1
                  all_goals
                    go_wp2
                    go_roundw
                    case rel => exact ⟨k + 1, by omega, by go_num, HE.out⟩
                    case measure => simp [intOf]; omega
            · obtain rfl : k = m := by omega
              go_wp2
              obtain ⟨hb, bs', hO⟩ := HI.out
              refine bodyPost_ret (v := .tuple #[.slice (some ⟨gL, 0, none⟩) kz kn, .int .i64 0]) (by simp [results, Try.results72, go_sem]) rfl ?_
              rw [HRES.out, HCN.out, HM.out, HKZ.out]
              exact ⟨_, _, rfl, (goodL (goodV ints 2) 42).mono hO HB1.out.size, HB1.out.trans (hb.mono HB1.out.size)⟩
  · have HRES := Lib.hid (show crossRes t s = ([], 1) by simp [crossRes, hg])
    have hrr : runRes t s = ([], 0, 1) := by simp [runRes, hg]
    have HO := Lib.hid (CrN.start w1)
    rw [hrr] at hu ⊢
    clear hg hrr hu
    go_wp2
    refine bodyPost_ret (v := .tuple #[.slice (some ⟨w1.heap.size, 0, none⟩) 0 0, .int .i64 1]) (by simp [results, Try.results72, go_sem]) rfl ?_
    rw [HRES.out]
    obtain ⟨hb, bs, hO⟩ := HO.out
    exact ⟨_, _, rfl, (goodL (goodV ints 2) 42).mono hO HB1.out.size, below_step HB1.out (below_alloc _ _)⟩
end
end Go.Proofs.Ytdkalefepdlccaa
