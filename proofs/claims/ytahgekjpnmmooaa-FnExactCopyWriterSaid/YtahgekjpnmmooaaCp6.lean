/-
  A writer in a box whose moves and texts grow together; the writer that copies words: the model's answer.
-/
import Derived.Test.YtahgekjpnmmooaaCp1
import Derived.Test.YtahgekjpnmmooaaWr3
namespace Go.Proofs.Ytahgekjpnmmooaa
open Go.RowKit

theorem OwL.growP {α : Type} {R : World → Nat → Value → α → List Nat → Prop} (gd : Good R) {e : TypeId} {w : World} {lo : Nat} {v : Value} {xs : List α} {bs : List Nat} (h : OwL R e w lo v xs bs) :
    ∃ vs, w.ownsRow lo e 1 v xs.length vs ∧ (∀ b ∈ blks v, b ∈ bs ∧ lo ≤ b ∧ b < w.heap.size) ∧ ∀ (w1 : World) (u0 : Value) (x0 : α) (b0 : List Nat), Below w.heap.size w w1 → R w1 lo u0 x0 b0 → (∀ c ∈ b0, c ∉ bs) →
      ∀ (o : Obj) (w2 : World) (g m cap : Nat), (w1.alloc o).grownBy w2 v.ownBlock → w2.ownsRow lo e 1 (.slice (some ⟨g, 0, none⟩) m cap) (xs.length + 1) (vs ++ [u0]) → (v.ownBlock = some g ∨ g = w1.heap.size + 1) →
        ∃ bs', OwL R e w2 lo (.slice (some ⟨g, 0, none⟩) m cap) (xs ++ [x0]) bs' ∧ ∀ c ∈ bs', c ∈ bs ∨ c ∈ b0 ∨ w1.heap.size ≤ c := by
  obtain ⟨vs, bss, hO, e1, e2, e3, e4, e5⟩ := h
  subst e4
  refine ⟨vs, by have := hO; unfold Own at this; rwa [e1] at this, fun b hb => ⟨List.mem_append_left _ hb, hO.lt hb⟩, ?_⟩
  intro w1 u0 x0 b0 hb hu hd o w2 g m cap hg hown hat
  have hb' : Below w.heap.size w (w1.alloc o) := below_step hb (below_alloc w1 o)
  refine ⟨_, OwL.snoc gd (hO.below hb') e1 e2 (fun i u x b h1 h2 h3 => gd.below (e3 i u x b h1 h2 h3) hb') e5 (gd.below hu (below_alloc w1 o)) hd hg hown hat (by simp), fun c hc => ?_⟩
  rw [List.flatten_append] at hc
  simp only [List.mem_append, List.mem_singleton] at hc
  rcases hc with hc | hc | hc
  · subst hc
    rcases hat with hat | hat
    · exact .inl (List.mem_append_left _ (mem_blks.2 hat))
    · right; right; omega
  · exact .inl (List.mem_append_right _ hc)
  · right; left; simpa using hc

abbrev OwMM : World → Nat → Value → List (List (Int × Int)) → List Nat → Prop := OwL (OwP 55) 51
theorem goodMM : Good OwMM := goodL (goodP 55) 51

structure CwI (w : World) (L : Int) (mv : List (List (Int × Int))) (out : List (List ByteArray)) (wr : World) : Prop where
  bel : Below w.heap.size w wr
  rz : Row wr w.heap.size 27 [.int .i64 0, .int .i64 0, .slice none 0 0, .slice none 0 0]
  box : ∃ vm vo bm bo, Row wr (w.heap.size + 1) 27 [.int .i64 L, .int .i64 0, vm, vo] ∧ OwMM wr (w.heap.size + 2) vm mv bm ∧ OwSO wr (w.heap.size + 2) vo out bo ∧ (∀ b ∈ bm, b ∉ bo)
theorem CwI.below {w : World} {L : Int} {mv : List (List (Int × Int))} {out : List (List ByteArray)} {wr w' : World} (h : CwI w L mv out wr) (hb : Below wr.heap.size wr w') : CwI w L mv out w' := by
  obtain ⟨vm, vo, bm, bo, ho, hm, hO, hd⟩ := h.box
  exact ⟨below_step h.bel hb, h.rz.below hb h.rz.lt, vm, vo, bm, bo, ho.below hb ho.lt, goodMM.below hm hb, goodSO.below hO hb, hd⟩

theorem CwI.both {w : World} {L : Int} {mv : List (List (Int × Int))} {out : List (List ByteArray)} {wr w1 : World} {u v : Value} {row : List (Int × Int)} {texts : List ByteArray} {bu bv : List Nat} (h : CwI w L mv out wr) (hb : Below wr.heap.size wr w1) (hu : OwP 55 w1 wr.heap.size u row bu) (hv : OwV strs 9 w1 wr.heap.size v texts bv) (hd : ∀ b ∈ bu, b ∉ bv) :
    ∃ Bm km Bo ko, Row w1 (w.heap.size + 1) 27 [.int .i64 L, .int .i64 0, .slice Bm mv.length km, .slice Bo out.length ko] ∧ w.heap.size + 1 ∉ blks (.slice Bm mv.length km) ∧ w.heap.size + 1 ∉ blks (.slice Bo out.length ko) ∧
      ∃ vs, (w1.alloc (.cells #[u] 51)).ownsRow (w.heap.size + 2) 51 1 (.slice Bm mv.length km) mv.length vs ∧
        ∀ (w2 : World) (g cap : Nat), (w1.alloc (.cells #[u] 51)).grownBy w2 (Value.slice Bm mv.length km).ownBlock → w2.ownsRow (w.heap.size + 2) 51 1 (.slice (some ⟨g, 0, none⟩) (mv.length + 1) cap) (mv.length + 1) (vs ++ [u]) → ((Value.slice Bm mv.length km).ownBlock = some g ∨ g = w1.heap.size + 1) →
          ∃ W3, W3 = w2.setCell ⟨w.heap.size + 1, 2, none⟩ (.slice (some ⟨g, 0, none⟩) (mv.length + 1) cap) ∧ w.heap.size + 2 ≤ W3.heap.size ∧ Row W3 (w.heap.size + 1) 27 [.int .i64 L, .int .i64 0, .slice (some ⟨g, 0, none⟩) (mv.length + 1) cap, .slice Bo out.length ko] ∧
            ∃ vs2, (W3.alloc (.cells #[v] 44)).ownsRow (w.heap.size + 2) 44 1 (.slice Bo out.length ko) out.length vs2 ∧
              ∀ (w5 : World) (g5 cap5 : Nat), (W3.alloc (.cells #[v] 44)).grownBy w5 (Value.slice Bo out.length ko).ownBlock → w5.ownsRow (w.heap.size + 2) 44 1 (.slice (some ⟨g5, 0, none⟩) (out.length + 1) cap5) (out.length + 1) (vs2 ++ [v]) → ((Value.slice Bo out.length ko).ownBlock = some g5 ∨ g5 = W3.heap.size + 1) →
                CwI w L (mv ++ [row]) (out ++ [texts]) (w5.setCell ⟨w.heap.size + 1, 3, none⟩ (.slice (some ⟨g5, 0, none⟩) (out.length + 1) cap5)) := by
  obtain ⟨bel, rz, vm, vo, bm, bo, ho, hm, hO, hdis⟩ := h
  obtain ⟨Bm, km, rfl⟩ := OwL.shape hm
  obtain ⟨Bo, ko, rfl⟩ := OwL.shape hO
  obtain ⟨vs, how, hbv, hnext⟩ := OwL.growP (goodP 55) hm
  have lpo := ho.lt
  have lbm : ∀ b ∈ bm, w.heap.size + 2 ≤ b ∧ b < wr.heap.size := fun b hb => goodMM.lt hm hb
  have lbo : ∀ b ∈ bo, w.heap.size + 2 ≤ b ∧ b < wr.heap.size := fun b hb => goodSO.lt hO hb
  have lbu : ∀ b ∈ bu, wr.heap.size ≤ b ∧ b < w1.heap.size := fun b hb => (goodP _).lt hu hb
  have lbv : ∀ b ∈ bv, wr.heap.size ≤ b ∧ b < w1.heap.size := fun b hb => (goodV strs _).lt hv hb
  have sw := hb.size
  have hkO : ∀ b ∈ blks (.slice Bo out.length ko), b ∈ bo := by
    obtain ⟨_, _, hk, _⟩ := OwL.growP (goodV strs 9) hO
    exact fun b hb => (hk b hb).1
  have n1 : w.heap.size + 1 ∉ blks (.slice Bm mv.length km) := fun hm => by have := (hbv _ hm).2.1; omega
  have n2 : w.heap.size + 1 ∉ blks (.slice Bo out.length ko) := fun hm => by have := (lbo _ (hkO _ hm)).1; omega
  refine ⟨Bm, km, Bo, ko, ho.below hb lpo, n1, n2, vs, rows_below how (below_step hb (below_alloc w1 _)), ?_⟩
  intro w2 g cap hg hown hat
  obtain ⟨bm', hm2, hs⟩ := hnext w1 u row bu hb ((goodP _).mono hu (by omega)) (fun c hc hm => by have := (lbm c hm).2; have := (lbu c hc).1; omega) _ w2 g _ cap hg hown hat
  have ba : Below w1.heap.size w1 (w1.alloc (.cells #[u] 51)) := below_alloc _ _
  have sa := ba.size
  have sg := hg.size
  have ro2 := grown_row hg ((ho.below hb lpo).below ba (by omega)) n1
  have rz2 := grown_row hg ((rz.below hb rz.lt).below ba (by have := rz.lt; omega)) (fun hm => by have := (hbv _ hm).2.1; omega)
  have hO2 := grown_keep goodSO hg (goodSO.below (goodSO.below hO hb) ba) (fun c hc hm' => hdis c (hbv c hm').1 hc)
  have hv2 := grown_keep (goodV strs 9) hg ((goodV strs 9).below hv ba) (fun c hc hm' => by have := (hbv c hm').2.2; have := (lbv c hc).1; omega)
  have bel1 : Below w.heap.size w (w1.alloc (.cells #[u] 51)) := below_step (below_step bel hb) ba
  have bel2 := bel1.trans (grown_below hg bel1.size (fun b hb => by have := (hbv b hb).2.1; omega))
  have hm3 := goodMM.under (a := ⟨w.heap.size + 1, 2, none⟩) hm2 (by show w.heap.size + 1 < _; omega) (.slice (some ⟨g, 0, none⟩) (mv.length + 1) cap)
  have hO3 := goodSO.under (a := ⟨w.heap.size + 1, 2, none⟩) hO2 (by show w.heap.size + 1 < _; omega) (.slice (some ⟨g, 0, none⟩) (mv.length + 1) cap)
  have hv3 := (goodV strs 9).under (a := ⟨w.heap.size + 1, 2, none⟩) hv2 (by show w.heap.size + 1 < _; omega) (.slice (some ⟨g, 0, none⟩) (mv.length + 1) cap)
  have ro3 := ro2.stored 2 (.slice (some ⟨g, 0, none⟩) (mv.length + 1) cap)
  have rz3 := rz2.other (a := ⟨w.heap.size + 1, 2, none⟩) (by show w.heap.size + 1 ≠ _; omega) (.slice (some ⟨g, 0, none⟩) (mv.length + 1) cap)
  have bel3 := bel2.setCell (p := ⟨w.heap.size + 1, 2, none⟩) (by show w.heap.size ≤ w.heap.size + 1; omega) (.slice (some ⟨g, 0, none⟩) (mv.length + 1) cap)
  obtain ⟨W3, hW3⟩ : ∃ W3, W3 = w2.setCell ⟨w.heap.size + 1, 2, none⟩ (.slice (some ⟨g, 0, none⟩) (mv.length + 1) cap) := ⟨_, rfl⟩
  have s3 : W3.heap.size = w2.heap.size := by rw [hW3]; simp
  rw [← hW3] at hm3 hO3 hv3 ro3 rz3 bel3
  have lm3 : ∀ b ∈ bm', b < W3.heap.size := fun b hb => (goodMM.lt hm3 hb).2
  obtain ⟨vs2, how2, hbv2, hnext2⟩ := OwL.growP (goodV strs 9) hO3
  have b4 : Below W3.heap.size W3 (W3.alloc (.cells #[v] 44)) := below_alloc _ _
  refine ⟨W3, hW3, by omega, ro3, vs2, rows_below how2 b4, ?_⟩
  intro w5 g5 cap5 hg5 hown5 hat5
  obtain ⟨bo', hO5, hs5⟩ := hnext2 W3 v texts bv (Below.refl _ _) ((goodV strs _).mono hv3 (by omega)) (fun c hc hm => by have := (lbo c hm).2; have := (lbv c hc).1; omega) _ w5 g5 _ cap5 hg5 hown5 hat5
  have lro := ro3.lt
  have ro5 := grown_row hg5 (ro3.below b4 lro) n2
  have rz5 := grown_row hg5 (rz3.below b4 rz3.lt) (fun hm => by have := (hbv2 _ hm).2.1; omega)
  have hm5 := grown_keep goodMM hg5 (goodMM.below hm3 b4) (fun c hc hm' => by
    have h1 := hkO c hm'
    rcases hs c hc with h | h | h
    · exact hdis c h h1
    · have := (lbu c h).1; have := (lbo c h1).2; omega
    · have := (lbo c h1).2; omega)
  have bel4 := below_step bel3 b4
  have bel5 := bel4.trans (grown_below hg5 bel4.size (fun b hb => by have := (hbv2 b hb).2.1; omega))
  refine ⟨bel5.setCell (p := ⟨w.heap.size + 1, 3, none⟩) (by show w.heap.size ≤ w.heap.size + 1; omega) _, rz5.other (a := ⟨w.heap.size + 1, 3, none⟩) (by show w.heap.size + 1 ≠ _; omega) _, _, _, bm', bo', ro5.stored 3 _, goodMM.under (a := ⟨w.heap.size + 1, 3, none⟩) hm5 (by show w.heap.size + 1 < _; omega) _, goodSO.under (a := ⟨w.heap.size + 1, 3, none⟩) hO5 (by show w.heap.size + 1 < _; omega) _, ?_⟩
  intro c hc hc2
  have l3 := lm3 c hc
  rcases hs c hc with h | h | h
  · rcases hs5 c hc2 with k | k | k
    · exact hdis c h k
    · have := (lbm c h).2; have := (lbv c k).1; omega
    · omega
  · rcases hs5 c hc2 with k | k | k
    · have := (lbu c h).1; have := (lbo c k).2; omega
    · exact hd c h k
    · omega
  · rcases hs5 c hc2 with k | k | k
    · have := (lbo c k).2; omega
    · have := (lbv c k).2; omega
    · omega

def dirOf (q : Nat) : Int := if q % 2 = 0 then 1 else -1
def endOf (S q : Nat) : Int × Int := if q + 1 = S then (-1, 0) else ((q : Int) + 1, -dirOf q)
theorem copy_row (l S q : Nat) (h1 : 1 ≤ l) (h2 : l ≤ 3) (hS : S % 2 = 1) : rowOf (copyG l S) (l + 2) q = passRow l q (dirOf q) (endOf S q) := by
  have hl : l = 1 ∨ l = 2 ∨ l = 3 := by omega
  rcases hl with rfl | rfl | rfl <;> by_cases hq : q % 2 = 0 <;> by_cases hs : q + 1 = S
  all_goals first
    | (exfalso; omega)
    | (have hq' : q % 2 = 1 := by omega
       simp [rowOf, List.range_succ, copyG, passRow, passM, dirOf, endOf, List.replicate, hq', hs])
    | simp [rowOf, List.range_succ, copyG, passRow, passM, dirOf, endOf, List.replicate, hq, hs]
theorem copy_texts (l q : Nat) (h1 : 1 ≤ l) (h2 : l ≤ 3) : rowS (copyO l) (l + 2) q = passOut l (decide (q % 2 = 0)) := by
  have hl : l = 1 ∨ l = 2 ∨ l = 3 := by omega
  rcases hl with rfl | rfl | rfl <;> by_cases hq : q % 2 = 0
  all_goals simp [rowS, List.range_succ, copyO, signT, passOut, passO, hq]
theorem okWr_copy (l s : Nat) (h1 : 1 ≤ l) (h2 : l ≤ 3) (h3 : s ≤ 11) (h4 : s % 2 = 1) : okWr (copyW l s) = true := by
  have hl : l = 1 ∨ l = 2 ∨ l = 3 := by omega
  have hs : s = 1 ∨ s = 3 ∨ s = 5 ∨ s = 7 ∨ s = 9 ∨ s = 11 := by omega
  rcases hl with rfl | rfl | rfl <;> rcases hs with rfl | rfl | rfl | rfl | rfl | rfl
  all_goals (clear h1 h2 h3 h4; first | kernel_rfl | rfl | decide)
theorem okWr_big (l s : Nat) (h : 12 < s) : okWr (copyW l s) = false := by
  have : ¬ ((tableOf (copyG l s) (l + 2) s).length : Int) ≤ 12 := by rw [tableOf_len]; omega
  simp [okWr, okT, WrData.t, copyW, this]

def toldWr (r : WrData) : WrData × Int := if okWr r = true then (r, 0) else (⟨0, 0, [], []⟩, 3)
def toldV (v : Value) (r : WrData) : Value := if okWr r = true then v else .agg #[.int .i64 0, .int .i64 0, .slice none 0 0, .slice none 0 0]
set_option maxHeartbeats 1600000 in
theorem l07Told_any (v : Value) (r : WrData) (w : World) (h : RdWr w v r) :
    Calls Try.prog 40 #[v] w fun e w' => e = .returned (.tuple #[toldV v r, .int .i64 (toldWr r).2]) ∧ Below w.heap.size w w' := by
  obtain ⟨A0, k0, A1, k1, rfl⟩ := h.shape
  have hx := (Row.new w [.int .i64 r.L, .int .i64 r.S, .slice A0 r.mv.length k0, .slice A1 r.out.length k1] 27).alloc (.cells #[.int .i64 0, .int .i64 0, .slice none 0 0, .slice none 0 0] 27)
  have hz := Row.new (w.alloc (.cells #[.int .i64 r.L, .int .i64 r.S, .slice A0 r.mv.length k0, .slice A1 r.out.length k1] 27)) [.int .i64 0, .int .i64 0, .slice none 0 0, .slice none 0 0] 27
  have HZ := Lib.hid (show Row _ (w.heap.size + 1) _ _ by simpa using hz)
  have HX := Lib.hid hx
  have HB := Lib.hid (below_step (below_alloc w (.cells #[.int .i64 r.L, .int .i64 r.S, .slice A0 r.mv.length k0, .slice A1 r.out.length k1] 27)) (below_alloc _ (.cells #[.int .i64 0, .int .i64 0, .slice none 0 0, .slice none 0 0] 27)))
  obtain ⟨vm, vo, hv, hm, ho⟩ := h
  have e1 : Value.slice A0 r.mv.length k0 = vm := by
    have := congrArg (fun x => match x with | .agg a => a[2]? | _ => none) hv
    simpa using this
  have e2 : Value.slice A1 r.out.length k1 = vo := by
    have := congrArg (fun x => match x with | .agg a => a[3]? | _ => none) hv
    simpa using this
  subst e1
  subst e2
  have HM := Lib.hid (fun W (hb : Below w.heap.size w W) => (show RdWr W (.agg #[.int .i64 r.L, .int .i64 r.S, .slice A0 r.mv.length k0, .slice A1 r.out.length k1]) r from ⟨_, _, rfl, keepsPP _ _ _ _ hm hb, keepsSS _ _ _ _ ho hb⟩))
  have HO := Lib.hid (fun W (hx : Row W w.heap.size 27 [.int .i64 r.L, .int .i64 r.S, .slice A0 r.mv.length k0, .slice A1 r.out.length k1]) (hb : Below w.heap.size w W) => l07Ok_any w.heap.size r W ⟨_, _, hx.four.1.1, hx.four.1.2.1, hx.four.1.2.2.1, hx.four.1.2.2.2, keepsPP _ _ _ _ hm hb, keepsSS _ _ _ _ ho hb⟩)
  clear hx hz hm ho hv
  cases hok : okWr r
  · rw [hok] at HO
    have HRES := Lib.hid (show toldWr r = (⟨0, 0, [], []⟩, 3) ∧ ∀ v, toldV v r = .agg #[.int .i64 0, .int .i64 0, .slice none 0 0, .slice none 0 0] from ⟨by rw [toldWr, hok]; rfl, fun v => by rw [toldV, hok]; rfl⟩)
    clear hok
    go_enter Try.func40, Try.ntmps40
    go_wp2_with fail
    refine (HO.out _ HX.out HB.out).mono ?_
    rintro e w1 ⟨rfl, hb1⟩
    have HB1 := Lib.hid (below_step HB.out hb1)
    have hz1 := HZ.out.below hb1 HZ.out.lt
    have HZ1 := Lib.hid hz1
    obtain ⟨⟨z0, z1, z2, z3⟩, zf⟩ := hz1.four
    have lz := hz1.lt
    clear hb1 hz1
    go_wp2
    obtain ⟨W2, hW2, ⟨y0, y1, y2, y3⟩, eO, eB⟩ := stored4Wr (w := w) HZ1.out (owWr_zero _ w.heap.size) (by simp) (by omega) HB1.out
    rw [← hW2]
    clear hW2
    refine bodyPost_ret (v := .tuple #[.agg #[.int .i64 0, .int .i64 0, .slice none 0 0, .slice none 0 0], .int .i64 3]) (by simp [results, Try.results40, go_sem, y0, y1, y2, y3]) rfl ?_
    rw [HRES.out.1, HRES.out.2]
    exact ⟨rfl, eB⟩
  · rw [hok] at HO
    have HRES := Lib.hid (show toldWr r = (r, 0) ∧ ∀ v, toldV v r = v from ⟨by rw [toldWr, hok]; rfl, fun v => by rw [toldV, hok]; rfl⟩)
    clear hok
    go_enter Try.func40, Try.ntmps40
    go_wp2_with fail
    refine (HO.out _ HX.out HB.out).mono ?_
    rintro e w1 ⟨rfl, hb1⟩
    have HB1 := Lib.hid (below_step HB.out hb1)
    have hz1 := HZ.out.below hb1 HZ.out.lt
    have HZ1 := Lib.hid hz1
    obtain ⟨⟨z0, z1, z2, z3⟩, zf⟩ := hz1.four
    obtain ⟨⟨x0, x1, x2, x3⟩, -⟩ := (HX.out.below hb1 HX.out.lt).four
    have lz := hz1.lt
    clear hb1 hz1
    go_wp2
    have rF := ((((HZ1.out.stored 0 (.int .i64 r.L)).stored 1 (.int .i64 r.S)).stored 2 (.slice A0 r.mv.length k0)).stored 3 (.slice A1 r.out.length k1))
    have eB := ((((HB1.out.setCell (p := ⟨w.heap.size + 1, 0, none⟩) (by show w.heap.size ≤ w.heap.size + 1; omega) (.int .i64 r.L)).setCell (p := ⟨w.heap.size + 1, 1, none⟩) (by show w.heap.size ≤ w.heap.size + 1; omega) (.int .i64 r.S)).setCell (p := ⟨w.heap.size + 1, 2, none⟩) (by show w.heap.size ≤ w.heap.size + 1; omega) (.slice A0 r.mv.length k0)).setCell (p := ⟨w.heap.size + 1, 3, none⟩) (by show w.heap.size ≤ w.heap.size + 1; omega) (.slice A1 r.out.length k1))
    generalize (((w1.setCell ⟨w.heap.size + 1, 0, none⟩ (.int .i64 r.L)).setCell ⟨w.heap.size + 1, 1, none⟩ (.int .i64 r.S)).setCell ⟨w.heap.size + 1, 2, none⟩ (.slice A0 r.mv.length k0)).setCell ⟨w.heap.size + 1, 3, none⟩ (.slice A1 r.out.length k1) = W2 at *
    obtain ⟨⟨y0, y1, y2, y3⟩, -⟩ := Row.four (a := .int .i64 r.L) (b := .int .i64 r.S) (c := .slice A0 r.mv.length k0) (d := .slice A1 r.out.length k1) rF
    refine bodyPost_ret (v := .tuple #[.agg #[.int .i64 r.L, .int .i64 r.S, .slice A0 r.mv.length k0, .slice A1 r.out.length k1], .int .i64 0]) (by simp [results, Try.results40, go_sem, y0, y1, y2, y3]) rfl ?_
    rw [HRES.out.1, HRES.out.2]
    exact ⟨rfl, eB⟩

theorem infoMs75 : (Try.prog.info? 51).map (fun i => (i.zero, i.size, i.bytes)) = some (some (.slice none 0 0), 1, 24) := by kernel_rfl
theorem copy_told (l s : Nat) (h1 : 1 ≤ l) (h2 : l ≤ 3) (h4 : s % 2 = 1) : toldWr (copyW l s) = if s ≤ 11 then (copyW l s, 0) else (⟨0, 0, [], []⟩, 3) := by
  by_cases h : s ≤ 11
  · rw [toldWr, okWr_copy l s h1 h2 h h4, if_pos rfl, if_pos h]
  · rw [toldWr, okWr_big l s (by omega), if_neg (by decide), if_neg h]

set_option maxRecDepth 100000 in
set_option maxHeartbeats 6400000 in
theorem specCopy_rd (L t : Int) (w : World) :
    Calls Try.prog 12 #[.int .i64 L, .int .i64 t] w fun e w' => ∃ u, e = .returned (.tuple #[u, .int .i64 (copyRes L t).2]) ∧ RdWr w' u (copyRes L t).1 ∧ Below w.heap.size w w' := by
  have HB0 := Lib.hid (below_alloc w (.cells #[.int .i64 0, .int .i64 0, .slice none 0 0, .slice none 0 0] 27))
  have HZ0 := Lib.hid (Row.new w [.int .i64 0, .int .i64 0, .slice none 0 0, .slice none 0 0] 27)
  have HV := Lib.hid (fun W => l00In_any L 1 3 W)
  by_cases hok : 1 ≤ L ∧ L ≤ 3
  · rw [decide_eq_true hok] at HV
    by_cases ht : 1 ≤ t
    · have ht' : decide (t < 1) = false := decide_eq_false (by omega)
      by_cases ht12 : t ≤ 12
      · have ht12' : ¬ 12 < t := by omega
        obtain ⟨isl, his, hzs0, hzs1, hzs2⟩ := info_parts infoMs75
        obtain ⟨iso, hio, hzo0, hzo1, hzo2⟩ := info_parts infoSo
        obtain ⟨l, rfl⟩ : ∃ l : Nat, L = l := ⟨L.toNat, by omega⟩
        obtain ⟨s, hs⟩ : ∃ s : Nat, 2 * t - 1 = (s : Int) := ⟨(2 * t - 1).toNat, by omega⟩
        have hs2 : 2 * t - 2 = (s : Int) - 1 := by omega
        have l1 : 1 ≤ (l : Int) := hok.1
        have l2 : (l : Int) ≤ 3 := hok.2
        have s1 : 1 ≤ s := by omega
        have s23 : s ≤ 23 := by omega
        have hoddS : s % 2 = 1 := by omega
        have HODD := Lib.hid hoddS
        have HRES := Lib.hid (show copyRes (l : Int) t = toldWr (copyW l s) by
          rw [copy_told l s (by omega) (by omega) hoddS, copyRes, if_pos ⟨hok, ht⟩, hs]
          by_cases h6 : t ≤ 6
          · rw [if_pos h6, if_pos (by omega)]; simp
          · rw [if_neg h6, if_neg (by omega)])
        have hI0 : CwI w (l : Int) [] [] ((w.alloc (.cells #[.int .i64 0, .int .i64 0, .slice none 0 0, .slice none 0 0] 27)).alloc (.cells #[.int .i64 (l : Int), .int .i64 0, .slice none 0 0, .slice none 0 0] 27)) := by
          have hx := Row.new (w.alloc (.cells #[.int .i64 0, .int .i64 0, .slice none 0 0, .slice none 0 0] 27)) [.int .i64 (l : Int), .int .i64 0, .slice none 0 0, .slice none 0 0] 27
          exact ⟨below_step HB0.out (below_alloc _ _), HZ0.out.alloc _, _, _, [], [], (show Row _ (w.heap.size + 1) _ _ by simpa using hx), owL_nil _ _ _ _, owL_nil _ _ _ _, by simp⟩
        have HI0 := Lib.hid hI0
        have HT2 := Lib.hid hs
        clear hI0 hok ht ht12 hoddS
        go_enter Try.func12, Try.ntmps12
        go_wp2_with (go_at_call 24; refine (HV.out _).mono ?_; rintro e w' ⟨rfl, rfl⟩)
        generalize (w.alloc (.cells #[.int .i64 0, .int .i64 0, .slice none 0 0, .slice none 0 0] 27)).alloc (.cells #[.int .i64 (l : Int), .int .i64 0, .slice none 0 0, .slice none 0 0] 27) = W0 at *
        go_loopw [7] (fun i wr => ∃ q : Nat, q ≤ s ∧ i = .int .i64 q ∧ CwI w (l : Int) (tableOf (copyG l s) (l + 2) q) (outTable (copyO l) (l + 2) q) wr) (fun i _ => s - (intOf i).toNat)
        case atStart => exact ⟨0, Nat.zero_le _, rfl, HI0.out⟩
        case round =>
          clear HI0
          obtain ⟨q, hq, rfl, hI⟩ := hrel
          have HI := Lib.hid hI
          clear hI
          have q0 : (0 : Int) ≤ q := by omega
          by_cases hlt : q < s
          · have q1 : (q : Int) < s := by omega
            have q23 : (q : Int) ≤ 22 := by omega
            have hodd := HODD.out
            by_cases hq2 : q % 2 = 0
            · have b1 : ((q : Int) % 2 == 1) = false := by rw [beq_eq_false_iff_ne]; omega
              have b0 : ((q : Int) % 2 == 0) = true := by rw [beq_iff_eq]; omega
              by_cases hqs : q + 1 = s
              · have be : ((q : Int) == (s : Int) - 1) = true := by rw [beq_iff_eq]; omega
                have HP := Lib.hid (l07Pass_own l q 1 true (-1, 0) (wr.alloc (.cells #[.int .i64 (-1), .int .i64 0] 55)) (by omega))
                have HROW := Lib.hid (show rowOf (copyG l s) (l + 2) q = passRow l q 1 (-1, 0) by rw [copy_row l s q (by omega) (by omega) hodd]; simp [dirOf, endOf, hq2, hqs])
                have HTXT := Lib.hid (show rowS (copyO l) (l + 2) q = passOut l true by rw [copy_texts l q (by omega) (by omega)]; simp [hq2])
                clear hq2 hqs hodd
                go_wp2_with fail
                refine HP.out.mono ?_
                rintro e w1 ⟨u, v, rfl, hu, hv, hd, hb1⟩
                have hba := below_alloc wr (.cells #[.int .i64 (-1), .int .i64 0] 55)
                have hsa : wr.heap.size ≤ (wr.alloc (.cells #[.int .i64 (-1), .int .i64 0] 55)).heap.size := hba.size
                have HC := Lib.hid (HI.out.both (below_step hba hb1) ((goodP 55).mono hu hsa) ((goodV strs 9).mono hv hsa) hd)
                obtain ⟨M, m, rfl⟩ := RdP.shape hu.rd
                obtain ⟨O, o, rfl⟩ := owS_shape hv
                have hsw : w.heap.size + 2 ≤ w1.heap.size := by
                  obtain ⟨_, _, _, _, hx, _⟩ := HI.out.box
                  have := hx.lt; have := hb1.size; omega
                clear hu hv hd hb1 hba
                obtain ⟨Bm, km, Bo, ko, hrow, n1, n2, vs, hown, hnext⟩ := HC.out
                rw [tableOf_len, outTable_len] at hrow
                rw [tableOf_len] at n1 hown hnext
                rw [outTable_len] at n2
                have HN := Lib.hid hnext
                have HOW := Lib.hid hown
                have HN2 := Lib.hid n2
                have lpo := hrow.lt
                have hf2 := hrow.free 2
                have hf3 := hrow.free 3
                obtain ⟨⟨o0, o1, o2, o3⟩, -⟩ := hrow.four
                clear hnext hown hrow HC n2
                go_wp2_with (at_builtin; first
                    | (refine wpList_append_lies _ rfl _ _ 22 rfl (w.heap.size + 2) 51 isl (.slice none 0 0) 1 24 Try.underlying22 his hzs0 hzs1 hzs2 rfl (by decide) (.slice Bm q km) q _ rfl HOW.out ⟨w1.heap.size, 0, none⟩ 1 1 [.slice M (passRow l q 1 (-1, 0)).length m] rfl rfl (World.news_of_block (cs := #[.slice M (passRow l q 1 (-1, 0)).length m]) (t := 51) (fr := (0, 0)) (heap_alloc_new w1 _)) (by simp [Value.oneCell']) (by omega) (by unfold maxLen; omega) (by omega) (by simp; omega) (w1.heap.size + 1) (by simp) ?_; intro g cap w2 hown1 hgrow hat hlt2; have p1 := grown_cell hgrow n1 (below_keep (below_alloc _ _) o2); have p2 := grown_free hgrow n1 (by simp; omega) (below_keepf (below_alloc _ _) lpo hf2); have p3 := grown_cell hgrow n1 (below_keep (below_alloc _ _) o3); have p4 := grown_free hgrow n1 (by simp; omega) (below_keepf (below_alloc _ _) lpo hf3); obtain ⟨W3, hW3, hs3, hrow3, vs2, hown2, hnext2⟩ := HN.out w2 g cap hgrow hown1 hat; subst hW3; rw [outTable_len] at hrow3 hown2 hnext2; have HOW2 := Lib.hid hown2; have HNX := Lib.hid hnext2; have HR3 := Lib.hid hrow3; have hs3' : w.heap.size + 2 ≤ w2.heap.size := by simpa using hs3)
                    | (refine wpList_append_lies _ rfl _ _ 25 rfl (w.heap.size + 2) 44 iso (.slice none 0 0) 1 24 Try.underlying25 hio hzo0 hzo1 hzo2 rfl (by decide) (.slice Bo q ko) q _ rfl HOW2.out ⟨w2.heap.size, 0, none⟩ 1 1 [.slice O (passOut l true).length o] rfl rfl (World.news_of_block (cs := #[.slice O (passOut l true).length o]) (t := 44) (fr := (0, 0)) (by simpa using heap_alloc_new (w2.setCell ⟨w.heap.size + 1, 2, none⟩ (.slice (some ⟨g, 0, none⟩) (q + 1) cap)) (.cells #[.slice O (passOut l true).length o] 44))) (by simp [Value.oneCell']) (by omega) (by unfold maxLen; omega) (by omega) (by simp; omega) (w2.heap.size + 1) (by simp) ?_; intro g5 cap5 w5 hown5 hgrow5 hat5 hlt5; have p5 := grown_cell hgrow5 HN2.out (below_keep (below_alloc _ _) HR3.out.four.1.2.2.2); have p6 := grown_free hgrow5 HN2.out (by simp; omega) (below_keepf (below_alloc _ _) HR3.out.lt (HR3.out.free 3)); have HR := Lib.hid (HNX.out w5 g5 cap5 hgrow5 hown5 (by simpa using hat5)); clear hown5 hgrow5 hat5))
                go_roundw
                case rel => exact ⟨q + 1, by omega, by go_num, by rw [tableOf_succ, outTable_succ, HROW.out, HTXT.out]; exact HR.out⟩
                case measure => simp [intOf]; omega
              · have be : ((q : Int) == (s : Int) - 1) = false := by rw [beq_eq_false_iff_ne]; omega
                have HP := Lib.hid (l07Pass_own l q 1 true ((q : Int) + 1, -1) (wr.alloc (.cells #[.int .i64 ((q : Int) + 1), .int .i64 (-1)] 55)) (by omega))
                have HROW := Lib.hid (show rowOf (copyG l s) (l + 2) q = passRow l q 1 ((q : Int) + 1, -1) by rw [copy_row l s q (by omega) (by omega) hodd]; simp [dirOf, endOf, hq2, hqs])
                have HTXT := Lib.hid (show rowS (copyO l) (l + 2) q = passOut l true by rw [copy_texts l q (by omega) (by omega)]; simp [hq2])
                clear hq2 hqs hodd
                go_wp2_with fail
                refine HP.out.mono ?_
                rintro e w1 ⟨u, v, rfl, hu, hv, hd, hb1⟩
                have hba := below_alloc wr (.cells #[.int .i64 ((q : Int) + 1), .int .i64 (-1)] 55)
                have hsa : wr.heap.size ≤ (wr.alloc (.cells #[.int .i64 ((q : Int) + 1), .int .i64 (-1)] 55)).heap.size := hba.size
                have HC := Lib.hid (HI.out.both (below_step hba hb1) ((goodP 55).mono hu hsa) ((goodV strs 9).mono hv hsa) hd)
                obtain ⟨M, m, rfl⟩ := RdP.shape hu.rd
                obtain ⟨O, o, rfl⟩ := owS_shape hv
                have hsw : w.heap.size + 2 ≤ w1.heap.size := by
                  obtain ⟨_, _, _, _, hx, _⟩ := HI.out.box
                  have := hx.lt; have := hb1.size; omega
                clear hu hv hd hb1 hba
                obtain ⟨Bm, km, Bo, ko, hrow, n1, n2, vs, hown, hnext⟩ := HC.out
                rw [tableOf_len, outTable_len] at hrow
                rw [tableOf_len] at n1 hown hnext
                rw [outTable_len] at n2
                have HN := Lib.hid hnext
                have HOW := Lib.hid hown
                have HN2 := Lib.hid n2
                have lpo := hrow.lt
                have hf2 := hrow.free 2
                have hf3 := hrow.free 3
                obtain ⟨⟨o0, o1, o2, o3⟩, -⟩ := hrow.four
                clear hnext hown hrow HC n2
                go_wp2_with (at_builtin; first
                    | (refine wpList_append_lies _ rfl _ _ 22 rfl (w.heap.size + 2) 51 isl (.slice none 0 0) 1 24 Try.underlying22 his hzs0 hzs1 hzs2 rfl (by decide) (.slice Bm q km) q _ rfl HOW.out ⟨w1.heap.size, 0, none⟩ 1 1 [.slice M (passRow l q 1 ((q : Int) + 1, -1)).length m] rfl rfl (World.news_of_block (cs := #[.slice M (passRow l q 1 ((q : Int) + 1, -1)).length m]) (t := 51) (fr := (0, 0)) (heap_alloc_new w1 _)) (by simp [Value.oneCell']) (by omega) (by unfold maxLen; omega) (by omega) (by simp; omega) (w1.heap.size + 1) (by simp) ?_; intro g cap w2 hown1 hgrow hat hlt2; have p1 := grown_cell hgrow n1 (below_keep (below_alloc _ _) o2); have p2 := grown_free hgrow n1 (by simp; omega) (below_keepf (below_alloc _ _) lpo hf2); have p3 := grown_cell hgrow n1 (below_keep (below_alloc _ _) o3); have p4 := grown_free hgrow n1 (by simp; omega) (below_keepf (below_alloc _ _) lpo hf3); obtain ⟨W3, hW3, hs3, hrow3, vs2, hown2, hnext2⟩ := HN.out w2 g cap hgrow hown1 hat; subst hW3; rw [outTable_len] at hrow3 hown2 hnext2; have HOW2 := Lib.hid hown2; have HNX := Lib.hid hnext2; have HR3 := Lib.hid hrow3; have hs3' : w.heap.size + 2 ≤ w2.heap.size := by simpa using hs3)
                    | (refine wpList_append_lies _ rfl _ _ 25 rfl (w.heap.size + 2) 44 iso (.slice none 0 0) 1 24 Try.underlying25 hio hzo0 hzo1 hzo2 rfl (by decide) (.slice Bo q ko) q _ rfl HOW2.out ⟨w2.heap.size, 0, none⟩ 1 1 [.slice O (passOut l true).length o] rfl rfl (World.news_of_block (cs := #[.slice O (passOut l true).length o]) (t := 44) (fr := (0, 0)) (by simpa using heap_alloc_new (w2.setCell ⟨w.heap.size + 1, 2, none⟩ (.slice (some ⟨g, 0, none⟩) (q + 1) cap)) (.cells #[.slice O (passOut l true).length o] 44))) (by simp [Value.oneCell']) (by omega) (by unfold maxLen; omega) (by omega) (by simp; omega) (w2.heap.size + 1) (by simp) ?_; intro g5 cap5 w5 hown5 hgrow5 hat5 hlt5; have p5 := grown_cell hgrow5 HN2.out (below_keep (below_alloc _ _) HR3.out.four.1.2.2.2); have p6 := grown_free hgrow5 HN2.out (by simp; omega) (below_keepf (below_alloc _ _) HR3.out.lt (HR3.out.free 3)); have HR := Lib.hid (HNX.out w5 g5 cap5 hgrow5 hown5 (by simpa using hat5)); clear hown5 hgrow5 hat5))
                go_roundw
                case rel => exact ⟨q + 1, by omega, by go_num, by rw [tableOf_succ, outTable_succ, HROW.out, HTXT.out]; exact HR.out⟩
                case measure => simp [intOf]; omega
            · have b1 : ((q : Int) % 2 == 1) = true := by rw [beq_iff_eq]; omega
              have b0 : ((q : Int) % 2 == 0) = false := by rw [beq_eq_false_iff_ne]; omega
              have hqs : ¬ q + 1 = s := by omega
              have be : ((q : Int) == (s : Int) - 1) = false := by rw [beq_eq_false_iff_ne]; omega
              have HP := Lib.hid (l07Pass_own l q (-1) false ((q : Int) + 1, 1) (wr.alloc (.cells #[.int .i64 ((q : Int) + 1), .int .i64 1] 55)) (by omega))
              have HROW := Lib.hid (show rowOf (copyG l s) (l + 2) q = passRow l q (-1) ((q : Int) + 1, 1) by rw [copy_row l s q (by omega) (by omega) hodd]; simp [dirOf, endOf, hq2, hqs])
              have HTXT := Lib.hid (show rowS (copyO l) (l + 2) q = passOut l false by rw [copy_texts l q (by omega) (by omega)]; simp [hq2])
              clear hq2 hqs hodd
              go_wp2_with fail
              refine HP.out.mono ?_
              rintro e w1 ⟨u, v, rfl, hu, hv, hd, hb1⟩
              have hba := below_alloc wr (.cells #[.int .i64 ((q : Int) + 1), .int .i64 1] 55)
              have hsa : wr.heap.size ≤ (wr.alloc (.cells #[.int .i64 ((q : Int) + 1), .int .i64 1] 55)).heap.size := hba.size
              have HC := Lib.hid (HI.out.both (below_step hba hb1) ((goodP 55).mono hu hsa) ((goodV strs 9).mono hv hsa) hd)
              obtain ⟨M, m, rfl⟩ := RdP.shape hu.rd
              obtain ⟨O, o, rfl⟩ := owS_shape hv
              have hsw : w.heap.size + 2 ≤ w1.heap.size := by
                obtain ⟨_, _, _, _, hx, _⟩ := HI.out.box
                have := hx.lt; have := hb1.size; omega
              clear hu hv hd hb1 hba
              obtain ⟨Bm, km, Bo, ko, hrow, n1, n2, vs, hown, hnext⟩ := HC.out
              rw [tableOf_len, outTable_len] at hrow
              rw [tableOf_len] at n1 hown hnext
              rw [outTable_len] at n2
              have HN := Lib.hid hnext
              have HOW := Lib.hid hown
              have HN2 := Lib.hid n2
              have lpo := hrow.lt
              have hf2 := hrow.free 2
              have hf3 := hrow.free 3
              obtain ⟨⟨o0, o1, o2, o3⟩, -⟩ := hrow.four
              clear hnext hown hrow HC n2
              go_wp2_with (at_builtin; first
                  | (refine wpList_append_lies _ rfl _ _ 22 rfl (w.heap.size + 2) 51 isl (.slice none 0 0) 1 24 Try.underlying22 his hzs0 hzs1 hzs2 rfl (by decide) (.slice Bm q km) q _ rfl HOW.out ⟨w1.heap.size, 0, none⟩ 1 1 [.slice M (passRow l q (-1) ((q : Int) + 1, 1)).length m] rfl rfl (World.news_of_block (cs := #[.slice M (passRow l q (-1) ((q : Int) + 1, 1)).length m]) (t := 51) (fr := (0, 0)) (heap_alloc_new w1 _)) (by simp [Value.oneCell']) (by omega) (by unfold maxLen; omega) (by omega) (by simp; omega) (w1.heap.size + 1) (by simp) ?_; intro g cap w2 hown1 hgrow hat hlt2; have p1 := grown_cell hgrow n1 (below_keep (below_alloc _ _) o2); have p2 := grown_free hgrow n1 (by simp; omega) (below_keepf (below_alloc _ _) lpo hf2); have p3 := grown_cell hgrow n1 (below_keep (below_alloc _ _) o3); have p4 := grown_free hgrow n1 (by simp; omega) (below_keepf (below_alloc _ _) lpo hf3); obtain ⟨W3, hW3, hs3, hrow3, vs2, hown2, hnext2⟩ := HN.out w2 g cap hgrow hown1 hat; subst hW3; rw [outTable_len] at hrow3 hown2 hnext2; have HOW2 := Lib.hid hown2; have HNX := Lib.hid hnext2; have HR3 := Lib.hid hrow3; have hs3' : w.heap.size + 2 ≤ w2.heap.size := by simpa using hs3)
                  | (refine wpList_append_lies _ rfl _ _ 25 rfl (w.heap.size + 2) 44 iso (.slice none 0 0) 1 24 Try.underlying25 hio hzo0 hzo1 hzo2 rfl (by decide) (.slice Bo q ko) q _ rfl HOW2.out ⟨w2.heap.size, 0, none⟩ 1 1 [.slice O (passOut l false).length o] rfl rfl (World.news_of_block (cs := #[.slice O (passOut l false).length o]) (t := 44) (fr := (0, 0)) (by simpa using heap_alloc_new (w2.setCell ⟨w.heap.size + 1, 2, none⟩ (.slice (some ⟨g, 0, none⟩) (q + 1) cap)) (.cells #[.slice O (passOut l false).length o] 44))) (by simp [Value.oneCell']) (by omega) (by unfold maxLen; omega) (by omega) (by simp; omega) (w2.heap.size + 1) (by simp) ?_; intro g5 cap5 w5 hown5 hgrow5 hat5 hlt5; have p5 := grown_cell hgrow5 HN2.out (below_keep (below_alloc _ _) HR3.out.four.1.2.2.2); have p6 := grown_free hgrow5 HN2.out (by simp; omega) (below_keepf (below_alloc _ _) HR3.out.lt (HR3.out.free 3)); have HR := Lib.hid (HNX.out w5 g5 cap5 hgrow5 hown5 (by simpa using hat5)); clear hown5 hgrow5 hat5))
              go_roundw
              case rel => exact ⟨q + 1, by omega, by go_num, by rw [tableOf_succ, outTable_succ, HROW.out, HTXT.out]; exact HR.out⟩
              case measure => simp [intOf]; omega
          · obtain rfl : q = s := by omega
            have q1 : ¬ (q : Int) < (q : Int) := by omega
            obtain ⟨vm, vo, bm, bo, hbx, hm, ho, -⟩ := HI.out.box
            obtain ⟨Am, km, rfl⟩ := OwL.shape hm
            obtain ⟨Ao, ko, rfl⟩ := OwL.shape ho
            have HRW := Lib.hid (show RdWr wr (.agg #[.int .i64 (l : Int), .int .i64 0, .slice Am (tableOf (copyG l q) (l + 2) q).length km, .slice Ao (outTable (copyO l) (l + 2) q).length ko]) (copyW l q) from ⟨_, _, rfl, OwL.rd (fun h => h.rd) hm, OwL.rd (fun h => h.1.rd) ho⟩)
            have HT := Lib.hid (l07Told_any _ _ _ HRW.out)
            have HMO := Lib.hid (show _ ∧ _ from ⟨hm, ho⟩)
            obtain ⟨⟨x0, x1, x2, x3⟩, -⟩ := hbx.four
            have hlw := HI.out.rz.lt
            clear hm ho hbx
            by_cases h11 : q ≤ 11
            · have hok := okWr_copy l q (by omega) (by omega) h11 HODD.out
              have ev : ∀ v, toldV v (copyW l q) = v := fun v => by rw [toldV, hok, if_pos rfl]
              have ec : toldWr (copyW l q) = (copyW l q, 0) := by rw [toldWr, hok, if_pos rfl]
              rw [ev, ec] at HT
              rw [ec] at HRES
              clear ev ec hok h11
              go_wp2_with fail
              refine HT.out.mono ?_
              rintro e w1 ⟨rfl, hb1⟩
              have HB1 := Lib.hid (below_step HI.out.bel hb1)
              have hz1 := HI.out.rz.below hb1 HI.out.rz.lt
              have HZ1 := Lib.hid hz1
              have HMO1 := Lib.hid (show _ ∧ _ from ⟨goodMM.below HMO.out.1 hb1, goodSO.below HMO.out.2 hb1⟩)
              obtain ⟨⟨z0, z1, z2, z3⟩, zf⟩ := hz1.four
              have lz := hz1.lt
              clear hb1 hz1
              go_wp2
              have rF := ((((HZ1.out.stored 0 (.int .i64 (l : Int))).stored 1 (.int .i64 0)).stored 2 (.slice Am (tableOf (copyG l q) (l + 2) q).length km)).stored 3 (.slice Ao (outTable (copyO l) (l + 2) q).length ko))
              have eB := ((((HB1.out.setCell (p := ⟨w.heap.size, 0, none⟩) (Nat.le_refl _) (.int .i64 (l : Int))).setCell (p := ⟨w.heap.size, 1, none⟩) (Nat.le_refl _) (.int .i64 0)).setCell (p := ⟨w.heap.size, 2, none⟩) (Nat.le_refl _) (.slice Am (tableOf (copyG l q) (l + 2) q).length km)).setCell (p := ⟨w.heap.size, 3, none⟩) (Nat.le_refl _) (.slice Ao (outTable (copyO l) (l + 2) q).length ko))
              have eM := goodMM.under (a := ⟨w.heap.size, 3, none⟩) (goodMM.under (a := ⟨w.heap.size, 2, none⟩) (goodMM.under (a := ⟨w.heap.size, 1, none⟩) (goodMM.under (a := ⟨w.heap.size, 0, none⟩) HMO1.out.1 (by show w.heap.size < _; omega) (.int .i64 (l : Int))) (by show w.heap.size < _; omega) (.int .i64 0)) (by show w.heap.size < _; omega) (.slice Am (tableOf (copyG l q) (l + 2) q).length km)) (by show w.heap.size < _; omega) (.slice Ao (outTable (copyO l) (l + 2) q).length ko)
              have eS := goodSO.under (a := ⟨w.heap.size, 3, none⟩) (goodSO.under (a := ⟨w.heap.size, 2, none⟩) (goodSO.under (a := ⟨w.heap.size, 1, none⟩) (goodSO.under (a := ⟨w.heap.size, 0, none⟩) HMO1.out.2 (by show w.heap.size < _; omega) (.int .i64 (l : Int))) (by show w.heap.size < _; omega) (.int .i64 0)) (by show w.heap.size < _; omega) (.slice Am (tableOf (copyG l q) (l + 2) q).length km)) (by show w.heap.size < _; omega) (.slice Ao (outTable (copyO l) (l + 2) q).length ko)
              generalize (((w1.setCell ⟨w.heap.size, 0, none⟩ (.int .i64 (l : Int))).setCell ⟨w.heap.size, 1, none⟩ (.int .i64 0)).setCell ⟨w.heap.size, 2, none⟩ (.slice Am (tableOf (copyG l q) (l + 2) q).length km)).setCell ⟨w.heap.size, 3, none⟩ (.slice Ao (outTable (copyO l) (l + 2) q).length ko) = W2 at *
              obtain ⟨⟨y0, y1, y2, y3⟩, -⟩ := Row.four (a := .int .i64 (l : Int)) (b := .int .i64 0) (c := .slice Am (tableOf (copyG l q) (l + 2) q).length km) (d := .slice Ao (outTable (copyO l) (l + 2) q).length ko) rF
              refine bodyPost_ret (v := .tuple #[.agg #[.int .i64 (l : Int), .int .i64 0, .slice Am (tableOf (copyG l q) (l + 2) q).length km, .slice Ao (outTable (copyO l) (l + 2) q).length ko], .int .i64 0]) (by simp [results, Try.results12, go_sem, y0, y1, y2, y3]) rfl ?_
              rw [HRES.out]
              exact ⟨_, rfl, ⟨_, _, rfl, OwL.rd (fun h => h.rd) eM, OwL.rd (fun h => h.1.rd) eS⟩, eB⟩
            · have hok := okWr_big l q (by have := HODD.out; omega)
              have ev : ∀ v, toldV v (copyW l q) = .agg #[.int .i64 0, .int .i64 0, .slice none 0 0, .slice none 0 0] := fun v => by rw [toldV, hok, if_neg (by decide)]
              have ec : toldWr (copyW l q) = (⟨0, 0, [], []⟩, 3) := by rw [toldWr, hok, if_neg (by decide)]
              rw [ev, ec] at HT
              rw [ec] at HRES
              clear ev ec hok h11
              go_wp2_with fail
              refine HT.out.mono ?_
              rintro e w1 ⟨rfl, hb1⟩
              have HB1 := Lib.hid (below_step HI.out.bel hb1)
              have hz1 := HI.out.rz.below hb1 HI.out.rz.lt
              have HZ1 := Lib.hid hz1
              obtain ⟨⟨z0, z1, z2, z3⟩, zf⟩ := hz1.four
              have lz := hz1.lt
              clear hb1 hz1
              go_wp2
              obtain ⟨W2, hW2, ⟨y0, y1, y2, y3⟩, eO, eB⟩ := stored4Wr (w := w) HZ1.out (owWr_zero _ w.heap.size) (by simp) (by omega) HB1.out
              rw [← hW2]
              clear hW2
              refine bodyPost_ret (v := .tuple #[.agg #[.int .i64 0, .int .i64 0, .slice none 0 0, .slice none 0 0], .int .i64 3]) (by simp [results, Try.results12, go_sem, y0, y1, y2, y3]) rfl ?_
              rw [HRES.out]
              exact ⟨_, rfl, eO.rd, eB⟩
      · have ht12' : 12 < t := by omega
        have HRES := Lib.hid (show copyRes L t = (⟨0, 0, [], []⟩, 3) by rw [copyRes, if_pos ⟨hok, ht⟩, if_neg (by omega)])
        clear hok ht12
        obtain ⟨⟨z0, z1, z2, z3⟩, zf⟩ := HZ0.out.four
        have lz := HZ0.out.lt
        go_enter Try.func12, Try.ntmps12
        go_wp2_with (go_at_call 24; refine (HV.out _).mono ?_; rintro e w' ⟨rfl, rfl⟩)
        refine bodyPost_ret (v := .tuple #[.agg #[.int .i64 0, .int .i64 0, .slice none 0 0, .slice none 0 0], .int .i64 3]) (by simp [results, Try.results12, go_sem, z0, z1, z2, z3]) rfl ?_
        rw [HRES.out]
        exact ⟨_, rfl, (owWr_zero _ 0).rd, HB0.out⟩
    · have ht' : decide (t < 1) = true := decide_eq_true (by omega)
      have HRES := Lib.hid (show copyRes L t = (⟨0, 0, [], []⟩, 2) by rw [copyRes, if_neg (fun h => ht h.2)])
      clear hok ht
      obtain ⟨⟨z0, z1, z2, z3⟩, zf⟩ := HZ0.out.four
      have lz := HZ0.out.lt
      go_enter Try.func12, Try.ntmps12
      go_wp2_with (go_at_call 24; refine (HV.out _).mono ?_; rintro e w' ⟨rfl, rfl⟩)
      refine bodyPost_ret (v := .tuple #[.agg #[.int .i64 0, .int .i64 0, .slice none 0 0, .slice none 0 0], .int .i64 2]) (by simp [results, Try.results12, go_sem, z0, z1, z2, z3]) rfl ?_
      rw [HRES.out]
      exact ⟨_, rfl, (owWr_zero _ 0).rd, HB0.out⟩
  · rw [decide_eq_false hok] at HV
    have HRES := Lib.hid (show copyRes L t = (⟨0, 0, [], []⟩, 2) by rw [copyRes, if_neg (fun h => hok h.1)])
    clear hok
    obtain ⟨⟨z0, z1, z2, z3⟩, zf⟩ := HZ0.out.four
    have lz := HZ0.out.lt
    go_enter Try.func12, Try.ntmps12
    go_wp2_with (go_at_call 24; refine (HV.out _).mono ?_; rintro e w' ⟨rfl, rfl⟩)
    refine bodyPost_ret (v := .tuple #[.agg #[.int .i64 0, .int .i64 0, .slice none 0 0, .slice none 0 0], .int .i64 2]) (by simp [results, Try.results12, go_sem, z0, z1, z2, z3]) rfl ?_
    rw [HRES.out]
    exact ⟨_, rfl, (owWr_zero _ 0).rd, HB0.out⟩
end Go.Proofs.Ytahgekjpnmmooaa
