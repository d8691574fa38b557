/-
  A copy of the texts of a writer, by the model.
  The writer for turned words: the model's answer.
  The writer for turned words: the model's walk.
-/
import Derived.Test.YtahgekjpnmmooaaJ1
import Derived.Test.YtahgekjpnmmooaaJ3
import Derived.Test.YtahgekjpnmmooaaJ2
import Derived.Deep.RegionLaw
import Derived.Deep.AppendLies
namespace Go.Proofs.Ytahgekjpnmmooaa
open Go.RowKit

theorem rdS_news {w : World} {ad : Addr} {n c : Nat} {xs : List ByteArray} (h : RdS w (.slice (some ad) n c) xs) : ∀ j u, (strs xs)[j]? = some u → w.cell? (ad.add j) = some u := by
  obtain ⟨A, cap, hv, h1, h2, h3⟩ := h
  simp only [Value.slice.injEq] at hv
  obtain ⟨hA, -, -⟩ := hv
  intro j u hu
  obtain ⟨b, off, hA', hc⟩ := h3 j u hu
  rw [← hA, Option.some.injEq] at hA'
  subst hA'
  rw [Addr.add_lit]
  exact hc
theorem strs_one (xs : List ByteArray) : ∀ u ∈ strs xs, u.oneCell' = true := by
  intro u hu
  obtain ⟨m, _, rfl⟩ := List.mem_map.1 hu
  rfl

set_option maxRecDepth 100000 in
set_option maxHeartbeats 3200000 in
theorem l07Texts_own (v : Value) (out : List (List ByteArray)) (w : World) (h : RdSS w v out) (hl : out.length ≤ 13) (hr : ∀ x ∈ out, 1 ≤ x.length ∧ x.length ≤ 5) :
    Calls Try.prog 48 #[v] w fun e w' => ∃ u bs, e = .returned u ∧ OwSO w' w.heap.size u out bs ∧ Below w.heap.size w w' := by
  obtain ⟨is, his, hzs0, hzs1, hzs2⟩ := info_parts infoStr
  obtain ⟨iso, hio, hzo0, hzo1, hzo2⟩ := info_parts infoSo
  obtain ⟨A, cap, rfl, a1, a2, a3⟩ := RdL.open h
  unfold maxLen at a2
  have HRR := Lib.hid hr
  have hI0 : ∃ bs, OwSO (w.alloc (.cells #[] 44)) w.heap.size (.slice (some ⟨w.heap.size, 0, none⟩) 0 0) [] bs :=
    ⟨_, [], [], World.ownsRow_lit (base := w.heap.size) (e := 44) (size := 1) w #[] 0 (Nat.le_refl _) (by unfold maxLen; omega) rfl, rfl, rfl, fun i u x b hi => by simp at hi, rfl, by simpa using blks_nodup _⟩
  have HI0 := Lib.hid hI0
  clear h hr hI0
  go_enter Try.func48, Try.ntmps48
  go_wp2
  go_loopw [3, 4] (fun vo i wr => ∃ (s : Nat) (Bo : Option Addr) (ko : Nat) (bs : List Nat), s ≤ out.length ∧ i = .int .i64 s ∧ vo = .slice Bo s ko ∧ Below w.heap.size w wr ∧ OwSO wr w.heap.size (.slice Bo s ko) (out.take s) bs) (fun _ i _ => out.length - (intOf i).toNat)
  case atStart =>
    obtain ⟨bs, hb⟩ := HI0.out
    exact ⟨0, _, _, bs, Nat.zero_le _, rfl, rfl, below_alloc _ _, by simpa using hb⟩
  case round =>
    clear HI0
    obtain ⟨s, Bo, ko, bs, hs, rfl, rfl, hbw, hO⟩ := hrel
    have HB := Lib.hid hbw
    by_cases hlt : s < out.length
    · obtain ⟨b, off, u, x, rfl, hx, hc, hR⟩ := a3 s hlt
      obtain ⟨hx1, hx5⟩ := HRR.out x (List.mem_of_getElem? hx)
      obtain ⟨C, capx, rfl, e1, e2, e3⟩ := RdS.open hR
      obtain ⟨bx, offx, _, rfl, -⟩ := e3 0 (by omega)
      unfold maxLen at e2
      have gc := below_keep (below_step hbw (below_alloc wr (.cells #[] 9))) hc
      have gc0 := below_keep hbw hc
      have HX := Lib.hid hx
      have HN := Lib.hid (rdS_news (keepsS _ _ _ _ hR (below_step hbw (below_alloc wr (.cells #[] 9)))))
      have HO := Lib.hid (World.ownsRow_lit (base := wr.heap.size) (e := 9) (size := 1) wr #[] 0 (Nat.le_refl _) (by unfold maxLen; omega) rfl)
      obtain ⟨vs, how, hbv, hnext⟩ := OwL.growP (goodV strs 9) hO
      have htl : (out.take s).length = s := by rw [List.length_take]; omega
      rw [htl] at how hnext
      have hblt : ∀ c ∈ bs, c < wr.heap.size := fun c hc => (goodSO.lt hO hc).2
      have HNX := Lib.hid hnext
      have HOW := Lib.hid how
      have HBV := Lib.hid hbv
      have HBL := Lib.hid hblt
      have hsw := hbw.size
      have i1 : (0 : Int) ≤ s := by omega
      have i2 : (s : Int) < out.length := by omega
      clear hx hc hR e3 a3 hbw hO how hnext hbv hblt htl
      go_wp2_with (at_builtin; first
        | (refine wpList_append_lies _ rfl _ _ 44 rfl wr.heap.size 9 is _ 1 16 Try.underlying44 his hzs0 hzs1 hzs2 rfl (by decide) (.slice (some ⟨wr.heap.size, 0, none⟩) 0 0) 0 [] rfl HO.out ⟨bx, offx, none⟩ x.length capx (strs x) rfl (by rw [strs_len]; omega) HN.out (strs_one x) (by omega) (by unfold maxLen; omega) (by omega) (by simp) (wr.heap.size + 1) (by simp) ?_; intro g1 cap1 w4 hownA hgrowA hatA hltA;
           have hgA : (wr.alloc (.cells #[] 9)).grownBy w4 (Value.slice (some ⟨wr.heap.size, 0, none⟩) 0 0).ownBlock := hgrowA;
           have HBA := Lib.hid (show Below wr.heap.size wr w4 from (below_alloc wr (.cells #[] 9)).trans (grown_below hgA (B := wr.heap.size) (by simp) (fun b hm => by simp [blks, Value.ownBlock] at hm; omega)));
           have hszA := HBA.out.size;
           have HG1 := Lib.hid (show wr.heap.size ≤ g1 by (rcases hatA with h | h; (have : wr.heap.size = g1 := Option.some.inj h; omega); omega));
           have HRW := Lib.hid (show OwV strs 9 w4 wr.heap.size (.slice (some ⟨g1, 0, none⟩) (0 + x.length) cap1) x [g1] from OwV.snoc hownA (by simp) (by simp [strs]) rfl))
        | (refine wpList_append_lies _ rfl _ _ 25 rfl w.heap.size 44 iso (.slice none 0 0) 1 24 Try.underlying25 hio hzo0 hzo1 hzo2 rfl (by decide) (.slice Bo s ko) s _ rfl (rows_below HOW.out (below_step HBA.out (below_alloc w4 (.cells #[.slice (some ⟨g1, 0, none⟩) (0 + x.length) cap1] 44)))) ⟨w4.heap.size, 0, none⟩ 1 1 [.slice (some ⟨g1, 0, none⟩) (0 + x.length) cap1] rfl rfl (World.news_of_block (cs := #[.slice (some ⟨g1, 0, none⟩) (0 + x.length) cap1]) (t := 44) (fr := (0, 0)) (heap_alloc_new w4 _)) (by simp [Value.oneCell']) (by omega) (by unfold maxLen; omega) (by omega) (by simp; omega) (w4.heap.size + 1) (by simp) ?_; intro g cap5 w5 hown1 hgrow hat hlt2;
           obtain ⟨bs', hO5, -⟩ := HNX.out w4 (.slice (some ⟨g1, 0, none⟩) (0 + x.length) cap1) x [g1] HBA.out ((goodV strs 9).mono HRW.out hsw) (fun c hc hm => by (have := HBL.out c hm; have := HG1.out; simp only [List.mem_singleton] at hc; omega)) _ w5 g _ cap5 hgrow hown1 hat;
           have HO5 := Lib.hid hO5;
           have HB5 := Lib.hid (show Below w.heap.size w w5 from (below_step (below_step HB.out HBA.out) (below_alloc w4 (.cells #[.slice (some ⟨g1, 0, none⟩) (0 + x.length) cap1] 44))).trans (grown_below hgrow (by simp; omega) (fun b hb => (HBV.out b hb).2.1))))
        | (refine wpList_append_lies _ rfl _ _ 25 rfl w.heap.size 44 iso (.slice none 0 0) 1 24 Try.underlying25 hio hzo0 hzo1 hzo2 rfl (by decide) (.slice Bo s ko) s _ rfl (rows_below HOW.out (below_step HBA.out (below_alloc w4 (.cells #[.slice (some ⟨g1, 0, none⟩) x.length cap1] 44)))) ⟨w4.heap.size, 0, none⟩ 1 1 [.slice (some ⟨g1, 0, none⟩) x.length cap1] rfl rfl (World.news_of_block (cs := #[.slice (some ⟨g1, 0, none⟩) x.length cap1]) (t := 44) (fr := (0, 0)) (heap_alloc_new w4 _)) (by simp [Value.oneCell']) (by omega) (by unfold maxLen; omega) (by omega) (by simp; omega) (w4.heap.size + 1) (by simp) ?_; intro g cap5 w5 hown1 hgrow hat hlt2;
           obtain ⟨bs', hO5, -⟩ := HNX.out w4 (.slice (some ⟨g1, 0, none⟩) x.length cap1) x [g1] HBA.out ((goodV strs 9).mono (by have := HRW.out; rwa [Nat.zero_add] at this) hsw) (fun c hc hm => by (have := HBL.out c hm; have := HG1.out; simp only [List.mem_singleton] at hc; omega)) _ w5 g _ cap5 hgrow hown1 hat;
           have HO5 := Lib.hid hO5;
           have HB5 := Lib.hid (show Below w.heap.size w w5 from (below_step (below_step HB.out HBA.out) (below_alloc w4 (.cells #[.slice (some ⟨g1, 0, none⟩) x.length cap1] 44))).trans (grown_below hgrow (by simp; omega) (fun b hb => (HBV.out b hb).2.1)))))
      go_roundw
      case rel => exact ⟨s + 1, _, _, _, by omega, by go_num, rfl, HB5.out, by rw [take_succ_of HX.out]; exact HO5.out⟩
      case measure => simp [intOf]; omega
    · obtain rfl : s = out.length := by omega
      have HOO := Lib.hid hO
      clear hbw hO a3
      go_wp2
      go_ret
      exact ⟨_, bs, rfl, by have := HOO.out; rwa [List.take_length] at this, HB.out⟩
end Go.Proofs.Ytahgekjpnmmooaa
namespace Go.Proofs.Ytahgekjpnmmooaa
open Go.RowKit

def swapRow (l : Nat) (x : List ByteArray) : List ByteArray := (x.set l (x.getD (l + 1) noT)).set (l + 1) (x.getD l noT)
theorem swapRow_len (l : Nat) (x : List ByteArray) : (swapRow l x).length = x.length := by simp [swapRow]
def swapTo (l s : Nat) (out : List (List ByteArray)) : List (List ByteArray) := (out.take s).map (swapRow l) ++ out.drop s
def lastRow (l : Nat) (z : ByteArray) : List ByteArray := (List.replicate (l + 2) noT).set (l + 1) z
theorem swapTo_zero (l : Nat) (out : List (List ByteArray)) : swapTo l 0 out = out := by simp [swapTo]
theorem swapTo_len (l s : Nat) (out : List (List ByteArray)) (h : s ≤ out.length) : (swapTo l s out).length = out.length := by simp [swapTo]; omega
theorem swapTo_get {l s : Nat} {out : List (List ByteArray)} {x : List ByteArray} (h : out[s]? = some x) : (swapTo l s out)[s]? = some x := by
  have hs := (List.getElem?_eq_some_iff.1 h).1
  rw [swapTo, List.getElem?_append_right (by simp; omega)]
  simp [Nat.min_eq_left (Nat.le_of_lt hs), h]
theorem swapTo_succ {l s : Nat} {out : List (List ByteArray)} {x : List ByteArray} (h : out[s]? = some x) : (swapTo l s out).set s (swapRow l x) = swapTo l (s + 1) out := by
  have hs := (List.getElem?_eq_some_iff.1 h).1
  have e : ((out.take s).map (swapRow l)).length = s := by simp; omega
  rw [swapTo, swapTo, List.set_append, if_neg (by omega), e, Nat.sub_self, take_succ_of h]
  have e2 := List.drop_eq_getElem_cons hs
  rw [e2, List.set_cons_zero]
  simp
theorem mir_row (r : WrData) (ok : OkWr r) (l : Nat) (hl : r.L = l) {q : Nat} (hq : q < r.mv.length) {x : List ByteArray} (hx : r.out[q]? = some x) : rowS (mirO r) (l + 2) q = swapRow l x := by
  have hxl := (ok.row q x hx).1
  rw [hl] at hxl
  apply List.ext_getElem?
  intro k
  by_cases hk : k < l + 2
  · rw [rowS_get _ hk, mirO, if_pos hq, textAt]
    simp only [List.getD, hx, Option.getD_some]
    unfold swapK swapRow
    rw [hl]
    by_cases h1 : k = l
    · subst h1
      rw [if_pos rfl, List.getElem?_set_ne (by omega), List.getElem?_set_self (by omega)]
      simp [List.getD, show ((k : Int) + 1).toNat = k + 1 by omega]
    · by_cases h2 : k = l + 1
      · subst h2
        rw [if_neg (by omega), if_pos (by omega), List.getElem?_set_self (by simp; omega)]
        simp [List.getD]
      · rw [if_neg (by omega), if_neg (by omega), List.getElem?_set_ne (by omega), List.getElem?_set_ne (by omega), List.getElem?_eq_getElem (show k < x.length by omega)]
        simp
  · rw [List.getElem?_eq_none (by rw [rowS_len]; omega), List.getElem?_eq_none (by rw [swapRow_len]; omega)]
theorem mir_last (r : WrData) (l : Nat) (hl : r.L = l) : rowS (mirO r) (l + 2) r.mv.length = lastRow l (textAt r r.S.toNat l) := by
  apply List.ext_getElem?
  intro k
  by_cases hk : k < l + 2
  · rw [rowS_get _ hk, mirO, if_neg (by omega), lastRow]
    by_cases h2 : k = l + 1
    · subst h2
      rw [if_pos (by omega), List.getElem?_set_self (by simp), show r.L.toNat = l by omega]
    · rw [if_neg (by omega), List.getElem?_set_ne (by omega)]
      simp [hk]
  · rw [List.getElem?_eq_none (by rw [rowS_len]; omega), List.getElem?_eq_none (by simp [lastRow]; omega)]
theorem mir_out (r : WrData) (ok : OkWr r) (l : Nat) (hl : r.L = l) : (mirW r).out = swapTo l r.out.length r.out ++ [lastRow l (textAt r r.S.toNat l)] := by
  have hn := ok.n
  show outTable (mirO r) (r.L + 2).toNat (r.mv.length + 1) = _
  rw [show (r.L + 2).toNat = l + 2 by omega, outTable_succ, mir_last r l hl]
  congr 1
  apply List.ext_getElem?
  intro q
  by_cases hq : q < r.mv.length
  · obtain ⟨x, hx⟩ : ∃ x, r.out[q]? = some x := ⟨_, List.getElem?_eq_getElem (by omega)⟩
    have e1 : (outTable (mirO r) (l + 2) r.mv.length)[q]? = some (rowS (mirO r) (l + 2) q) := by simp [outTable, hq]
    rw [e1, mir_row r ok l hl hq hx]
    simp [swapTo, hx]
  · rw [List.getElem?_eq_none (by rw [outTable_len]; omega), List.getElem?_eq_none (by rw [swapTo_len _ _ _ (Nat.le_refl _)]; omega)]
end Go.Proofs.Ytahgekjpnmmooaa
namespace Go.Proofs.Ytahgekjpnmmooaa
open Go.RowKit

theorem Row.madeSet (w : World) (z : Value) (n : Nat) (e : TypeId) (i : Nat) (v : Value) : Row (w.alloc (.cells ((madeCells #[z] n).setIfInBounds i v) e)) w.heap.size e ((List.replicate n z).set i v) := by
  have e1 : madeCells #[z] n = (List.replicate n z).toArray := by
    apply Array.ext
    · simp [madeCells]
    · intro i h1 h2
      simp [madeCells, Nat.mod_one]
  rw [e1, show (List.replicate n z).toArray.setIfInBounds i v = ((List.replicate n z).set i v).toArray from List.setIfInBounds_toArray ..]
  exact heap_alloc_new w _
theorem OkWr.textOk {r : WrData} (ok : OkWr r) {q k : Nat} (hq : q < r.mv.length) (hk : (k : Int) < r.L + 2) : textOk (textAt r q k) = true := by
  obtain ⟨x, hx, hl, ht⟩ := ok.at hq hk
  have h2 := (ok.row q x hx).2
  unfold textsOk at h2
  exact List.all_eq_true.1 h2 _ (List.mem_of_getElem? ht)
theorem mirO_textOk {r : WrData} (ok : OkWr r) {q k : Nat} (hk : (k : Int) < r.L + 2) : textOk (mirO r q k) = true := by
  have l1 : 1 ≤ r.L := ok.t.l1
  have s1 : 0 ≤ r.S := ok.t.s1
  have s2 : r.S ≤ (r.mv.length : Int) - 1 := ok.t.s2
  unfold mirO
  split
  · rename_i h; exact ok.textOk h (swapK_lt l1 hk)
  · split
    · exact ok.textOk (by omega) (by omega)
    · rfl
theorem okWr_mir {r : WrData} (ok : OkWr r) (h12 : r.mv.length + 1 ≤ 12) : okWr (mirW r) = true := by
  have l1 : 1 ≤ r.L := ok.t.l1
  have l2 : r.L ≤ 3 := ok.t.l2
  have n1 : 1 ≤ (r.mv.length : Int) := ok.t.n1
  refine okWr_all (okT_tableM (L := r.L) (S := r.mv.length) (G := mirG r.t) (n := r.mv.length + 1) (c := (r.L + 2).toNat) l1 l2 (by omega) h12 (by omega) (by omega) (by omega) (fun q k hq hk => by
    have := mirG_ok ok.t (q := q) (k := k) (by show (k : Int) < r.L + 2; omega)
    simpa [WrData.t] using this)) (by show ((outTable _ _ _).length : Int) = (tableOf _ _ _).length; rw [outTable_len, tableOf_len]) ?_
  rw [List.all_eq_true]
  intro x hx
  obtain ⟨q, hq, rfl⟩ := List.mem_map.1 hx
  have e : ((rowS (mirO r) (r.L + 2).toNat q).length : Int) = (mirW r).L + 2 := by rw [rowS_len]; show (((r.L + 2).toNat : Nat) : Int) = r.L + 2; omega
  have e2 : textsOk (rowS (mirO r) (r.L + 2).toNat q) = true := by
    unfold textsOk
    rw [List.all_eq_true]
    intro z hz
    obtain ⟨k, hk, rfl⟩ := List.mem_map.1 hz
    exact mirO_textOk ok (by have : k < (r.L + 2).toNat := by simpa using hk
                             omega)
  simp [okRowWr, e, e2]

set_option maxRecDepth 100000 in
set_option maxHeartbeats 6400000 in
theorem specMw_rd (v : Value) (r : WrData) (w : World) (h : RdWr w v r) :
    Calls Try.prog 15 #[v] w fun e w' => ∃ u, e = .returned (.tuple #[u, .int .i64 (mirWRes r).2]) ∧ RdWr w' u (mirWRes r).1 ∧ Below w.heap.size w w' := by
  obtain ⟨iso, hio, hzo0, hzo1, hzo2⟩ := info_parts infoSo
  obtain ⟨vm, vo, rfl, hm, ho⟩ := h
  obtain ⟨A, ka, rfl⟩ := RdL.shape hm
  obtain ⟨B, kb, rfl⟩ := RdL.shape ho
  have HMT := Lib.hid (fun W (hb : Below w.heap.size w W) => specMir_own (.agg #[.int .i64 r.L, .int .i64 r.S, .slice A r.mv.length ka]) r.t W ⟨_, rfl, keepsPP _ _ _ _ hm hb⟩)
  have HMM := Lib.hid hm
  have HOO := Lib.hid ho
  have hz := Row.new (w.alloc (.cells #[.int .i64 r.L, .int .i64 r.S, .slice A r.mv.length ka, .slice B r.out.length kb] 27)) [.int .i64 0, .int .i64 0, .slice none 0 0, .slice none 0 0] 27
  have HZ := Lib.hid (show Row _ (w.heap.size + 1) _ _ by simpa using hz)
  have HX := Lib.hid ((Row.new w [.int .i64 r.L, .int .i64 r.S, .slice A r.mv.length ka, .slice B r.out.length kb] 27).alloc (.cells #[.int .i64 0, .int .i64 0, .slice none 0 0, .slice none 0 0] 27))
  have HB := Lib.hid (below_step (below_alloc w (.cells #[.int .i64 r.L, .int .i64 r.S, .slice A r.mv.length ka, .slice B r.out.length kb] 27)) (below_alloc _ (.cells #[.int .i64 0, .int .i64 0, .slice none 0 0, .slice none 0 0] 27)))
  have HOK0 := Lib.hid (l07Ok_any w.heap.size r _ ⟨_, _, HX.out.four.1.1, HX.out.four.1.2.1, HX.out.four.1.2.2.1, HX.out.four.1.2.2.2, keepsPP _ _ _ _ hm HB.out, keepsSS _ _ _ _ ho HB.out⟩)
  clear hz hm ho
  cases hok : okWr r
  · have HRES := Lib.hid (show mirWRes r = (⟨0, 0, [], []⟩, 1) by rw [mirWRes, hok]; rfl)
    rw [hok] at HOK0
    clear hok
    go_enter Try.func15, Try.ntmps15
    go_wp2_with fail
    refine HOK0.out.mono ?_
    rintro e w1 ⟨rfl, hb1⟩
    have HB1 := Lib.hid (below_step HB.out hb1)
    have hz1 := HZ.out.below hb1 HZ.out.lt
    have HZ1 := Lib.hid hz1
    obtain ⟨⟨z0, z1, z2, z3⟩, zf⟩ := hz1.four
    have lz := hz1.lt
    clear hb1 hz1
    go_wp2
    obtain ⟨W2, hW2, ⟨y0, y1, y2, y3⟩, eO, eB⟩ := stored4Wr (w := w) HZ1.out (owWr_zero _ w.heap.size) (by simp) (by omega) HB1.out
    rw [← hW2]
    clear hW2
    refine bodyPost_ret (v := .tuple #[.agg #[.int .i64 0, .int .i64 0, .slice none 0 0, .slice none 0 0], .int .i64 1]) (by simp [results, Try.results15, go_sem, y0, y1, y2, y3]) rfl ?_
    rw [HRES.out]
    exact ⟨_, rfl, eO.rd, eB⟩
  · have ok := okWr_out hok
    have hokt : okT r.t = true := by simp only [okWr, Bool.and_eq_true] at hok; exact hok.1
    rw [hok] at HOK0
    have HOK := Lib.hid ok
    have l1 : 1 ≤ r.L := ok.t.l1
    have l2 : r.L ≤ 3 := ok.t.l2
    by_cases h12 : r.mv.length + 1 ≤ 12
    · have HRES := Lib.hid (show mirWRes r = (mirW r, 0) by rw [mirWRes, hok, if_pos rfl, if_pos h12])
      have HMR := Lib.hid (show mirRes r.t = (⟨r.L, r.mv.length, tableOf (mirG r.t) (r.L + 2).toNat (r.mv.length + 1)⟩, 0) by rw [mirRes, if_pos hokt]; exact if_pos h12)
      rw [HMR.out] at HMT
      obtain ⟨l, hl⟩ : ∃ l : Nat, r.L = l := ⟨r.L.toNat, by omega⟩
      obtain ⟨n, hn⟩ : ∃ n : Nat, r.mv.length = n := ⟨_, rfl⟩
      have hno : r.out.length = n := ok.n.trans hn
      have HTO := Lib.hid (show toldWr (mirW r) = (mirW r, 0) ∧ ∀ v, toldV v (mirW r) = v from ⟨by rw [toldWr, okWr_mir ok h12, if_pos rfl], fun v => by rw [toldV, okWr_mir ok h12, if_pos rfl]⟩)
      have HOUT := Lib.hid (mir_out r ok l hl)
      have HTX := Lib.hid (fun W (hb : Below w.heap.size w W) => l07Texts_own (.slice B r.out.length kb) r.out W (keepsSS _ _ _ _ HOO.out hb) (by omega) (fun x hx => by
        obtain ⟨q, hq⟩ := List.mem_iff_getElem?.1 hx
        have := (HOK.out.row q x hq).1
        omega))
      have n11 : n ≤ 11 := by omega
      have n1 : 1 ≤ n := by have := ok.t.n1; have e : r.t.mv.length = n := hn; omega
      have s1 : 0 ≤ r.S := ok.t.s1
      have s2 : r.S ≤ (n : Int) - 1 := by have h2 := ok.t.s2; have e : r.t.mv.length = n := hn; have e2 : r.t.S = r.S := rfl; omega
      have hll : 1 ≤ l ∧ l ≤ 3 := by omega
      have HN := Lib.hid (show _ ∧ _ ∧ _ from ⟨hl, hn, hno⟩)
      clear hok ok hokt h12 hl hn hno
      go_enter Try.func15, Try.ntmps15
      go_wp2_with fail
      refine HOK0.out.mono ?_
      rintro e w1 ⟨rfl, hb1⟩
      have HB1 := Lib.hid (below_step HB.out hb1)
      have HZ1 := Lib.hid (HZ.out.below hb1 HZ.out.lt)
      have HX1 := Lib.hid (HX.out.below hb1 HX.out.lt)
      obtain ⟨⟨x0, x1, x2, x3⟩, -⟩ := HX1.out.four
      have hlz : w.heap.size + 1 < w1.heap.size := HZ1.out.lt
      clear hb1
      go_wp2_with fail
      refine (HMT.out _ HB1.out).mono ?_
      rintro e w2 ⟨u, bT, rfl, hu, hb2⟩
      obtain ⟨T, kt, rfl⟩ := hu.rd.shape
      simp only [tableOf_len] at hu
      simp only [tableOf_len]
      have HB2 := Lib.hid (below_step HB1.out hb2)
      have HZ2 := Lib.hid ((HZ1.out.below hb2 HZ1.out.lt).alloc (.cells #[.int .i64 r.L, .int .i64 (r.mv.length : Int), .slice T (r.mv.length + 1) kt] 24))
      have HX2 := Lib.hid ((HX1.out.below hb2 HX1.out.lt).alloc (.cells #[.int .i64 r.L, .int .i64 (r.mv.length : Int), .slice T (r.mv.length + 1) kt] 24))
      have HU := Lib.hid hu
      have hs2 := hb2.size
      have HT2 := Lib.hid (Row.new w2 [.int .i64 r.L, .int .i64 (r.mv.length : Int), .slice T (r.mv.length + 1) kt] 24)
      have HA2 := Lib.hid (below_alloc w2 (.cells #[.int .i64 r.L, .int .i64 (r.mv.length : Int), .slice T (r.mv.length + 1) kt] 24))
      clear x0 x1 x2 x3 hu hb2
      obtain ⟨⟨x0, x1, x2, x3⟩, -⟩ := HX2.out.four
      go_wp2_with fail
      refine (HTX.out _ (below_step HB2.out HA2.out)).mono ?_
      rintro e w3 ⟨vo, bs, rfl, hvo, hb3⟩
      obtain ⟨Bo, ko, rfl⟩ := OwL.shape hvo
      have HB3 := Lib.hid hb3
      have HVO := Lib.hid hvo
      have hsa : (w2.alloc (.cells #[.int .i64 r.L, .int .i64 (r.mv.length : Int), .slice T (r.mv.length + 1) kt] 24)).heap.size = w2.heap.size + 1 := by simp
      clear x0 x1 x2 x3 hvo hb3
      rw [HN.out.2.2]
      rw [HN.out.1]
      go_wp2
      go_loopw [8] (fun i wr => ∃ s : Nat, s ≤ n ∧ i = .int .i64 s ∧ Below (w2.heap.size + 1) w3 wr ∧ OwSO wr (w2.heap.size + 1) (.slice Bo n ko) (swapTo l s r.out) bs) (fun i _ => n - (intOf i).toNat)
      case atStart => exact ⟨0, Nat.zero_le _, rfl, ⟨rfl, rfl, rfl, Nat.le_refl _, fun _ _ => rfl⟩, by rw [swapTo_zero]; have := HVO.out; rwa [hsa, HN.out.2.2] at this⟩
      case round =>
        obtain ⟨s, hs, rfl, hbw, hO⟩ := hrel
        have HBW := Lib.hid hbw
        by_cases hlt : s < n
        · have hsl : s < r.out.length := by have := HN.out.2.2; omega
          obtain ⟨x, hx⟩ : ∃ x, r.out[s]? = some x := ⟨r.out[s], List.getElem?_eq_getElem hsl⟩
          have hxl := (HOK.out.row s x hx).1
          rw [HN.out.1] at hxl
          have hgx := swapTo_get (l := l) hx
          obtain ⟨g, cap, u, b, hv, hc, hR, hbb, hset⟩ := OwL.member (goodV strs 9) hO hgx
          rw [swapTo_len _ _ _ (by have := HN.out.2.2; omega), HN.out.2.2] at hv
          cases hv
          obtain ⟨gr, kr, rfl, rfl⟩ : ∃ gr kr, u = .slice (some ⟨gr, 0, none⟩) x.length kr ∧ b = [gr] := by
            obtain ⟨ho1, rfl⟩ := hR
            rcases ho1.nil_or with ⟨_, hx0⟩ | ⟨gr, kr, rfl, hg⟩
            · have : x = [] := by simpa [strs] using hx0
              rw [this] at hxl; simp at hxl; omega
            · exact ⟨gr, kr, by rw [strs_len], by rw [hg]⟩
          have hown : wr.ownsRow (w2.heap.size + 1) 9 1 (.slice (some ⟨gr, 0, none⟩) x.length kr) x.length (strs x) := by have := hR.1; unfold Own at this; rwa [strs_len] at this
          have g0 := hown.cellAt l (by omega)
          have g1 := hown.cellAt (l + 1) (by omega)
          have f0 := hown.frozenAt l
          have f1 := hown.frozenAt (l + 1)
          have e0 : (strs x)[l]? = some (.string (x.getD l noT)) := by simp [strs, List.getD, show l < x.length by omega]
          have e1 : (strs x)[l + 1]? = some (.string (x.getD (l + 1) noT)) := by simp [strs, List.getD, show l + 1 < x.length by omega]
          rw [e0] at g0
          rw [e1] at g1
          obtain ⟨g2, cap2, u2, b2, hv2, hc2, -, -, -, hR2, hgb, -⟩ := OwL.memberNew (goodV strs 9) hO hgx
          rw [swapTo_len _ _ _ (by omega), HN.out.2.2] at hv2
          cases hv2
          have hu2 := Option.some.inj (hc.symm.trans hc2)
          subst hu2
          have hgg : g ≠ gr := by
            rintro rfl
            apply hgb
            rw [hR2.2, blks_some]
            simp
          have hst0 := (hown.stored l (.string (x.getD (l + 1) noT))).1
          have hst1 := (hst0.stored (l + 1) (.string (x.getD l noT))).1
          have hon := ((Only.refl [gr] wr).setCell (p := ⟨gr, l, none⟩) (by simp) (.string (x.getD (l + 1) noT))).setCell (p := ⟨gr, l + 1, none⟩) (by simp) (.string (x.getD l noT))
          have hrow : OwV strs 9 ((wr.setCell ⟨gr, l, none⟩ (.string (x.getD (l + 1) noT))).setCell ⟨gr, l + 1, none⟩ (.string (x.getD l noT))) (w2.heap.size + 1) (.slice (some ⟨gr, 0, none⟩) x.length kr) (swapRow l x) [gr] := by
            refine ⟨?_, rfl⟩
            unfold Own
            rw [strs_len, swapRow_len, show strs (swapRow l x) = ((strs x).set l (.string (x.getD (l + 1) noT))).set (l + 1) (.string (x.getD l noT)) by simp [strs, swapRow, List.map_set]]
            exact hst1
          have hnew := hset _ _ hrow hon
          rw [swapTo_succ hx] at hnew
          have hgr : w2.heap.size + 1 ≤ gr := ((goodV strs 9).lt hR (List.mem_singleton.2 rfl)).1
          have HW := Lib.hid (show _ ∧ _ from ⟨hnew, (HBW.out.setCell (p := ⟨gr, l, none⟩) hgr (.string (x.getD (l + 1) noT))).setCell (p := ⟨gr, l + 1, none⟩) hgr (.string (x.getD l noT))⟩)
          have f0' := hst0
          have i1 : (0 : Int) ≤ s := by omega
          have i2 : (s : Int) < n := by omega
          have i3 : (0 : Int) ≤ l := by omega
          have i4 : (l : Int) < x.length := by omega
          have i5 : (l : Int) + 1 < x.length := by omega
          have i6 : (l : Int) ≤ 3 := by omega
          obtain ⟨ta, hta⟩ : ∃ ta, x.getD l noT = ta := ⟨_, rfl⟩
          obtain ⟨tb, htb⟩ : ∃ tb, x.getD (l + 1) noT = tb := ⟨_, rfl⟩
          rw [hta] at g0
          rw [htb] at g1
          rw [hta, htb] at HW
          clear hx hxl hgx hR hbb hset hown hst0 hst1 hon hrow hnew hO hbw f0' e0 e1 hta htb hgb hR2 hc2 hsl
          go_wp2_with fail
          go_region
          have hgg2 := hgg.symm
          go_wp2
          refine ⟨⟨s + 1, by omega, by go_num, ?_, ?_⟩, by simp [intOf]; omega⟩
          · exact HW.out.2.drew
          · exact goodSO.below HW.out.1 (below_drew _)
        · have es : s = n := by omega
          subst es
          have hss : ¬ (s : Int) < (s : Int) := by omega
          have hsz1 : w2.heap.size + 1 ≤ wr.heap.size := by
            obtain ⟨_, _, hk, _⟩ := OwL.growP (goodV strs 9) hO
            have a1 := HB3.out.size
            have a2 := hbw.size
            omega
          have HBA := Lib.hid (show Below (w2.heap.size + 1) (w2.alloc (.cells #[.int .i64 r.L, .int .i64 (r.mv.length : Int), .slice T (r.mv.length + 1) kt] 24)) wr from (by have := HB3.out; rwa [hsa] at this : Below (w2.heap.size + 1) _ w3).trans hbw)
          have HXr := Lib.hid (HX2.out.below HBA.out (by omega))
          have HZr := Lib.hid (HZ2.out.below HBA.out (by omega))
          have HTr := Lib.hid (HT2.out.below HBA.out (by omega))
          have HBr := Lib.hid (show Below w.heap.size w wr from (below_step HB2.out HA2.out).trans (HBA.out.mono (by have := HB2.out.size; omega)))
          have HOr := Lib.hid hO
          have hmk := run_make_row' (P := Try.prog) 44 9 (.string (ByteArray.mk #[])) 16 Try.underlying44 infoStr rfl .i64 .i64 (l + 2) (by omega) (by omega)
          rw [show ((l + 2 : Nat) : Int) = (l : Int) + 2 by omega] at hmk
          have i3 : (0 : Int) ≤ l := by omega
          have i6 : (l : Int) ≤ 3 := by omega
          obtain ⟨sN, hsN⟩ : ∃ sN : Nat, r.S = sN := ⟨r.S.toNat, by omega⟩
          obtain ⟨xr, hxr, hxrl, hxt⟩ := HOK.out.at (q := sN) (k := l) (by have := HN.out.2.1; omega) (by have := HN.out.1; omega)
          rw [HN.out.1] at hxrl
          obtain ⟨tz, htz⟩ : ∃ tz, textAt r sN l = tz := ⟨_, rfl⟩
          rw [htz] at hxt
          obtain ⟨B', capB, heB, hb1, hb2, hb3⟩ := RdL.open HOO.out
          cases heB
          unfold maxLen at hb2
          obtain ⟨bq, offq, uq, yq, rfl, hyq, hcq, hRq⟩ := hb3 sN (by have := HN.out.2.2; omega)
          obtain rfl := Option.some.inj (hxr.symm.trans hyq)
          obtain ⟨C, capx, rfl, hx1, hx2, hx3⟩ := RdS.open hRq
          unfold maxLen at hx2
          obtain ⟨bx, offx, z', rfl, hz', hcz⟩ := hx3 l (by omega)
          obtain rfl := Option.some.inj (hxt.symm.trans hz')
          have hwm := below_alloc wr (.cells (madeCells #[.string (ByteArray.mk #[])] (l + 2)) 9)
          have gq := below_keep (HBr.out.trans (hwm.mono HBr.out.size)) hcq
          have gz := below_keep (HBr.out.trans (hwm.mono HBr.out.size)) hcz
          have HOUT2 := Lib.hid (show (mirW r).out = swapTo l s r.out ++ [lastRow l tz] by rw [HOUT.out, HN.out.2.2, hsN, show ((sN : Int)).toNat = sN by omega, htz])
          have hML := Row.made wr (.string (ByteArray.mk #[])) (l + 2) 9
          have HML := Lib.hid hML
          have c1 := (hML.cell (l + 1)).trans (show (List.replicate (l + 2) (Value.string (ByteArray.mk #[])))[l + 1]? = some (.string (ByteArray.mk #[])) by simp)
          have fL := hML.free (l + 1)
          have lgM := hML.lt
          have i1 : (0 : Int) ≤ sN := by omega
          have i2 : (sN : Int) < s := by omega
          have i4 : (l : Int) < xr.length := by omega
          have HXM := Lib.hid (HXr.out.below hwm HXr.out.lt)
          rw [HN.out.1, HN.out.2.2, hsN] at HXM
          obtain ⟨⟨x0, x1, x2, x3⟩, -⟩ := HXM.out.four
          clear hbw hO hxr hyq hcq hRq hx3 hz' hcz hb3 hxt htz hML
          go_wp2
          clear hmk
          have hRL := Row.madeSet wr (.string (ByteArray.mk #[])) (l + 2) 9 (l + 1) (.string tz)
          have hs4 : (wr.alloc (.cells ((madeCells #[.string (ByteArray.mk #[])] (l + 2)).setIfInBounds (l + 1) (.string tz)) 9)).heap.size = wr.heap.size + 1 := by simp
          have hb4 := below_alloc wr (.cells ((madeCells #[.string (ByteArray.mk #[])] (l + 2)).setIfInBounds (l + 1) (.string tz)) 9)
          clear x0 x1 x2 x3 c1 fL lgM gq gz hwm
          generalize wr.alloc (.cells ((madeCells #[.string (ByteArray.mk #[])] (l + 2)).setIfInBounds (l + 1) (.string tz)) 9) = W4 at *
          have HMW := Lib.hid (show mirW r = ⟨(l : Int), (r.mv.length : Int), tableOf (mirG r.t) (r.L + 2).toNat (r.mv.length + 1), swapTo l s r.out ++ [lastRow l tz]⟩ by rw [← HOUT2.out, ← HN.out.1]; rfl)
          have hO4 := goodSO.below HOr.out hb4
          have hLast : OwV strs 9 W4 (w2.heap.size + 1) (.slice (some ⟨wr.heap.size, 0, none⟩) (l + 2) (l + 2)) (lastRow l tz) [wr.heap.size] := by
            have := hRL.own (lo := w2.heap.size + 1) (by omega) (by simp [maxLen]; omega)
            simp only [List.length_set, List.length_replicate] at this
            refine ⟨?_, rfl⟩
            rw [show strs (lastRow l tz) = (List.replicate (l + 2) (Value.string (ByteArray.mk #[]))).set (l + 1) (.string tz) by simp [strs, lastRow, List.map_set]]
            exact this
          obtain ⟨vs, how, hbv, hnext⟩ := OwL.growP (goodV strs 9) hO4
          rw [swapTo_len _ _ _ (by have := HN.out.2.2; omega), HN.out.2.2] at how hnext
          have hblt : ∀ c ∈ bs, c < wr.heap.size := fun c hc => (goodSO.lt HOr.out hc).2
          have hT4 := HTr.out.below hb4 HTr.out.lt
          rw [HN.out.1] at hT4
          have HT4 := Lib.hid hT4
          have HUr := Lib.hid (goodT.below (show OwT _ w1.heap.size _ _ bT from (goodT.below HU.out HA2.out)) (show Below (w2.alloc (.cells #[.int .i64 r.L, .int .i64 (r.mv.length : Int), .slice T (r.mv.length + 1) kt] 24)).heap.size _ W4 from by rw [hsa]; exact HBA.out.trans (hb4.mono hsz1)))
          have nbT : w2.heap.size ∉ blks (.slice Bo s ko) := fun hm => by have := (hbv _ hm).2.1; omega
          have HOW := Lib.hid how
          have HNX := Lib.hid hnext
          have HLS := Lib.hid (show _ ∧ _ ∧ _ from ⟨hLast, hblt, hbv⟩)
          obtain ⟨⟨t0, t1, t2⟩, -⟩ := hT4.three
          have HB4r := Lib.hid hb4
          have hsW : w2.heap.size + 1 < W4.heap.size := by omega
          have HZ4 := Lib.hid (HZr.out.below hb4 HZr.out.lt)
          have hzw := HZr.out.lt
          have lbT : w2.heap.size < W4.heap.size := by omega
          have nbz : w.heap.size + 1 ∉ blks (.slice Bo s ko) := fun hm => by have := (hbv _ hm).2.1; omega
          have HLT := Lib.hid (fun c (hc : c ∈ bT) => (goodT.lt HU.out hc).2)
          clear hRL hO4 hLast how hnext hblt hbv hT4 hb4 hs4
          go_wp2_with fail
          go_region_law
            (first
              | (refine step_append_lies _ (by rfl) _ _ _ (by rfl) (w2.heap.size + 1) 44 iso _ 1 24 Try.underlying25 hio hzo0 hzo1 hzo2 rfl (by omega) (.slice Bo s ko) s vs (by rfl) (by first | exact HOW.out.alloc _ | exact (HOW.out.alloc _).drew | exact ((HOW.out.alloc _).drew).drew | exact (((HOW.out.alloc _).drew).drew).drew)
                              ⟨W4.heap.size, 0, none⟩ 1 1 [.slice (some ⟨wr.heap.size, 0, none⟩) (l + 2) (l + 2)] (by rfl) (by rfl) (World.news_of_block (cs := #[.slice (some ⟨wr.heap.size, 0, none⟩) (l + 2) (l + 2)]) (t := 44) (fr := (0, 0)) (heap_alloc_new W4 _)) (by simp [Value.oneCell'])
                              (by omega) (by unfold maxLen; omega) (by omega) (by simp; omega) (W4.heap.size + 1) (by simp) ?_; intro g2 cap2 w5 hownB hgrowB hatB hltB;
                             have hgB : (W4.alloc (.cells #[.slice (some ⟨wr.heap.size, 0, none⟩) (l + 2) (l + 2)] 44)).grownBy w5 (Value.slice Bo s ko).ownBlock := (by first | exact hgrowB | exact undrew hgrowB | exact undrew (undrew hgrowB) | exact undrew (undrew (undrew hgrowB)));
                             have r0 := grown_cell hgB nbT (below_keep (below_alloc _ _) t0); have r1 := grown_cell hgB nbT (below_keep (below_alloc _ _) t1); have r2 := grown_cell hgB nbT (below_keep (below_alloc _ _) t2);
                             have HG5 := Lib.hid (HNX.out W4 _ (lastRow l tz) [wr.heap.size] (Below.refl _ _) HLS.out.1 (fun c hc hm => by (have := HLS.out.2.1 c hm; simp only [List.mem_singleton] at hc; omega)) _ w5 g2 _ cap2 hgB hownB (by simpa using hatB));
                             have HB5 := Lib.hid (show Below (w2.heap.size + 1) W4 w5 from ((below_alloc W4 _).mono (by omega)).trans (grown_below hgB (by simp; omega) (fun b hb => (HLS.out.2.2 b hb).2.1)));
                             have HRW := Lib.hid (show RdWr w5 (.agg #[.int .i64 (l : Int), .int .i64 (r.mv.length : Int), .slice T (r.mv.length + 1) kt, .slice (some ⟨g2, 0, none⟩) (s + 1) cap2]) (mirW r) by (rw [HMW.out]; obtain ⟨bs', hO5, -⟩ := HG5.out; obtain ⟨_, bm5, hv5, hm5, hbm5, -⟩ := HUr.out; cases hv5; have hm6 := grown_keep goodMM hgB (goodMM.below hm5 (below_alloc W4 _)) (fun c hc hm => by (have h1 := HLT.out c (by rw [hbm5]; exact hc); have h2 := (HLS.out.2.2 c hm).2.1; omega)); exact ⟨_, _, rfl, OwL.rd (fun h => h.rd) hm6, OwL.rd (fun h => h.1.rd) hO5⟩));
                             have HZ5 := Lib.hid (grown_row hgB (HZ4.out.below (below_alloc W4 _) HZ4.out.lt) nbz);
                             have HM5 := Lib.hid (show ∃ bm, OwMM w5 w1.heap.size (.slice T (r.mv.length + 1) kt) (tableOf (mirG r.t) (r.L + 2).toNat (r.mv.length + 1)) bm by (obtain ⟨_, bm5, hv5, hm5, hbm5, -⟩ := HUr.out; cases hv5; exact ⟨_, grown_keep goodMM hgB (goodMM.below hm5 (below_alloc W4 _)) (fun c hc hm => by (have h1 := HLT.out c (by rw [hbm5]; exact hc); have h2 := (HLS.out.2.2 c hm).2.1; omega))⟩)))
              | (go_simp; go_at_call 40; (with_reducible refine (l07Told_any _ _ _ (by first | exact HRW.out | exact keepsWr _ _ _ _ HRW.out (below_drew _) | exact keepsWr _ _ _ _ (keepsWr _ _ _ _ HRW.out (below_drew _)) (below_drew _))).mono ?_); rw [HTO.out.1, HTO.out.2]; rintro e w6 ⟨rfl, hb6⟩;
                 have HS6 := Lib.hid (show Below w5.heap.size w5 w6 from below_step (by first | exact Below.refl _ _ | exact below_drew _ | exact (below_drew _).drew | exact below_drewN' _ _) hb6);
                 have HZ6 := Lib.hid (HZ5.out.below HS6.out HZ5.out.lt); obtain ⟨⟨z0, z1, z2, z3⟩, zf⟩ := HZ6.out.four; have lz := HZ6.out.lt))
          all_goals
            obtain ⟨bs', hO5, -⟩ := HG5.out
            obtain ⟨bm5, hm5⟩ := HM5.out
            have hO6 := goodSO.below hO5 HS6.out
            have hm6 := goodMM.below hm5 HS6.out
            have hw0 := HBr.out.size
            have hw4 := HB4r.out.size
            have hw5 := HB5.out.size
            have hB6 := ((HBr.out.trans (HB4r.out.mono hw0)).trans (HB5.out.mono (by omega))).trans (HS6.out.mono (by omega))
            have rF := ((((HZ6.out.stored 0 (.int .i64 (l : Int))).stored 1 (.int .i64 (r.mv.length : Int))).stored 2 (.slice T (r.mv.length + 1) kt)).stored 3 (.slice (some ⟨g2, 0, none⟩) (s + 1) cap2))
            have eB := ((((hB6.setCell (p := ⟨w.heap.size + 1, 0, none⟩) (by show w.heap.size ≤ w.heap.size + 1; omega) (.int .i64 (l : Int))).setCell (p := ⟨w.heap.size + 1, 1, none⟩) (by show w.heap.size ≤ w.heap.size + 1; omega) (.int .i64 (r.mv.length : Int))).setCell (p := ⟨w.heap.size + 1, 2, none⟩) (by show w.heap.size ≤ w.heap.size + 1; omega) (.slice T (r.mv.length + 1) kt)).setCell (p := ⟨w.heap.size + 1, 3, none⟩) (by show w.heap.size ≤ w.heap.size + 1; omega) (.slice (some ⟨g2, 0, none⟩) (s + 1) cap2))
            have eM := (goodMM.under (a := ⟨w.heap.size + 1, 3, none⟩) (goodMM.under (a := ⟨w.heap.size + 1, 2, none⟩) (goodMM.under (a := ⟨w.heap.size + 1, 1, none⟩) (goodMM.under (a := ⟨w.heap.size + 1, 0, none⟩) hm6 (by show w.heap.size + 1 < _; omega) (.int .i64 (l : Int))) (by show w.heap.size + 1 < _; omega) (.int .i64 (r.mv.length : Int))) (by show w.heap.size + 1 < _; omega) (.slice T (r.mv.length + 1) kt)) (by show w.heap.size + 1 < _; omega) (.slice (some ⟨g2, 0, none⟩) (s + 1) cap2))
            have eS := (goodSO.under (a := ⟨w.heap.size + 1, 3, none⟩) (goodSO.under (a := ⟨w.heap.size + 1, 2, none⟩) (goodSO.under (a := ⟨w.heap.size + 1, 1, none⟩) (goodSO.under (a := ⟨w.heap.size + 1, 0, none⟩) hO6 (by show w.heap.size + 1 < _; omega) (.int .i64 (l : Int))) (by show w.heap.size + 1 < _; omega) (.int .i64 (r.mv.length : Int))) (by show w.heap.size + 1 < _; omega) (.slice T (r.mv.length + 1) kt)) (by show w.heap.size + 1 < _; omega) (.slice (some ⟨g2, 0, none⟩) (s + 1) cap2))
            clear hO5 hm5 hO6 hm6 hB6 t0 t1 t2 r0 r1 r2
            go_wp2
            generalize ((((w6.setCell ⟨w.heap.size + 1, 0, none⟩ (.int .i64 (l : Int))).setCell ⟨w.heap.size + 1, 1, none⟩ (.int .i64 (r.mv.length : Int))).setCell ⟨w.heap.size + 1, 2, none⟩ (.slice T (r.mv.length + 1) kt)).setCell ⟨w.heap.size + 1, 3, none⟩ (.slice (some ⟨g2, 0, none⟩) (s + 1) cap2)) = W9 at *
            obtain ⟨⟨y0, y1, y2, y3⟩, -⟩ := Row.four (a := .int .i64 (l : Int)) (b := .int .i64 (r.mv.length : Int)) (c := .slice T (r.mv.length + 1) kt) (d := .slice (some ⟨g2, 0, none⟩) (s + 1) cap2) rF
            refine bodyPost_ret (v := .tuple #[.agg #[.int .i64 (l : Int), .int .i64 (r.mv.length : Int), .slice T (r.mv.length + 1) kt, .slice (some ⟨g2, 0, none⟩) (s + 1) cap2], .int .i64 0]) (by simp [results, Try.results15, go_sem, y0, y1, y2, y3]) rfl ?_
            rw [HRES.out]
            exact ⟨_, rfl, by rw [HMW.out]; exact ⟨_, _, rfl, OwL.rd (fun h => h.rd) eM, OwL.rd (fun h => h.1.rd) eS⟩, eB⟩
    · have HRES := Lib.hid (show mirWRes r = (⟨0, 0, [], []⟩, 3) by rw [mirWRes, hok, if_pos rfl, if_neg h12])
      have HMR := Lib.hid (show mirRes r.t = (⟨0, 0, []⟩, 3) by rw [mirRes, if_pos hokt]; exact if_neg h12)
      rw [HMR.out] at HMT
      clear hok ok hokt
      go_enter Try.func15, Try.ntmps15
      go_wp2_with fail
      refine HOK0.out.mono ?_
      rintro e w1 ⟨rfl, hb1⟩
      have HB1 := Lib.hid (below_step HB.out hb1)
      have HZ1 := Lib.hid (HZ.out.below hb1 HZ.out.lt)
      have HX1 := Lib.hid (HX.out.below hb1 HX.out.lt)
      obtain ⟨⟨x0, x1, x2, x3⟩, -⟩ := HX1.out.four
      clear hb1
      go_wp2_with fail
      refine (HMT.out _ HB1.out).mono ?_
      rintro e w2 ⟨u, bT, rfl, hu, hb2⟩
      obtain ⟨T, kt, rfl⟩ := hu.rd.shape
      have HB2 := Lib.hid (below_step HB1.out hb2)
      have hz2 := HZ1.out.below hb2 HZ1.out.lt
      have HZ2 := Lib.hid hz2
      obtain ⟨⟨z0, z1, z2, z3⟩, zf⟩ := hz2.four
      have lz := hz2.lt
      clear hu hb2 hz2
      go_wp2
      obtain ⟨W2, hW2, -, eO, eB⟩ := stored4Wr (w := w) HZ2.out (owWr_zero _ w.heap.size) (by simp) (by omega) HB2.out
      have r2 : Row W2 (w.heap.size + 1) 27 [.int .i64 0, .int .i64 0, .slice none 0 0, .slice none 0 0] := by
        rw [hW2]
        exact ((((HZ2.out.stored 0 (.int .i64 0)).stored 1 (.int .i64 0)).stored 2 (.slice none 0 0)).stored 3 (.slice none 0 0))
      rw [← hW2]
      clear hW2
      have ba := below_alloc W2 (.cells #[.int .i64 0, .int .i64 0, .slice T 0 kt] 24)
      obtain ⟨⟨y0, y1, y2, y3⟩, -⟩ := (r2.below ba r2.lt).four
      refine bodyPost_ret (v := .tuple #[.agg #[.int .i64 0, .int .i64 0, .slice none 0 0, .slice none 0 0], .int .i64 3]) (by simp only [results, Try.results15]; simp [go_sem, y0, y1, y2, y3]) rfl ?_
      rw [HRES.out]
      exact ⟨_, rfl, (goodWr.below eO ba).rd, below_step eB ba⟩
end Go.Proofs.Ytahgekjpnmmooaa
