/-
  Visits: how often a run is in each cell.
-/
import Derived.Test.YtdkalefepdlccaaRu6
import Derived.Test.YtdkalefepdlccaaT2
namespace Go.Proofs.Ytdkalefepdlccaa
open Go.RowKit

theorem runF_ok {t : TData} {s : ByteArray} (ok : OkT t) (hl : lettersOk t.L s = true) : ∀ (f : Nat) (ps : List (Nat × Nat)) (p : Nat × Nat), (∀ q ∈ ps, OkP t.mv.length s.size q) → OkP t.mv.length s.size p → ∀ q ∈ (runF t s f ps p).places, OkP t.mv.length s.size q
  | 0, ps, p => fun h _ => by simpa [runF] using h
  | f + 1, ps, p => fun h hp => by
    have hs : ∀ q ∈ ps ++ [p], OkP t.mv.length s.size q := fun q hq => by
      rcases List.mem_append.1 hq with hq | hq
      · exact h q hq
      · simp only [List.mem_singleton] at hq; subst hq; exact hp
    unfold runF
    split
    · exact h
    · split
      · exact hs
      · split
        · exact hs
        · rename_i h1 h2 h3
          exact runF_ok ok hl f (ps ++ [p]) (nextP t s p) hs (next_ok ok hl hp h2 h3).1
theorem run_ok {t : TData} {s : ByteArray} (ok : OkT t) (hl : lettersOk t.L s = true) : ∀ q ∈ (runN t s).places, OkP t.mv.length s.size q :=
  runF_ok ok hl _ _ _ (by simp) (RunAt.start s ok).here

def incV (V : List Int) (p : Nat × Nat) : List Int := V.set p.2 (V.getD p.2 0 + 1)
def visitsL (z : Nat) (ps : List (Nat × Nat)) : List Int := ps.foldl incV (List.replicate (z + 2) 0)
def visitsRes (t : TData) (s : ByteArray) : List Int × Int := if givenC t s = 0 then (visitsL s.size (runN t s).places, 0) else ([], 1)
theorem visitsL_snoc (z : Nat) (ps : List (Nat × Nat)) (p : Nat × Nat) : visitsL z (ps ++ [p]) = incV (visitsL z ps) p := by simp [visitsL, List.foldl_append]
theorem foldl_incV_len : ∀ (ps : List (Nat × Nat)) (V : List Int), (ps.foldl incV V).length = V.length
  | [], V => rfl
  | p :: r, V => by rw [List.foldl_cons, foldl_incV_len r]; simp [incV]
theorem visitsL_len (z : Nat) (ps : List (Nat × Nat)) : (visitsL z ps).length = z + 2 := by unfold visitsL; rw [foldl_incV_len]; simp
theorem foldl_incV_le : ∀ (ps : List (Nat × Nat)) (V : List Int) (m : Int), 0 ≤ m → (∀ i, 0 ≤ V.getD i 0 ∧ V.getD i 0 ≤ m) → ∀ i, 0 ≤ (ps.foldl incV V).getD i 0 ∧ (ps.foldl incV V).getD i 0 ≤ m + ps.length
  | [], V, m => fun _ h i => by simpa using h i
  | p :: r, V, m => fun hm h i => by
    have h2 : ∀ i, 0 ≤ (incV V p).getD i 0 ∧ (incV V p).getD i 0 ≤ m + 1 := fun i => by
      have a := h p.2
      have b := h i
      unfold incV
      simp only [List.getD_eq_getElem?_getD] at a b ⊢
      rw [List.getElem?_set]
      split
      · split
        · simp only [Option.getD_some]; omega
        · simp only [Option.getD_none]; omega
      · omega
    have := foldl_incV_le r (incV V p) (m + 1) (by omega) h2 i
    rw [List.foldl_cons, List.length_cons]
    omega
theorem visitsL_le (z : Nat) (ps : List (Nat × Nat)) (i : Nat) : 0 ≤ (visitsL z ps).getD i 0 ∧ (visitsL z ps).getD i 0 ≤ ps.length := by
  have := foldl_incV_le ps (List.replicate (z + 2) 0) 0 (by omega) (fun i => by
    simp only [List.getD_eq_getElem?_getD, List.getElem?_replicate]
    split <;> simp) i
  unfold visitsL
  omega
theorem visits_get {z : Nat} {ps : List (Nat × Nat)} {a : Nat} (ha : a ≤ z + 1) : (visitsL z ps)[a]? = some ((visitsL z ps).getD a 0) := by
  have := visitsL_len z ps
  rw [List.getD_eq_getElem?_getD, List.getElem?_eq_getElem (by omega)]
  rfl
theorem take_snoc {α : Type} {l : List α} {k : Nat} {x : α} (h : l[k]? = some x) : l.take (k + 1) = l.take k ++ [x] := take_succ_of h

theorem fieldCourse (u v l : Value) (W : World) : (Instr.field 89 (.agg #[u, v, l]) 0).run Try.prog W = .ok u W := by kernel_rfl
theorem fieldMove (x y : Value) (W : World) : (Instr.field 96 (.agg #[x, y]) 1).run Try.prog W = .ok y W := by kernel_rfl
theorem rdP_at {w : World} {B : Option Addr} {n c : Nat} {ms : List (Int × Int)} (h : RdP w (.slice B n c) ms) {i : Nat} {m : Int × Int} (hm : ms[i]? = some m) : ∃ b off, B = some ⟨b, off, none⟩ ∧ w.cell? ⟨b, off + i * 2, none⟩ = some (.int .i64 m.1) ∧ w.cell? ⟨b, off + i * 2 + 1, none⟩ = some (.int .i64 m.2) := by
  obtain ⟨A, cap, hv, _, _, h3⟩ := h
  simp only [Value.slice.injEq] at hv
  obtain ⟨b', off', hA, h4⟩ := h3 i m hm
  exact ⟨b', off', hv.1.trans hA, h4⟩

set_option maxRecDepth 100000 in
set_option maxHeartbeats 3200000 in
theorem implVisitsOf_any (v : Value) (t : TData) (s : ByteArray) (w : World) (h : RdT w v t) (hs : s.size ≤ maxLen) :
    Calls Try.prog 29 #[v, .string s] w fun e w' => ∃ u bs, e = .returned (.tuple #[u, .int .i64 (visitsRes t s).2]) ∧ OwV ints 2 w' w.heap.size u (visitsRes t s).1 bs ∧ Below w.heap.size w w' := by
  have HG := Lib.hid (fun W (hb : Below w.heap.size w W) => wordCode_any v t s W (keepsT _ _ _ _ h hb) hs)
  have HC := Lib.hid (fun W (hb : Below w.heap.size w W) (ok : OkT t) hl h6 => courseOn_own v t s W (keepsT _ _ _ _ h hb) ok hl h6)
  obtain ⟨A, c, rfl⟩ := h.shape
  have HR := Lib.hid (Row.new w [.int .i64 t.L, .int .i64 t.S, .slice A t.mv.length c] 31)
  have HB := Lib.hid (below_alloc w (.cells #[.int .i64 t.L, .int .i64 t.S, .slice A t.mv.length c] 31))
  clear h
  go_enter Try.func29, Try.ntmps29
  go_wp2_with fail
  refine (HG.out _ HB.out).mono ?_
  rintro e w1 ⟨rfl, hb1⟩
  have HB1 := Lib.hid (below_step HB.out hb1)
  have HR1 := Lib.hid (HR.out.below hb1 HR.out.lt)
  clear hb1
  rcases givenC_or t s with hg | hg
  · obtain ⟨ok1, ok2⟩ := givenC_zero hg
    obtain ⟨s60, hl⟩ := okWord_parts ok2
    have HRES := Lib.hid (show visitsRes t s = (visitsL s.size (runN t s).places, 0) by simp [visitsRes, hg])
    have HPL := Lib.hid (run_ok (okT_out ok1) hl)
    have hlen := run_len t s hg
    obtain ⟨Z, hZ⟩ : ∃ Z : Nat, Z = s.size + 2 := ⟨_, rfl⟩
    have HZ := Lib.hid hZ
    have HCN := Lib.hid (show ∀ W, Calls Try.prog 69 #[.string s] W fun e w' => e = .returned (.int .i64 (Z : Int)) ∧ W = w' from fun W => (countCells_any s W s60).mono fun e w' hh => ⟨hh.1.trans (by rw [hZ]; first | rfl | (congr; omega)), hh.2⟩)
    have hmk := run_make_row' (P := Try.prog) 42 2 (.int .i64 0) 8 Try.underlying42 infoI64 rfl .i64 .i64 Z (by omega) (by omega)
    have hb2 := below_alloc w1 (.cells (madeCells #[.int .i64 0] Z) 2)
    have HM := Lib.hid (Row.made w1 (.int .i64 0) Z 2)
    have HB2 := Lib.hid (below_step HB1.out hb2)
    have HCC := Lib.hid (HC.out _ HB2.out (okT_out ok1) hl s60)
    obtain ⟨⟨b0, b1, b2⟩, -⟩ := HR1.out.three
    have lt0 := HR1.out.lt
    have LT := Lib.hid lt0
    rw [hg]
    clear hg ok1 ok2 hl hZ hb2
    go_wp2_with (go_at_call 69; refine (HCN.out _).mono ?_; rintro e w' ⟨rfl, rfl⟩)
    refine HCC.out.mono ?_
    generalize hW1 : w1.alloc (.cells (madeCells #[.int .i64 0] Z) 2) = W1 at *
    rintro e w2 ⟨u, bs, rfl, hu, hb3⟩
    obtain ⟨B, k0, rfl⟩ := owP_shape hu
    have HSZ := Lib.hid (show w1.heap.size < W1.heap.size from HM.out.lt)
    have HP := Lib.hid (goodP _ |>.mono hu (Nat.succ_le_of_lt HSZ.out))
    have HM2 := Lib.hid (HM.out.below hb3 HM.out.lt)
    have HB3 := Lib.hid (below_step HB2.out hb3)
    have HLE := Lib.hid HB1.out.size
    clear hu hb3 b0 b1 b2 lt0 hmk hW1
    generalize hpl : (runN t s).places = pl at *
    have HP' := Lib.hid (show OwP 70 w2 (w1.heap.size + 1) (.slice B pl.length k0) (pl.map pI) bs by have := HP.out; rwa [List.length_map] at this)
    have HV0 := Lib.hid (show Row w2 w1.heap.size 2 (ints (visitsL s.size (pl.take 0))) by
      have := HM2.out
      rw [HZ.out] at this
      simpa [visitsL, ints, List.map_replicate] using this)
    clear HP HM HM2 HCC
    have hfd := fieldCourse
    go_wp2
    clear hfd
    go_loopw [24] (fun i wr => ∃ k : Nat, k ≤ pl.length ∧ i = .int .i64 k ∧ Below w.heap.size w wr ∧ Row wr w1.heap.size 2 (ints (visitsL s.size (pl.take k))) ∧ OwP 70 wr (w1.heap.size + 1) (.slice B pl.length k0) (pl.map pI) bs) (fun i _ => pl.length - (intOf i).toNat)
    case atStart => exact ⟨0, Nat.zero_le _, rfl, HB3.out, HV0.out, HP'.out⟩
    case round =>
      clear HV0 HP'
      obtain ⟨k, hk, rfl, hb, hV, hO⟩ := hrel
      have HH := Lib.hid (show _ ∧ _ ∧ _ from ⟨hb, hV, hO⟩)
      by_cases hlt : k < pl.length
      · obtain ⟨p, hp⟩ : ∃ p, pl[k]? = some p := ⟨_, List.getElem?_eq_getElem hlt⟩
        obtain ⟨b, off, rfl, c0, c1⟩ := rdP_at hO.rd (i := k) (m := pI p) (by rw [List.getElem?_map, hp]; rfl)
        have hpo := HPL.out p (List.mem_of_getElem? hp)
        have hp2 := hpo.2
        have gv := (hV.cell p.2).trans (ints_get (visits_get (ps := pl.take k) hp2))
        have gf := hV.free p.2
        have hle := visitsL_le s.size (pl.take k) p.2
        rw [List.length_take, Nat.min_eq_left hk] at hle
        have HT := Lib.hid (take_snoc hp)
        have lv := hV.lt
        have i1 : (0 : Int) ≤ k := by omega
        have i2 : (k : Int) < pl.length := by omega
        have i3 : (p.2 : Int) < (Z : Int) := by have := HZ.out; omega
        have i4 : (0 : Int) ≤ (p.2 : Int) := by omega
        unfold pI at c0 c1
        simp only at c0 c1
        obtain ⟨vv, hvv⟩ : ∃ vv, (visitsL s.size (pl.take k)).getD p.2 0 = vv := ⟨_, rfl⟩
        rw [hvv] at gv hle
        have HVV := Lib.hid hvv
        clear hvv
        have h744 : vv ≤ 745 := by omega
        have hv0 := hle.1
        clear hb hV hO hpo hp hle
        go_wp2
        obtain ⟨hb, hV, hO⟩ := HH.out
        have hS := (hV.stored p.2 (.int .i64 (vv + 1))).alloc (.cells #[.int .i64 (p.1 : Int), .int .i64 (p.2 : Int)] 70)
        rw [ints_set] at hS
        have hO2 := (goodP _).below ((goodP _).under (a := ⟨w1.heap.size, p.2, none⟩) hO (by show w1.heap.size < _; omega) (.int .i64 (vv + 1))) (below_alloc _ (.cells #[.int .i64 (p.1 : Int), .int .i64 (p.2 : Int)] 70))
        have hb2 := below_step (hb.setCell (p := ⟨w1.heap.size, p.2, none⟩) HLE.out (.int .i64 (vv + 1))) (below_alloc _ (.cells #[.int .i64 (p.1 : Int), .int .i64 (p.2 : Int)] 70))
        go_roundw
        case rel => exact ⟨k + 1, by omega, by go_num, hb2, by rw [HT.out, visitsL_snoc]; unfold incV; rw [HVV.out]; exact hS, hO2⟩
        case measure => simp [intOf]; omega
      · obtain rfl : k = pl.length := by omega
        clear hb hV hO
        go_wp2
        obtain ⟨hb, hV, -⟩ := HH.out
        rw [List.take_of_length_le (Nat.le_refl _)] at hV
        refine bodyPost_ret (v := .tuple #[.slice (some ⟨w1.heap.size, 0, none⟩) Z Z, .int .i64 0]) (by simp [results, Try.results29, go_sem]) rfl ?_
        rw [HRES.out]
        have ho := hV.own HLE.out (by rw [ints_len, visitsL_len]; unfold maxLen; omega)
        rw [ints_len, visitsL_len, ← HZ.out] at ho
        exact ⟨_, _, rfl, ⟨ho, rfl⟩, hb⟩
  · have HRES := Lib.hid (show visitsRes t s = ([], 1) by simp [visitsRes, hg])
    obtain ⟨⟨b0, b1, b2⟩, -⟩ := HR1.out.three
    rw [hg]
    clear hg
    go_wp2
    refine bodyPost_ret (v := .tuple #[.slice none 0 0, .int .i64 1]) (by simp [results, Try.results29, go_sem]) rfl ?_
    rw [HRES.out]
    exact ⟨_, _, rfl, owV_nil ints [] rfl _ _ _, HB1.out⟩

set_option maxRecDepth 100000 in
set_option maxHeartbeats 3200000 in
theorem specVisitsOf_any (v : Value) (t : TData) (s : ByteArray) (w : World) (h : RdT w v t) (hs : s.size ≤ maxLen) :
    Calls Try.prog 28 #[v, .string s] w fun e w' => ∃ u bs, e = .returned (.tuple #[u, .int .i64 (visitsRes t s).2]) ∧ OwV ints 2 w' w.heap.size u (visitsRes t s).1 bs ∧ Below w.heap.size w w' := by
  obtain ⟨vm, rfl, hA⟩ := atT_box h 31
  have HG := Lib.hid (l02Given_any _ t s _ hA hs)
  have HA := Lib.hid hA
  have HB := Lib.hid (below_alloc w (.cells #[.int .i64 t.L, .int .i64 t.S, vm] 31))
  clear h hA
  go_enter Try.func28, Try.ntmps28
  go_wp2_with fail
  refine HG.out.mono ?_
  rintro e w1 ⟨rfl, hb1⟩
  have HA1 := Lib.hid (HA.out.below hb1)
  have HB1 := Lib.hid (below_step HB.out hb1)
  clear hb1
  rcases givenC_or t s with hg | hg
  · obtain ⟨ok1, ok2⟩ := givenC_zero hg
    obtain ⟨s60, hl⟩ := okWord_parts ok2
    have HRES := Lib.hid (show visitsRes t s = (visitsL s.size (runN t s).places, 0) by simp [visitsRes, hg])
    have HPL := Lib.hid (run_ok (okT_out ok1) hl)
    have hlen := run_len t s hg
    obtain ⟨Z, hZ⟩ : ∃ Z : Nat, Z = s.size + 2 := ⟨_, rfl⟩
    have HZ := Lib.hid hZ
    have hz2 : (s.size : Int) + 2 = (Z : Int) := by omega
    have hmk := run_make_row' (P := Try.prog) 42 2 (.int .i64 0) 8 Try.underlying42 infoI64 rfl .i64 .i64 Z (by omega) (by omega)
    have HCC := Lib.hid (l02Run_own _ t s w1 HA1.out (okT_out ok1) hl s60)
    rw [hg]
    clear hg ok1 ok2 hl hZ
    go_wp2_with fail
    refine HCC.out.mono ?_
    rintro e w2 ⟨u, bs, rfl, hu, hb3⟩
    obtain ⟨B, k0, rfl⟩ := owP_shape hu
    have hM := Row.made w2 (.int .i64 0) Z 2
    have HLT := Lib.hid (fun x hx => ((goodP 70).lt hu (b := x) hx).2)
    have hu2 := (goodP 70).below hu (below_alloc w2 (.cells (madeCells #[.int .i64 0] Z) 2))
    generalize hpl : (runN t s).places = pl at *
    have HP := Lib.hid (show OwP 70 _ w1.heap.size (.slice B pl.length k0) (pl.map pI) bs by rwa [List.length_map] at hu2)
    have HV0 := Lib.hid (show Row _ w2.heap.size 2 (ints (visitsL s.size (pl.take 0))) by
      rw [HZ.out] at hM
      simpa [visitsL, ints, List.map_replicate] using hM)
    have HB3 := Lib.hid (below_step (below_step HB1.out hb3) (below_alloc w2 (.cells (madeCells #[.int .i64 0] Z) 2)))
    have HLE := Lib.hid (show w.heap.size ≤ w2.heap.size from Nat.le_trans HB1.out.size hb3.size)
    rw [← HZ.out] at HV0
    clear hu hu2 hM hb3 HCC
    go_wp2
    generalize w2.alloc (.cells (madeCells #[.int .i64 0] Z) 2) = W2 at *
    clear hmk
    go_loopw [11] (fun i wr => ∃ k : Nat, k ≤ pl.length ∧ i = .int .i64 k ∧ Below w.heap.size w wr ∧ Row wr w2.heap.size 2 (ints (visitsL s.size (pl.take k))) ∧ OwP 70 wr w1.heap.size (.slice B pl.length k0) (pl.map pI) bs) (fun i _ => pl.length - (intOf i).toNat)
    case atStart => exact ⟨0, Nat.zero_le _, rfl, HB3.out, HV0.out, HP.out⟩
    case round =>
      clear HV0 HP
      obtain ⟨k, hk, rfl, hb, hV, hO⟩ := hrel
      have HH := Lib.hid (show _ ∧ _ ∧ _ from ⟨hb, hV, hO⟩)
      by_cases hlt : k < pl.length
      · obtain ⟨p, hp⟩ : ∃ p, pl[k]? = some p := ⟨_, List.getElem?_eq_getElem hlt⟩
        obtain ⟨b, off, rfl, c0, c1⟩ := rdP_at hO.rd (i := k) (m := pI p) (by rw [List.getElem?_map, hp]; rfl)
        have hpo := HPL.out p (List.mem_of_getElem? hp)
        have hp2 := hpo.2
        have gv := (hV.cell p.2).trans (ints_get (visits_get (ps := pl.take k) hp2))
        have gf := hV.free p.2
        have hle := visitsL_le s.size (pl.take k) p.2
        rw [List.length_take, Nat.min_eq_left hk] at hle
        have HT := Lib.hid (take_snoc hp)
        have lv := hV.lt
        have i1 : (0 : Int) ≤ k := by omega
        have i2 : (k : Int) < pl.length := by omega
        have i3 : (p.2 : Int) < (Z : Int) := by have := HZ.out; omega
        have i4 : (0 : Int) ≤ (p.2 : Int) := by omega
        unfold pI at c0 c1
        simp only at c0 c1
        obtain ⟨vv, hvv⟩ : ∃ vv, (visitsL s.size (pl.take k)).getD p.2 0 = vv := ⟨_, rfl⟩
        rw [hvv] at gv hle
        have HVV := Lib.hid hvv
        clear hvv
        have h744 : vv ≤ 745 := by omega
        have hv0 := hle.1
        clear hb hV hO hpo hp hle hz2
        go_wp2
        obtain ⟨hb, hV, hO⟩ := HH.out
        have hS := hV.stored p.2 (.int .i64 (vv + 1))
        rw [ints_set] at hS
        have hO2 := (goodP _).other (a := ⟨w2.heap.size, p.2, none⟩) (.int .i64 (vv + 1)) hO (fun hm => by have := HLT.out _ hm; simp at this)
        have hb2 := hb.setCell (p := ⟨w2.heap.size, p.2, none⟩) HLE.out (.int .i64 (vv + 1))
        go_roundw
        case rel => exact ⟨k + 1, by omega, by go_num, hb2, by rw [HT.out, visitsL_snoc]; unfold incV; rw [HVV.out]; exact hS, hO2⟩
        case measure => simp [intOf]; omega
      · obtain rfl : k = pl.length := by omega
        clear hb hV hO hz2
        go_wp2
        obtain ⟨hb, hV, -⟩ := HH.out
        rw [List.take_of_length_le (Nat.le_refl _)] at hV
        refine bodyPost_ret (v := .tuple #[.slice (some ⟨w2.heap.size, 0, none⟩) Z Z, .int .i64 0]) (by simp [results, Try.results28, go_sem]) rfl ?_
        rw [HRES.out]
        have ho := hV.own HLE.out (by rw [ints_len, visitsL_len]; unfold maxLen; omega)
        rw [ints_len, visitsL_len, ← HZ.out] at ho
        exact ⟨_, _, rfl, ⟨ho, rfl⟩, hb⟩
  · have HRES := Lib.hid (show visitsRes t s = ([], 1) by simp [visitsRes, hg])
    have HO := Lib.hid (World.ownsRow_lit (base := w1.heap.size) (e := 2) (size := 1) w1 #[] 0 (Nat.le_refl _) (by unfold maxLen; omega) rfl)
    rw [hg]
    clear hg
    go_wp2
    refine bodyPost_ret (v := .tuple #[.slice (some ⟨w1.heap.size, 0, none⟩) 0 0, .int .i64 1]) (by simp [results, Try.results28, go_sem]) rfl ?_
    rw [HRES.out]
    exact ⟨_, _, rfl, (goodV ints _).mono (show OwV ints 2 _ w1.heap.size _ [] _ from ⟨HO.out, rfl⟩) HB1.out.size, below_step HB1.out (below_alloc _ _)⟩
theorem specVisitsOf_rd (v : Value) (t : TData) (s : ByteArray) (w : World) (h : RdT w v t) (hs : s.size ≤ maxLen) :
    Calls Try.prog 28 #[v, .string s] w fun e w' => ∃ u, e = .returned (.tuple #[u, .int .i64 (visitsRes t s).2]) ∧ RdI w' u (visitsRes t s).1 ∧ Below w.heap.size w w' :=
  (specVisitsOf_any v t s w h hs).mono fun e w' ⟨u, bs, he, hO, hb⟩ => ⟨u, he, hO.1.rd, hb⟩
theorem visits_num (t : TData) (s : ByteArray) : (((visitsRes t s).1).length : Int) ≤ 2305843009213693952 := by
  unfold visitsRes
  split
  · rename_i h
    have := (okWord_parts (givenC_zero h).2).1
    simp only [visitsL_len]
    omega
  · simp
end Go.Proofs.Ytdkalefepdlccaa
