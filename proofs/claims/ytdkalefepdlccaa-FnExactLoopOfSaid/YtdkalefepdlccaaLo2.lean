/-
  The places that come again and again: the program's answer and the model's.
-/
import Derived.Test.YtdkalefepdlccaaLo1
namespace Go.Proofs.Ytdkalefepdlccaa
open Go.RowKit

theorem rdP_newsR {w : World} {ad : Addr} {n c : Nat} {ms : List (Int × Int)} (h : RdP w (.slice (some ad) n c) ms) : ∀ j u, (pcells ms)[j]? = some u → w.cell? (ad.add j) = some u := by
  obtain ⟨A, cap, hv, h1, h2, h3⟩ := h
  simp only [Value.slice.injEq] at hv
  obtain ⟨hA, -, -⟩ := hv
  intro j u hu
  have hj := (List.getElem?_eq_some_iff.1 hu).1
  rw [pcells_len] at hj
  have hi : j / 2 < ms.length := by omega
  have hm : ms[j / 2]? = some ms[j / 2] := List.getElem?_eq_getElem hi
  obtain ⟨b, off, hA', hc0, hc1⟩ := h3 (j / 2) _ hm
  rw [← hA, Option.some.injEq] at hA'
  subst hA'
  rw [Addr.add_lit]
  obtain ⟨g0, g1⟩ := pcells_get hm
  by_cases hp : j % 2 = 0
  · have e : j / 2 * 2 = j := by omega
    rw [e] at g0 hc0
    rw [hu] at g0
    cases g0
    exact hc0
  · have e : j / 2 * 2 + 1 = j := by omega
    rw [e] at g1
    rw [show off + j / 2 * 2 + 1 = off + j by omega] at hc1
    rw [hu] at g1
    cases g1
    exact hc1

theorem pcells_oneR (ms : List (Int × Int)) : ∀ u ∈ pcells ms, u.oneCell' = true := by
  intro u hu
  obtain ⟨m, _, hm⟩ := List.mem_flatMap.1 hu
  simp only [pcell, List.mem_cons, List.not_mem_nil, or_false] at hm
  rcases hm with rfl | rfl <;> rfl


def loopRes (t : TData) (s : ByteArray) : List (Int × Int) × Int :=
  if givenC t s = 0 then (if (runN t s).verdict = 3 then (((runN t s).places.map pI).drop (runN t s).loop, 0) else ([], 6)) else ([], 1)
theorem runF_loop (t : TData) (s : ByteArray) : ∀ (f : Nat) (ps : List (Nat × Nat)) (p : Nat × Nat), (runF t s f ps p).verdict = 3 → (runF t s f ps p).loop < (runF t s f ps p).places.length
  | 0, ps, p => by simp [runF]
  | f + 1, ps, p => by
    unfold runF
    split
    · rename_i h; intro _; exact List.idxOf_lt_length_of_mem h
    · split
      · intro h; simp at h
      · split
        · intro h; simp at h
        · exact runF_loop t s f (ps ++ [p]) (nextP t s p)

set_option maxRecDepth 100000 in
set_option maxHeartbeats 1600000 in
theorem implLoopOf_any (v : Value) (t : TData) (s : ByteArray) (w : World) (h : RdT w v t) (hs : s.size ≤ maxLen) :
    Calls Try.prog 27 #[v, .string s] w fun e w' => ∃ u bs, e = .returned (.tuple #[u, .int .i64 (loopRes t s).2]) ∧ OwO 70 w' w.heap.size u (loopRes t s).1 bs ∧ Below w.heap.size w w' := by
  have HG := Lib.hid (fun W (hb : Below w.heap.size w W) => wordCode_any v t s W (keepsT _ _ _ _ h hb) hs)
  have HC := Lib.hid (fun W (hb : Below w.heap.size w W) (ok : OkT t) hl h6 => courseOn_own v t s W (keepsT _ _ _ _ h hb) ok hl h6)
  obtain ⟨A, c, rfl⟩ := h.shape
  have HR := Lib.hid (Row.new w [.int .i64 t.L, .int .i64 t.S, .slice A t.mv.length c] 31)
  have HB := Lib.hid (below_alloc w (.cells #[.int .i64 t.L, .int .i64 t.S, .slice A t.mv.length c] 31))
  clear h
  go_enter Try.func27, Try.ntmps27
  go_wp2_with fail
  refine (HG.out _ HB.out).mono ?_
  rintro e w1 ⟨rfl, hb1⟩
  have HB1 := Lib.hid (below_step HB.out hb1)
  obtain ⟨⟨b0, b1, b2⟩, -⟩ := (HR.out.below hb1 HR.out.lt).three
  clear hb1
  rcases givenC_or t s with hg | hg
  · obtain ⟨ok1, ok2⟩ := givenC_zero hg
    obtain ⟨s60, hl⟩ := okWord_parts ok2
    have hlen := run_len t s hg
    have HG0 := Lib.hid hg
    have HLP := Lib.hid (runF_loop t s (roomP t s + 1) [] (t.S.toNat, 0))
    have HCC := Lib.hid (HC.out w1 HB1.out (okT_out ok1) hl s60)
    rw [hg]
    clear hg ok1 ok2 s60 hl
    go_wp2_with fail
    refine HCC.out.mono ?_
    rintro e w2 ⟨u, bs, rfl, hu, hb2⟩
    rcases hu.nil_or with ⟨rfl, hnil⟩ | ⟨g, cap, rfl, rfl, _, _⟩
    · have h0 : (runN t s).places.length = 0 := by have := congrArg List.length hnil; simpa using this
      by_cases hv : (runN t s).verdict = 3
      · exact absurd (HLP.out hv) (by show ¬ (runN t s).loop < (runN t s).places.length; omega)
      · have d1 : ((runN t s).verdict != 3) = true := by simpa using hv
        have HRES := Lib.hid (show loopRes t s = ([], 6) by simp [loopRes, HG0.out, hv])
        have HB2 := Lib.hid (below_step HB1.out hb2)
        clear hu hb2 b0 b1 b2 hv
        go_wp2
        refine bodyPost_ret (v := .tuple #[.slice none 0 0, .int .i64 6]) (by simp [results, Try.results27, go_sem]) rfl ?_
        rw [HRES.out]
        exact ⟨_, _, rfl, owO_nil _ _ _, below_step HB2.out (below_alloc _ _)⟩
    · have HB2 := Lib.hid (below_step HB1.out hb2)
      have HU := Lib.hid hu
      have HWL := Lib.hid HB1.out.size
      clear hu hb2 b0 b1 b2
      by_cases hv : (runN t s).verdict = 3
      · have d1 : ((runN t s).verdict != 3) = false := by simpa using hv
        have HRES := Lib.hid (show loopRes t s = (((runN t s).places.map pI).drop (runN t s).loop, 0) by simp [loopRes, HG0.out, hv])
        have hlt := HLP.out hv
        have hlt : (runN t s).loop < (runN t s).places.length := hlt
        have hlc : ((runN t s).places.map pI).length = (runN t s).places.length := by simp
        generalize hpl : (runN t s).places.map pI = pl at *
        rw [hlc] at HU ⊢
        have HLC := Lib.hid hlc
        clear hlc hpl
        generalize (runN t s).places.length = n at *
        generalize (runN t s).loop = d at *
        have k1 : (0 : Int) ≤ d := by omega
        have k2 : (d : Int) ≤ n := by omega
        have hcap : n ≤ cap := by
          obtain ⟨-, h1 | ⟨g', cap', cur, h1, h2, h3, h4, -⟩⟩ := HU.out.1
          · simp at h1
          · have := HLC.out
            simp only [Value.slice.injEq, Option.some.injEq, Addr.mk.injEq, and_true, true_and] at h1
            omega
        have k3 : (n : Int) ≤ cap := by omega
        clear hv
        go_wp2
        have hU := HU.out.from HLC.out (d := d) (by omega)
        refine bodyPost_ret (v := .tuple #[.slice (some ⟨g, d * 2, none⟩) (n - d) (cap - d), .int .i64 0]) (by simp [results, Try.results27, go_sem]) rfl ?_
        rw [HRES.out]
        have hb3 := below_alloc w2 (.cells #[.slice (some ⟨g, 0, none⟩) n cap, .int .i64 (runN t s).verdict, .int .i64 (d : Int)] 89)
        exact ⟨_, _, rfl, (goodO _).mono ((goodO _).below hU hb3) HWL.out, below_step HB2.out hb3⟩
      · have d1 : ((runN t s).verdict != 3) = true := by simpa using hv
        have HRES := Lib.hid (show loopRes t s = ([], 6) by simp [loopRes, HG0.out, hv])
        clear hv
        go_wp2
        refine bodyPost_ret (v := .tuple #[.slice none 0 0, .int .i64 6]) (by simp [results, Try.results27, go_sem]) rfl ?_
        rw [HRES.out]
        exact ⟨_, _, rfl, owO_nil _ _ _, below_step HB2.out (below_alloc _ _)⟩
  · have HRES := Lib.hid (show loopRes t s = ([], 1) by simp [loopRes, hg])
    rw [hg]
    clear hg
    go_wp2
    refine bodyPost_ret (v := .tuple #[.slice none 0 0, .int .i64 1]) (by simp [results, Try.results27, go_sem]) rfl ?_
    rw [HRES.out]
    exact ⟨_, _, rfl, owO_nil _ _ _, HB1.out⟩

set_option maxRecDepth 100000 in
set_option maxHeartbeats 1600000 in
theorem specLoopOf_rd (v : Value) (t : TData) (s : ByteArray) (w : World) (h : RdT w v t) (hs : s.size ≤ maxLen) :
    Calls Try.prog 26 #[v, .string s] w fun e w' => ∃ u, e = .returned (.tuple #[u, .int .i64 (loopRes t s).2]) ∧ RdP w' u (loopRes t s).1 ∧ Below w.heap.size w w' := by
  obtain ⟨im, him, hzm0, hzm1, hzm2⟩ := info_parts infoPlace
  obtain ⟨vm, rfl, hA⟩ := atT_box h 31
  have HG := Lib.hid (l02Given_any _ t s _ hA hs)
  have HA := Lib.hid hA
  have HB := Lib.hid (below_alloc w (.cells #[.int .i64 t.L, .int .i64 t.S, vm] 31))
  clear h hA
  go_enter Try.func26, Try.ntmps26
  go_wp2_with fail
  refine HG.out.mono ?_
  rintro e w1 ⟨rfl, hb1⟩
  have HA1 := Lib.hid (HA.out.below hb1)
  have HB1 := Lib.hid (below_step HB.out hb1)
  clear hb1
  rcases givenC_or t s with hg | hg
  · obtain ⟨ok1, ok2⟩ := givenC_zero hg
    obtain ⟨s60, hl⟩ := okWord_parts ok2
    have hlen := run_len t s hg
    have HG0 := Lib.hid hg
    have HLP := Lib.hid (runF_loop t s (roomP t s + 1) [] (t.S.toNat, 0))
    have HCC := Lib.hid (l02Run_own _ t s w1 HA1.out (okT_out ok1) hl s60)
    rw [hg]
    clear hg ok1 ok2 s60 hl
    go_wp2_with fail
    refine HCC.out.mono ?_
    rintro e w2 ⟨u, bs, rfl, hu, hb2⟩
    have HB2 := Lib.hid (below_step HB1.out hb2)
    have HWL := Lib.hid hb2.size
    by_cases hv : (runN t s).verdict = 3
    · have d1 : ((runN t s).verdict != 3) = false := by simpa using hv
      have HRES := Lib.hid (show loopRes t s = (((runN t s).places.map pI).drop (runN t s).loop, 0) by simp [loopRes, HG0.out, hv])
      have hlt : (runN t s).loop < (runN t s).places.length := HLP.out hv
      rcases hu.nil_or with ⟨rfl, hnil⟩ | ⟨g, cap, rfl, rfl, _, _⟩
      · have h0 : (runN t s).places.length = 0 := by have := congrArg List.length hnil; simpa using this
        omega
      · have hlc : ((runN t s).places.map pI).length = (runN t s).places.length := by simp
        have HU := Lib.hid hu
        clear hu hb2
        generalize hpl : (runN t s).places.map pI = pl at *
        rw [hlc] at HU ⊢
        have HLC := Lib.hid hlc
        clear hlc hpl
        generalize (runN t s).places.length = n at *
        generalize (runN t s).loop = d at *
        have k1 : (0 : Int) ≤ d := by omega
        have k2 : (d : Int) ≤ n := by omega
        have hcap : n ≤ cap := by
          obtain ⟨-, h1 | ⟨g', cap', cur, h1, h2, h3, h4, -⟩⟩ := HU.out.1
          · simp at h1
          · have := HLC.out
            simp only [Value.slice.injEq, Option.some.injEq, Addr.mk.injEq, and_true, true_and] at h1
            omega
        have k3 : (n : Int) ≤ cap := by omega
        have hO := HU.out.from HLC.out (d := d) (by omega)
        have hO2 := (goodO 70).below hO (below_alloc w2 (.cells #[] 70))
        have hrd := hO2.rd
        have hln : (pl.drop d).length = n - d := by rw [List.length_drop]; have := HLC.out; omega
        have HLN := Lib.hid hln
        have HN := Lib.hid (rdP_newsR hrd)
        have HO := Lib.hid (World.ownsRow_lit (base := w2.heap.size) (e := 70) (size := 2) w2 #[] 0 (Nat.le_refl _) (by unfold maxLen; omega) rfl)
        clear hO hO2 hrd hln hv
        go_wp2_with (at_builtin; refine wpList_append_lies _ rfl _ _ 26 rfl w2.heap.size 70 im _ 2 16 Try.underlying26 him hzm0 hzm1 hzm2 rfl (by decide) (.slice (some ⟨w2.heap.size, 0, none⟩) 0 0) 0 [] rfl HO.out ⟨g, d * 2, none⟩ (n - d) (cap - d) (pcells (pl.drop d)) rfl (by rw [pcells_len, HLN.out]) HN.out (pcells_oneR _) (by omega) (by unfold maxLen; omega) (by omega) (by simp) (w2.heap.size + 1) (by simp) ?_; intro g3 cap3 w3 hown3 hgrow3 hat3 hlt3)
        have hlo : ∀ b ∈ blks (.slice (some ⟨w2.heap.size, 0, none⟩) 0 0), w.heap.size ≤ b := fun b hm => by
          have h1 := HB2.out.size
          simp [blks, Value.ownBlock] at hm
          omega
        have hb5 := (below_step HB2.out (below_alloc w2 (.cells #[] 70))).trans (grown_below hgrow3 (B := w.heap.size) (by have := HB2.out.size; simp; omega) hlo)
        rw [List.nil_append] at hown3
        refine bodyPost_ret (v := .tuple #[.slice (some ⟨g3, 0, none⟩) (0 + (n - d)) cap3, .int .i64 0]) (by simp [results, Try.results26, go_sem]) rfl ?_
        rw [HRES.out]
        have hP : OwP 70 w3 w2.heap.size (.slice (some ⟨g3, 0, none⟩) (0 + (n - d)) cap3) (pl.drop d) _ := ⟨by rw [HLN.out]; simpa using hown3, rfl⟩
        exact ⟨_, rfl, hP.rd, hb5⟩
    · have d1 : ((runN t s).verdict != 3) = true := by simpa using hv
      have HRES := Lib.hid (show loopRes t s = ([], 6) by simp [loopRes, HG0.out, hv])
      have HO := Lib.hid (World.ownsRow_lit (base := w2.heap.size) (e := 70) (size := 2) w2 #[] 0 (Nat.le_refl _) (by unfold maxLen; omega) rfl)
      clear hv hu hb2
      go_wp2
      refine bodyPost_ret (v := .tuple #[.slice (some ⟨w2.heap.size, 0, none⟩) 0 0, .int .i64 6]) (by simp [results, Try.results26, go_sem]) rfl ?_
      rw [HRES.out]
      exact ⟨_, rfl, (show OwP 70 _ w2.heap.size _ [] _ from ⟨HO.out, rfl⟩).rd, below_step HB2.out (below_alloc _ _)⟩
  · have HRES := Lib.hid (show loopRes t s = ([], 1) by simp [loopRes, hg])
    have HO := Lib.hid (World.ownsRow_lit (base := w1.heap.size) (e := 70) (size := 2) w1 #[] 0 (Nat.le_refl _) (by unfold maxLen; omega) rfl)
    rw [hg]
    clear hg
    go_wp2
    refine bodyPost_ret (v := .tuple #[.slice (some ⟨w1.heap.size, 0, none⟩) 0 0, .int .i64 1]) (by simp [results, Try.results26, go_sem]) rfl ?_
    rw [HRES.out]
    exact ⟨_, rfl, (show OwP 70 _ w1.heap.size _ [] _ from ⟨HO.out, rfl⟩).rd, below_step HB1.out (below_alloc _ _)⟩
theorem loop_num (t : TData) (s : ByteArray) : ((2 * ((loopRes t s).1).length : Nat) : Int) ≤ 2305843009213693952 := by
  unfold loopRes
  split
  · rename_i h
    have := run_len t s h
    split
    · simp only [List.length_drop, List.length_map]; omega
    · simp
  · simp
end Go.Proofs.Ytdkalefepdlccaa
