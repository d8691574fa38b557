/-
  Runs and verdicts: the program's answers and the model's.
-/
import Derived.Test.YtdkalefepdlccaaRu4
import Derived.Test.YtdkalefepdlccaaRu5
import Derived.Test.YtdkalefepdlccaaSt3
namespace Go.Proofs.Ytdkalefepdlccaa
open Go.RowKit

def runRes (t : TData) (s : ByteArray) : List (Int × Int) × Int × Int := if givenC t s = 0 then ((runN t s).places.map pI, (runN t s).verdict, 0) else ([], 0, 1)
def verdictRes (t : TData) (s : ByteArray) : Int × Int := ((runRes t s).2.1, (runRes t s).2.2)

set_option maxRecDepth 100000 in
set_option maxHeartbeats 1600000 in
theorem implRunTurner_any (v : Value) (t : TData) (s : ByteArray) (w : World) (h : RdT w v t) (hs : s.size ≤ maxLen) :
    Calls Try.prog 18 #[v, .string s] w fun e w' => ∃ u bs, e = .returned (.tuple #[u, .int .i64 (runRes t s).2.1, .int .i64 (runRes t s).2.2]) ∧ OwP 70 w' w.heap.size u (runRes t s).1 bs ∧ Below w.heap.size w w' := by
  have HG := Lib.hid (fun W (hb : Below w.heap.size w W) => wordCode_any v t s W (keepsT _ _ _ _ h hb) hs)
  have HC := Lib.hid (fun W (hb : Below w.heap.size w W) (ok : OkT t) hl h6 => courseOn_own v t s W (keepsT _ _ _ _ h hb) ok hl h6)
  obtain ⟨A, c, rfl⟩ := h.shape
  have HR := Lib.hid (Row.new w [.int .i64 t.L, .int .i64 t.S, .slice A t.mv.length c] 31)
  have HB := Lib.hid (below_alloc w (.cells #[.int .i64 t.L, .int .i64 t.S, .slice A t.mv.length c] 31))
  clear h
  go_enter Try.func18, Try.ntmps18
  go_wp2_with fail
  refine (HG.out _ HB.out).mono ?_
  rintro e w1 ⟨rfl, hb1⟩
  have HB1 := Lib.hid (below_step HB.out hb1)
  obtain ⟨⟨b0, b1, b2⟩, -⟩ := (HR.out.below hb1 HR.out.lt).three
  clear hb1
  rcases givenC_or t s with hg | hg
  · obtain ⟨ok1, ok2⟩ := givenC_zero hg
    obtain ⟨s60, hl⟩ := okWord_parts ok2
    have HRES := Lib.hid (show runRes t s = ((runN t s).places.map pI, (runN t s).verdict, 0) by simp [runRes, hg])
    have HCC := Lib.hid (HC.out w1 HB1.out (okT_out ok1) hl s60)
    rw [hg]
    clear hg ok1 ok2 s60 hl
    go_wp2_with fail
    refine HCC.out.mono ?_
    rintro e w2 ⟨u, bs, rfl, hu, hb2⟩
    obtain ⟨B, k, rfl⟩ := owP_shape hu
    have HU := Lib.hid hu
    have HB2 := Lib.hid hb2
    clear hu hb2 b0 b1 b2
    go_wp2
    go_quiet (fail)
    go_wp2
    have hu := HU.out
    rw [List.length_map] at hu
    have hb3 := below_drewN (below_alloc w2 (.cells #[.slice B (runN t s).places.length k, .int .i64 (runN t s).verdict, .int .i64 (((runN t s).loop : Nat) : Int)] 89)) nq
    refine bodyPost_ret (v := .tuple #[.slice B (runN t s).places.length k, .int .i64 (runN t s).verdict, .int .i64 0]) (by simp [results, Try.results18, go_sem]) rfl ?_
    rw [HRES.out]
    exact ⟨_, _, rfl, (goodP _).mono ((goodP _).below hu hb3) HB1.out.size, below_step (below_step HB1.out HB2.out) hb3⟩
  · have HRES := Lib.hid (show runRes t s = ([], 0, 1) by simp [runRes, hg])
    rw [hg]
    clear hg
    go_wp2
    refine bodyPost_ret (v := .tuple #[.slice none 0 0, .int .i64 0, .int .i64 1]) (by simp [results, Try.results18, go_sem]) rfl ?_
    rw [HRES.out]
    exact ⟨_, _, rfl, owP_nil _ _ _, HB1.out⟩

set_option maxRecDepth 100000 in
set_option maxHeartbeats 1600000 in
theorem implVerdictOf_any (v : Value) (t : TData) (s : ByteArray) (w : World) (h : RdT w v t) (hs : s.size ≤ maxLen) :
    Calls Try.prog 25 #[v, .string s] w fun e w' => e = .returned (.tuple #[.int .i64 (verdictRes t s).1, .int .i64 (verdictRes t s).2]) ∧ Below w.heap.size w w' := by
  have HG := Lib.hid (fun W (hb : Below w.heap.size w W) => implRunTurner_any v t s W (keepsT _ _ _ _ h hb) hs)
  obtain ⟨A, c, rfl⟩ := h.shape
  have HB := Lib.hid (below_alloc w (.cells #[.int .i64 t.L, .int .i64 t.S, .slice A t.mv.length c] 31))
  clear h
  unfold verdictRes
  generalize runRes t s = rr at *
  obtain ⟨r1, r2, r3⟩ := rr
  simp only at *
  go_enter Try.func25, Try.ntmps25
  go_wp2_with fail
  refine (HG.out _ HB.out).mono ?_
  rintro e w1 ⟨u, bs, rfl, -, hb1⟩
  have HB1 := Lib.hid (below_step HB.out hb1)
  clear hb1
  go_wp2
  refine bodyPost_ret (v := .tuple #[.int .i64 r2, .int .i64 r3]) (by simp [results, Try.results25, go_sem]) rfl ?_
  exact ⟨rfl, HB1.out⟩

set_option maxRecDepth 100000 in
set_option maxHeartbeats 1600000 in
theorem specRunTurner_any (v : Value) (t : TData) (s : ByteArray) (w : World) (h : RdT w v t) (hs : s.size ≤ maxLen) :
    Calls Try.prog 16 #[v, .string s] w fun e w' => ∃ u bs, e = .returned (.tuple #[u, .int .i64 (runRes t s).2.1, .int .i64 (runRes t s).2.2]) ∧ OwP 70 w' w.heap.size u (runRes t s).1 bs ∧ Below w.heap.size w w' := by
  obtain ⟨vm, rfl, hA⟩ := atT_box h 31
  have HG := Lib.hid (l02Given_any _ t s _ hA hs)
  have HA := Lib.hid hA
  have HB := Lib.hid (below_alloc w (.cells #[.int .i64 t.L, .int .i64 t.S, vm] 31))
  clear h hA
  go_enter Try.func16, Try.ntmps16
  go_wp2_with fail
  refine HG.out.mono ?_
  rintro e w1 ⟨rfl, hb1⟩
  have HA1 := Lib.hid (HA.out.below hb1)
  have HB1 := Lib.hid (below_step HB.out hb1)
  clear hb1
  rcases givenC_or t s with hg | hg
  · obtain ⟨ok1, ok2⟩ := givenC_zero hg
    obtain ⟨s60, hl⟩ := okWord_parts ok2
    have HRES := Lib.hid (show runRes t s = ((runN t s).places.map pI, (runN t s).verdict, 0) by simp [runRes, hg])
    have HCC := Lib.hid (l02Run_own _ t s w1 HA1.out (okT_out ok1) hl s60)
    rw [hg]
    clear hg ok1 ok2 s60 hl
    go_wp2_with fail
    refine HCC.out.mono ?_
    rintro e w2 ⟨u, bs, rfl, hu, hb2⟩
    have HU := Lib.hid hu
    have HB2 := Lib.hid hb2
    clear hu hb2
    go_wp2
    refine bodyPost_ret (v := .tuple #[u, .int .i64 (runN t s).verdict, .int .i64 0]) (by simp [results, Try.results16, go_sem]) rfl ?_
    rw [HRES.out]
    exact ⟨_, _, rfl, (goodP _).mono HU.out HB1.out.size, below_step HB1.out HB2.out⟩
  · have HRES := Lib.hid (show runRes t s = ([], 0, 1) by simp [runRes, hg])
    have HO := Lib.hid (World.ownsRow_lit (base := w1.heap.size) (e := 70) (size := 2) w1 #[] 0 (Nat.le_refl _) (by unfold maxLen; omega) rfl)
    rw [hg]
    clear hg
    go_wp2
    refine bodyPost_ret (v := .tuple #[.slice (some ⟨w1.heap.size, 0, none⟩) 0 0, .int .i64 0, .int .i64 1]) (by simp [results, Try.results16, go_sem]) rfl ?_
    rw [HRES.out]
    exact ⟨_, _, rfl, (goodP _).mono (show OwP 70 _ w1.heap.size _ [] _ from ⟨HO.out, rfl⟩) HB1.out.size, below_step HB1.out (below_alloc _ _)⟩

theorem specRunTurner_rd (v : Value) (t : TData) (s : ByteArray) (w : World) (h : RdT w v t) (hs : s.size ≤ maxLen) :
    Calls Try.prog 16 #[v, .string s] w fun e w' => ∃ u, e = .returned (.tuple #[u, .int .i64 (runRes t s).2.1, .int .i64 (runRes t s).2.2]) ∧ RdP w' u (runRes t s).1 ∧ Below w.heap.size w w' :=
  (specRunTurner_any v t s w h hs).mono fun e w' ⟨u, bs, he, hO, hb⟩ => ⟨u, he, hO.rd, hb⟩
theorem runF_len (t : TData) (s : ByteArray) : ∀ (f : Nat) (ps : List (Nat × Nat)) (p : Nat × Nat), (runF t s f ps p).places.length ≤ f + ps.length
  | 0, ps, p => by simp [runF]
  | f + 1, ps, p => by
    unfold runF
    split
    · simp only; omega
    · split
      · simp only [List.length_append, List.length_singleton]; omega
      · split
        · simp only [List.length_append, List.length_singleton]; omega
        · have := runF_len t s f (ps ++ [p]) (nextP t s p)
          simp at this
          omega
theorem run_len (t : TData) (s : ByteArray) (h : givenC t s = 0) : (runN t s).places.length ≤ 745 := by
  obtain ⟨ok1, ok2⟩ := givenC_zero h
  have h1 := runF_len t s (roomP t s + 1) [] (t.S.toNat, 0)
  have h2 := room_le (okT_out ok1).n2 (okWord_parts ok2).1
  unfold runN
  simp at h1
  omega
theorem run_num (t : TData) (s : ByteArray) : ((2 * ((runRes t s).1).length : Nat) : Int) ≤ 2305843009213693952 := by
  unfold runRes
  split
  · rename_i h
    have := run_len t s h
    simp only [List.length_map]
    omega
  · simp

set_option maxRecDepth 100000 in
set_option maxHeartbeats 1600000 in
theorem l02Verdict_any (b : Nat) (t : TData) (s : ByteArray) (w : World) (h : AtT w b t) (ok : OkT t) (hl : lettersOk t.L s = true) (hs : s.size ≤ 60) :
    Calls Try.prog 68 #[.pointer (some ⟨b, 0, none⟩), .string s] w fun e w' => e = .returned (.int .i64 (runN t s).verdict) ∧ Below w.heap.size w w' := by
  have HC := Lib.hid (l02Run_own b t s w h ok hl hs)
  clear h ok hl
  go_enter Try.func68, Try.ntmps68
  go_wp2_with fail
  refine HC.out.mono ?_
  rintro e w2 ⟨u, bs, rfl, -, hb2⟩
  have HB2 := Lib.hid hb2
  clear hb2
  go_wp2
  go_ret
  exact ⟨rfl, HB2.out⟩

set_option maxRecDepth 100000 in
set_option maxHeartbeats 1600000 in
theorem specVerdictOf_any (v : Value) (t : TData) (s : ByteArray) (w : World) (h : RdT w v t) (hs : s.size ≤ maxLen) :
    Calls Try.prog 24 #[v, .string s] w fun e w' => e = .returned (.tuple #[.int .i64 (verdictRes t s).1, .int .i64 (verdictRes t s).2]) ∧ Below w.heap.size w w' := by
  obtain ⟨vm, rfl, hA⟩ := atT_box h 31
  have HG := Lib.hid (l02Given_any _ t s _ hA hs)
  have HA := Lib.hid hA
  have HB := Lib.hid (below_alloc w (.cells #[.int .i64 t.L, .int .i64 t.S, vm] 31))
  clear h hA
  go_enter Try.func24, Try.ntmps24
  go_wp2_with fail
  refine HG.out.mono ?_
  rintro e w1 ⟨rfl, hb1⟩
  have HA1 := Lib.hid (HA.out.below hb1)
  have HB1 := Lib.hid (below_step HB.out hb1)
  clear hb1
  rcases givenC_or t s with hg | hg
  · obtain ⟨ok1, ok2⟩ := givenC_zero hg
    obtain ⟨s60, hl⟩ := okWord_parts ok2
    have HRES := Lib.hid (show verdictRes t s = ((runN t s).verdict, 0) by simp [verdictRes, runRes, hg])
    have HCC := Lib.hid (l02Verdict_any _ t s w1 HA1.out (okT_out ok1) hl s60)
    rw [hg]
    clear hg ok1 ok2 s60 hl
    go_wp2_with fail
    refine HCC.out.mono ?_
    rintro e w2 ⟨rfl, hb2⟩
    have HB2 := Lib.hid hb2
    clear hb2
    go_wp2
    refine bodyPost_ret (v := .tuple #[.int .i64 (runN t s).verdict, .int .i64 0]) (by simp [results, Try.results24, go_sem]) rfl ?_
    rw [HRES.out]
    exact ⟨rfl, below_step HB1.out HB2.out⟩
  · have HRES := Lib.hid (show verdictRes t s = (0, 1) by simp [verdictRes, runRes, hg])
    rw [hg]
    clear hg
    go_wp2
    refine bodyPost_ret (v := .tuple #[.int .i64 0, .int .i64 1]) (by simp [results, Try.results24, go_sem]) rfl ?_
    rw [HRES.out]
    exact ⟨rfl, HB1.out⟩
end Go.Proofs.Ytdkalefepdlccaa
