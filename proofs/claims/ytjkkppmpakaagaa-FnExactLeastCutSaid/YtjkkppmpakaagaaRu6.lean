/-
  Runs and verdicts: the program's answers and the model's.
-/
import Derived.Test.YtjkkppmpakaagaaRu4
import Derived.Test.YtjkkppmpakaagaaRu5
import Derived.Test.YtjkkppmpakaagaaSt3
namespace Go.Proofs.Ytjkkppmpakaagaa
open Go.RowKit

def runRes (t : TData) (s : ByteArray) : List (Int × Int) × Int × Int := if givenC t s = 0 then ((runN t s).places.map pI, (runN t s).verdict, 0) else ([], 0, 1)
def verdictRes (t : TData) (s : ByteArray) : Int × Int := ((runRes t s).2.1, (runRes t s).2.2)

set_option maxRecDepth 100000 in
set_option maxHeartbeats 1600000 in
theorem specRunTurner_any (v : Value) (t : TData) (s : ByteArray) (w : World) (h : RdT w v t) (hs : s.size ≤ maxLen) :
    Calls Try.prog 66 #[v, .string s] w fun e w' => ∃ u bs, e = .returned (.tuple #[u, .int .i64 (runRes t s).2.1, .int .i64 (runRes t s).2.2]) ∧ OwP 28 w' w.heap.size u (runRes t s).1 bs ∧ Below w.heap.size w w' := by
  obtain ⟨vm, rfl, hA⟩ := atT_box h 33
  have HG := Lib.hid (l02Given_any _ t s _ hA hs)
  have HA := Lib.hid hA
  have HB := Lib.hid (below_alloc w (.cells #[.int .i64 t.L, .int .i64 t.S, vm] 33))
  clear h hA
  go_enter Try.func66, Try.ntmps66
  go_wp2_with fail
  refine HG.out.mono ?_
  rintro e w1 ⟨rfl, hb1⟩
  have HA1 := Lib.hid (HA.out.below hb1)
  have HB1 := Lib.hid (below_step HB.out hb1)
  clear hb1
  rcases givenC_or t s with hg | hg
  · obtain ⟨ok1, ok2⟩ := givenC_zero hg
    obtain ⟨s60, hl⟩ := okWord_parts ok2
    have HRES := Lib.hid (show runRes t s = ((runN t s).places.map pI, (runN t s).verdict, 0) by simp [runRes, hg])
    have HCC := Lib.hid (l02Run_own _ t s w1 HA1.out (okT_out ok1) hl s60)
    rw [hg]
    clear hg ok1 ok2 s60 hl
    go_wp2_with fail
    refine HCC.out.mono ?_
    rintro e w2 ⟨u, bs, rfl, hu, hb2⟩
    have HU := Lib.hid hu
    have HB2 := Lib.hid hb2
    clear hu hb2
    go_wp2
    refine bodyPost_ret (v := .tuple #[u, .int .i64 (runN t s).verdict, .int .i64 0]) (by simp [results, Try.results66, go_sem]) rfl ?_
    rw [HRES.out]
    exact ⟨_, _, rfl, (goodP _).mono HU.out HB1.out.size, below_step HB1.out HB2.out⟩
  · have HRES := Lib.hid (show runRes t s = ([], 0, 1) by simp [runRes, hg])
    have HO := Lib.hid (World.ownsRow_lit (base := w1.heap.size) (e := 28) (size := 2) w1 #[] 0 (Nat.le_refl _) (by unfold maxLen; omega) rfl)
    rw [hg]
    clear hg
    go_wp2
    refine bodyPost_ret (v := .tuple #[.slice (some ⟨w1.heap.size, 0, none⟩) 0 0, .int .i64 0, .int .i64 1]) (by simp [results, Try.results66, go_sem]) rfl ?_
    rw [HRES.out]
    exact ⟨_, _, rfl, (goodP _).mono (show OwP 28 _ w1.heap.size _ [] _ from ⟨HO.out, rfl⟩) HB1.out.size, below_step HB1.out (below_alloc _ _)⟩

theorem specRunTurner_rd (v : Value) (t : TData) (s : ByteArray) (w : World) (h : RdT w v t) (hs : s.size ≤ maxLen) :
    Calls Try.prog 66 #[v, .string s] w fun e w' => ∃ u, e = .returned (.tuple #[u, .int .i64 (runRes t s).2.1, .int .i64 (runRes t s).2.2]) ∧ RdP w' u (runRes t s).1 ∧ Below w.heap.size w w' :=
  (specRunTurner_any v t s w h hs).mono fun e w' ⟨u, bs, he, hO, hb⟩ => ⟨u, he, hO.rd, hb⟩
theorem runF_len (t : TData) (s : ByteArray) : ∀ (f : Nat) (ps : List (Nat × Nat)) (p : Nat × Nat), (runF t s f ps p).places.length ≤ f + ps.length
  | 0, ps, p => by simp [runF]
  | f + 1, ps, p => by
    unfold runF
    split
    · simp only; omega
    · split
      · simp only [List.length_append, List.length_singleton]; omega
      · split
        · simp only [List.length_append, List.length_singleton]; omega
        · have := runF_len t s f (ps ++ [p]) (nextP t s p)
          simp at this
          omega
theorem run_len (t : TData) (s : ByteArray) (h : givenC t s = 0) : (runN t s).places.length ≤ 745 := by
  obtain ⟨ok1, ok2⟩ := givenC_zero h
  have h1 := runF_len t s (roomP t s + 1) [] (t.S.toNat, 0)
  have h2 := room_le (okT_out ok1).n2 (okWord_parts ok2).1
  unfold runN
  simp at h1
  omega
theorem run_num (t : TData) (s : ByteArray) : ((2 * ((runRes t s).1).length : Nat) : Int) ≤ 2305843009213693952 := by
  unfold runRes
  split
  · rename_i h
    have := run_len t s h
    simp only [List.length_map]
    omega
  · simp

end Go.Proofs.Ytjkkppmpakaagaa
