/-
  The table of the empty word: the program's answer and the model's.
-/
import Derived.Test.YtnpbfafcfghmcabEm2
namespace Go.Proofs.Ytnpbfafcfghmcab
open Go.RowKit

theorem thr_tables : ∀ n, n < 13 → (thr n).take n = (emptyX n).fl ∧ ((thr n).drop 12).take n = (emptyX n).fr := by decide

set_option maxRecDepth 100000 in
set_option maxHeartbeats 1600000 in
theorem specEmptyTable_own (n : Int) (w : World) :
    Calls Try.prog 14 #[.int .i64 n] w fun e w' => ∃ u bs, e = .returned (.tuple #[u, .int .i64 (emptyXRes n).2]) ∧ OwX w' w.heap.size u (emptyXRes n).1 bs ∧ Below w.heap.size w w' := by
  have hz := Row.new w [.slice none 0 0, .slice none 0 0] 29
  have HZ := Lib.hid hz
  have HB := Lib.hid (below_alloc w (.cells #[.slice none 0 0, .slice none 0 0] 29))
  clear hz
  by_cases hin : within n 1 12 = true
  · have hw := of_decide_eq_true hin
    obtain ⟨k, rfl⟩ := Int.eq_ofNat_of_zero_le (show 0 ≤ n by omega)
    have hk : k ≤ 12 := by omega
    have HRES := Lib.hid (show emptyXRes (k : Int) = (emptyX k, 0) by simp [emptyXRes, hin])
    have HE := Lib.hid (l03Empty_own k (w.alloc (.cells #[.slice none 0 0, .slice none 0 0] 29)) hk)
    clear hw
    go_enter Try.func14, Try.ntmps14
    go_wp2_with (go_at_call 27; refine (l00In_w _ _ _ _).mono ?_; rintro e w' ⟨rfl, rfl⟩)
    refine HE.out.mono ?_
    generalize w.alloc (.cells #[.slice none 0 0, .slice none 0 0] 29) = W0 at *
    rintro e w1 ⟨u, bs, rfl, hu, hb⟩
    have hs := hu.rd.shape
    obtain ⟨Bl, kl, Br, kr, rfl⟩ := hs
    have hl1 := HZ.out.lt
    have HH := Lib.hid (own_storedX (w := w) (HZ.out.below hb hl1) (below_step HB.out hb) (Nat.le_refl _) hl1 hu)
    obtain ⟨⟨z0, z1⟩, zf⟩ := (HZ.out.below hb hl1).two
    have lz := (HZ.out.below hb hl1).lt
    clear hu hb hl1
    go_wp2
    obtain ⟨⟨y0, y1⟩, eO, eB⟩ := HH.out
    rw [HRES.out]
    generalize ((w1.setCell ⟨w.heap.size, 0, none⟩ (.slice Bl (emptyX k).fl.length kl)).setCell ⟨w.heap.size, 1, none⟩ (.slice Br (emptyX k).fr.length kr)) = W2 at *
    refine bodyPost_ret (v := .tuple #[.agg #[.slice Bl (emptyX k).fl.length kl, .slice Br (emptyX k).fr.length kr], .int .i64 0]) (by simp [results, Try.results14, go_sem, y0, y1]) rfl ?_
    first | exact ⟨_, _, rfl, eO, eB⟩ | exact ⟨_, rfl, ⟨_, eO⟩, eB⟩
  · have hin' : within n 1 12 = false := by simpa using hin
    have HRES := Lib.hid (show emptyXRes n = (⟨[], []⟩, 2) by simp [emptyXRes, hin'])
    clear hin
    go_enter Try.func14, Try.ntmps14
    go_wp2_with (go_at_call 27; refine (l00In_w _ _ _ _).mono ?_; rintro e w' ⟨rfl, rfl⟩)
    refine bodyPost_ret (v := .tuple #[.agg #[.slice none 0 0, .slice none 0 0], .int .i64 2]) (by simp [results, Try.results14, go_sem]) rfl ?_
    have eO : OwX (w.alloc (.cells #[.slice none 0 0, .slice none 0 0] 29)) w.heap.size (.agg #[.slice none 0 0, .slice none 0 0]) ⟨[], []⟩ [] := ⟨_, _, [], [], rfl, owP_nil _ _ _, owP_nil _ _ _, rfl, by simp⟩
    have eB := HB.out
    rw [HRES.out]
    first | exact ⟨_, _, rfl, eO, eB⟩ | exact ⟨_, rfl, ⟨_, eO⟩, eB⟩

set_option maxRecDepth 100000 in
set_option maxHeartbeats 1600000 in
theorem implEmptyTable_own (n : Int) (w : World) :
    Calls Try.prog 15 #[.int .i64 n] w fun e w' => ∃ u bs, e = .returned (.tuple #[u, .int .i64 (emptyXRes n).2]) ∧ OwX w' w.heap.size u (emptyXRes n).1 bs ∧ Below w.heap.size w w' := by
  have hz := Row.new w [.slice none 0 0, .slice none 0 0] 29
  have HZ := Lib.hid hz
  have HB := Lib.hid (below_alloc w (.cells #[.slice none 0 0, .slice none 0 0] 29))
  clear hz
  by_cases hin : within n 1 12 = true
  · have hw := of_decide_eq_true hin
    obtain ⟨k, rfl⟩ := Int.eq_ofNat_of_zero_le (show 0 ≤ n by omega)
    have hk : k ≤ 12 := by omega
    have d1 : decide ((k : Int) < 1) = false := by simp; omega
    have d2 : decide (12 < (k : Int)) = false := by simp; omega
    have HRES := Lib.hid (show emptyXRes (k : Int) = (emptyX k, 0) by simp [emptyXRes, hin])
    have HT := Lib.hid (through_any k (w.alloc (.cells #[.slice none 0 0, .slice none 0 0] 29)) hk)
    clear hw hin
    go_enter Try.func15, Try.ntmps15
    go_wp2_with fail
    refine HT.out.mono ?_
    generalize w.alloc (.cells #[.slice none 0 0, .slice none 0 0] 29) = W0 at *
    rintro e w1 ⟨rfl, hb⟩
    have HZ1 := Lib.hid (HZ.out.below hb HZ.out.lt)
    have HB1 := Lib.hid (below_step HB.out hb)
    clear hb
    go_wp2_with (refine wpList_storeS rfl _ _ 52 rfl ⟨w1.heap.size, 0, none⟩ _ rfl rfl (store_sheet (row0 w1) (thr_len _) (thr_len _)) ?_)
    have hne : w.heap.size ≠ w1.heap.size := by have := HZ1.out.lt; omega
    have hz2 := ((HZ1.out.alloc (.cells #[.int .i64 0, .int .i64 0, .int .i64 0, .int .i64 0, .int .i64 0, .int .i64 0, .int .i64 0, .int .i64 0, .int .i64 0, .int .i64 0, .int .i64 0, .int .i64 0, .int .i64 0, .int .i64 0, .int .i64 0, .int .i64 0, .int .i64 0, .int .i64 0, .int .i64 0, .int .i64 0, .int .i64 0, .int .i64 0, .int .i64 0, .int .i64 0, .int .i64 0, .int .i64 0, .int .i64 0, .int .i64 0, .int .i64 0, .int .i64 0, .int .i64 0, .int .i64 0, .int .i64 0, .int .i64 0, .int .i64 0, .int .i64 0, .int .i64 0, .int .i64 0, .int .i64 0, .int .i64 0, .int .i64 0, .int .i64 0, .int .i64 0, .int .i64 0, .int .i64 0, .int .i64 0, .int .i64 0, .int .i64 0] 52)).same (setRow_block _ w1.heap.size _ (pcells (thr k)).toArray hne))
    have hb2 := setRow_below (below_step HB1.out (below_alloc w1 (.cells #[.int .i64 0, .int .i64 0, .int .i64 0, .int .i64 0, .int .i64 0, .int .i64 0, .int .i64 0, .int .i64 0, .int .i64 0, .int .i64 0, .int .i64 0, .int .i64 0, .int .i64 0, .int .i64 0, .int .i64 0, .int .i64 0, .int .i64 0, .int .i64 0, .int .i64 0, .int .i64 0, .int .i64 0, .int .i64 0, .int .i64 0, .int .i64 0, .int .i64 0, .int .i64 0, .int .i64 0, .int .i64 0, .int .i64 0, .int .i64 0, .int .i64 0, .int .i64 0, .int .i64 0, .int .i64 0, .int .i64 0, .int .i64 0, .int .i64 0, .int .i64 0, .int .i64 0, .int .i64 0, .int .i64 0, .int .i64 0, .int .i64 0, .int .i64 0, .int .i64 0, .int .i64 0, .int .i64 0, .int .i64 0] 52))) HB1.out.size (pcells (thr k)).toArray
    have hr2 := setRow_row (ys := pcells (thr k)) (row0 w1)
    generalize (w1.alloc (.cells #[.int .i64 0, .int .i64 0, .int .i64 0, .int .i64 0, .int .i64 0, .int .i64 0, .int .i64 0, .int .i64 0, .int .i64 0, .int .i64 0, .int .i64 0, .int .i64 0, .int .i64 0, .int .i64 0, .int .i64 0, .int .i64 0, .int .i64 0, .int .i64 0, .int .i64 0, .int .i64 0, .int .i64 0, .int .i64 0, .int .i64 0, .int .i64 0, .int .i64 0, .int .i64 0, .int .i64 0, .int .i64 0, .int .i64 0, .int .i64 0, .int .i64 0, .int .i64 0, .int .i64 0, .int .i64 0, .int .i64 0, .int .i64 0, .int .i64 0, .int .i64 0, .int .i64 0, .int .i64 0, .int .i64 0, .int .i64 0, .int .i64 0, .int .i64 0, .int .i64 0, .int .i64 0, .int .i64 0, .int .i64 0] 52)).setRow w1.heap.size (pcells (thr k)).toArray = W1 at *
    refine (table_own w1.heap.size (thr k) k W1 hr2 (thr_len k) hk).mono ?_
    rintro e w2 ⟨u, bs, rfl, hu, hb3⟩
    rw [(thr_tables k (by omega)).1, (thr_tables k (by omega)).2] at hu
    have hs := hu.rd.shape
    obtain ⟨Bl, kl, Br, kr, rfl⟩ := hs
    simp only at hu
    have hl1 := hz2.lt
    have HH := Lib.hid (own_storedX (w := w) (hz2.below hb3 hl1) (below_step hb2 hb3) (Nat.le_refl _) hl1 hu)
    obtain ⟨⟨z0, z1⟩, zf⟩ := (hz2.below hb3 hl1).two
    have lz := (hz2.below hb3 hl1).lt
    clear hu hb3 hl1 hz2 hb2 hr2 hne
    go_wp2
    obtain ⟨⟨y0, y1⟩, eO, eB⟩ := HH.out
    rw [HRES.out]
    generalize ((w2.setCell ⟨w.heap.size, 0, none⟩ (.slice Bl (emptyX k).fl.length kl)).setCell ⟨w.heap.size, 1, none⟩ (.slice Br (emptyX k).fr.length kr)) = W2 at *
    refine bodyPost_ret (v := .tuple #[.agg #[.slice Bl (emptyX k).fl.length kl, .slice Br (emptyX k).fr.length kr], .int .i64 0]) (by simp [results, Try.results15, go_sem, y0, y1]) rfl ?_
    first | exact ⟨_, _, rfl, eO, eB⟩ | exact ⟨_, rfl, ⟨_, eO⟩, eB⟩
  · have hin' : within n 1 12 = false := by simpa using hin
    have hw := of_decide_eq_false hin'
    have HRES := Lib.hid (show emptyXRes n = (⟨[], []⟩, 2) by simp [emptyXRes, hin'])
    have HW := Lib.hid hw
    clear hin hw
    by_cases h1 : n < 1
    · have d1 : decide (n < 1) = true := by simpa using h1
      clear h1
      go_enter Try.func15, Try.ntmps15
      go_wp2_with fail
      refine bodyPost_ret (v := .tuple #[.agg #[.slice none 0 0, .slice none 0 0], .int .i64 2]) (by simp [results, Try.results15, go_sem]) rfl ?_
      have eO : OwX (w.alloc (.cells #[.slice none 0 0, .slice none 0 0] 29)) w.heap.size (.agg #[.slice none 0 0, .slice none 0 0]) ⟨[], []⟩ [] := ⟨_, _, [], [], rfl, owP_nil _ _ _, owP_nil _ _ _, rfl, by simp⟩
      have eB := HB.out
      rw [HRES.out]
      first | exact ⟨_, _, rfl, eO, eB⟩ | exact ⟨_, rfl, ⟨_, eO⟩, eB⟩
    · have d1 : decide (n < 1) = false := by simpa using h1
      have d2 : decide (12 < n) = true := by have := HW.out; simp; omega
      clear h1
      go_enter Try.func15, Try.ntmps15
      go_wp2_with fail
      refine bodyPost_ret (v := .tuple #[.agg #[.slice none 0 0, .slice none 0 0], .int .i64 2]) (by simp [results, Try.results15, go_sem]) rfl ?_
      have eO : OwX (w.alloc (.cells #[.slice none 0 0, .slice none 0 0] 29)) w.heap.size (.agg #[.slice none 0 0, .slice none 0 0]) ⟨[], []⟩ [] := ⟨_, _, [], [], rfl, owP_nil _ _ _, owP_nil _ _ _, rfl, by simp⟩
      have eB := HB.out
      rw [HRES.out]
      first | exact ⟨_, _, rfl, eO, eB⟩ | exact ⟨_, rfl, ⟨_, eO⟩, eB⟩
theorem specEmptyTable_rd (n : Int) (w : World) :
    Calls Try.prog 14 #[.int .i64 n] w fun e w' => ∃ u, e = .returned (.tuple #[u, .int .i64 (emptyXRes n).2]) ∧ RdX w' u (emptyXRes n).1 ∧ Below w.heap.size w w' :=
  (specEmptyTable_own n w).mono fun e w' ⟨u, bs, he, hO, hb⟩ => ⟨u, he, hO.rd, hb⟩
theorem emptyX_num (n : Int) : (numX (emptyXRes n).1 : Int) ≤ 2305843009213693952 := by
  unfold emptyXRes
  split
  · rename_i h
    have := of_decide_eq_true h
    simp only [numX, emptyX, List.length_map, List.length_range]
    omega
  · simp [numX]
end Go.Proofs.Ytnpbfafcfghmcab
