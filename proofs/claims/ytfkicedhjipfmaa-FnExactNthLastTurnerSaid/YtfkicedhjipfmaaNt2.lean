/-
  The turner of the words with a certain letter from the end: the program's answer.
-/
import Derived.Test.YtfkicedhjipfmaaNt1
import Derived.Test.YtfkicedhjipfmaaTdNthLastTurner
import Derived.Test.YtfkicedhjipfmaaBxT
namespace Go.Proofs.Ytfkicedhjipfmaa
open Go.RowKit

def nthT (L n : Int) : TData := ⟨L, 0, tableOf (nthG L.toNat n.toNat) (L.toNat + 2) (n.toNat + 1)⟩
def nthTRes (L n : Int) : TData × Int := if okNth L n = true then (nthT L n, 0) else (⟨0, 0, []⟩, 2)
theorem nthT_num (L n : Int) : (numT (nthTRes L n).1 : Int) ≤ 2305843009213693952 := by
  unfold nthTRes
  split
  · rename_i h
    obtain ⟨⟨l1, l2⟩, n1, n2⟩ := okNth_parts h
    have hsum : ∀ (G : Nat → Nat → Int × Int) (c m : Nat), numL (fun x : List (Int × Int) => 2 * x.length) (tableOf G c m) = m * (2 * c) := by
      intro G c m
      induction m with
      | zero => simp [numL, tableOf]
      | succ k ih => rw [tableOf_succ]; simp only [numL, List.map_append, List.sum_append] at ih ⊢; rw [ih]; simp [rowOf_len, Nat.add_mul]
    simp only [numT, nthT, hsum]
    have h1 : L.toNat ≤ 3 := by omega
    have h2 : n.toNat ≤ 8 := by omega
    have : (n.toNat + 1) * (2 * (L.toNat + 2)) ≤ 9 * 10 := Nat.mul_le_mul (by omega) (by omega)
    omega
  · simp [numT, numL]

set_option maxHeartbeats 1600000 in
theorem implNthT_own (L n : Int) (w : World) :
    Calls Try.prog 28 #[.int .i64 L, .int .i64 n] w fun e w' => ∃ u bs, e = .returned (.tuple #[u, .int .i64 (nthTRes L n).2]) ∧ OwT w' w.heap.size u (nthTRes L n).1 bs ∧ Below w.heap.size w w' := by
  have HB := Lib.hid (below_step (below_step (below_alloc w (.cells #[.int .i64 L] 2)) (below_alloc _ (.cells #[.int .i64 n] 2))) (below_alloc _ (.cells #[.int .i64 0, .int .i64 0, .slice none 0 0] 29)))
  have hl := ((Row.new w [.int .i64 L] 2).alloc (.cells #[.int .i64 n] 2)).alloc (.cells #[.int .i64 0, .int .i64 0, .slice none 0 0] 29)
  have hn := (Row.new (w.alloc (.cells #[.int .i64 L] 2)) [.int .i64 n] 2).alloc (.cells #[.int .i64 0, .int .i64 0, .slice none 0 0] 29)
  have hz := Row.new ((w.alloc (.cells #[.int .i64 L] 2)).alloc (.cells #[.int .i64 n] 2)) [.int .i64 0, .int .i64 0, .slice none 0 0] 29
  have HRL := Lib.hid hl
  have HRN := Lib.hid (show Row _ (w.heap.size + 1) _ _ by simpa using hn)
  have HZ := Lib.hid (show Row _ (w.heap.size + 2) _ _ by simpa using hz)
  have HI := Lib.hid (fun W => isNth_any L n W)
  clear hl hn hz
  by_cases hok : okNth L n = true
  · rw [hok] at HI
    obtain ⟨⟨l1, l2⟩, n1, n2⟩ := okNth_parts hok
    have hres : nthTRes L n = (nthT L n, 0) := by rw [nthTRes, if_pos hok]
    obtain ⟨l, rfl⟩ : ∃ l : Nat, L = l := ⟨L.toNat, by omega⟩
    obtain ⟨m, rfl⟩ : ∃ m : Nat, n = m := ⟨n.toNat, by omega⟩
    have hT : nthT (l : Int) (m : Int) = ⟨(l : Int), 0, tableOf (nthG l m) (l + 2) (m + 1)⟩ := by simp [nthT]
    have HRES := Lib.hid (hres.trans (by rw [hT]))
    clear hok hres hT
    go_enter Try.func28, Try.ntmps28
    go_wp2_with (go_at_call 69; refine (HI.out _).mono ?_; rintro e w' ⟨rfl, rfl⟩)
    generalize ((w.alloc (.cells #[.int .i64 (l : Int)] 2)).alloc (.cells #[.int .i64 (m : Int)] 2)).alloc (.cells #[.int .i64 0, .int .i64 0, .slice none 0 0] 29) = W0 at *
    have HD := Lib.hid (doingNthLastTurner_own (l : Int) 0 (m + 1) (l + 2) w.heap.size (w.heap.size + 1) (nthG l m) W0 (by omega) (by omega) (by omega) (by omega) (fun q k _ _ => nthG_deeded l m q k) (fun W hb q k hq hk => nthClosure_any l m q k w.heap.size (w.heap.size + 1) W (HRL.out.below hb HRL.out.lt).one.1 (HRN.out.below hb HRN.out.lt).one.1 (by omega) (by omega) (by omega)))
    rw [show (((m + 1 : Nat)) : Int) = (m : Int) + 1 by omega] at HD
    obtain ⟨c0, -⟩ := HRL.out.one
    obtain ⟨c1, -⟩ := HRN.out.one
    have lt0 := HRL.out.lt
    have lt1 := HRN.out.lt
    go_wp2_with fail
    refine HD.out.mono ?_
    rintro e w2 ⟨u, bs, rfl, hu, hb2⟩
    obtain ⟨A0, k0, rfl⟩ := hu.rd.shape
    have HZ2 := Lib.hid (HZ.out.below hb2 HZ.out.lt)
    have HB2 := Lib.hid (below_step HB.out hb2)
    have HU := Lib.hid hu
    have lz := HZ.out.lt
    obtain ⟨⟨z0, z1, z2⟩, zf⟩ := HZ2.out.three
    have lz2 := HZ2.out.lt
    simp only [tableOf_len] at HU
    clear hu hb2 c0 c1
    simp only [tableOf_len]
    go_wp2
    obtain ⟨W2, hW2, ⟨y0, y1, y2⟩, eO, eB⟩ := stored3T HZ2.out HU.out lz (by omega) HB2.out
    rw [← hW2]
    clear hW2
    refine bodyPost_ret (v := .tuple #[.agg #[.int .i64 (l : Int), .int .i64 0, .slice A0 (m + 1) k0], .int .i64 0]) (by simp [results, Try.results28, go_sem, y0, y1, y2]) rfl ?_
    rw [HRES.out]
    first | exact ⟨_, rfl, ⟨_, eO⟩, eB⟩ | exact ⟨_, _, rfl, eO, eB⟩
  · have hok' : okNth L n = false := by simpa using hok
    rw [hok'] at HI
    have HRES := Lib.hid (show nthTRes L n = (⟨0, 0, []⟩, 2) by rw [nthTRes, if_neg hok])
    clear hok hok'
    go_enter Try.func28, Try.ntmps28
    go_wp2_with (go_at_call 69; refine (HI.out _).mono ?_; rintro e w' ⟨rfl, rfl⟩)
    obtain ⟨⟨z0, z1, z2⟩, zf⟩ := HZ.out.three
    have hend : ∃ e, e = ((w.alloc (.cells #[.int .i64 L] 2)).alloc (.cells #[.int .i64 n] 2)).alloc (.cells #[.int .i64 0, .int .i64 0, .slice none 0 0] 29) := ⟨_, rfl⟩
    refine bodyPost_ret (v := .tuple #[.agg #[.int .i64 0, .int .i64 0, .slice none 0 0], .int .i64 2]) (by simp [results, Try.results28, go_sem, z0, z1, z2]) rfl ?_
    rw [HRES.out]
    first | exact ⟨_, rfl, ⟨_, owT_zero _ _⟩, HB.out⟩ | exact ⟨_, _, rfl, owT_zero _ _, HB.out⟩
end Go.Proofs.Ytfkicedhjipfmaa
