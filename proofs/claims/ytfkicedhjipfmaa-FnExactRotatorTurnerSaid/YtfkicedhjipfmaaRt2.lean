/-
  A rotator as a turner: the program's answer.
-/
import Derived.Test.YtfkicedhjipfmaaRt1
import Derived.Test.YtfkicedhjipfmaaTdRotatorTurner
import Derived.Test.YtfkicedhjipfmaaBxT
import Derived.Deep.CutRange
namespace Go.Proofs.Ytfkicedhjipfmaa
open Go.RowKit

def rtT (r : OData) : TData := ⟨r.L, r.S, tableOf (rtG r) (r.L.toNat + 2) (2 * r.next.length)⟩
def rtRes (r : OData) : TData × Int := if okO r = true then (rtT r, 0) else (⟨0, 0, []⟩, 1)
theorem rt_num (r : OData) : (numT (rtRes r).1 : Int) ≤ 2305843009213693952 := by
  unfold rtRes
  split
  · rename_i h
    obtain ⟨⟨l1, l2⟩, ⟨n1, n2⟩, -⟩ := okO_parts h
    have hsum : ∀ (G : Nat → Nat → Int × Int) (c m : Nat), numL (fun x : List (Int × Int) => 2 * x.length) (tableOf G c m) = m * (2 * c) := by
      intro G c m
      induction m with
      | zero => simp [numL, tableOf]
      | succ k ih => rw [tableOf_succ]; simp only [numL, List.map_append, List.sum_append] at ih ⊢; rw [ih]; simp [rowOf_len, Nat.add_mul]
    simp only [numT, rtT, hsum]
    have : 2 * r.next.length * (2 * (r.L.toNat + 2)) ≤ 12 * 10 := Nat.mul_le_mul (by omega) (by omega)
    omega
  · simp [numT, numL]

/-- What the closure finds in its boxes. -/
structure RtEnv (pn po pb pr ps : Nat) (r : OData) (w : World) : Prop where
  n : w.cell? ⟨pn, 0, none⟩ = some (.int .i64 (r.next.length : Int))
  on : w.cell? ⟨po, 0, none⟩ = some (rtOnV pr ps)
  back : w.cell? ⟨pb, 0, none⟩ = some (rtBackV pr ps)
  sec : w.cell? ⟨ps, 0, none⟩ = some (secV pn)
  at' : AtO w pr r
theorem RtEnv.below {pn po pb pr ps : Nat} {r : OData} {w w' : World} (h : RtEnv pn po pb pr ps r w) (hb : Below w.heap.size w w') : RtEnv pn po pb pr ps r w' :=
  ⟨below_keep hb h.n, below_keep hb h.on, below_keep hb h.back, below_keep hb h.sec, h.at'.below hb⟩

set_option maxRecDepth 100000 in
set_option maxHeartbeats 3200000 in
theorem rtClosure_any (pn po pb pr ps : Nat) (r : OData) (q k : Nat) (w : World) (h : RtEnv pn po pb pr ps r w) (hok : okO r = true) (hq : q < 2 * r.next.length) (hk : (k : Int) < r.L + 2) :
    Calls Try.prog 80 #[.int .i64 (q : Int), .int .i64 (k : Int), .pointer (some ⟨pn, 0, none⟩), .pointer (some ⟨po, 0, none⟩), .pointer (some ⟨pb, 0, none⟩)] w fun e w' => e = .returned (deedV (rtG r q k)) ∧ Below w.heap.size w w' := by
  obtain ⟨⟨l1, l2⟩, ⟨n1, n2⟩, -, m1, -⟩ := okO_parts hok
  have g1 := h.n
  by_cases hlt : q < r.next.length
  · have HC := Lib.hid (rtOn_any pr ps pn r q k w h.at' h.sec h.n hok hk hlt)
    have g2 := h.on
    unfold rtOnV at g2
    have i1 : (q : Int) < r.next.length := by omega
    clear h hok
    go_enter Try.func80, Try.ntmps80
    go_wp2_with fail
    refine HC.out.mono ?_
    rintro e w1 ⟨rfl, hb⟩
    have HB := Lib.hid hb
    clear hb
    go_wp2
    go_ret
    exact ⟨rfl, HB.out⟩
  · obtain ⟨d, hd⟩ : ∃ d, q = r.next.length + d := ⟨q - r.next.length, by omega⟩
    have hc := rtBack_any pr ps pn r d k w (by obtain ⟨_, _, d0, -⟩ := h.at'; exact d0) h.sec h.n hok hk (by omega)
    rw [← hd, show (d : Int) = (q : Int) - r.next.length by omega] at hc
    have HC := Lib.hid hc
    have g2 := h.back
    unfold rtBackV at g2
    have i1 : ¬ (q : Int) < r.next.length := by omega
    have i2 : (q : Int) ≤ 12 := by omega
    clear h hok hc hd hlt
    go_enter Try.func80, Try.ntmps80
    go_wp2_with fail
    refine HC.out.mono ?_
    rintro e w1 ⟨rfl, hb⟩
    have HB := Lib.hid hb
    clear hb
    go_wp2
    go_ret
    exact ⟨rfl, HB.out⟩

set_option maxRecDepth 100000 in
set_option maxHeartbeats 3200000 in
theorem implRt_own (v : Value) (r : OData) (w : World) (h : RdO w v r) :
    Calls Try.prog 32 #[v] w fun e w' => ∃ u bs, e = .returned (.tuple #[u, .int .i64 (rtRes r).2]) ∧ OwT w' w.heap.size u (rtRes r).1 bs ∧ Below w.heap.size w w' := by
  have HRD := Lib.hid h
  obtain ⟨A, ka, B, kb, rfl⟩ := h.shape
  have HB := Lib.hid (below_step (below_alloc w (.cells #[.int .i64 r.L, .int .i64 r.S, .slice A r.next.length ka, .slice B r.fin.length kb] 53)) (below_alloc _ (.cells #[.int .i64 0, .int .i64 0, .slice none 0 0] 29)))
  have HR := Lib.hid ((Row.new w [.int .i64 r.L, .int .i64 r.S, .slice A r.next.length ka, .slice B r.fin.length kb] 53).alloc (.cells #[.int .i64 0, .int .i64 0, .slice none 0 0] 29))
  have hz := Row.new (w.alloc (.cells #[.int .i64 r.L, .int .i64 r.S, .slice A r.next.length ka, .slice B r.fin.length kb] 53)) [.int .i64 0, .int .i64 0, .slice none 0 0] 29
  have HZ := Lib.hid (show Row _ (w.heap.size + 1) _ _ by simpa using hz)
  have HV := Lib.hid (fun W (hb : Below w.heap.size w W) => ValidRotator_any _ r W (keepsO _ _ _ _ h hb))
  clear h hz
  by_cases hok : okO r = true
  · have HOK := Lib.hid hok
    have HRES := Lib.hid (show rtRes r = (⟨r.L, r.S, tableOf (rtG r) (r.L.toNat + 2) (2 * r.next.length)⟩, 0) by rw [rtRes, if_pos hok]; rfl)
    obtain ⟨⟨l1, l2⟩, ⟨n1, n2⟩, -⟩ := okO_parts hok
    rw [hok] at HV
    clear hok
    go_enter Try.func32, Try.ntmps32
    go_wp2_with fail
    refine (HV.out _ HB.out).mono ?_
    rintro e w1 ⟨rfl, hb1⟩
    have HR1 := Lib.hid (HR.out.below hb1 HR.out.lt)
    have HZ1 := Lib.hid (HZ.out.below hb1 HZ.out.lt)
    have HB1 := Lib.hid (below_step HB.out hb1)
    clear hb1 HR HZ HB
    obtain ⟨⟨c0, c1, c2, c3⟩, -⟩ := HR1.out.four
    have lt1 := HR1.out.lt
    have lz1 := HZ1.out.lt
    have henv : ∃ W2, W2 = (((w1.alloc (.cells #[.int .i64 (r.next.length : Int)] 2)).alloc (.cells #[secV w1.heap.size] 73)).alloc (.cells #[rtOnV w.heap.size (w1.heap.size + 1)] 78)).alloc (.cells #[rtBackV w.heap.size (w1.heap.size + 1)] 78) ∧ Below w1.heap.size w1 W2 ∧ RtEnv w1.heap.size (w1.heap.size + 1 + 1) (w1.heap.size + 1 + 1 + 1) w.heap.size (w1.heap.size + 1) r W2 := by
      refine ⟨_, rfl, below_step (below_step (below_step (below_alloc _ _) (below_alloc _ _)) (below_alloc _ _)) (below_alloc _ _), ?_⟩
      have e1 := (((Row.new w1 [.int .i64 (r.next.length : Int)] 2).alloc (.cells #[secV w1.heap.size] 73)).alloc (.cells #[rtOnV w.heap.size (w1.heap.size + 1)] 78)).alloc (.cells #[rtBackV w.heap.size (w1.heap.size + 1)] 78)
      have e2 := ((Row.new (w1.alloc (.cells #[.int .i64 (r.next.length : Int)] 2)) [secV w1.heap.size] 73).alloc (.cells #[rtOnV w.heap.size (w1.heap.size + 1)] 78)).alloc (.cells #[rtBackV w.heap.size (w1.heap.size + 1)] 78)
      have e3 := (Row.new ((w1.alloc (.cells #[.int .i64 (r.next.length : Int)] 2)).alloc (.cells #[secV w1.heap.size] 73)) [rtOnV w.heap.size (w1.heap.size + 1)] 78).alloc (.cells #[rtBackV w.heap.size (w1.heap.size + 1)] 78)
      have e4 := Row.new (((w1.alloc (.cells #[.int .i64 (r.next.length : Int)] 2)).alloc (.cells #[secV w1.heap.size] 73)).alloc (.cells #[rtOnV w.heap.size (w1.heap.size + 1)] 78)) [rtBackV w.heap.size (w1.heap.size + 1)] 78
      simp only [World.size_alloc] at e2 e3 e4
      refine ⟨e1.one.1, e3.one.1, e4.one.1, e2.one.1, ?_⟩
      have hat : AtO w1 w.heap.size r := by
        obtain ⟨vn, vf, hv, hn, hf⟩ := keepsO _ _ _ _ HRD.out HB1.out
        simp only [Value.agg.injEq, Array.mk.injEq, List.cons.injEq, and_true, true_and] at hv
        obtain ⟨rfl, rfl⟩ := hv
        exact ⟨_, _, c0, c1, c2, c3, hn, hf⟩
      exact hat.below (below_step (below_step (below_step (below_alloc _ _) (below_alloc _ _)) (below_alloc _ _)) (below_alloc _ _))
    obtain ⟨W2, hW2, hb2, hen⟩ := henv
    have HW2 := Lib.hid hW2
    have HB2 := Lib.hid (below_step HB1.out hb2)
    have HEN := Lib.hid hen
    have HZ2 := Lib.hid (HZ1.out.below hb2 HZ1.out.lt)
    have hd := doingRotatorTurner_own r.L r.S (2 * r.next.length) (r.L.toNat + 2) w1.heap.size (w1.heap.size + 1 + 1) (w1.heap.size + 1 + 1 + 1) (rtG r) W2 (by omega) (by omega) (by omega) (by omega) (fun q k _ hk => rtG_deeded HOK.out (by omega)) (fun W hb q k hq hk => rtClosure_any _ _ _ _ _ r q k W (hen.below hb) HOK.out hq (by omega))
    rw [show (((2 * r.next.length : Nat)) : Int) = 2 * (r.next.length : Int) by omega] at hd
    have HD := Lib.hid hd
    have HR2 := Lib.hid (HR1.out.below hb2 HR1.out.lt)
    clear hb2 hen hd hW2
    go_upto_region 7 with fail
    rw [← HW2.out]
    clear HW2 c0 c1 c2 c3
    obtain ⟨⟨c0, c1, c2, c3⟩, -⟩ := HR2.out.four
    have cn := HEN.out.n
    go_wp2_with fail
    refine HD.out.mono ?_
    rintro e w2 ⟨u, bs, rfl, hu, hb2⟩
    obtain ⟨A0, k0, rfl⟩ := hu.rd.shape
    have HZ3 := Lib.hid (HZ2.out.below hb2 HZ2.out.lt)
    have HB3 := Lib.hid (below_step HB2.out hb2)
    have hss : w1.heap.size ≤ W2.heap.size := by have := HEN.out.n; have := World.block_lt_of_cell? _ _ this; simp at this; omega
    have HU := Lib.hid hu
    have lz := HZ2.out.lt
    obtain ⟨⟨z0, z1, z2⟩, zf⟩ := HZ3.out.three
    have lz2 := HZ3.out.lt
    simp only [tableOf_len] at HU
    clear hu hb2 c0 c1 c2 c3
    simp only [tableOf_len]
    go_wp2
    obtain ⟨W3, hW3, ⟨y0, y1, y2⟩, eO, eB⟩ := stored3T HZ3.out HU.out lz (by omega) HB3.out
    rw [← hW3]
    clear hW3
    refine bodyPost_ret (v := .tuple #[.agg #[.int .i64 r.L, .int .i64 r.S, .slice A0 (2 * r.next.length) k0], .int .i64 0]) (by simp [results, Try.results32, go_sem, y0, y1, y2]) rfl ?_
    rw [HRES.out]
    first | exact ⟨_, rfl, ⟨_, eO⟩, eB⟩ | exact ⟨_, _, rfl, eO, eB⟩
  · have hok' : okO r = false := by simpa using hok
    have HRES := Lib.hid (show rtRes r = (⟨0, 0, []⟩, 1) by rw [rtRes, if_neg hok])
    rw [hok'] at HV
    clear hok hok'
    go_enter Try.func32, Try.ntmps32
    go_wp2_with fail
    refine (HV.out _ HB.out).mono ?_
    rintro e w1 ⟨rfl, hb1⟩
    have HZ1 := Lib.hid (HZ.out.below hb1 HZ.out.lt)
    have HB1 := Lib.hid (below_step HB.out hb1)
    obtain ⟨⟨z0, z1, z2⟩, zf⟩ := HZ1.out.three
    have lz := HZ1.out.lt
    clear hb1 HR HZ HB
    go_wp2
    obtain ⟨W2, hW2, ⟨y0, y1, y2⟩, eO, eB⟩ := stored3T HZ1.out (owT_zero w1 (w.heap.size + 2)) (Nat.lt_succ_self _) (Nat.le_succ _) HB1.out
    rw [← hW2]
    clear hW2
    refine bodyPost_ret (v := .tuple #[.agg #[.int .i64 0, .int .i64 0, .slice none 0 0], .int .i64 1]) (by simp [results, Try.results32, go_sem, y0, y1, y2]) rfl ?_
    rw [HRES.out]
    first | exact ⟨_, rfl, ⟨_, eO⟩, eB⟩ | exact ⟨_, _, rfl, eO, eB⟩
end Go.Proofs.Ytfkicedhjipfmaa
