/-
  The writer that turns words: the program's answer.
-/
import Derived.Test.YtahgekjpnmmooaaBk1
import Derived.Test.YtahgekjpnmmooaaZWr
import Derived.Test.YtahgekjpnmmooaaWtBackWriter
import Derived.Test.YtahgekjpnmmooaaWdBackWriter
namespace Go.Proofs.Ytahgekjpnmmooaa
open Go.RowKit

set_option maxHeartbeats 1600000 in
theorem implBack_own (L : Int) (w : World) :
    Calls Try.prog 8 #[.int .i64 L] w fun e w' => ∃ u bs, e = .returned (.tuple #[u, .int .i64 (backRes L).2]) ∧ OwWr w' w.heap.size u (backRes L).1 bs ∧ Below w.heap.size w w' := by
  have HB := Lib.hid (below_step (below_alloc w (.cells #[.int .i64 L] 2)) (below_alloc _ (.cells #[.int .i64 0, .int .i64 0, .slice none 0 0, .slice none 0 0] 27)))
  have HRL := Lib.hid ((Row.new w [.int .i64 L] 2).alloc (.cells #[.int .i64 0, .int .i64 0, .slice none 0 0, .slice none 0 0] 27))
  have hz := Row.new (w.alloc (.cells #[.int .i64 L] 2)) [.int .i64 0, .int .i64 0, .slice none 0 0, .slice none 0 0] 27
  have HZ := Lib.hid (show Row _ (w.heap.size + 1) _ _ by simpa using hz)
  clear hz
  have HV := Lib.hid (fun W => validLetters_any L W)
  by_cases hok : 1 ≤ L ∧ L ≤ 3
  · rw [decide_eq_true hok] at HV
    obtain ⟨l, rfl⟩ : ∃ l : Nat, L = l := ⟨L.toNat, by omega⟩
    have HRES := Lib.hid (show backRes (l : Int) = (backW l, 0) by rw [backRes, if_pos hok]; simp)
    have l1 : 1 ≤ (l : Int) := hok.1
    have l2 : (l : Int) ≤ 3 := hok.2
    clear hok
    go_enter Try.func8, Try.ntmps8
    go_wp2_with (go_at_call 26; refine (HV.out _).mono ?_; rintro e w' ⟨rfl, rfl⟩)
    generalize (w.alloc (.cells #[.int .i64 (l : Int)] 2)).alloc (.cells #[.int .i64 0, .int .i64 0, .slice none 0 0, .slice none 0 0] 27) = W0 at *
    have HD := Lib.hid (wideBackWriter_own (l : Int) 0 2 (l + 2) w.heap.size (backG l) W0 (by omega) (by omega) (by omega) (by omega) (fun q k _ _ => backG_deeded l q k) (fun W hb q k hq hk => backClosure_any l q k w.heap.size W (HRL.out.below hb HRL.out.lt).one.1 (by omega) (by omega)))
    obtain ⟨c0, -⟩ := HRL.out.one
    have lt0 := HRL.out.lt
    go_wp2_with fail
    refine HD.out.mono ?_
    rintro e w2 ⟨u, bs, rfl, hu, hb2⟩
    obtain ⟨A0, k0, rfl⟩ := hu.rd.shape
    have HB2 := Lib.hid (below_step HB.out hb2)
    have HZ2 := Lib.hid (HZ.out.below hb2 HZ.out.lt)
    have HRL2 := Lib.hid (HRL.out.below hb2 HRL.out.lt)
    have hsz0 := HZ.out.lt
    simp only [tableOf_len] at hu
    simp only [tableOf_len]
    have HTB := Lib.hid (below_alloc w2 (.cells #[.int .i64 (l : Int), .int .i64 0, .slice A0 2 k0] 24))
    have hu2 := goodT.below hu HTB.out
    have HWD := Lib.hid (wdBackWriter_own _ _ bs W0.heap.size (l + 2) 2 w.heap.size (backO l) _ (by have := HTB.out.size; have := hb2.size; omega) hu2 (by show 1 ≤ (l : Int); omega) (by show (l : Int) ≤ 3; omega) (by show ((l + 2 : Nat) : Int) = (l : Int) + 2; omega) (by show (tableOf (backG l) (l + 2) 2).length = 2; rw [tableOf_len]) (by omega)
      (fun W hb q k hq hk => backText_any l q k w.heap.size W ((HRL2.out.alloc _).below hb (HRL2.out.alloc _).lt).one.1 (by omega) (by omega)))
    have HFIT := Lib.hid (show wdRes ⟨(l : Int), 0, tableOf (backG l) (l + 2) 2⟩ (backO l) (l + 2) 2 = (backW l, 0) by rw [wdRes, outsFit_true (fun q _ k _ => backO_size l q k)]; rfl)
    rw [HFIT.out] at HWD
    clear hu hu2 hb2 c0
    go_wp2_with fail
    refine HWD.out.mono ?_
    rintro e w3 ⟨v, b2, rfl, hv, hb3⟩
    obtain ⟨A1, k1, A2, k2, rfl⟩ := hv.rd.shape
    have HB3 := Lib.hid (below_step (below_step HB2.out HTB.out) hb3)
    have hz3 := (HZ2.out.below HTB.out HZ2.out.lt).below hb3 (HZ2.out.below HTB.out HZ2.out.lt).lt
    have HZ3 := Lib.hid hz3
    have HV3 := Lib.hid hv
    have hzn : w.heap.size + 1 ∉ b2 := fun hm => by have := (goodWr.lt hv hm).1; omega
    have hv' := goodWr.mono hv (show w.heap.size ≤ W0.heap.size by omega)
    have HV4 := Lib.hid hv'
    have lz3 := hz3.lt
    obtain ⟨⟨z0, z1, z2, z3⟩, zf⟩ := hz3.four
    clear hv hv' hb3 hz3
    go_wp2
    obtain ⟨W2, hW2, ⟨y0, y1, y2, y3⟩, eO, eB⟩ := stored4Wr (w := w) HZ3.out HV4.out hzn (by omega) HB3.out
    rw [← hW2]
    clear hW2
    refine bodyPost_ret (v := .tuple #[.agg #[.int .i64 (backW l).L, .int .i64 (backW l).S, .slice A1 (backW l).mv.length k1, .slice A2 (backW l).out.length k2], .int .i64 0]) (by simp [results, Try.results8, go_sem, y0, y1, y2, y3]) rfl ?_
    rw [HRES.out]
    exact ⟨_, _, rfl, eO, eB⟩
  · rw [decide_eq_false hok] at HV
    have HRES := Lib.hid (show backRes L = (⟨0, 0, [], []⟩, 2) by rw [backRes, if_neg hok])
    clear hok
    obtain ⟨⟨z0, z1, z2, z3⟩, zf⟩ := HZ.out.four
    have lz := HZ.out.lt
    go_enter Try.func8, Try.ntmps8
    go_wp2_with (go_at_call 26; refine (HV.out _).mono ?_; rintro e w' ⟨rfl, rfl⟩)
    refine bodyPost_ret (v := .tuple #[.agg #[.int .i64 0, .int .i64 0, .slice none 0 0, .slice none 0 0], .int .i64 2]) (by simp [results, Try.results8, go_sem, z0, z1, z2, z3]) rfl ?_
    rw [HRES.out]
    exact ⟨_, _, rfl, owWr_zero _ _, HB.out⟩
end Go.Proofs.Ytahgekjpnmmooaa
