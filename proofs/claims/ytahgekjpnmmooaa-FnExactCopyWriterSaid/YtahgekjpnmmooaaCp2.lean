/-
  The writer that copies words: the program's answer.
-/
import Derived.Test.YtahgekjpnmmooaaCp1
import Derived.Test.YtahgekjpnmmooaaZWr
import Derived.Test.YtahgekjpnmmooaaWtCopyWriter
import Derived.Test.YtahgekjpnmmooaaWdCopyWriter
import Derived.Laws.EntriesVeiled
namespace Go.Proofs.Ytahgekjpnmmooaa
open Go.RowKit

set_option maxHeartbeats 3200000 in
theorem implCopy_own (L t : Int) (w : World) :
    Calls Try.prog 13 #[.int .i64 L, .int .i64 t] w fun e w' => ∃ u bs, e = .returned (.tuple #[u, .int .i64 (copyRes L t).2]) ∧ OwWr w' w.heap.size u (copyRes L t).1 bs ∧ Below w.heap.size w w' := by
  have HV := Lib.hid (fun W => validLetters_any L W)
  by_cases hok : 1 ≤ L ∧ L ≤ 3
  · rw [decide_eq_true hok] at HV
    by_cases ht : 1 ≤ t
    · have ht' : decide (t < 1) = false := decide_eq_false (by omega)
      by_cases ht6 : t ≤ 6
      · have ht6' : ¬ 6 < t := by omega
        obtain ⟨l, rfl⟩ : ∃ l : Nat, L = l := ⟨L.toNat, by omega⟩
        obtain ⟨s, hs⟩ : ∃ s : Nat, 2 * t - 1 = (s : Int) := ⟨(2 * t - 1).toNat, by omega⟩
        have HRES := Lib.hid (show copyRes (l : Int) t = (copyW l s, 0) by rw [copyRes, if_pos ⟨hok, ht⟩, if_pos ht6, hs]; simp)
        have l1 : 1 ≤ (l : Int) := hok.1
        have l2 : (l : Int) ≤ 3 := hok.2
        have s1 : 1 ≤ s := by omega
        have s2 : s ≤ 11 := by omega
        have HRL := Lib.hid ((((Row.new w [.int .i64 (l : Int)] 2).alloc (.cells #[.int .i64 0, .int .i64 0, .slice none 0 0, .slice none 0 0] 27)).alloc (.cells #[.int .i64 (s : Int)] 2)).alloc (.cells #[.func (.func 41) #[] #[]] 32))
        have hz := ((Row.new (w.alloc (.cells #[.int .i64 (l : Int)] 2)) [.int .i64 0, .int .i64 0, .slice none 0 0, .slice none 0 0] 27).alloc (.cells #[.int .i64 (s : Int)] 2)).alloc (.cells #[.func (.func 41) #[] #[]] 32)
        have HZ := Lib.hid (show Row _ (w.heap.size + 1) _ _ by simpa using hz)
        have hrs := (Row.new ((w.alloc (.cells #[.int .i64 (l : Int)] 2)).alloc (.cells #[.int .i64 0, .int .i64 0, .slice none 0 0, .slice none 0 0] 27)) [.int .i64 (s : Int)] 2).alloc (.cells #[.func (.func 41) #[] #[]] 32)
        have HRS := Lib.hid (show Row _ (w.heap.size + 2) _ _ by simpa using hrs)
        have hrg := Row.new (((w.alloc (.cells #[.int .i64 (l : Int)] 2)).alloc (.cells #[.int .i64 0, .int .i64 0, .slice none 0 0, .slice none 0 0] 27)).alloc (.cells #[.int .i64 (s : Int)] 2)) [.func (.func 41) #[] #[]] 32
        have HRG := Lib.hid (show Row _ (w.heap.size + 3) _ _ by simpa using hrg)
        have HB := Lib.hid (show Below w.heap.size w ((((w.alloc (.cells #[.int .i64 (l : Int)] 2)).alloc (.cells #[.int .i64 0, .int .i64 0, .slice none 0 0, .slice none 0 0] 27)).alloc (.cells #[.int .i64 (s : Int)] 2)).alloc (.cells #[.func (.func 41) #[] #[]] 32)) from below_step (below_step (below_step (below_alloc _ _) (below_alloc _ _)) (below_alloc _ _)) (below_alloc _ _))
        clear hz hrs hrg hok ht ht6
        go_enter Try.func13, Try.ntmps13
        go_wp2_with (go_at_call 26; refine (HV.out _).mono ?_; rintro e w' ⟨rfl, rfl⟩)
        generalize ((((w.alloc (.cells #[.int .i64 (l : Int)] 2)).alloc (.cells #[.int .i64 0, .int .i64 0, .slice none 0 0, .slice none 0 0] 27)).alloc (.cells #[.int .i64 (s : Int)] 2)).alloc (.cells #[.func (.func 41) #[] #[]] 32)) = W0 at *
        have HD := Lib.hid (wideCopyWriter_own (l : Int) 0 s (l + 2) (w.heap.size + 3) w.heap.size (w.heap.size + 2) (copyG l s) W0 (by omega) (by omega) (by omega) (by omega) (fun q k _ _ => copyG_deeded l s q k) (fun W hb q k hq hk => copyClosure_any l s q k (w.heap.size + 3) w.heap.size (w.heap.size + 2) W (HRG.out.below hb HRG.out.lt).one.1 (HRL.out.below hb HRL.out.lt).one.1 (HRS.out.below hb HRS.out.lt).one.1 (by omega) (by omega) (by omega) s1))
        obtain ⟨c0, -⟩ := HRL.out.one
        obtain ⟨c2, -⟩ := HRS.out.one
        have lt0 := HRL.out.lt
        have lt2 := HRS.out.lt
        have lt3 := HRG.out.lt
        go_wp2_with fail
        refine HD.out.mono ?_
        rintro e w2 ⟨u, bs, rfl, hu, hb2⟩
        obtain ⟨A0, k0, rfl⟩ := hu.rd.shape
        have HB2 := Lib.hid (below_step HB.out hb2)
        have HZ2 := Lib.hid (HZ.out.below hb2 HZ.out.lt)
        have HRL2 := Lib.hid (HRL.out.below hb2 HRL.out.lt)
        have HRG2 := Lib.hid (HRG.out.below hb2 HRG.out.lt)
        have hsz0 := HZ.out.lt
        simp only [tableOf_len] at hu
        simp only [tableOf_len]
        have HTB := Lib.hid (below_alloc w2 (.cells #[.int .i64 (l : Int), .int .i64 0, .slice A0 s k0] 24))
        have hu2 := goodT.below hu HTB.out
        have HWD := Lib.hid (wdCopyWriter_own _ _ bs W0.heap.size (l + 2) s (w.heap.size + 3) w.heap.size (copyO l) _ (by have := HTB.out.size; have := hb2.size; omega) hu2 (by show 1 ≤ (l : Int); omega) (by show (l : Int) ≤ 3; omega) (by show ((l + 2 : Nat) : Int) = (l : Int) + 2; omega) (by show (tableOf (copyG l s) (l + 2) s).length = s; rw [tableOf_len]) (by omega)
          (fun W hb q k hq hk => copyText_any l q k (w.heap.size + 3) w.heap.size W ((HRG2.out.alloc _).below hb (HRG2.out.alloc _).lt).one.1 ((HRL2.out.alloc _).below hb (HRL2.out.alloc _).lt).one.1 (by omega) (by omega)))
        have HFIT := Lib.hid (show wdRes ⟨(l : Int), 0, tableOf (copyG l s) (l + 2) s⟩ (copyO l) (l + 2) s = (copyW l s, 0) by rw [wdRes, outsFit_true (fun q _ k _ => copyO_size l q k)]; rfl)
        rw [HFIT.out] at HWD
        clear hu hu2 hb2 c0 c2 hs
        go_wp2_with fail
        refine HWD.out.mono ?_
        rintro e w3 ⟨v, b2, rfl, hv, hb3⟩
        obtain ⟨A1, k1, A2, k2, rfl⟩ := hv.rd.shape
        have HB3 := Lib.hid (below_step (below_step HB2.out HTB.out) hb3)
        have hz3 := (HZ2.out.below HTB.out HZ2.out.lt).below hb3 (HZ2.out.below HTB.out HZ2.out.lt).lt
        have HZ3 := Lib.hid hz3
        have hzn : w.heap.size + 1 ∉ b2 := fun hm => by have := (goodWr.lt hv hm).1; omega
        have hv' := goodWr.mono hv (show w.heap.size ≤ W0.heap.size by omega)
        have HV4 := Lib.hid hv'
        have lz3 := hz3.lt
        obtain ⟨⟨z0, z1, z2, z3⟩, zf⟩ := hz3.four
        clear hv hv' hb3 hz3
        go_wp2
        obtain ⟨W2, hW2, ⟨y0, y1, y2, y3⟩, eO, eB⟩ := stored4Wr (w := w) HZ3.out HV4.out hzn (by omega) HB3.out
        rw [← hW2]
        clear hW2
        refine bodyPost_ret (v := .tuple #[.agg #[.int .i64 (copyW l s).L, .int .i64 (copyW l s).S, .slice A1 (copyW l s).mv.length k1, .slice A2 (copyW l s).out.length k2], .int .i64 0]) (by simp [results, Try.results13, go_sem, y0, y1, y2, y3]) rfl ?_
        rw [HRES.out]
        exact ⟨_, _, rfl, eO, eB⟩
      · have ht6' : 6 < t := by omega
        have HRES := Lib.hid (show copyRes L t = (⟨0, 0, [], []⟩, 3) by rw [copyRes, if_pos ⟨hok, ht⟩, if_neg ht6])
        clear hok ht6
        have HB := Lib.hid (below_step (below_alloc w (.cells #[.int .i64 L] 2)) (below_alloc _ (.cells #[.int .i64 0, .int .i64 0, .slice none 0 0, .slice none 0 0] 27)))
        have hz := Row.new (w.alloc (.cells #[.int .i64 L] 2)) [.int .i64 0, .int .i64 0, .slice none 0 0, .slice none 0 0] 27
        have HZ := Lib.hid (show Row _ (w.heap.size + 1) _ _ by simpa using hz)
        obtain ⟨⟨z0, z1, z2, z3⟩, zf⟩ := HZ.out.four
        have lz := HZ.out.lt
        clear hz
        go_enter Try.func13, Try.ntmps13
        go_wp2_with (go_at_call 26; refine (HV.out _).mono ?_; rintro e w' ⟨rfl, rfl⟩)
        refine bodyPost_ret (v := .tuple #[.agg #[.int .i64 0, .int .i64 0, .slice none 0 0, .slice none 0 0], .int .i64 3]) (by simp [results, Try.results13, go_sem, z0, z1, z2, z3]) rfl ?_
        rw [HRES.out]
        exact ⟨_, _, rfl, owWr_zero _ _, HB.out⟩
    · have ht' : decide (t < 1) = true := decide_eq_true (by omega)
      have HRES := Lib.hid (show copyRes L t = (⟨0, 0, [], []⟩, 2) by rw [copyRes, if_neg (fun h => ht h.2)])
      clear hok ht
      have HB := Lib.hid (below_step (below_alloc w (.cells #[.int .i64 L] 2)) (below_alloc _ (.cells #[.int .i64 0, .int .i64 0, .slice none 0 0, .slice none 0 0] 27)))
      have hz := Row.new (w.alloc (.cells #[.int .i64 L] 2)) [.int .i64 0, .int .i64 0, .slice none 0 0, .slice none 0 0] 27
      have HZ := Lib.hid (show Row _ (w.heap.size + 1) _ _ by simpa using hz)
      obtain ⟨⟨z0, z1, z2, z3⟩, zf⟩ := HZ.out.four
      have lz := HZ.out.lt
      clear hz
      go_enter Try.func13, Try.ntmps13
      go_wp2_with (go_at_call 26; refine (HV.out _).mono ?_; rintro e w' ⟨rfl, rfl⟩)
      refine bodyPost_ret (v := .tuple #[.agg #[.int .i64 0, .int .i64 0, .slice none 0 0, .slice none 0 0], .int .i64 2]) (by simp [results, Try.results13, go_sem, z0, z1, z2, z3]) rfl ?_
      rw [HRES.out]
      exact ⟨_, _, rfl, owWr_zero _ _, HB.out⟩
  · rw [decide_eq_false hok] at HV
    have HRES := Lib.hid (show copyRes L t = (⟨0, 0, [], []⟩, 2) by rw [copyRes, if_neg (fun h => hok h.1)])
    clear hok
    have HB := Lib.hid (below_step (below_alloc w (.cells #[.int .i64 L] 2)) (below_alloc _ (.cells #[.int .i64 0, .int .i64 0, .slice none 0 0, .slice none 0 0] 27)))
    have hz := Row.new (w.alloc (.cells #[.int .i64 L] 2)) [.int .i64 0, .int .i64 0, .slice none 0 0, .slice none 0 0] 27
    have HZ := Lib.hid (show Row _ (w.heap.size + 1) _ _ by simpa using hz)
    obtain ⟨⟨z0, z1, z2, z3⟩, zf⟩ := HZ.out.four
    have lz := HZ.out.lt
    clear hz
    go_enter Try.func13, Try.ntmps13
    go_wp2_with (go_at_call 26; refine (HV.out _).mono ?_; rintro e w' ⟨rfl, rfl⟩)
    refine bodyPost_ret (v := .tuple #[.agg #[.int .i64 0, .int .i64 0, .slice none 0 0, .slice none 0 0], .int .i64 2]) (by simp [results, Try.results13, go_sem, z0, z1, z2, z3]) rfl ?_
    rw [HRES.out]
    exact ⟨_, _, rfl, owWr_zero _ _, HB.out⟩
end Go.Proofs.Ytahgekjpnmmooaa
