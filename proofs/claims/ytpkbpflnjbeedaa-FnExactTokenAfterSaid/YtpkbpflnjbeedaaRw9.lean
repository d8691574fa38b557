/-
  The token behind some steps: the program's answer.
-/
import Derived.Test.YtpkbpflnjbeedaaRw8
namespace Go.Proofs.Ytpkbpflnjbeedaa
open Go.RowKit

set_option maxRecDepth 100000 in
set_option maxHeartbeats 3200000 in
theorem implTokenAfter_any (v : Value) (r : RwData) (n : Int) (w : World) (h : RdRw w v r) (hs : r.wd.size ≤ maxLen) (hn : n ≤ 9223372036854775807) :
    Calls Try.prog 16 #[v, .int .i64 n] w fun e w' => e = .returned (.tuple #[tokV (tokRes r n).1, .int .i64 (tokRes r n).2]) ∧ Below w.heap.size w w' := by
  obtain ⟨m, c, rfl, hm, hc⟩ := h
  have hr0 := (Row.new w [.int .i64 r.L, .int .i64 r.S, m, .string r.wd, c] 34).alloc (.cells #[.int .i64 0, .int .i64 0, .int .i64 0, .int .i64 0] 42)
  have hr1 : Row ((w.alloc (.cells #[.int .i64 r.L, .int .i64 r.S, m, .string r.wd, c] 34)).alloc (.cells #[.int .i64 0, .int .i64 0, .int .i64 0, .int .i64 0] 42)) (w.heap.size + 1) 42 [.int .i64 0, .int .i64 0, .int .i64 0, .int .i64 0] := by simpa using Row.new (w.alloc (.cells #[.int .i64 r.L, .int .i64 r.S, m, .string r.wd, c] 34)) [.int .i64 0, .int .i64 0, .int .i64 0, .int .i64 0] 42
  have HB0 := Lib.hid (show Below w.heap.size w ((w.alloc (.cells #[.int .i64 r.L, .int .i64 r.S, m, .string r.wd, c] 34)).alloc (.cells #[.int .i64 0, .int .i64 0, .int .i64 0, .int .i64 0] 42)) from (below_alloc _ _).alloc (by simp) _)
  have HR := Lib.hid (show _ ∧ _ from ⟨hr0, hr1⟩)
  have HM := Lib.hid (show _ ∧ _ from ⟨hm, hc⟩)
  clear hr0 hr1 hm hc
  have HOKC := Lib.hid (fun W (hb : Below w.heap.size w W) => ValidRow_any (.agg #[.int .i64 r.L, .int .i64 r.S, m, .string r.wd, c]) r W ⟨m, c, rfl, keepsPP _ _ _ _ HM.out.1 hb, keepsI _ _ _ _ HM.out.2 hb⟩ hs)
  by_cases hok : okRw r = true
  · have H := Lib.hid (fun W (hb : Below w.heap.size w W) => (HOKC.out W hb).mono (fun e w' (hh : _ ∧ _) => (⟨by rw [hh.1, hok], hh.2⟩ : e = .returned (.bool true) ∧ Below W.heap.size W w')))
    have HK := Lib.hid (okRw_out hok)
    by_cases h0 : n < 0
    · have HE := Lib.hid (show tokRes r n = (⟨0, 0, 0, 0⟩, 2) by simp [tokRes, hok, h0])
      clear hok HOKC
      obtain ⟨⟨d0, d1, d2, d3, d4⟩, -⟩ := HR.out.1.five
      go_enter Try.func16, Try.ntmps16
      go_wp2_with fail
      clear d0 d1 d2 d3 d4
      refine (H.out _ HB0.out).mono ?_
      rintro e w1 ⟨rfl, hb⟩
      have HB1 := Lib.hid (below_step HB0.out hb)
      have HR1 := Lib.hid (HR.out.2.below hb HR.out.2.lt)
      clear hb
      obtain ⟨⟨e0, e1, e2, e3⟩, fe⟩ := HR1.out.four
      go_wp2
      obtain ⟨hbel, hrow⟩ := tok_out HB1.out HR1.out (.int .i64 0) (.int .i64 0) (.int .i64 0) (.int .i64 0)
      obtain ⟨⟨z0, z1, z2, z3⟩, -⟩ := hrow.four
      exact bodyPost_ret (v := .tuple #[.agg #[.int .i64 0, .int .i64 0, .int .i64 0, .int .i64 0], .int .i64 2]) (by simp [results, Try.results16, go_sem, z0, z1, z2, z3]) rfl ⟨by rw [HE.out]; rfl, hbel⟩
    · have HE := Lib.hid (show tokRes r n = (tkN r n.toNat, 0) by simp [tokRes, hok, h0])
      have HS := Lib.hid (firstTk_ok HK.out).2
      clear hok HOKC
      obtain ⟨⟨d0, d1, d2, d3, d4⟩, -⟩ := HR.out.1.five
      go_enter Try.func16, Try.ntmps16
      go_wp2_with fail
      clear d0 d1 d2 d3 d4
      refine (H.out _ HB0.out).mono ?_
      rintro e w1 ⟨rfl, hb⟩
      have HR1 := Lib.hid (show _ ∧ _ from ⟨HR.out.1.below hb HR.out.1.lt, HR.out.2.below hb HR.out.2.lt⟩)
      have HB1 := Lib.hid (below_step HB0.out hb)
      have HFT := Lib.hid (fun W (hb : Below w.heap.size w W) => firstToken_any (.agg #[.int .i64 r.L, .int .i64 r.S, m, .string r.wd, c]) r W ⟨m, c, rfl, keepsPP _ _ _ _ HM.out.1 hb, keepsI _ _ _ _ HM.out.2 hb⟩ HK.out)
      obtain ⟨⟨c0, c1, c2, c3, c4⟩, -⟩ := HR1.out.1.five
      clear hb
      go_wp2_with fail
      refine (HFT.out _ HB1.out).mono ?_
      rintro e w2 ⟨rfl, hb⟩
      have HI := Lib.hid (show TaI w (w2.alloc (.cells #[.int .i64 ((firstTk r).k : Int), .int .i64 ((firstTk r).q : Int), .int .i64 ((firstTk r).a : Int), .int .i64 (firstTk r).v] 42)) r m c w2.heap.size (tkc (firstTk r)) from
        ⟨below_step (below_step HB1.out hb) (below_alloc _ _), (HR1.out.1.below hb HR1.out.1.lt).alloc _, (HR1.out.2.below hb HR1.out.2.lt).alloc _, Row.new _ _ _, (HR1.out.2.below hb HR1.out.2.lt).lt⟩)
      clear hb c0 c1 c2 c3 c4
      go_wp2
      generalize w2.alloc (.cells #[.int .i64 ((firstTk r).k : Int), .int .i64 ((firstTk r).q : Int), .int .i64 ((firstTk r).a : Int), .int .i64 (firstTk r).v] 42) = W1 at *
      generalize w2.heap.size = bx at *
      go_loopw [1] (fun i wr => ∃ k : Nat, (k : Int) ≤ n ∧ i = .int .i64 (n - (k : Int)) ∧ TaI w wr r m c bx (tkc (tkN r k))) (fun i _ => (intOf i).toNat)
      case atStart => exact ⟨0, by omega, by congr 1; omega, HI.out⟩
      case round =>
        obtain ⟨k, hk, rfl, hI⟩ := hrel
        have HI2 := Lib.hid hI
        clear hI
        obtain ⟨⟨b0, b1, b2, b3⟩, fb⟩ := (show Row wr bx 42 [.int .i64 ((tkN r k).k : Int), .int .i64 ((tkN r k).q : Int), .int .i64 ((tkN r k).a : Int), .int .i64 (tkN r k).v] from HI2.out.tok).four
        obtain ⟨⟨e0, e1, e2, e3⟩, fe⟩ := HI2.out.res.four
        have nbx : w.heap.size + 1 ≠ bx := by have := HI2.out.lt; omega
        obtain ⟨⟨c0, c1, c2, c3, c4⟩, -⟩ := HI2.out.row.five
        by_cases hlt : (k : Int) < n
        · have hp : 0 < n - (k : Int) := by omega
          by_cases hv : (tkN r k).v = 0
          · have hk7 : (k : Int) ≤ 743 := by have := tkN_lt HK.out hv; omega
            have HOV := Lib.hid (fun W => (isOver_any (tkN r k) W).mono (fun e w' (hh : _ ∧ _) => (⟨by rw [hh.1]; exact ret_bool (by simp [hv]), hh.2⟩ : e = .returned (.bool false) ∧ Below W.heap.size W w')))
            have HNX := Lib.hid (fun W (hb : Below w.heap.size w W) => next_any (.agg #[.int .i64 r.L, .int .i64 r.S, m, .string r.wd, c]) r (tkN r k) W ⟨m, c, rfl, keepsPP _ _ _ _ HM.out.1 hb, keepsI _ _ _ _ HM.out.2 hb⟩ HK.out (tkN_ok HK.out k) hv)
            clear hv
            go_wp2_with fail
            refine (HOV.out _).mono ?_
            rintro e w3 ⟨rfl, hb⟩
            have HIX := Lib.hid (HI2.out.below hb)
            clear hb b0 b1 b2 b3 fb e0 e1 e2 e3 fe c0 c1 c2 c3 c4
            obtain ⟨⟨b0, b1, b2, b3⟩, fb⟩ := (show Row w3 bx 42 [.int .i64 ((tkN r k).k : Int), .int .i64 ((tkN r k).q : Int), .int .i64 ((tkN r k).a : Int), .int .i64 (tkN r k).v] from HIX.out.tok).four
            obtain ⟨⟨c0, c1, c2, c3, c4⟩, -⟩ := HIX.out.row.five
            go_wp2_with fail
            refine (HNX.out _ HIX.out.bel).mono ?_
            rintro e w4 ⟨rfl, hb⟩
            have HI3 := Lib.hid (HIX.out.below hb)
            clear hb b0 b1 b2 b3 fb c0 c1 c2 c3 c4
            obtain ⟨⟨b0, b1, b2, b3⟩, fb⟩ := (show Row w4 bx 42 [.int .i64 ((tkN r k).k : Int), .int .i64 ((tkN r k).q : Int), .int .i64 ((tkN r k).a : Int), .int .i64 (tkN r k).v] from HI3.out.tok).four
            have hsub : IntKind.i64.wrap (n - (k : Int) - 1) = n - (k : Int) - 1 := IntWalk.i64_in _ (by omega)
            go_wp2
            have HI4 := Lib.hid ((((HI3.out.set 0 (.int .i64 ((stepTk r (tkN r k)).k : Int))).set 1 (.int .i64 ((stepTk r (tkN r k)).q : Int))).set 2 (.int .i64 ((stepTk r (tkN r k)).a : Int))).set 3 (.int .i64 (stepTk r (tkN r k)).v))
            go_roundw
            case rel => exact ⟨k + 1, by omega, by congr 1; push_cast; omega, HI4.out⟩
            case measure => simp [intOf]; omega
          · have HN := Lib.hid (show tkN r n.toNat = tkN r k from tkN_end hv (by omega))
            have HOV := Lib.hid (fun W => (isOver_any (tkN r k) W).mono (fun e w' (hh : _ ∧ _) => (⟨by rw [hh.1]; exact ret_bool (by simp [hv]), hh.2⟩ : e = .returned (.bool true) ∧ Below W.heap.size W w')))
            clear hv
            go_wp2_with fail
            refine (HOV.out _).mono ?_
            rintro e w3 ⟨rfl, hb⟩
            have HIX := Lib.hid (HI2.out.below hb)
            clear hb b0 b1 b2 b3 fb e0 e1 e2 e3 fe c0 c1 c2 c3 c4
            obtain ⟨⟨b0, b1, b2, b3⟩, fb⟩ := (show Row w3 bx 42 [.int .i64 ((tkN r k).k : Int), .int .i64 ((tkN r k).q : Int), .int .i64 ((tkN r k).a : Int), .int .i64 (tkN r k).v] from HIX.out.tok).four
            obtain ⟨⟨e0, e1, e2, e3⟩, fe⟩ := HIX.out.res.four
            go_wp2
            obtain ⟨hbel, hrow⟩ := tok_out HIX.out.bel HIX.out.res (.int .i64 ((tkN r k).k : Int)) (.int .i64 ((tkN r k).q : Int)) (.int .i64 ((tkN r k).a : Int)) (.int .i64 (tkN r k).v)
            obtain ⟨⟨z0, z1, z2, z3⟩, -⟩ := hrow.four
            exact bodyPost_ret (v := .tuple #[tokV (tkN r k), .int .i64 0]) (by simp [results, Try.results16, go_sem, z0, z1, z2, z3]) rfl ⟨by rw [HE.out]; simp only [HN.out], hbel⟩
        · have hp : ¬ 0 < n - (k : Int) := by omega
          have HN := Lib.hid (show tkN r n.toNat = tkN r k from by congr 1; omega)
          go_wp2
          obtain ⟨hbel, hrow⟩ := tok_out HI2.out.bel HI2.out.res (.int .i64 ((tkN r k).k : Int)) (.int .i64 ((tkN r k).q : Int)) (.int .i64 ((tkN r k).a : Int)) (.int .i64 (tkN r k).v)
          obtain ⟨⟨z0, z1, z2, z3⟩, -⟩ := hrow.four
          exact bodyPost_ret (v := .tuple #[tokV (tkN r k), .int .i64 0]) (by simp [results, Try.results16, go_sem, z0, z1, z2, z3]) rfl ⟨by rw [HE.out]; simp only [HN.out], hbel⟩
  · have hok' : okRw r = false := by simpa using hok
    have H := Lib.hid (fun W (hb : Below w.heap.size w W) => (HOKC.out W hb).mono (fun e w' (hh : _ ∧ _) => (⟨by rw [hh.1, hok'], hh.2⟩ : e = .returned (.bool false) ∧ Below W.heap.size W w')))
    have HE := Lib.hid (show tokRes r n = (⟨0, 0, 0, 0⟩, 1) by simp [tokRes, hok'])
    clear hok hok' HOKC
    obtain ⟨⟨d0, d1, d2, d3, d4⟩, -⟩ := HR.out.1.five
    go_enter Try.func16, Try.ntmps16
    go_wp2_with fail
    clear d0 d1 d2 d3 d4
    refine (H.out _ HB0.out).mono ?_
    rintro e w1 ⟨rfl, hb⟩
    have HB1 := Lib.hid (below_step HB0.out hb)
    have HR1 := Lib.hid (HR.out.2.below hb HR.out.2.lt)
    clear hb
    obtain ⟨⟨e0, e1, e2, e3⟩, fe⟩ := HR1.out.four
    go_wp2
    obtain ⟨hbel, hrow⟩ := tok_out HB1.out HR1.out (.int .i64 0) (.int .i64 0) (.int .i64 0) (.int .i64 0)
    obtain ⟨⟨z0, z1, z2, z3⟩, -⟩ := hrow.four
    exact bodyPost_ret (v := .tuple #[.agg #[.int .i64 0, .int .i64 0, .int .i64 0, .int .i64 0], .int .i64 1]) (by simp [results, Try.results16, go_sem, z0, z1, z2, z3]) rfl ⟨by rw [HE.out]; rfl, hbel⟩

theorem eqTok_same (x : Tok) (w : World) :
    Calls Try.prog 17 #[tokV x, tokV x] w fun e w' => e = .returned (.bool true) ∧ Below w.heap.size w w' := by
  have hv : (x.v != x.v) = false := by simp
  go_enter Try.func17, Try.ntmps17
  go_wp2
  go_ret
  exact ⟨rfl, (below_alloc _ _).alloc (by simp) _⟩
end Go.Proofs.Ytpkbpflnjbeedaa
