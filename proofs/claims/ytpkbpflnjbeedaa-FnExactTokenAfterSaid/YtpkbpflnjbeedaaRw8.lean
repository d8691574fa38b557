/-
  The token behind some steps: the model's answer and the program's.
-/
import Derived.Test.YtpkbpflnjbeedaaRw7
namespace Go.Proofs.Ytpkbpflnjbeedaa
open Go.RowKit

theorem wfMax {n : Int} (h : (Lit.int .i64 n).wf = true) : n ≤ 9223372036854775807 := by
  simp only [Lit.wf, Bool.and_eq_true, decide_eq_true_eq] at h
  have := h.2
  have e : IntKind.max .i64 = 9223372036854775807 := by decide
  omega

theorem tkN_k {r : RwData} : ∀ n, (tkN r n).v = 0 → (tkN r n).k = n
  | 0, _ => rfl
  | n + 1, h => by
    have e : tkN r (n + 1) = stepTk r (tkN r n) := rfl
    rw [e] at h ⊢
    by_cases hv : (tkN r n).v = 0
    · have hk := tkN_k n hv
      unfold stepTk at h ⊢
      rw [if_pos hv] at h ⊢
      by_cases h1 : (moveOn r.t r.wd (tkN r n).q (tkN r n).a).1 = -1
      · rw [if_pos h1] at h; simp at h
      · rw [if_neg h1] at h ⊢
        by_cases h2 : (moveOn r.t r.wd (tkN r n).q (tkN r n).a).1 = -2
        · rw [if_pos h2] at h; simp at h
        · rw [if_neg h2]; show (tkN r n).k + 1 = n + 1; omega
    · rw [stepTk_done hv] at h; exact absurd h hv
theorem tkN_lt {r : RwData} (h : OkRow r) {n : Nat} (hv : (tkN r n).v = 0) : n < 744 := by
  have a := (tkN_ok h n).v hv
  have b := tkN_k n hv
  have c := (places_le h).1
  omega
theorem tkN_end {r : RwData} {n : Nat} (h : (tkN r n).v ≠ 0) {N : Nat} (hN : n ≤ N) : tkN r N = tkN r n := by
  obtain ⟨j, rfl⟩ := Nat.le.dest hN
  exact tkN_stop h j

def tokRes (r : RwData) (n : Int) : Tok × Int := if okRw r = true then (if n < 0 then (⟨0, 0, 0, 0⟩, 2) else (tkN r n.toNat, 0)) else (⟨0, 0, 0, 0⟩, 1)

/-- The memory of the model's and of the program's loop. -/
structure TaI (w wr : World) (r : RwData) (m c : Value) (bx : Nat) (x : List Value) : Prop where
  bel : Below w.heap.size w wr
  row : Row wr w.heap.size 34 [.int .i64 r.L, .int .i64 r.S, m, .string r.wd, c]
  res : Row wr (w.heap.size + 1) 42 [.int .i64 0, .int .i64 0, .int .i64 0, .int .i64 0]
  tok : Row wr bx 42 x
  lt : w.heap.size + 1 < bx
theorem TaI.below {w wr w' : World} {r : RwData} {m c : Value} {bx : Nat} {x : List Value} (h : TaI w wr r m c bx x) (hb : Below wr.heap.size wr w') : TaI w w' r m c bx x :=
  ⟨below_step h.bel hb, h.row.below hb h.row.lt, h.res.below hb h.res.lt, h.tok.below hb h.tok.lt, h.lt⟩
theorem TaI.set {w wr : World} {r : RwData} {m c : Value} {bx : Nat} {x : List Value} (h : TaI w wr r m c bx x) (i : Nat) (u : Value) : TaI w (wr.setCell ⟨bx, i, none⟩ u) r m c bx (x.set i u) :=
  ⟨h.bel.setCell (p := ⟨bx, i, none⟩) (by show w.heap.size ≤ bx; have := h.lt; omega) u, h.row.other (a := ⟨bx, i, none⟩) (by show bx ≠ w.heap.size; have := h.lt; omega) u, h.res.other (a := ⟨bx, i, none⟩) (by show bx ≠ w.heap.size + 1; have := h.lt; omega) u, h.tok.stored i u, h.lt⟩
theorem TaI.atRw {w wr : World} {r : RwData} {m c : Value} {bx : Nat} {x : List Value} (h : TaI w wr r m c bx x) (hm : RdPP w m r.mv) (hc : RdI w c r.cuts) : AtRw wr w.heap.size r := by
  obtain ⟨⟨c0, c1, c2, c3, c4⟩, -⟩ := h.row.five
  exact ⟨m, c, c0, c1, c2, c3, c4, keepsPP _ _ _ _ hm h.bel, keepsI _ _ _ _ hc h.bel⟩

set_option maxRecDepth 100000 in
set_option maxHeartbeats 3200000 in
theorem specTokenAfter_any (v : Value) (r : RwData) (n : Int) (w : World) (h : RdRw w v r) (hs : r.wd.size ≤ maxLen) (hn : n ≤ 9223372036854775807) :
    Calls Try.prog 15 #[v, .int .i64 n] w fun e w' => e = .returned (.tuple #[tokV (tokRes r n).1, .int .i64 (tokRes r n).2]) ∧ Below w.heap.size w w' := by
  obtain ⟨m, c, rfl, hm, hc⟩ := h
  have hr0 := (Row.new w [.int .i64 r.L, .int .i64 r.S, m, .string r.wd, c] 34).alloc (.cells #[.int .i64 0, .int .i64 0, .int .i64 0, .int .i64 0] 42)
  have hr1 : Row ((w.alloc (.cells #[.int .i64 r.L, .int .i64 r.S, m, .string r.wd, c] 34)).alloc (.cells #[.int .i64 0, .int .i64 0, .int .i64 0, .int .i64 0] 42)) (w.heap.size + 1) 42 [.int .i64 0, .int .i64 0, .int .i64 0, .int .i64 0] := by simpa using Row.new (w.alloc (.cells #[.int .i64 r.L, .int .i64 r.S, m, .string r.wd, c] 34)) [.int .i64 0, .int .i64 0, .int .i64 0, .int .i64 0] 42
  have HB0 := Lib.hid (show Below w.heap.size w ((w.alloc (.cells #[.int .i64 r.L, .int .i64 r.S, m, .string r.wd, c] 34)).alloc (.cells #[.int .i64 0, .int .i64 0, .int .i64 0, .int .i64 0] 42)) from (below_alloc _ _).alloc (by simp) _)
  have HR := Lib.hid (show _ ∧ _ from ⟨hr0, hr1⟩)
  have HA := Lib.hid (show AtRw ((w.alloc (.cells #[.int .i64 r.L, .int .i64 r.S, m, .string r.wd, c] 34)).alloc (.cells #[.int .i64 0, .int .i64 0, .int .i64 0, .int .i64 0] 42)) w.heap.size r from by
    obtain ⟨⟨c0, c1, c2, c3, c4⟩, -⟩ := hr0.five
    exact ⟨m, c, c0, c1, c2, c3, c4, keepsPP _ _ _ _ hm HB0.out, keepsI _ _ _ _ hc HB0.out⟩)
  have HM := Lib.hid (show _ ∧ _ from ⟨hm, hc⟩)
  clear hr0 hr1 hm hc
  have HOKC := Lib.hid (l08Ok_any _ r _ HA.out hs)
  by_cases hok : okRw r = true
  · have H := Lib.hid (HOKC.out.mono (fun e w' (hh : _ ∧ _) => (⟨by rw [hh.1, hok], hh.2⟩ : e = .returned (.bool true) ∧ Below ((w.alloc (.cells #[.int .i64 r.L, .int .i64 r.S, m, .string r.wd, c] 34)).alloc (.cells #[.int .i64 0, .int .i64 0, .int .i64 0, .int .i64 0] 42)).heap.size ((w.alloc (.cells #[.int .i64 r.L, .int .i64 r.S, m, .string r.wd, c] 34)).alloc (.cells #[.int .i64 0, .int .i64 0, .int .i64 0, .int .i64 0] 42)) w')))
    have HK := Lib.hid (okRw_out hok)
    by_cases h0 : n < 0
    · have HE := Lib.hid (show tokRes r n = (⟨0, 0, 0, 0⟩, 2) by simp [tokRes, hok, h0])
      clear hok HOKC
      go_enter Try.func15, Try.ntmps15
      go_wp2_with fail
      refine H.out.mono ?_
      rintro e w1 ⟨rfl, hb⟩
      have HB1 := Lib.hid (below_step HB0.out hb)
      have HR1 := Lib.hid (HR.out.2.below hb HR.out.2.lt)
      clear hb
      obtain ⟨⟨e0, e1, e2, e3⟩, fe⟩ := HR1.out.four
      go_wp2
      obtain ⟨hbel, hrow⟩ := tok_out HB1.out HR1.out (.int .i64 0) (.int .i64 0) (.int .i64 0) (.int .i64 0)
      obtain ⟨⟨z0, z1, z2, z3⟩, -⟩ := hrow.four
      exact bodyPost_ret (v := .tuple #[.agg #[.int .i64 0, .int .i64 0, .int .i64 0, .int .i64 0], .int .i64 2]) (by simp [results, Try.results15, go_sem, z0, z1, z2, z3]) rfl ⟨by rw [HE.out]; rfl, hbel⟩
    · have HE := Lib.hid (show tokRes r n = (tkN r n.toNat, 0) by simp [tokRes, hok, h0])
      have HS := Lib.hid (firstTk_ok HK.out).2
      clear hok HOKC
      go_enter Try.func15, Try.ntmps15
      go_wp2_with fail
      refine H.out.mono ?_
      rintro e w1 ⟨rfl, hb⟩
      have HI := Lib.hid (show TaI w (w1.alloc (.cells #[.int .i64 0, .int .i64 r.S, .int .i64 0, .int .i64 0] 42)) r m c w1.heap.size [.int .i64 0, .int .i64 r.S, .int .i64 0, .int .i64 0] from
        ⟨below_step (below_step HB0.out hb) (below_alloc _ _), (HR.out.1.below hb HR.out.1.lt).alloc _, (HR.out.2.below hb HR.out.2.lt).alloc _, Row.new _ _ _, (HR.out.2.below hb HR.out.2.lt).lt⟩)
      obtain ⟨⟨c0, c1, c2, c3, c4⟩, -⟩ := (HR.out.1.below hb HR.out.1.lt).five
      clear hb
      go_wp2
      clear c0 c1 c2 c3 c4
      generalize w1.alloc (.cells #[.int .i64 0, .int .i64 r.S, .int .i64 0, .int .i64 0] 42) = W1 at *
      generalize w1.heap.size = bx at *
      go_loopw [7] (fun i wr => ∃ k : Nat, (k : Int) ≤ n ∧ i = .int .i64 k ∧ TaI w wr r m c bx (tkc (tkN r k))) (fun i _ => (n - intOf i).toNat)
      case atStart => exact ⟨0, by omega, rfl, by have := HI.out; rwa [← HS.out] at this⟩
      case round =>
        obtain ⟨k, hk, rfl, hI⟩ := hrel
        have HI2 := Lib.hid hI
        clear hI
        obtain ⟨⟨b0, b1, b2, b3⟩, fb⟩ := (show Row wr bx 42 [.int .i64 ((tkN r k).k : Int), .int .i64 ((tkN r k).q : Int), .int .i64 ((tkN r k).a : Int), .int .i64 (tkN r k).v] from HI2.out.tok).four
        obtain ⟨⟨e0, e1, e2, e3⟩, fe⟩ := HI2.out.res.four
        have nbx : w.heap.size + 1 ≠ bx := by have := HI2.out.lt; omega
        by_cases hlt : (k : Int) < n
        · by_cases hv : (tkN r k).v = 0
          · have hk7 : (k : Int) ≤ 743 := by have := tkN_lt HK.out hv; omega
            have HST := Lib.hid (l08Step_any _ r (tkN r k) wr (HI2.out.atRw HM.out.1 HM.out.2) HK.out (tkN_ok HK.out k))
            have hv' : ((tkN r k).v == 0) = true := by simpa using hv
            clear hv
            go_wp2_with fail
            refine HST.out.mono ?_
            rintro e w2 ⟨rfl, hb⟩
            have HI3 := Lib.hid (HI2.out.below hb)
            clear hb b0 b1 b2 b3 fb e0 e1 e2 e3 fe
            obtain ⟨⟨b0, b1, b2, b3⟩, fb⟩ := (show Row w2 bx 42 [.int .i64 ((tkN r k).k : Int), .int .i64 ((tkN r k).q : Int), .int .i64 ((tkN r k).a : Int), .int .i64 (tkN r k).v] from HI3.out.tok).four
            go_wp2
            have HI4 := Lib.hid ((((HI3.out.set 0 (.int .i64 ((stepTk r (tkN r k)).k : Int))).set 1 (.int .i64 ((stepTk r (tkN r k)).q : Int))).set 2 (.int .i64 ((stepTk r (tkN r k)).a : Int))).set 3 (.int .i64 (stepTk r (tkN r k)).v))
            go_roundw
            case rel => exact ⟨k + 1, by omega, by go_num, HI4.out⟩
            case measure => simp [intOf]; omega
          · have HN := Lib.hid (show tkN r n.toNat = tkN r k from tkN_end hv (by omega))
            have hv' : ((tkN r k).v == 0) = false := by simpa using hv
            clear hv
            go_wp2
            obtain ⟨hbel, hrow⟩ := tok_out HI2.out.bel HI2.out.res (.int .i64 ((tkN r k).k : Int)) (.int .i64 ((tkN r k).q : Int)) (.int .i64 ((tkN r k).a : Int)) (.int .i64 (tkN r k).v)
            obtain ⟨⟨z0, z1, z2, z3⟩, -⟩ := hrow.four
            exact bodyPost_ret (v := .tuple #[tokV (tkN r k), .int .i64 0]) (by simp [results, Try.results15, go_sem, z0, z1, z2, z3]) rfl ⟨by rw [HE.out]; simp only [HN.out], hbel⟩
        · have HN := Lib.hid (show tkN r n.toNat = tkN r k from by congr 1; omega)
          go_wp2
          obtain ⟨hbel, hrow⟩ := tok_out HI2.out.bel HI2.out.res (.int .i64 ((tkN r k).k : Int)) (.int .i64 ((tkN r k).q : Int)) (.int .i64 ((tkN r k).a : Int)) (.int .i64 (tkN r k).v)
          obtain ⟨⟨z0, z1, z2, z3⟩, -⟩ := hrow.four
          exact bodyPost_ret (v := .tuple #[tokV (tkN r k), .int .i64 0]) (by simp [results, Try.results15, go_sem, z0, z1, z2, z3]) rfl ⟨by rw [HE.out]; simp only [HN.out], hbel⟩
  · have hok' : okRw r = false := by simpa using hok
    have H := Lib.hid (HOKC.out.mono (fun e w' (hh : _ ∧ _) => (⟨by rw [hh.1, hok'], hh.2⟩ : e = .returned (.bool false) ∧ Below ((w.alloc (.cells #[.int .i64 r.L, .int .i64 r.S, m, .string r.wd, c] 34)).alloc (.cells #[.int .i64 0, .int .i64 0, .int .i64 0, .int .i64 0] 42)).heap.size ((w.alloc (.cells #[.int .i64 r.L, .int .i64 r.S, m, .string r.wd, c] 34)).alloc (.cells #[.int .i64 0, .int .i64 0, .int .i64 0, .int .i64 0] 42)) w')))
    have HE := Lib.hid (show tokRes r n = (⟨0, 0, 0, 0⟩, 1) by simp [tokRes, hok'])
    clear hok hok' HOKC
    go_enter Try.func15, Try.ntmps15
    go_wp2_with fail
    refine H.out.mono ?_
    rintro e w1 ⟨rfl, hb⟩
    have HB1 := Lib.hid (below_step HB0.out hb)
    have HR1 := Lib.hid (HR.out.2.below hb HR.out.2.lt)
    clear hb
    obtain ⟨⟨e0, e1, e2, e3⟩, fe⟩ := HR1.out.four
    go_wp2
    obtain ⟨hbel, hrow⟩ := tok_out HB1.out HR1.out (.int .i64 0) (.int .i64 0) (.int .i64 0) (.int .i64 0)
    obtain ⟨⟨z0, z1, z2, z3⟩, -⟩ := hrow.four
    exact bodyPost_ret (v := .tuple #[.agg #[.int .i64 0, .int .i64 0, .int .i64 0, .int .i64 0], .int .i64 1]) (by simp [results, Try.results15, go_sem, z0, z1, z2, z3]) rfl ⟨by rw [HE.out]; rfl, hbel⟩
end Go.Proofs.Ytpkbpflnjbeedaa
