/-
  Rows of servers: their cuts rise (the model's test); what a valid row is.
-/
import Derived.Test.YtpkbpflnjbeedaaKRw
import Derived.Test.YtpkbpflnjbeedaaT6
import Derived.Test.YtpkbpflnjbeedaaT7
import Derived.Test.YtpkbpflnjbeedaaW1
import Derived.Test.YtpkbpflnjbeedaaV2
namespace Go.Proofs.Ytpkbpflnjbeedaa
open Go.RowKit

/-- The list cuts at i, and its element there is from 1 to n. -/
def cutAt (n : Int) (l : List Int) (i : Nat) : Bool := within (l.getD i 0) 1 n && (decide (i = 0) || decide (l.getD (i - 1) 0 < l.getD i 0))
def cuts (n : Int) (l : List Int) : Bool := (List.range l.length).all (cutAt n l)

theorem cut_succ {n : Int} {l : List Int} {k : Nat} (h : (List.range k).all (cutAt n l) = true) (hk : cutAt n l k = true) : (List.range (k + 1)).all (cutAt n l) = true := by
  rw [List.range_succ, List.all_append, h]; simp [hk]
theorem cut_not {n : Int} {l : List Int} {k : Nat} (hl : k < l.length) (hk : cutAt n l k = false) : cuts n l = false := by
  rw [cuts, List.all_eq_false]; exact ⟨k, List.mem_range.2 hl, by simp [hk]⟩
theorem cut_all {n : Int} {l : List Int} {k : Nat} (h : (List.range k).all (cutAt n l) = true) (hk : k ≤ l.length) (hl : ¬ k < l.length) : cuts n l = true := by
  rw [cuts, show l.length = k by omega]; exact h
theorem cutAt_eq {n : Int} {l : List Int} {k : Nat} {x : Int} (h : l[k]? = some x) : cutAt n l k = (within x 1 n && (decide (k = 0) || decide (l.getD (k - 1) 0 < x))) := by
  have : l.getD k 0 = x := by simp [List.getD, h]
  rw [cutAt, this]
theorem cutAt_eq2 {n : Int} {l : List Int} {k : Nat} {x y : Int} (h : l[k]? = some x) (h2 : l[k - 1]? = some y) : cutAt n l k = (within x 1 n && (decide (k = 0) || decide (y < x))) := by
  have : l.getD (k - 1) 0 = y := by simp [List.getD, h2]
  rw [cutAt_eq h, this]
theorem getD_ofC {l : List Int} {k : Nat} {x : Int} (h : l[k]? = some x) : l.getD k 0 = x := by simp [List.getD, h]

set_option maxHeartbeats 800000 in
theorem l00Cuts_any (v : Value) (l : List Int) (n : Int) (w : World) (h : RdI w v l) :
    Calls Try.prog 54 #[v, .int .i64 1, .int .i64 n] w fun e w' => e = .returned (.bool (cuts n l)) ∧ Qt w w' := by
  obtain ⟨A, cap, rfl, h1, h2, h3⟩ := h.open
  unfold maxLen at h2
  go_enter Try.func54, Try.ntmps54
  go_wp2
  go_loopw [7] (fun i wr => ∃ k : Nat, k ≤ l.length ∧ i = .int .i64 k ∧ (List.range k).all (cutAt n l) = true ∧ Qt w wr) (fun i _ => l.length - (intOf i).toNat)
  case atStart => exact ⟨0, Nat.zero_le _, rfl, by simp, Qt.refl _⟩
  case round =>
    obtain ⟨k, hk, rfl, hp, hb⟩ := hrel
    have HP := Lib.hid hp; clear hp
    have HB := Lib.hid hb
    by_cases hlt : k < l.length
    · obtain ⟨b, off, x, rfl, hx, hc⟩ := h3 k hlt
      have gc := (hb.cell _).trans hc
      have i1 : (0 : Int) ≤ k := by omega
      have i2 : (k : Int) < l.length := by omega
      by_cases hin : within x 1 n = true
      · by_cases h0 : k = 0
        · have HR := Lib.hid (show cutAt n l k = true by rw [cutAt_eq hx, hin]; simp [h0])
          have j1 : decide ((0 : Int) < (k : Int)) = false := by simp; omega
          have j5 : decide (0 < k) = false := by simp; omega
          have j4 : ¬ (0 : Int) < k := by omega
          have H0 := Lib.hid h0
          clear h0
          clear h3 hb hc hx
          go_wp2
          go_quiet ((go_at_call 34; exact Calls.quiet_of_same ((l00In_w _ _ _ _).mono fun _ _ ⟨a, b⟩ => ⟨a, b.symm⟩)))
          go_wp2
          go_roundw
          case rel => exact ⟨k + 1, by omega, by go_num, cut_succ HP.out HR.out, HB.out.drewN _⟩
          case measure => simp [intOf]; omega
        · obtain ⟨b2, off2, y, hA2, hy, hd⟩ := h3 (k - 1) (by omega)
          cases hA2
          have gd := (hb.cell _).trans hd
          have j1 : decide ((0 : Int) < (k : Int)) = true := by simp; omega
          have j5 : decide (0 < k) = true := by simp; omega
          have j2 : (0 : Int) ≤ (k : Int) - 1 := by omega
          have j3 : (k : Int) - 1 < l.length := by omega
          have j4 : (0 : Int) < k := by omega
          by_cases hyx : y < x
          · have d1 : decide (x ≤ y) = false := by simpa using hyx
            have HR := Lib.hid (show cutAt n l k = true by rw [cutAt_eq2 hx hy, hin]; simp [hyx])
            clear h3 hb hc hx hy hd
            go_wp2
            have w1 : IntKind.i64.wrap ((k : Int) - 1) = (k : Int) - 1 := IntWalk.i64_in _ (by omega)
            have w2 : ((k : Int) - 1).toNat = k - 1 := by omega
            go_quiet ((go_at_call 34; exact Calls.quiet_of_same ((l00In_w _ _ _ _).mono fun _ _ ⟨a, b⟩ => ⟨a, b.symm⟩)))
            clear w1 w2
            go_wp2
            go_roundw
            case rel => exact ⟨k + 1, by omega, by go_num, cut_succ HP.out HR.out, HB.out.drewN _⟩
            case measure => simp [intOf]; omega
          · have d1 : decide (x ≤ y) = true := by simp; omega
            have HR := Lib.hid (show cutAt n l k = false by rw [cutAt_eq2 hx hy]; simp [h0, hyx])
            clear h3 hb hc hx hy hd
            go_wp2
            have w1 : IntKind.i64.wrap ((k : Int) - 1) = (k : Int) - 1 := IntWalk.i64_in _ (by omega)
            have w2 : ((k : Int) - 1).toNat = k - 1 := by omega
            go_quiet ((go_at_call 34; exact Calls.quiet_of_same ((l00In_w _ _ _ _).mono fun _ _ ⟨a, b⟩ => ⟨a, b.symm⟩)))
            clear w1 w2
            go_wp2
            go_ret
            exact ⟨ret_bool (cut_not hlt HR.out).symm, HB.out.drewN _⟩
      · have hin' : within x 1 n = false := by simpa using hin
        have HR := Lib.hid (show cutAt n l k = false by rw [cutAt_eq hx, hin']; simp)
        clear h3 hb hc hx hin
        go_wp2
        go_quiet ((go_at_call 34; exact Calls.quiet_of_same ((l00In_w _ _ _ _).mono fun _ _ ⟨a, b⟩ => ⟨a, b.symm⟩)))
        go_wp2
        go_ret
        exact ⟨ret_bool (cut_not hlt HR.out).symm, HB.out.drewN _⟩
    · clear h3 hb
      go_wp2
      go_ret
      exact ⟨ret_bool (cut_all HP.out hk hlt).symm, HB.out⟩


def okRw (r : RwData) : Bool := okT r.t && (okWord r.L r.wd && (decide ((r.cuts.length : Int) < 4) && cuts ((r.wd.size : Int) + 1) r.cuts))

/-- A row behind a pointer. -/
def AtRw (w : World) (p : Nat) (r : RwData) : Prop :=
  ∃ m c, w.cell? ⟨p, 0, none⟩ = some (.int .i64 r.L) ∧ w.cell? ⟨p, 1, none⟩ = some (.int .i64 r.S) ∧ w.cell? ⟨p, 2, none⟩ = some m ∧ w.cell? ⟨p, 3, none⟩ = some (.string r.wd) ∧ w.cell? ⟨p, 4, none⟩ = some c ∧ RdPP w m r.mv ∧ RdI w c r.cuts
theorem AtRw.below {w w' : World} {p : Nat} {r : RwData} (h : AtRw w p r) (hb : Below w.heap.size w w') : AtRw w' p r := by
  obtain ⟨m, c, c0, c1, c2, c3, c4, hm, hc⟩ := h
  exact ⟨m, c, below_keep hb c0, below_keep hb c1, below_keep hb c2, below_keep hb c3, below_keep hb c4, keepsPP _ _ _ _ hm hb, keepsI _ _ _ _ hc hb⟩
theorem AtRw.t {w : World} {p : Nat} {r : RwData} (h : AtRw w p r) : AtT w p r.t := by
  obtain ⟨m, c, c0, c1, c2, c3, c4, hm, hc⟩ := h
  exact ⟨m, c0, c1, c2, hm⟩
theorem RdRw.t {w : World} {v : Value} {r : RwData} (h : RdRw w v r) : ∃ m c, v = .agg #[.int .i64 r.L, .int .i64 r.S, m, .string r.wd, c] ∧ RdT w (.agg #[.int .i64 r.L, .int .i64 r.S, m]) r.t ∧ RdI w c r.cuts := by
  obtain ⟨m, c, rfl, hm, hc⟩ := h
  exact ⟨m, c, rfl, ⟨m, rfl, hm⟩, hc⟩
theorem atRw_box {w : World} {v : Value} {r : RwData} (h : RdRw w v r) (e : TypeId) : ∃ m c, v = .agg #[.int .i64 r.L, .int .i64 r.S, m, .string r.wd, c] ∧ AtRw (w.alloc (.cells #[.int .i64 r.L, .int .i64 r.S, m, .string r.wd, c] e)) w.heap.size r := by
  obtain ⟨m, c, rfl, hm, hc⟩ := h
  obtain ⟨⟨q0, q1, q2, q3, q4⟩, -⟩ := (Row.new w [.int .i64 r.L, .int .i64 r.S, m, .string r.wd, c] e).five
  exact ⟨m, c, rfl, m, c, q0, q1, q2, q3, q4, keepsPP _ _ _ _ hm (below_alloc _ _), keepsI _ _ _ _ hc (below_alloc _ _)⟩
theorem okRw_parts {r : RwData} (h : okRw r = true) : okT r.t = true ∧ okWord r.L r.wd = true ∧ (r.cuts.length : Int) < 4 ∧ cuts ((r.wd.size : Int) + 1) r.cuts = true := by
  simp only [okRw, Bool.and_eq_true, decide_eq_true_eq] at h
  exact ⟨h.1, h.2.1, h.2.2.1, h.2.2.2⟩
theorem okWord_parts8 {L : Int} {s : ByteArray} (h : okWord L s = true) : (s.size : Int) ≤ 60 ∧ lettersOk L s = true := by
  simp only [okWord, Bool.and_eq_true, decide_eq_true_eq] at h
  exact ⟨h.2.1, h.2.2⟩
theorem okRw_no1 {r : RwData} (h : okT r.t = false) : okRw r = false := by simp [okRw, h]
theorem okRw_no2 {r : RwData} (h : okWord r.L r.wd = false) : okRw r = false := by simp [okRw, h]
theorem okRw_no3 {r : RwData} (h : decide ((r.cuts.length : Int) < 4) = false) : okRw r = false := by unfold okRw; rw [h]; simp
theorem okRw_no4 {r : RwData} (h : cuts ((r.wd.size : Int) + 1) r.cuts = false) : okRw r = false := by simp [okRw, h]
theorem okRw_yes {r : RwData} (h1 : okT r.t = true) (h2 : okWord r.L r.wd = true) (h3 : (r.cuts.length : Int) < 4) (h4 : cuts ((r.wd.size : Int) + 1) r.cuts = true) : okRw r = true := by
  unfold okRw; rw [h1, h2, h4, decide_eq_true h3]; rfl
end Go.Proofs.Ytpkbpflnjbeedaa
