/-
  The turner that never stays: the model's answer.
-/
import Derived.Test.YtklljaeoimgmnaaWs5
namespace Go.Proofs.Ytklljaeoimgmnaa
open Go.RowKit

theorem okT_tableW {L S : Int} {G : Nat → Nat → Int × Int} {n c : Nat} (l1 : 1 ≤ L) (l2 : L ≤ 3) (n1 : 1 ≤ n) (n2 : n ≤ 12) (s1 : 0 ≤ S) (s2 : S ≤ (n : Int) - 1) (hc : (c : Int) = L + 2) (hG : ∀ q k, q < n → k < c → okMove n L k (G q k) = true) : okT ⟨L, S, tableOf G c n⟩ = true := by
  apply okT_all
  · simp; omega
  · simp [tableOf_len]; omega
  · simp only [tableOf_len, decide_eq_true_eq]; omega
  · simp only [tableOf_len]
    rw [List.all_eq_true]
    intro x hx
    obtain ⟨q, hq, rfl⟩ := List.mem_map.1 hx
    have hq' : q < n := by simpa using hq
    apply okRow_of
    · rw [rowOf_len]; exact hc
    · unfold okMsTo
      rw [List.all_eq_true]
      intro k hk
      have hk' : k < c := by simpa [rowOf_len] using hk
      simp only [List.getD, rowOf_get G hk', Option.getD_some]
      exact hG q k hq' hk'

/-- What has been turned so far, up to the state s. -/
def WssI (w : World) (rc : List Value) (lo p4 : Nat) (sA : Value) (bm : List Nat) (L S : Int) (ys : List (List (Int × Int))) (wr : World) : Prop :=
  Below w.heap.size w wr ∧ Row wr w.heap.size 28 rc ∧ Row wr (w.heap.size + 1) 28 [.int .i64 0, .int .i64 0, .slice none 0 0] ∧ Row wr p4 28 [.int .i64 L, .int .i64 S, sA] ∧ OwL (OwP 51) 53 wr lo sA ys bm
theorem WssI.drew {w : World} {rc : List Value} {lo p4 : Nat} {sA : Value} {bm : List Nat} {L S : Int} {ys : List (List (Int × Int))} {wr : World} (h : WssI w rc lo p4 sA bm L S ys wr) : WssI w rc lo p4 sA bm L S ys wr.drew :=
  ⟨h.1.drew, h.2.1, h.2.2.1, h.2.2.2.1, (goodL (goodP _) _).below h.2.2.2.2 (below_drew _)⟩
theorem WssI.below {w : World} {rc : List Value} {lo p4 : Nat} {sA : Value} {bm : List Nat} {L S : Int} {ys : List (List (Int × Int))} {wr w' : World} (h : WssI w rc lo p4 sA bm L S ys wr) (hb : Below wr.heap.size wr w') : WssI w rc lo p4 sA bm L S ys w' :=
  ⟨below_step h.1 hb, h.2.1.below hb h.2.1.lt, h.2.2.1.below hb h.2.2.1.lt, h.2.2.2.1.below hb h.2.2.2.1.lt, (goodL (goodP _) _).below h.2.2.2.2 hb⟩

end Go.Proofs.Ytklljaeoimgmnaa
