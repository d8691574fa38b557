/-
  The turner that never stays: the program's answer.
-/
import Derived.Test.YtklljaeoimgmnaaWs2
import Derived.Test.YtklljaeoimgmnaaTdWithoutStays
import Derived.Test.YtklljaeoimgmnaaV4
namespace Go.Proofs.Ytklljaeoimgmnaa
open Go.RowKit

def wsG (t : TData) (q k : Nat) : Int × Int := (leaveF t k t.mv.length q).getD (0, 0)
def wsRow (t : TData) (q : Nat) : Bool := (List.range (t.L + 2).toNat).all fun k => (leaveF t k t.mv.length q).isSome
def wsAll (t : TData) : Bool := (List.range t.mv.length).all (wsRow t)
def wsRes (t : TData) : TData × Int := if okT t then (if wsAll t then (⟨t.L, t.S, tableOf (wsG t) (t.L + 2).toNat t.mv.length⟩, 0) else (⟨0, 0, []⟩, 4)) else (⟨0, 0, []⟩, 1)
theorem wsAll_at {t : TData} (h : wsAll t = true) {q k : Nat} (hq : q < t.mv.length) (hk : (k : Int) < t.L + 2) : (leaveF t k t.mv.length q).isSome = true := by
  unfold wsAll at h
  have h1 := List.all_eq_true.1 h q (List.mem_range.2 hq)
  unfold wsRow at h1
  exact List.all_eq_true.1 h1 k (List.mem_range.2 (by omega))
theorem wsAll_not {t : TData} {q k : Nat} (hq : q < t.mv.length) (hk : (k : Int) < t.L + 2) (h : leaveF t k t.mv.length q = none) : wsAll t = false := by
  cases hw : wsAll t
  · rfl
  · have := wsAll_at hw hq hk
    rw [h] at this
    simp at this
theorem range_all_succ {p : Nat → Bool} {k : Nat} (h : (List.range k).all p = true) (hk : p k = true) : (List.range (k + 1)).all p = true := by
  rw [List.range_succ, List.all_append, h]; simp [hk]
theorem wsG_ok {t : TData} (ok : OkT t) (h : wsAll t = true) {q k : Nat} (hq : q < t.mv.length) (hk : (k : Int) < t.L + 2) : okMove t.mv.length t.L k (wsG t q k) = true := by
  obtain ⟨m, hm⟩ := Option.isSome_iff_exists.1 (wsAll_at h hq hk)
  unfold wsG
  rw [hm]
  exact leave_move ok hk _ _ _ hq hm
theorem wsG_deeded {t : TData} (ok : OkT t) (h : wsAll t = true) {q k : Nat} (hq : q < t.mv.length) (hk : (k : Int) < t.L + 2) : Deeded (wsG t q k) := by
  have hm := okMove_out (wsG_ok ok h hq hk)
  unfold Deeded
  omega

/-- The memory of the call. -/
def WsI (w : World) (rc : List Value) (wr : World) : Prop :=
  Below w.heap.size w wr ∧ Row wr w.heap.size 28 rc ∧ Row wr (w.heap.size + 1) 28 [.int .i64 0, .int .i64 0, .slice none 0 0]
theorem WsI.below {w w' wr : World} {rc : List Value} (h : WsI w rc wr) (hb : Below wr.heap.size wr w') : WsI w rc w' :=
  ⟨below_step h.1 hb, h.2.1.below hb h.2.1.lt, h.2.2.below hb h.2.2.lt⟩
theorem own_storedW {w W : World} {b lo : Nat} {L S : Int} {A : Option Addr} {n k : Nat} {t : TData} {bs : List Nat} {z0 z1 z2 : Value}
    (hz : Row W b 28 [z0, z1, z2]) (hb : Below w.heap.size w W) (hlo : w.heap.size ≤ b) (hbl : b < lo) (hO : OwT W lo (.agg #[.int .i64 L, .int .i64 S, .slice A n k]) t bs) :
    let W2 := (((W.setCell ⟨b, 0, none⟩ (.int .i64 L)).setCell ⟨b, 1, none⟩ (.int .i64 S)).setCell ⟨b, 2, none⟩ (.slice A n k));
    (W2.cell? ⟨b, 0, none⟩ = some (.int .i64 L) ∧ W2.cell? ⟨b, 1, none⟩ = some (.int .i64 S) ∧ W2.cell? ⟨b, 2, none⟩ = some (.slice A n k)) ∧ OwT W2 w.heap.size (.agg #[.int .i64 L, .int .i64 S, .slice A n k]) t bs ∧ Below w.heap.size w W2 := by
  intro W2
  have rF := (((hz.stored 0 (.int .i64 L)).stored 1 (.int .i64 S)).stored 2 (.slice A n k))
  have eO := (goodT.under (a := ⟨b, 2, none⟩) (goodT.under (a := ⟨b, 1, none⟩) (goodT.under (a := ⟨b, 0, none⟩) hO hbl (.int .i64 L)) hbl (.int .i64 S)) hbl (.slice A n k))
  have eB := (((hb.setCell (p := ⟨b, 0, none⟩) hlo (.int .i64 L)).setCell (p := ⟨b, 1, none⟩) hlo (.int .i64 S)).setCell (p := ⟨b, 2, none⟩) hlo (.slice A n k))
  exact ⟨(Row.three (a := .int .i64 L) (b := .int .i64 S) (c := .slice A n k) rF).1, goodT.mono eO (by omega), eB⟩

end Go.Proofs.Ytklljaeoimgmnaa
