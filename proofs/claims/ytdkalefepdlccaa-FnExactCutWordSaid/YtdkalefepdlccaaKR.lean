/-
  Reader: what it reads as, its copies, sizes and comparisons.
-/
import Derived.Test.YtdkalefepdlccaaO1
namespace Go.Proofs.Ytdkalefepdlccaa
open Go.RowKit

/-- What a Reader reads as. -/
structure RData where
  L : Int
  S : Int
  acc : List Bool
  next : List (List Int)

def RdR (w : World) (v : Value) (r : RData) : Prop := ∃ vacc vnext, v = .agg #[.int .i64 r.L, .int .i64 r.S, vacc, vnext] ∧ RdB w vacc r.acc ∧ RdII w vnext r.next
theorem keepsR : Keeps RdR := fun _ _ _ _ ⟨vacc, vnext, hv, hacc, hnext⟩ hb => ⟨vacc, vnext, hv, keepsB _ _ _ _ hacc hb, keepsII _ _ _ _ hnext hb⟩
def OwR (w : World) (lo : Nat) (v : Value) (r : RData) (bs : List Nat) : Prop := ∃ vacc vnext bacc bnext, v = .agg #[.int .i64 r.L, .int .i64 r.S, vacc, vnext] ∧ OwV bools 4 w lo vacc r.acc bacc ∧ OwL (OwV ints 2) 42 w lo vnext r.next bnext ∧ bs = bacc ++ bnext ∧ bs.Nodup
theorem OwR.rd {w : World} {lo : Nat} {v : Value} {r : RData} {bs : List Nat} (h : OwR w lo v r bs) : RdR w v r := by
  obtain ⟨vacc, vnext, bacc, bnext, hv, hacc, hnext, hbs, hnd⟩ := h
  exact ⟨_, _, hv, hacc.1.rd, OwL.rd (fun h => h.1.rd) hnext⟩
theorem RdR.shape {w : World} {v : Value} {r : RData} (h : RdR w v r) : ∃ A0 k0 A1 k1, v = .agg #[.int .i64 r.L, .int .i64 r.S, .slice A0 r.acc.length k0, .slice A1 r.next.length k1] := by
  obtain ⟨vacc, vnext, hv, hacc, hnext⟩ := h
  obtain ⟨A0, k0, rfl⟩ := rdB_shape hacc
  obtain ⟨A1, k1, rfl⟩ := RdL.shape hnext
  exact ⟨A0, k0, A1, k1, hv⟩

/-- What an argument of this kind is bounded by. -/
def RSmall (r : RData) : Prop := (r.acc.length ≤ 281474976710656) ∧ (24 * r.next.length ≤ 281474976710656 ∧ ∀ x ∈ r.next, 8 * x.length ≤ 281474976710656)

end Go.Proofs.Ytdkalefepdlccaa
