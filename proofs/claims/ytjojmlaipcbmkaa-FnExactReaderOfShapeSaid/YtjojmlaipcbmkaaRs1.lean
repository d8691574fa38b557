/-
  ReaderOfShape: a reader in a box, one row of one number more; the program's answer.
-/
import Derived.Test.YtjojmlaipcbmkaaBR
import Derived.Test.YtjojmlaipcbmkaaCl
import Derived.Test.YtjojmlaipcbmkaaZR
import Derived.Test.YtjojmlaipcbmkaaT7
import Derived.Test.YtjojmlaipcbmkaaArg
namespace Go.Proofs.Ytjojmlaipcbmkaa
open Go.RowKit

def shapeRows (tail : Int) (n : Nat) : List (List Int) := (List.range n).map fun s => [if s + 1 = n then tail else (s : Int) + 1]
def shapeOk (tail : Int) (n : Nat) : Bool := within (n : Int) 1 300 && within tail 0 ((n : Int) - 1)
def shapeRes (tail : Int) (acc : List Bool) : RData × Int := if shapeOk tail acc.length then (⟨1, 0, acc, shapeRows tail acc.length⟩, 0) else (⟨0, 0, [], []⟩, 2)
theorem shapeRows_len (tail : Int) (n : Nat) : (shapeRows tail n).length = n := by simp [shapeRows]
theorem shapeRows_get (tail : Int) {n k : Nat} (h : k < n) : (shapeRows tail n)[k]? = some [if k + 1 = n then tail else (k : Int) + 1] := by simp [shapeRows, h]
theorem shapeRows_take (tail : Int) {n k : Nat} (h : k < n) : (shapeRows tail n).take (k + 1) = (shapeRows tail n).take k ++ [[if k + 1 = n then tail else (k : Int) + 1]] := take_succ_of (shapeRows_get tail h)
theorem numL_const (xs : List (List Int)) (h : ∀ x ∈ xs, x.length = 1) : numL (fun x : List Int => x.length) xs = xs.length := by
  induction xs with
  | nil => rfl
  | cons x r ih => simp only [numL, List.map_cons, List.sum_cons, List.length_cons] at ih ⊢; rw [ih (fun y hy => h y (by simp [hy])), h x (by simp)]; omega
theorem shape_num (tail : Int) (acc : List Bool) : (numR (shapeRes tail acc).1 : Int) ≤ 2305843009213693952 := by
  unfold shapeRes
  split
  · rename_i h
    simp only [shapeOk, within, Bool.and_eq_true, decide_eq_true_eq] at h
    have h1 : numL (fun x : List Int => x.length) (shapeRows tail acc.length) = acc.length := by
      rw [numL_const _ (fun x hx => by simp [shapeRows] at hx; obtain ⟨a, _, rfl⟩ := hx; rfl), shapeRows_len]
    simp only [numR, h1]; omega
  · simp [numR, numL]

/-- A reader's four values stored into a box below all that it leads to. -/
theorem stored4R {w wr : World} {z lo : Nat} {L S : Int} {Aa An : Option Addr} {na nn ka kn : Nat} {r : RData} {bs : List Nat} {z0 z1 z2 z3 : Value}
    (hz : Row wr z 29 [z0, z1, z2, z3]) (hO : OwR wr lo (.agg #[.int .i64 L, .int .i64 S, .slice Aa na ka, .slice An nn kn]) r bs) (hlo : z < lo) (hw : w.heap.size ≤ z) (hb : Below w.heap.size w wr) :
    (((((((wr.setCell ⟨z, 0, none⟩ (.int .i64 L)).setCell ⟨z, 1, none⟩ (.int .i64 S)).setCell ⟨z, 2, none⟩ (.slice Aa na ka)).setCell ⟨z, 3, none⟩ (.slice An nn kn)).cell? ⟨z, 0, none⟩ = some (.int .i64 L)) ∧
      ((((wr.setCell ⟨z, 0, none⟩ (.int .i64 L)).setCell ⟨z, 1, none⟩ (.int .i64 S)).setCell ⟨z, 2, none⟩ (.slice Aa na ka)).setCell ⟨z, 3, none⟩ (.slice An nn kn)).cell? ⟨z, 1, none⟩ = some (.int .i64 S) ∧
      ((((wr.setCell ⟨z, 0, none⟩ (.int .i64 L)).setCell ⟨z, 1, none⟩ (.int .i64 S)).setCell ⟨z, 2, none⟩ (.slice Aa na ka)).setCell ⟨z, 3, none⟩ (.slice An nn kn)).cell? ⟨z, 2, none⟩ = some (.slice Aa na ka) ∧
      ((((wr.setCell ⟨z, 0, none⟩ (.int .i64 L)).setCell ⟨z, 1, none⟩ (.int .i64 S)).setCell ⟨z, 2, none⟩ (.slice Aa na ka)).setCell ⟨z, 3, none⟩ (.slice An nn kn)).cell? ⟨z, 3, none⟩ = some (.slice An nn kn))) ∧
    OwR ((((wr.setCell ⟨z, 0, none⟩ (.int .i64 L)).setCell ⟨z, 1, none⟩ (.int .i64 S)).setCell ⟨z, 2, none⟩ (.slice Aa na ka)).setCell ⟨z, 3, none⟩ (.slice An nn kn)) w.heap.size (.agg #[.int .i64 L, .int .i64 S, .slice Aa na ka, .slice An nn kn]) r bs ∧
    Below w.heap.size w ((((wr.setCell ⟨z, 0, none⟩ (.int .i64 L)).setCell ⟨z, 1, none⟩ (.int .i64 S)).setCell ⟨z, 2, none⟩ (.slice Aa na ka)).setCell ⟨z, 3, none⟩ (.slice An nn kn)) := by
  have rF := ((((hz.stored 0 (.int .i64 L)).stored 1 (.int .i64 S)).stored 2 (.slice Aa na ka)).stored 3 (.slice An nn kn))
  have eO := (goodR.under (a := ⟨z, 3, none⟩) (goodR.under (a := ⟨z, 2, none⟩) (goodR.under (a := ⟨z, 1, none⟩) (goodR.under (a := ⟨z, 0, none⟩) hO hlo (.int .i64 L)) hlo (.int .i64 S)) hlo (.slice Aa na ka)) hlo (.slice An nn kn))
  have eB := ((((hb.setCell (p := ⟨z, 0, none⟩) hw (.int .i64 L)).setCell (p := ⟨z, 1, none⟩) hw (.int .i64 S)).setCell (p := ⟨z, 2, none⟩) hw (.slice Aa na ka)).setCell (p := ⟨z, 3, none⟩) hw (.slice An nn kn))
  obtain ⟨⟨y0, y1, y2, y3⟩, -⟩ := Row.four (a := .int .i64 L) (b := .int .i64 S) (c := .slice Aa na ka) (d := .slice An nn kn) rF
  exact ⟨⟨y0, y1, y2, y3⟩, goodR.mono eO (by omega), eB⟩

/-- What a reader in a box is made of, for one row more. -/
theorem BoxR.open {w : World} {lo po : Nat} {r : RData} (h : BoxR w lo po r) : ∃ Aa ka Bn kn ba, ∃ vs : List Value, ∃ bss : List (List Nat), Row w po 29 [.int .i64 r.L, .int .i64 r.S, .slice Aa r.acc.length ka, .slice Bn r.next.length kn] ∧ OwV bools 4 w lo (.slice Aa r.acc.length ka) r.acc ba ∧ Own w 47 lo (.slice Bn r.next.length kn) vs ∧ vs.length = r.next.length ∧ bss.length = r.next.length ∧
    (∀ (i : Nat) u x b, vs[i]? = some u → r.next[i]? = some x → bss[i]? = some b → OwV ints 2 w lo u x b) ∧ (blks (.slice Bn r.next.length kn) ++ bss.flatten).Nodup ∧ (ba ++ (blks (.slice Bn r.next.length kn) ++ bss.flatten)).Nodup ∧ po ∉ ba ++ (blks (.slice Bn r.next.length kn) ++ bss.flatten) := by
  obtain ⟨va, vn, ba, bn, ho, ha, ⟨vs, bss, hv, e1, e2, e3, rfl, e5⟩, hd, hp⟩ := h
  obtain ⟨Aa, ka, rfl⟩ := owB_shape ha
  obtain ⟨Bn, kn, hs⟩ := hv.shape
  rw [e1] at hs
  subst hs
  exact ⟨Aa, ka, Bn, kn, ba, vs, bss, ho, ha, hv, e1, e2, e3, e5, hd, hp⟩

/-- One row of one number more: behind both allocs, the append and the store. -/
theorem BoxR.row1 {w w2 : World} {lo po : Nat} {r : RData} {Aa Bn : Option Addr} {ka kn : Nat} {ba : List Nat} {vs : List Value} {bss : List (List Nat)} {to : Int} {g cap : Nat}
    (ho : Row w po 29 [.int .i64 r.L, .int .i64 r.S, .slice Aa r.acc.length ka, .slice Bn r.next.length kn]) (ha : OwV bools 4 w lo (.slice Aa r.acc.length ka) r.acc ba) (hv : Own w 47 lo (.slice Bn r.next.length kn) vs) (e1 : vs.length = r.next.length) (e2 : bss.length = r.next.length)
    (e3 : ∀ (i : Nat) u x b, vs[i]? = some u → r.next[i]? = some x → bss[i]? = some b → OwV ints 2 w lo u x b) (e5 : (blks (.slice Bn r.next.length kn) ++ bss.flatten).Nodup) (hd : (ba ++ (blks (.slice Bn r.next.length kn) ++ bss.flatten)).Nodup) (hp : po ∉ ba ++ (blks (.slice Bn r.next.length kn) ++ bss.flatten)) (hlo : lo ≤ w.heap.size)
    (hg : ((w.alloc (.cells #[.int .i64 to] 2)).alloc (.cells #[.slice (some ⟨w.heap.size, 0, none⟩) 1 1] 47)).grownBy w2 (Value.slice Bn r.next.length kn).ownBlock)
    (hown : w2.ownsRow lo 47 1 (.slice (some ⟨g, 0, none⟩) (r.next.length + 1) cap) (r.next.length + 1) (vs ++ [.slice (some ⟨w.heap.size, 0, none⟩) 1 1])) (hat : (Value.slice Bn r.next.length kn).ownBlock = some g ∨ g = w.heap.size + 1 + 1) :
    BoxR (w2.setCell ⟨po, 3, none⟩ (.slice (some ⟨g, 0, none⟩) (r.next.length + 1) cap)) lo po ⟨r.L, r.S, r.acc, r.next ++ [[to]]⟩ := by
  have hb := below_alloc w (.cells #[.int .i64 to] 2)
  have hu : OwV ints 2 (w.alloc (.cells #[.int .i64 to] 2)) lo (.slice (some ⟨w.heap.size, 0, none⟩) 1 1) [to] [w.heap.size] :=
    ⟨(Row.new w [.int .i64 to] 2).own hlo (by simp [maxLen]), by simp [blks, Value.ownBlock]⟩
  have hall : ∀ x ∈ ba ++ (blks (.slice Bn r.next.length kn) ++ bss.flatten), x < w.heap.size := fun x hx => by
    rcases List.mem_append.1 hx with hx | hx
    · exact ((goodV bools 4).lt ha hx).2
    · exact ((goodL (goodV ints 2) 47).lt (show OwL (OwV ints 2) 47 w lo _ r.next _ from ⟨vs, bss, hv, e1, e2, e3, rfl, e5⟩) hx).2
  refine BoxR.snocNext (ho.alloc _) ((goodV bools _).below ha hb) (hv.below hb) e1 e2 (fun i u x b h1 h2 h3 => (goodV ints _).below (e3 i u x b h1 h2 h3) hb) e5 hd hp hu (fun c hc hm => ?_) (fun hm => ?_) hg hown rfl (by simpa using hat)
  · have := hall c hm; simp at hc; omega
  · have := ho.lt; simp at hm; omega
end Go.Proofs.Ytjojmlaipcbmkaa
