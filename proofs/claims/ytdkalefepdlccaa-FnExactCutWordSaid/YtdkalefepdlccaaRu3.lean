/-
  The map of the places that a run has been in.
-/
import Derived.Test.YtdkalefepdlccaaRu2
import Derived.Maps.OwnSet
import Derived.Maps.OwnOps
import Derived.DeepKeys4
namespace Go.Proofs.Ytdkalefepdlccaa
open Go.RowKit
open Go.Maps (Keyed)

set_option maxRecDepth 100000 in
theorem laidOutR : laidOutB Try.prog = true := by kernel_rfl
theorem rowPlace : (70 : TypeId) < Try.prog.types.size := of_decide_eq_true (by kernel_rfl)
theorem widePlace : (match Try.prog.underlying 70 with | some (.array _ _) | some (.struct _) => true | _ => false) = true := by rw [Try.underlying70]
set_option maxRecDepth 100000 in
theorem keyAtPlace : Try.prog.keyTypeAt 2 70 = true := by kernel_rfl
set_option maxRecDepth 100000 in
theorem lawPlace : Keyed Try.prog 70 := Keyed.of_law (deep_law_laid laidOutR (m := 2) (by omega) rowPlace keyAtPlace widePlace)
theorem cellsPlace : Try.prog.cellsOf 70 = 2 := by kernel_rfl
theorem cellsI64 : Try.prog.cellsOf 2 = 1 := by kernel_rfl
theorem keyTypePlace : Try.prog.keyType 70 = true := by kernel_rfl
theorem zeroIntR (w : World) : (zeroValue 3).run Try.prog w = .ok (.int .i64 0) w := by kernel_rfl

def placeV (p : Nat × Nat) : Value := .agg #[.int .i64 (p.1 : Int), .int .i64 (p.2 : Int)]
theorem key_pair {P : Program} {k : TypeId} {f0 f1 : Field} {x y : Int} (hu : P.underlying k = some (.struct #[f0, f1])) (h0 : P.underlying f0.type = some (.int .i64)) (h1 : P.underlying f1.type = some (.int .i64)) (o0 : f0.offset = 0) (o1 : f1.offset = 1)
    (c : P.cellsOf k = 2) (c0 : P.cellsOf f0.type = 1) (c1 : P.cellsOf f1.type = 1) (n0 : (f0.name != "_") = true) (n1 : (f1.name != "_") = true) (hk : P.keyType k = true) (hs : 0 < P.types.size) (wx : (Lit.int .i64 x).wf = true) (wy : (Lit.int .i64 y).wf = true) :
    (keyOf P k (.agg #[.int .i64 x, .int .i64 y])).isSome = true := by
  obtain ⟨m, hm⟩ : ∃ m, P.types.size = m + 1 := ⟨P.types.size - 1, by omega⟩
  have hf : (Value.agg #[.int .i64 x, .int .i64 y]).formed P k = true := by simp [Value.formed, hu, c]
  simp only [keyOf, hu, hk, hf, Bool.and_self, if_true, hm]
  simp only [Option.isSome_map]
  unfold Program.keyLits
  simp only [hu, Value.cells]
  rw [if_pos (by simp [c, n0, n1] <;> simp_all)]
  simp [o0, o1, c0, c1, Program.keyLits, h0, h1, wx, wy]
set_option maxRecDepth 100000 in
theorem key_some {p : Nat × Nat} (h1 : p.1 ≤ 1000) (h2 : p.2 ≤ 1000) : (keyOf Try.prog 70 (placeV p)).isSome = true :=
  key_pair Try.underlying70 Try.underlying2 Try.underlying2 rfl rfl cellsPlace cellsI64 cellsI64 (by decide) (by decide) keyTypePlace (Nat.lt_of_le_of_lt (Nat.zero_le _) rowPlace) (WalkArith.wf_i64 (by omega)) (WalkArith.wf_i64 (by omega))
noncomputable def klP (p : Nat × Nat) : Lit := (keyOf Try.prog 70 (placeV p)).getD (.bool false)
theorem keyP {p : Nat × Nat} (h1 : p.1 ≤ 1000) (h2 : p.2 ≤ 1000) : keyOf Try.prog 70 (placeV p) = some (klP p) := by
  unfold klP
  obtain ⟨l, hl⟩ := Option.isSome_iff_exists.1 (key_some h1 h2)
  rw [hl]; rfl
theorem klP_inj {p q : Nat × Nat} (h1 : p.1 ≤ 1000) (h2 : p.2 ≤ 1000) (h3 : q.1 ≤ 1000) (h4 : q.2 ≤ 1000) (e : klP p = klP q) : p = q := by
  have k2 := keyP h3 h4
  rw [← e] at k2
  have := lawPlace.inj (keyP h1 h2) k2
  clear k2 e
  unfold placeV at this
  injection this with this
  have e0 := congrArg (fun a : Array Value => a[0]?) this
  have e1 := congrArg (fun a : Array Value => a[1]?) this
  simp at e0 e1
  exact Prod.ext (by omega) (by omega)

/-- The map knows just the places of the list, each by its number. -/
def MapOk (n z : Nat) (D : DataW Nat) (ps : List (Nat × Nat)) : Prop :=
  ∀ p, OkP n z p → Maps.has D (klP p) = decide (p ∈ ps) ∧ (p ∈ ps → D.atKey (klP p) (.lit (.int .i64 0)) = .lit (.int .i64 ((ps.idxOf p : Nat) : Int)))
theorem mapOk_start (n z : Nat) : MapOk n z (.map []) [] := fun p _ => ⟨by rw [Maps.has_eq]; simp, by simp⟩
set_option maxRecDepth 4000 in
theorem mapOk_snoc {n z : Nat} {D : DataW Nat} {ps : List (Nat × Nat)} {p : Nat × Nat} (hn : n ≤ 12) (hz : z ≤ 60) (h : MapOk n z D ps) (hD : Maps.IsMap D) (hp : OkP n z p) (hm : p ∉ ps) : MapOk n z (D.put (klP p) (.lit (.int .i64 (ps.length : Int)))) (ps ++ [p]) := by
  have hb : ∀ q, OkP n z q → q.1 ≤ 1000 ∧ q.2 ≤ 1000 := fun q hq => by have := hq.1; have := hq.2; omega
  have hkey : WideAt.IsKeyLit (klP p) := lawPlace.key (keyP (hb p hp).1 (hb p hp).2)
  intro q hq
  by_cases e : q = p
  · subst e
    refine ⟨?_, fun _ => ?_⟩
    · rw [Maps.has_put_same hD hkey]; simp
    · rw [Maps.atKey_put_same hD hkey, List.idxOf_append, if_neg hm]; simp
  · have hne : klP q ≠ klP p := fun e' => e (klP_inj (hb q hq).1 (hb q hq).2 (hb p hp).1 (hb p hp).2 e')
    obtain ⟨g1, g2⟩ := h q hq
    refine ⟨?_, fun hmem => ?_⟩
    · rw [Maps.has_put_other hne, g1]; simp [e]
    · have hq' : q ∈ ps := by simpa [e] using hmem
      rw [Maps.atKey_put_other hne, g2 hq', List.idxOf_append, if_pos hq']

theorem ownsMap_same {H : Type} {P : Program} {k : TypeId} {R : Value → Option (DataW H × List MemPlace)} {w w' : World} {b n : Nat} {D : DataW H} (h : w.ownsMap P k R b n D) (hb : w'.heap[b]? = w.heap[b]?) : w'.ownsMap P k R b n D := by
  obtain ⟨es, clock, h1, h2⟩ := h
  exact ⟨es, clock, hb.trans h1, h2⟩
theorem below_map (w : World) : Below w.heap.size w (w.alloc (.map #[] 0)) := below_alloc w _
end Go.Proofs.Ytdkalefepdlccaa
