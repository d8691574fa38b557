/-
  From a call's argument to what a walk is told of it: slices of integers, of bools, and of what reads one cell an element; with the reach of each.
-/
import Derived.Test.YtdkalefepdlccaaKit
import Derived.ProofKit
import Derived.OpenShut
import Derived.SizedLaws
import Derived.Lib.SmallJoins
import Derived.Deep.Slices
namespace Go.Proofs.Ytdkalefepdlccaa
open Go.RowKit Go.ChangeShapes Go.WideShapes Go.Deep Go.Joins

section
variable {H : Type} {enc : TypeId × Value → H} {P : Program} {w : World} {base : Nat} {held : Bool}

/-- Every slice and string in a reading takes at most the form's reach. -/
def Fit (P : Program) (t : TypeId) (d : DataW H) : Prop := ∀ n ∈ d.weights P t, n ≤ reachBytes

theorem weightsAll_mem {e : TypeId} : ∀ {l : List (DataW H)} {d : DataW H}, d ∈ l → ∀ n ∈ d.weights P e, n ∈ DataW.weightsAll P e l
  | x :: l, d, hd, n, hn => by
    simp only [DataW.weightsAll, List.mem_append]
    rcases List.mem_cons.1 hd with rfl | h
    · exact .inl hn
    · exact .inr (weightsAll_mem h n hn)

theorem Fit.slice {t e : TypeId} {elems spare : List (DataW H)} (ht : P.underlying t = some (.slice e)) (h : Fit P t (.slice elems spare)) : elems.length * P.bytesOf e ≤ reachBytes ∧ ∀ d ∈ elems, Fit P e d := by
  constructor
  · have := h ((elems.length + spare.length) * P.bytesOf e) (by simp [DataW.weights, ht])
    exact Nat.le_trans (Nat.mul_le_mul_right _ (Nat.le_add_right _ _)) this
  · intro d hd n hn
    exact h n (by simp only [DataW.weights, ht, List.mem_cons, List.mem_append]; exact .inr (.inl (weightsAll_mem hd n hn)))

theorem Fit.part {t : TypeId} {fs : Array Field} {parts : List (DataW H)} (ht : P.underlying t = some (.struct fs)) (h : Fit P t (.agg parts)) {j : Nat} {f : TypeId} {d : DataW H} (hf : (fs.toList.map (·.type))[j]? = some f) (hd : parts[j]? = some d) : Fit P f d :=
  fun n hn => h n (by simp only [DataW.weights, ht]; exact DataW.weights_mem_each hf hd n hn)

theorem fit_arg {ts : List TypeId} {ds : List (DataW H)} (h : (DataW.weightsEach P ts ds).all (· ≤ reachBytes) = true) {j : Nat} {t : TypeId} {d : DataW H} (ht : ts[j]? = some t) (hd : ds[j]? = some d) : Fit P t d :=
  fun n hn => by simpa using List.all_eq_true.1 h n (DataW.weights_mem_each ht hd n hn)

theorem fit_string {t : TypeId} {bytes : ByteArray} (h : Fit P t (.lit (.string bytes.data.toList) : DataW H)) : bytes.size ≤ 140737488351232 := by
  have := h bytes.data.toList.length (by simp [DataW.weights])
  simpa [reachBytes] using this

/-- What one argument or field reads as: whatever reads by t in one cell has a y by R, for which Q. -/
def Opens {α : Type} (enc : TypeId × Value → H) (P : Program) (w : World) (base : Nat) (held : Bool) (t : TypeId) (R : World → Value → α → Prop) (Q : α → Prop) : Prop :=
  ∀ (fuel : Nat) (v : Value) (x : DataW H × List MemPlace), DataW.trod enc P w base (fun _ => true) held fuel t [v] = some x → Fit P t x.1 → ∃ y, R w v y ∧ Q y

theorem opens_int {t : TypeId} (ht : P.underlying t = some (.int .i64)) : Opens enc P w base held t (fun _ v (n : Int) => v = .int .i64 n) (fun n => (Lit.int .i64 n).wf = true) := fun fuel v x h _ => by
  obtain ⟨n, h1, _, h3⟩ := DataW.trod_int ht h
  exact ⟨n, by simpa using h1, h3⟩

theorem opens_bool {t : TypeId} (ht : P.underlying t = some .bool) : Opens enc P w base held t (fun _ v (b : Bool) => v = .bool b) (fun _ => True) := fun fuel v x h _ => by
  obtain ⟨n, h1, _⟩ := DataW.trod_bool ht h
  exact ⟨n, by simpa using h1, trivial⟩

/-- A slice, of what opens. -/
theorem opens_slice {α : Type} [Inhabited α] {R : World → Value → α → Prop} {Q : α → Prop} {t e : TypeId} (ht : P.underlying t = some (.slice e)) (hc : P.cellsOf e = 1) (he : Opens enc P w base held e R Q) :
    Opens enc P w base held t (RdL R) (fun ys => ys.length * P.bytesOf e ≤ reachBytes ∧ ∀ y ∈ ys, Q y) := fun fuel v x h hfit => by
  rcases open_slice1 ht hc h with ⟨hcs, _⟩ | ⟨a, len, cap, m, n, V, D, Pl, hcs, _, hl, hm, hmm, hx, hel⟩
  · obtain rfl : v = .slice none 0 0 := by simpa using hcs
    exact ⟨[], ⟨[], ⟨none, 0, rfl, Nat.le_refl _, by simp [maxLen], fun i u hu => by simp at hu⟩, rfl, fun i u x hu => by simp at hu⟩, by simp, by simp⟩
  · obtain rfl : v = .slice (some a) len cap := by simpa using hcs
    subst hx
    have hml : len ≤ m := by rw [hmm]; split <;> omega
    obtain ⟨f1, f2⟩ := Fit.slice ht hfit
    obtain ⟨Y, hY⟩ := choose_lt (n := len) (p := fun i y => R w (V i) y ∧ Q y) (fun i hi => he n (V i) (D i, Pl i) (hel i (by omega)).2 (f2 _ (List.mem_map.2 ⟨i, List.mem_range.2 hi, rfl⟩)))
    refine ⟨(List.range len).map Y, ⟨(List.range len).map V, ⟨some a, cap, by simp, by simpa using hl, hm, ?_⟩, by simp, ?_⟩, ?_, ?_⟩
    · intro i u hu
      obtain ⟨hi, hu⟩ := List.getElem?_eq_some_iff.1 hu
      simp at hi hu
      subst hu
      have h0 := (hel 0 (by omega)).1
      have hs : a.spot = none := by simpa [Addr.add] using World.cell?_spot h0
      obtain ⟨b, off, spot⟩ := a
      subst hs
      refine ⟨b, off, rfl, ?_⟩
      have := (hel i (by omega)).1
      by_cases e0 : i = 0
      · subst e0; simpa [Addr.add] using this
      · simpa [Addr.add, e0] using this
    · intro i u y hu hy
      obtain ⟨hi, hu⟩ := List.getElem?_eq_some_iff.1 hu
      obtain ⟨_, hy⟩ := List.getElem?_eq_some_iff.1 hy
      simp at hi hu hy
      subst hu; subst hy
      exact (hY i hi).1
    · simpa using f1
    · intro y hy
      obtain ⟨i, hi, rfl⟩ := List.mem_map.1 hy
      exact (hY i (List.mem_range.1 hi)).2

theorem rdL_ints {w : World} {v : Value} {zs : List Int} (h : RdL (fun _ v (n : Int) => v = .int .i64 n) w v zs) : RdI w v zs := by
  obtain ⟨vs, h1, h2, h3⟩ := h
  have : vs = ints zs := by
    apply List.ext_getElem?
    intro i
    by_cases hi : i < vs.length
    · have hz : i < zs.length := by omega
      have := h3 i vs[i] zs[i] (by simp [hi]) (by simp [hz])
      simp [ints, hi, hz, this]
    · simp [ints, hi, show ¬ i < zs.length by omega]
  subst this
  exact h1
theorem rdL_bools {w : World} {v : Value} {zs : List Bool} (h : RdL (fun _ v (n : Bool) => v = .bool n) w v zs) : RdB w v zs := by
  obtain ⟨vs, h1, h2, h3⟩ := h
  have : vs = bools zs := by
    apply List.ext_getElem?
    intro i
    by_cases hi : i < vs.length
    · have hz : i < zs.length := by omega
      have := h3 i vs[i] zs[i] (by simp [hi]) (by simp [hz])
      simp [bools, hi, hz, this]
    · simp [bools, hi, show ¬ i < zs.length by omega]
  subst this
  exact h1

theorem opens_mono {α : Type} {R R' : World → Value → α → Prop} {Q Q' : α → Prop} {t : TypeId} (h : Opens enc P w base held t R Q) (hR : ∀ v y, R w v y → R' w v y) (hQ : ∀ y, Q y → Q' y) : Opens enc P w base held t R' Q' :=
  fun fuel v x hx hf => let ⟨y, h1, h2⟩ := h fuel v x hx hf; ⟨y, hR v y h1, hQ y h2⟩

theorem opens_ints {t e : TypeId} (ht : P.underlying t = some (.slice e)) (he : P.underlying e = some (.int .i64)) (hc : P.cellsOf e = 1) (hb : P.bytesOf e = 8) : Opens enc P w base held t RdI (fun zs => 8 * zs.length ≤ reachBytes) :=
  opens_mono (opens_slice ht hc (opens_int he)) (fun _ _ h => rdL_ints h) (fun ys h => by have := h.1; rw [hb] at this; omega)
theorem opens_bools {t e : TypeId} (ht : P.underlying t = some (.slice e)) (he : P.underlying e = some .bool) (hc : P.cellsOf e = 1) (hb : P.bytesOf e = 1) : Opens enc P w base held t RdB (fun zs => zs.length ≤ reachBytes) :=
  opens_mono (opens_slice ht hc (opens_bool he)) (fun _ _ h => rdL_bools h) (fun ys h => by have := h.1; rw [hb] at this; omega)

/-- The arguments' readings behind the call, where nothing that was there has turned. -/
theorem args_kept {ts : List TypeId} {vs : List Value} {ds : List (DataW H)} {p : List MemPlace} {W W' : World} (hl : laidOutB P = true) (hr : ∀ t ∈ ts, P.readableRec t = true ∧ t < P.types.size)
    (h : DataW.TrodAll enc P W 0 (fun _ => true) true ts vs ds p) (hb : Below W.heap.size W W') : DataW.TrodAll enc P W' 0 (fun b => decide (b < W.heap.size)) true ts vs ds p := by
  induction ts generalizing vs ds p with
  | nil =>
    obtain ⟨rfl, rfl, rfl⟩ := trodAll_nil h
    exact trodAll_mk0
  | cons t ts ih =>
    obtain ⟨v, vs', d, ds', p0, q, rfl, rfl, rfl, h0, r0⟩ := trodAll_cons h
    have lt0 : ∀ x ∈ p0, x.block < W.heap.size := by obtain ⟨m, hm⟩ := h0; exact DataW.trod_lt m _ _ _ hm
    exact trodAll_cons_mk (Below.trod hl (hr t (by simp)).1 (hr t (by simp)).2 h0 hb lt0) (ih (fun t ht => hr t (by simp [ht])) r0)
end

end Go.Proofs.Ytdkalefepdlccaa
