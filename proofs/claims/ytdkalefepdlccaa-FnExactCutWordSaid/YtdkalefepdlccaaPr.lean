/-
  Slices of structs of two integers: what they read as, what a call owns of them, and how they are made.
-/
import Derived.Test.YtdkalefepdlccaaMk
import Derived.Test.YtdkalefepdlccaaOpen
import Derived.Deep.SlicePairs
import Derived.Deep.Onto
namespace Go.Proofs.Ytdkalefepdlccaa
open Go.RowKit Go.ChangeShapes Go.WideShapes Go.Deep Go.Joins

def pcell (m : Int × Int) : List Value := [.int .i64 m.1, .int .i64 m.2]
def pcells (ms : List (Int × Int)) : List Value := ms.flatMap pcell
theorem pcells_cons (m : Int × Int) (ms : List (Int × Int)) : pcells (m :: ms) = .int .i64 m.1 :: .int .i64 m.2 :: pcells ms := rfl
theorem pcells_len (ms : List (Int × Int)) : (pcells ms).length = ms.length * 2 := by
  induction ms with
  | nil => rfl
  | cons x r ih => rw [pcells_cons]; simp only [List.length_cons, ih]; omega
theorem pcells_get {ms : List (Int × Int)} {i : Nat} {m : Int × Int} (h : ms[i]? = some m) : (pcells ms)[i * 2]? = some (.int .i64 m.1) ∧ (pcells ms)[i * 2 + 1]? = some (.int .i64 m.2) := by
  induction ms generalizing i with
  | nil => simp at h
  | cons x r ih =>
    cases i with
    | zero => simp at h; subst h; simp [pcells_cons]
    | succ i =>
      simp at h
      have := ih h
      rw [show (i + 1) * 2 = i * 2 + 1 + 1 by omega, pcells_cons]
      simpa using this
theorem pcells_set {ms : List (Int × Int)} {i : Nat} (h : i < ms.length) (m : Int × Int) : ((pcells ms).set (i * 2) (.int .i64 m.1)).set (i * 2 + 1) (.int .i64 m.2) = pcells (ms.set i m) := by
  induction ms generalizing i with
  | nil => simp at h
  | cons x r ih =>
    cases i with
    | zero => simp [pcells_cons]
    | succ i =>
      simp at h
      rw [show (i + 1) * 2 = i * 2 + 1 + 1 by omega]
      simp only [pcells_cons, List.set_cons_succ]
      rw [ih h]

/-- The slice v reads in w as the pairs ms. -/
def RdP (w : World) (v : Value) (ms : List (Int × Int)) : Prop :=
  ∃ A cap, v = .slice A ms.length cap ∧ ms.length ≤ cap ∧ cap ≤ maxLen ∧
    ∀ i m, ms[i]? = some m → ∃ b off, A = some ⟨b, off, none⟩ ∧ w.cell? ⟨b, off + i * 2, none⟩ = some (.int .i64 m.1) ∧ w.cell? ⟨b, off + i * 2 + 1, none⟩ = some (.int .i64 m.2)
theorem keepsP : Keeps RdP := fun w w' v x h hb => by
  obtain ⟨A, cap, rfl, h1, h2, h3⟩ := h
  refine ⟨A, cap, rfl, h1, h2, fun i u hu => ?_⟩
  obtain ⟨b, off, hA, hc, hd⟩ := h3 i u hu
  exact ⟨b, off, hA, below_keep hb hc, below_keep hb hd⟩
def RdPP : World → Value → List (List (Int × Int)) → Prop := RdL RdP
theorem keepsPP : Keeps RdPP := keepsL keepsP
theorem RdP.open {w : World} {v : Value} {ms : List (Int × Int)} (h : RdP w v ms) :
    ∃ A cap, v = .slice A ms.length cap ∧ ms.length ≤ cap ∧ cap ≤ maxLen ∧ ∀ i, i < ms.length → ∃ b off x y, A = some ⟨b, off, none⟩ ∧ ms[i]? = some (x, y) ∧ w.cell? ⟨b, off + i * 2, none⟩ = some (.int .i64 x) ∧ w.cell? ⟨b, off + i * 2 + 1, none⟩ = some (.int .i64 y) := by
  obtain ⟨A, cap, rfl, h1, h2, h3⟩ := h
  refine ⟨A, cap, rfl, h1, h2, fun i hi => ?_⟩
  obtain ⟨b, off, hA, hc, hd⟩ := h3 i ms[i] (List.getElem?_eq_getElem hi)
  exact ⟨b, off, ms[i].1, ms[i].2, hA, List.getElem?_eq_getElem hi, hc, hd⟩
theorem RdP.shape {w : World} {v : Value} {ms : List (Int × Int)} (h : RdP w v ms) : ∃ B c, v = .slice B ms.length c := by
  obtain ⟨A, cap, rfl, _⟩ := h; exact ⟨_, _, rfl⟩

/-- A slice of pairs that the call owns. -/
def OwP (e : TypeId) (w : World) (lo : Nat) (v : Value) (ms : List (Int × Int)) (bs : List Nat) : Prop := w.ownsRow lo e 2 v ms.length (pcells ms) ∧ bs = blks v

theorem rows_same {w w' : World} {e : TypeId} {lo k n : Nat} {v : Value} {xs : List Value} (h : w.ownsRow lo e k v n xs) (hb : ∀ b ∈ blks v, w'.heap[b]? = w.heap[b]?) : w'.ownsRow lo e k v n xs := by
  obtain ⟨h1, h2 | ⟨g, cap, cur, rfl, hg, h3, h4⟩⟩ := h
  · exact ⟨h1, .inl h2⟩
  · exact ⟨h1, .inr ⟨g, cap, cur, rfl, hg, (hb g (by simp [blks, Value.ownBlock])).trans h3, h4⟩⟩
theorem rows_below {w w' : World} {e : TypeId} {lo k n : Nat} {v : Value} {xs : List Value} (h : w.ownsRow lo e k v n xs) (hb : Below w.heap.size w w') : w'.ownsRow lo e k v n xs :=
  World.ownsRow.kept h (row := none) ⟨hb.os, hb.tape, hb.output, hb.size, fun k hk _ => hb.block k hk⟩ (by cases v.ownBlock <;> simp)

theorem goodP (e : TypeId) : Good (OwP e) where
  same := fun ⟨h, hb⟩ hs => ⟨rows_same h (by rw [← hb]; exact hs), hb⟩
  other := fun u ⟨h, hb⟩ ha => ⟨ownsRow_setCell_other h (fun e => ha (by simp [hb, blks, e])) u, hb⟩
  below := fun ⟨h, hb⟩ k => ⟨rows_below h k, hb⟩
  mono := fun ⟨h, hb⟩ k => ⟨World.ownsRow.mono h k, hb⟩
  lt := fun ⟨h, hb⟩ k => World.ownsRow.lt h _ (by rw [hb] at k; simpa [blks] using k)
  nodup := fun ⟨_, hb⟩ => by rw [hb]; exact blks_nodup _

theorem OwP.nil_or {e : TypeId} {w : World} {lo : Nat} {v : Value} {ms : List (Int × Int)} {bs : List Nat} (h : OwP e w lo v ms bs) : (v = .slice none 0 0 ∧ ms = []) ∨ ∃ g cap, v = .slice (some ⟨g, 0, none⟩) ms.length cap ∧ bs = [g] ∧ ms.length ≤ cap ∧ cap ≤ maxLen := by
  obtain ⟨⟨_, ⟨rfl, h0⟩ | ⟨g, cap, cur, rfl, _, _, h1, h2, _⟩⟩, hb⟩ := h
  · exact .inl ⟨rfl, List.length_eq_zero_iff.1 h0⟩
  · exact .inr ⟨g, cap, rfl, hb, h1, h2⟩
theorem OwP.rd {e : TypeId} {w : World} {lo : Nat} {v : Value} {ms : List (Int × Int)} {bs : List Nat} (h : OwP e w lo v ms bs) : RdP w v ms := by
  rcases h.nil_or with ⟨rfl, rfl⟩ | ⟨g, cap, rfl, _, h1, h2⟩
  · exact ⟨none, 0, rfl, Nat.le_refl _, by simp [maxLen], fun i u hu => by simp at hu⟩
  · refine ⟨_, cap, rfl, h1, h2, fun i m hm => ⟨g, 0, rfl, ?_, ?_⟩⟩
    · have hi := (List.getElem?_eq_some_iff.1 hm).1
      rw [Nat.zero_add, h.1.cellAt (i * 2) (by omega)]
      exact (pcells_get hm).1
    · have hi := (List.getElem?_eq_some_iff.1 hm).1
      rw [Nat.zero_add, h.1.cellAt (i * 2 + 1) (by omega)]
      exact (pcells_get hm).2
theorem owP_shape {e : TypeId} {w : World} {lo : Nat} {v : Value} {ms : List (Int × Int)} {bs : List Nat} (h : OwP e w lo v ms bs) : ∃ B c, v = .slice B ms.length c := h.rd.shape
theorem Row.pairs {w : World} {g : Nat} {e : TypeId} {ms : List (Int × Int)} (h : Row w g e (pcells ms)) {lo : Nat} (hb : lo ≤ g) (hm : ms.length ≤ maxLen) : OwP e w lo (.slice (some ⟨g, 0, none⟩) ms.length ms.length) ms [g] :=
  ⟨⟨pcells_len ms, .inr ⟨g, ms.length, (pcells ms).toArray, rfl, hb, h, Nat.le_refl _, hm, by simp [pcells_len], List.take_of_length_le (by simp [pcells_len])⟩⟩, rfl⟩
theorem OwP.stored {e : TypeId} {w : World} {lo g cap : Nat} {ms : List (Int × Int)} (h : OwP e w lo (.slice (some ⟨g, 0, none⟩) ms.length cap) ms [g]) {i : Nat} (hi : i < ms.length) (m : Int × Int) :
    OwP e ((w.setCell ⟨g, i * 2, none⟩ (.int .i64 m.1)).setCell ⟨g, i * 2 + 1, none⟩ (.int .i64 m.2)) lo (.slice (some ⟨g, 0, none⟩) (ms.set i m).length cap) (ms.set i m) [g] := by
  have h1 := (h.1.stored (i * 2) (.int .i64 m.1)).1
  have h2 := (h1.stored (i * 2 + 1) (.int .i64 m.2)).1
  rw [pcells_set hi m] at h2
  exact ⟨by simpa using h2, h.2⟩

/-- Two pairs are equal, in a word that the walk leaves alone. -/
def eqPair (a b : Int × Int) : Bool := decide (a = b)

/-- make of pairs: a row of zeros. -/
theorem run_make_pairs {P : Program} (t e : TypeId) (z0 z1 : Value) (bytes : Nat) (ht : P.underlying t = some (.slice e)) (hinfo : (P.info? e).map (fun i => (i.zero, i.size, i.bytes)) = some (some (.agg #[z0, z1]), 2, bytes))
    (kl kc : IntKind) (n : Nat) (hbytes : bytes * n ≤ 281474976710656) (h63 : n ≤ 9223372036854775807) (w : World) :
    (Instr.makeSlice t (.int kl (n : Int)) (.int kc (n : Int))).run P w = .ok (.slice (some ⟨w.heap.size, 0, none⟩) n n) (w.alloc (.cells (madeCells #[z0, z1] (n * 2)) e)) := by
  obtain ⟨i, hi, hzz⟩ := Option.map_eq_some_iff.1 hinfo
  simp only [Prod.mk.injEq] at hzz
  obtain ⟨hz, hs, hb⟩ := hzz
  have hb' : (i.bytes : Int) * (n : Int) ≤ 281474976710656 := by
    have h : ((i.bytes * n : Nat) : Int) ≤ 281474976710656 := by rw [hb]; omega
    rwa [Int.natCast_mul] at h
  have hr := run_make (P := P) w t e i _ ht hi hz kl kc n n (by omega) (Int.le_refl _) hb' (by omega)
  simp only [Int.toNat_natCast, hs] at hr
  exact hr
theorem Row.madePairs (w : World) (n : Nat) (e : TypeId) : Row (w.alloc (.cells (madeCells #[.int .i64 0, .int .i64 0] (n * 2)) e)) w.heap.size e (pcells (List.replicate n (0, 0))) := by
  have e1 : madeCells #[Value.int .i64 0, .int .i64 0] (n * 2) = (pcells (List.replicate n (0, 0))).toArray := by
    have e2 : pcells (List.replicate n (0, 0)) = List.replicate (n * 2) (.int .i64 0) := by
      induction n with
      | zero => rfl
      | succ n ih => rw [List.replicate_succ, pcells_cons, ih, show (n + 1) * 2 = n * 2 + 1 + 1 by omega, List.replicate_succ, List.replicate_succ]
    rw [e2]
    apply Array.ext
    · simp [madeCells]
    · intro i h1 h2
      have : i % 2 = 0 ∨ i % 2 = 1 := by omega
      rcases this with h | h <;> simp [madeCells, h]
  rw [e1]
  exact heap_alloc_new w _

/-- A row of pairs that is being filled. -/
def partP (ms : List (Int × Int)) (k : Nat) : List (Int × Int) := ms.take k ++ List.replicate (ms.length - k) (0, 0)
theorem partP_zero (ms : List (Int × Int)) : partP ms 0 = List.replicate ms.length (0, 0) := by simp [partP]
theorem partP_full {ms : List (Int × Int)} {k : Nat} (h : ¬ k < ms.length) : partP ms k = ms := by
  rw [partP, List.take_of_length_le (by omega), show ms.length - k = 0 by omega]; simp
theorem partP_len {ms : List (Int × Int)} {k : Nat} (h : k ≤ ms.length) : (partP ms k).length = ms.length := by simp [partP]; omega
theorem partP_get {ms : List (Int × Int)} {k : Nat} (h : k < ms.length) : (partP ms k)[k]? = some (0, 0) := by
  simp [partP, List.getElem?_append, List.getElem?_replicate, Nat.min_eq_left (Nat.le_of_lt h)]; omega
theorem partP_set {ms : List (Int × Int)} {k : Nat} {u : Int × Int} (h : ms[k]? = some u) : (partP ms k).set k u = partP ms (k + 1) := by
  have hk : k < ms.length := (List.getElem?_eq_some_iff.1 h).1
  have e : ms.length - k = (ms.length - (k + 1)) + 1 := by omega
  rw [partP, partP, List.set_append, if_neg (by simp; omega), List.take_add_one, h, e, List.replicate_succ]
  simp [Nat.min_eq_left (Nat.le_of_lt hk)]
theorem Row.pairStored {w : World} {g : Nat} {e : TypeId} {ms : List (Int × Int)} (h : Row w g e (pcells ms)) {i : Nat} (hi : i < ms.length) (m : Int × Int) :
    Row ((w.setCell ⟨g, i * 2, none⟩ (.int .i64 m.1)).setCell ⟨g, i * 2 + 1, none⟩ (.int .i64 m.2)) g e (pcells (ms.set i m)) := by
  rw [← pcells_set hi m]
  exact (h.stored (i * 2) _).stored (i * 2 + 1) _

/-- Consecutive numbers in the place of pairs. -/
def mkP (k : Int) (xs : List (Int × Int)) : List (Int × Int) := (List.range xs.length).map fun (i : Nat) => (k + 2 * (i : Int), k + 2 * (i : Int) + 1)
theorem mkP_len (k : Int) (xs : List (Int × Int)) : (mkP k xs).length = xs.length := by simp [mkP]
theorem mkP_get {k : Int} {i : Nat} {xs : List (Int × Int)} (h : i < xs.length) : (mkP k xs)[i]? = some (k + 2 * (i : Int), k + 2 * (i : Int) + 1) := by simp [mkP, h]

/-- An argument that is a slice of pairs. -/
theorem opens_pairs {H : Type} {enc : TypeId × Value → H} {P : Program} {w : World} {base : Nat} {held : Bool} {t e : TypeId} {f0 f1 : Field} (ht : P.underlying t = some (.slice e)) (he : P.underlying e = some (.struct #[f0, f1]))
    (ce : P.cellsOf e = 2) (o0 : f0.offset = 0) (o1 : f1.offset = 1) (c0 : P.cellsOf f0.type = 1) (c1 : P.cellsOf f1.type = 1) (t0 : P.underlying f0.type = some (.int .i64)) (t1 : P.underlying f1.type = some (.int .i64)) (hb : P.bytesOf e = 16) :
    Opens enc P w base held t RdP (fun ms => 16 * ms.length ≤ reachBytes ∧ ∀ m ∈ ms, (Lit.int .i64 m.1).wf = true ∧ (Lit.int .i64 m.2).wf = true) := fun fuel v x h hfit => by
  rcases open_slice_pairs ht he ce o0 o1 c0 c1 h with ⟨hcs, _⟩ | ⟨a, len, cap, m, n, V0, V1, D0, D1, P0, P1, hcs, _, hl, hm, hmm, hx, hel⟩
  · obtain rfl : v = .slice none 0 0 := by simpa using hcs
    exact ⟨[], ⟨none, 0, rfl, Nat.le_refl _, by simp [maxLen], fun i u hu => by simp at hu⟩, by simp, by simp⟩
  · obtain rfl : v = .slice (some a) len cap := by simpa using hcs
    subst hx
    have hml : len ≤ m := by rw [hmm]; split <;> omega
    obtain ⟨f1', _⟩ := Fit.slice ht hfit
    obtain ⟨Y, hY⟩ := choose_lt (n := len) (p := fun i (y : Int × Int) => (V0 i = .int .i64 y.1 ∧ V1 i = .int .i64 y.2) ∧ (Lit.int .i64 y.1).wf = true ∧ (Lit.int .i64 y.2).wf = true) (fun i hi => by
      obtain ⟨_, _, g0, g1⟩ := hel i (by omega)
      obtain ⟨z0, k1, _, k3⟩ := DataW.trod_int t0 g0
      obtain ⟨z1, l1, _, l3⟩ := DataW.trod_int t1 g1
      exact ⟨(z0, z1), ⟨by simpa using k1, by simpa using l1⟩, k3, l3⟩)
    refine ⟨(List.range len).map Y, ⟨some a, cap, by simp, by simpa using hl, hm, ?_⟩, ?_, ?_⟩
    · intro i u hu
      obtain ⟨hi, hu⟩ := List.getElem?_eq_some_iff.1 hu
      simp at hi hu
      subst hu
      have h0 := (hel 0 (by omega)).1
      have hs : a.spot = none := by simpa [Addr.add] using World.cell?_spot h0
      obtain ⟨b, off, spot⟩ := a
      subst hs
      refine ⟨b, off, rfl, ?_, ?_⟩
      · have := (hel i (by omega)).1
        rw [(hY i hi).1.1] at this
        rwa [Addr.add_lit] at this
      · have := (hel i (by omega)).2.1
        rw [(hY i hi).1.2] at this
        rwa [Addr.add_lit] at this
    · rw [hb] at f1'; simp at f1'; simp; omega
    · intro y hy
      obtain ⟨i, hi, rfl⟩ := List.mem_map.1 hy
      exact (hY i (List.mem_range.1 hi)).2

end Go.Proofs.Ytdkalefepdlccaa
