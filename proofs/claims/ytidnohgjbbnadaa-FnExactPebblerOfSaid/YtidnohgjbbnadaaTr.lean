/-
  Slices of structs of three integers: what they read as, what a call owns of them, and how they are made.
-/
import Derived.Test.YtidnohgjbbnadaaPr
namespace Go.Proofs.Ytidnohgjbbnadaa
open Go.RowKit Go.ChangeShapes Go.WideShapes Go.Deep Go.Joins

abbrev Tri := Int × Int × Int
def tcell (m : Tri) : List Value := [.int .i64 m.1, .int .i64 m.2.1, .int .i64 m.2.2]
def tcells (ms : List Tri) : List Value := ms.flatMap tcell
theorem tcells_cons (m : Tri) (ms : List Tri) : tcells (m :: ms) = .int .i64 m.1 :: .int .i64 m.2.1 :: .int .i64 m.2.2 :: tcells ms := rfl
theorem tcells_len (ms : List Tri) : (tcells ms).length = ms.length * 3 := by
  induction ms with
  | nil => rfl
  | cons x r ih => rw [tcells_cons]; simp only [List.length_cons, ih]; omega
theorem tcells_get {ms : List Tri} {i : Nat} {m : Tri} (h : ms[i]? = some m) : (tcells ms)[i * 3]? = some (.int .i64 m.1) ∧ (tcells ms)[i * 3 + 1]? = some (.int .i64 m.2.1) ∧ (tcells ms)[i * 3 + 2]? = some (.int .i64 m.2.2) := by
  induction ms generalizing i with
  | nil => simp at h
  | cons x r ih =>
    cases i with
    | zero => simp at h; subst h; simp [tcells_cons]
    | succ i =>
      simp at h
      have := ih h
      rw [show (i + 1) * 3 = i * 3 + 1 + 1 + 1 by omega, tcells_cons]
      simpa using this
theorem tcells_set {ms : List Tri} {i : Nat} (h : i < ms.length) (m : Tri) : (((tcells ms).set (i * 3) (.int .i64 m.1)).set (i * 3 + 1) (.int .i64 m.2.1)).set (i * 3 + 2) (.int .i64 m.2.2) = tcells (ms.set i m) := by
  induction ms generalizing i with
  | nil => simp at h
  | cons x r ih =>
    cases i with
    | zero => simp [tcells_cons]
    | succ i =>
      simp at h
      rw [show (i + 1) * 3 = i * 3 + 1 + 1 + 1 by omega, show i * 3 + 1 + 1 + 1 + 1 = i * 3 + 1 + 1 + 1 + 1 by rfl, show i * 3 + 1 + 1 + 1 + 2 = i * 3 + 2 + 1 + 1 + 1 by omega]
      simp only [tcells_cons, List.set_cons_succ]
      rw [ih h]
theorem tcells_append (a b : List Tri) : tcells (a ++ b) = tcells a ++ tcells b := by simp [tcells]

/-- The slice v reads in w as the triples ms. -/
def Rd3 (w : World) (v : Value) (ms : List Tri) : Prop :=
  ∃ A cap, v = .slice A ms.length cap ∧ ms.length ≤ cap ∧ cap ≤ maxLen ∧
    ∀ i m, ms[i]? = some m → ∃ b off, A = some ⟨b, off, none⟩ ∧ w.cell? ⟨b, off + i * 3, none⟩ = some (.int .i64 m.1) ∧ w.cell? ⟨b, off + i * 3 + 1, none⟩ = some (.int .i64 m.2.1) ∧ w.cell? ⟨b, off + i * 3 + 2, none⟩ = some (.int .i64 m.2.2)
theorem keeps3 : Keeps Rd3 := fun w w' v x h hb => by
  obtain ⟨A, cap, rfl, h1, h2, h3⟩ := h
  refine ⟨A, cap, rfl, h1, h2, fun i u hu => ?_⟩
  obtain ⟨b, off, hA, hc, hd, he⟩ := h3 i u hu
  exact ⟨b, off, hA, below_keep hb hc, below_keep hb hd, below_keep hb he⟩
def Rd33 : World → Value → List (List Tri) → Prop := RdL Rd3
theorem keeps33 : Keeps Rd33 := keepsL keeps3
theorem Rd3.open {w : World} {v : Value} {ms : List Tri} (h : Rd3 w v ms) :
    ∃ A cap, v = .slice A ms.length cap ∧ ms.length ≤ cap ∧ cap ≤ maxLen ∧ ∀ i, i < ms.length → ∃ b off x y z, A = some ⟨b, off, none⟩ ∧ ms[i]? = some (x, y, z) ∧ w.cell? ⟨b, off + i * 3, none⟩ = some (.int .i64 x) ∧ w.cell? ⟨b, off + i * 3 + 1, none⟩ = some (.int .i64 y) ∧ w.cell? ⟨b, off + i * 3 + 2, none⟩ = some (.int .i64 z) := by
  obtain ⟨A, cap, rfl, h1, h2, h3⟩ := h
  refine ⟨A, cap, rfl, h1, h2, fun i hi => ?_⟩
  obtain ⟨b, off, hA, hc, hd, he⟩ := h3 i ms[i] (List.getElem?_eq_getElem hi)
  exact ⟨b, off, ms[i].1, ms[i].2.1, ms[i].2.2, hA, List.getElem?_eq_getElem hi, hc, hd, he⟩
theorem Rd3.shape {w : World} {v : Value} {ms : List Tri} (h : Rd3 w v ms) : ∃ B c, v = .slice B ms.length c := by
  obtain ⟨A, cap, rfl, _⟩ := h; exact ⟨_, _, rfl⟩

/-- A slice of triples that the call owns. -/
def Ow3 (e : TypeId) (w : World) (lo : Nat) (v : Value) (ms : List Tri) (bs : List Nat) : Prop := w.ownsRow lo e 3 v ms.length (tcells ms) ∧ bs = blks v
theorem good3 (e : TypeId) : Good (Ow3 e) where
  same := fun ⟨h, hb⟩ hs => ⟨rows_same h (by rw [← hb]; exact hs), hb⟩
  other := fun u ⟨h, hb⟩ ha => ⟨ownsRow_setCell_other h (fun e => ha (by simp [hb, blks, e])) u, hb⟩
  below := fun ⟨h, hb⟩ k => ⟨rows_below h k, hb⟩
  mono := fun ⟨h, hb⟩ k => ⟨World.ownsRow.mono h k, hb⟩
  lt := fun ⟨h, hb⟩ k => World.ownsRow.lt h _ (by rw [hb] at k; simpa [blks] using k)
  nodup := fun ⟨_, hb⟩ => by rw [hb]; exact blks_nodup _
theorem Ow3.nil_or {e : TypeId} {w : World} {lo : Nat} {v : Value} {ms : List Tri} {bs : List Nat} (h : Ow3 e w lo v ms bs) : (v = .slice none 0 0 ∧ ms = []) ∨ ∃ g cap, v = .slice (some ⟨g, 0, none⟩) ms.length cap ∧ bs = [g] ∧ ms.length ≤ cap ∧ cap ≤ maxLen := by
  obtain ⟨⟨_, ⟨rfl, h0⟩ | ⟨g, cap, cur, rfl, _, _, h1, h2, _⟩⟩, hb⟩ := h
  · exact .inl ⟨rfl, List.length_eq_zero_iff.1 h0⟩
  · exact .inr ⟨g, cap, rfl, hb, h1, h2⟩
theorem Ow3.rd {e : TypeId} {w : World} {lo : Nat} {v : Value} {ms : List Tri} {bs : List Nat} (h : Ow3 e w lo v ms bs) : Rd3 w v ms := by
  rcases h.nil_or with ⟨rfl, rfl⟩ | ⟨g, cap, rfl, _, h1, h2⟩
  · exact ⟨none, 0, rfl, Nat.le_refl _, by simp [maxLen], fun i u hu => by simp at hu⟩
  · refine ⟨_, cap, rfl, h1, h2, fun i m hm => ?_⟩
    have hi := (List.getElem?_eq_some_iff.1 hm).1
    refine ⟨g, 0, rfl, ?_, ?_, ?_⟩
    · rw [Nat.zero_add, h.1.cellAt (i * 3) (by omega)]; exact (tcells_get hm).1
    · rw [Nat.zero_add, h.1.cellAt (i * 3 + 1) (by omega)]; exact (tcells_get hm).2.1
    · rw [Nat.zero_add, h.1.cellAt (i * 3 + 2) (by omega)]; exact (tcells_get hm).2.2
theorem ow3_shape {e : TypeId} {w : World} {lo : Nat} {v : Value} {ms : List Tri} {bs : List Nat} (h : Ow3 e w lo v ms bs) : ∃ B c, v = .slice B ms.length c := h.rd.shape
theorem Row.triples {w : World} {g : Nat} {e : TypeId} {ms : List Tri} (h : Row w g e (tcells ms)) {lo : Nat} (hb : lo ≤ g) (hm : ms.length ≤ maxLen) : Ow3 e w lo (.slice (some ⟨g, 0, none⟩) ms.length ms.length) ms [g] :=
  ⟨⟨tcells_len ms, .inr ⟨g, ms.length, (tcells ms).toArray, rfl, hb, h, Nat.le_refl _, hm, by simp [tcells_len], List.take_of_length_le (by simp [tcells_len])⟩⟩, rfl⟩
theorem Ow3.stored {e : TypeId} {w : World} {lo g cap : Nat} {ms : List Tri} (h : Ow3 e w lo (.slice (some ⟨g, 0, none⟩) ms.length cap) ms [g]) {i : Nat} (hi : i < ms.length) (m : Tri) :
    Ow3 e (((w.setCell ⟨g, i * 3, none⟩ (.int .i64 m.1)).setCell ⟨g, i * 3 + 1, none⟩ (.int .i64 m.2.1)).setCell ⟨g, i * 3 + 2, none⟩ (.int .i64 m.2.2)) lo (.slice (some ⟨g, 0, none⟩) (ms.set i m).length cap) (ms.set i m) [g] := by
  have h1 := (h.1.stored (i * 3) (.int .i64 m.1)).1
  have h2 := (h1.stored (i * 3 + 1) (.int .i64 m.2.1)).1
  have h3 := (h2.stored (i * 3 + 2) (.int .i64 m.2.2)).1
  rw [tcells_set hi m] at h3
  exact ⟨by simpa using h3, h.2⟩
theorem Ow3.snoc {e : TypeId} {w' : World} {lo : Nat} {v' : Value} {n : Nat} {x' : List Tri} {us : List Value} (h : w'.ownsRow lo e 3 v' n us) (hu : us = tcells x') (hn : n = x'.length) {g cap m : Nat} (hv : v' = .slice (some ⟨g, 0, none⟩) m cap) : Ow3 e w' lo v' x' [g] := by
  subst hu; subst hn; subst hv
  exact ⟨h, rfl⟩
theorem ow3_nil (e : TypeId) (w : World) (lo : Nat) : Ow3 e w lo (.slice none 0 0) [] [] := ⟨World.ownsRow_nil w lo e 3, rfl⟩

/-- Two triples are equal, in a word that the walk leaves alone. -/
def eqTri (a b : Tri) : Bool := decide (a = b)

/-- make of triples: a row of zeros. -/
theorem run_make_triples {P : Program} (t e : TypeId) (z0 z1 z2 : Value) (bytes : Nat) (ht : P.underlying t = some (.slice e)) (hinfo : (P.info? e).map (fun i => (i.zero, i.size, i.bytes)) = some (some (.agg #[z0, z1, z2]), 3, bytes))
    (kl kc : IntKind) (n : Nat) (hbytes : bytes * n ≤ 281474976710656) (h63 : n ≤ 9223372036854775807) (w : World) :
    (Instr.makeSlice t (.int kl (n : Int)) (.int kc (n : Int))).run P w = .ok (.slice (some ⟨w.heap.size, 0, none⟩) n n) (w.alloc (.cells (madeCells #[z0, z1, z2] (n * 3)) e)) := by
  obtain ⟨i, hi, hzz⟩ := Option.map_eq_some_iff.1 hinfo
  simp only [Prod.mk.injEq] at hzz
  obtain ⟨hz, hs, hb⟩ := hzz
  have hb' : (i.bytes : Int) * (n : Int) ≤ 281474976710656 := by
    have h : ((i.bytes * n : Nat) : Int) ≤ 281474976710656 := by rw [hb]; omega
    rwa [Int.natCast_mul] at h
  have hr := run_make (P := P) w t e i _ ht hi hz kl kc n n (by omega) (Int.le_refl _) hb' (by omega)
  simp only [Int.toNat_natCast, hs] at hr
  exact hr
theorem Row.madeTriples (w : World) (n : Nat) (e : TypeId) : Row (w.alloc (.cells (madeCells #[.int .i64 0, .int .i64 0, .int .i64 0] (n * 3)) e)) w.heap.size e (tcells (List.replicate n (0, 0, 0))) := by
  have e1 : madeCells #[Value.int .i64 0, .int .i64 0, .int .i64 0] (n * 3) = (tcells (List.replicate n (0, 0, 0))).toArray := by
    have e2 : tcells (List.replicate n (0, 0, 0)) = List.replicate (n * 3) (.int .i64 0) := by
      induction n with
      | zero => rfl
      | succ n ih => rw [List.replicate_succ, tcells_cons, ih, show (n + 1) * 3 = n * 3 + 1 + 1 + 1 by omega, List.replicate_succ, List.replicate_succ, List.replicate_succ]
    rw [e2]
    apply Array.ext
    · simp [madeCells]
    · intro i h1 h2
      have : i % 3 = 0 ∨ i % 3 = 1 ∨ i % 3 = 2 := by omega
      rcases this with h | h | h <;> simp [madeCells, h]
  rw [e1]
  exact heap_alloc_new w _

/-- A row of triples that is being filled. -/
def part3 (ms : List Tri) (k : Nat) : List Tri := ms.take k ++ List.replicate (ms.length - k) (0, 0, 0)
theorem part3_zero (ms : List Tri) : part3 ms 0 = List.replicate ms.length (0, 0, 0) := by simp [part3]
theorem part3_full {ms : List Tri} {k : Nat} (h : ¬ k < ms.length) : part3 ms k = ms := by
  rw [part3, List.take_of_length_le (by omega), show ms.length - k = 0 by omega]; simp
theorem part3_len {ms : List Tri} {k : Nat} (h : k ≤ ms.length) : (part3 ms k).length = ms.length := by simp [part3]; omega
theorem part3_get {ms : List Tri} {k : Nat} (h : k < ms.length) : (part3 ms k)[k]? = some (0, 0, 0) := by
  simp [part3, List.getElem?_append, List.getElem?_replicate, Nat.min_eq_left (Nat.le_of_lt h)]; omega
theorem part3_set {ms : List Tri} {k : Nat} {u : Tri} (h : ms[k]? = some u) : (part3 ms k).set k u = part3 ms (k + 1) := by
  have hk : k < ms.length := (List.getElem?_eq_some_iff.1 h).1
  have e : ms.length - k = (ms.length - (k + 1)) + 1 := by omega
  rw [part3, part3, List.set_append, if_neg (by simp; omega), List.take_add_one, h, e, List.replicate_succ]
  simp [Nat.min_eq_left (Nat.le_of_lt hk)]
theorem Row.tripleStored {w : World} {g : Nat} {e : TypeId} {ms : List Tri} (h : Row w g e (tcells ms)) {i : Nat} (hi : i < ms.length) (m : Tri) :
    Row (((w.setCell ⟨g, i * 3, none⟩ (.int .i64 m.1)).setCell ⟨g, i * 3 + 1, none⟩ (.int .i64 m.2.1)).setCell ⟨g, i * 3 + 2, none⟩ (.int .i64 m.2.2)) g e (tcells (ms.set i m)) := by
  rw [← tcells_set hi m]
  exact ((h.stored (i * 3) _).stored (i * 3 + 1) _).stored (i * 3 + 2) _

/-- Consecutive numbers in the place of triples. -/
def mk3 (k : Int) (xs : List Tri) : List Tri := (List.range xs.length).map fun (i : Nat) => (k + 3 * (i : Int), k + 3 * (i : Int) + 1, k + 3 * (i : Int) + 1 + 1)
theorem mk3_len (k : Int) (xs : List Tri) : (mk3 k xs).length = xs.length := by simp [mk3]
theorem mk3_get {k : Int} {i : Nat} {xs : List Tri} (h : i < xs.length) : (mk3 k xs)[i]? = some (k + 3 * (i : Int), k + 3 * (i : Int) + 1, k + 3 * (i : Int) + 1 + 1) := by simp [mk3, h]

/-- An argument that is a slice of triples. -/
theorem opens_triples {H : Type} {enc : TypeId × Value → H} {P : Program} {w : World} {base : Nat} {held : Bool} {t e : TypeId} {f0 f1 f2 : Field} (ht : P.underlying t = some (.slice e)) (he : P.underlying e = some (.struct #[f0, f1, f2]))
    (ce : P.cellsOf e = 3) (o0 : f0.offset = 0) (o1 : f1.offset = 1) (o2 : f2.offset = 2) (c0 : P.cellsOf f0.type = 1) (c1 : P.cellsOf f1.type = 1) (c2 : P.cellsOf f2.type = 1) (t0 : P.underlying f0.type = some (.int .i64)) (t1 : P.underlying f1.type = some (.int .i64)) (t2 : P.underlying f2.type = some (.int .i64)) (hb : P.bytesOf e = 24) :
    Opens enc P w base held t Rd3 (fun ms => 24 * ms.length ≤ reachBytes) := fun fuel v x h hfit => by
  rcases open_slice ht h with ⟨hcs, _⟩ | ⟨a, len, cap, m, n, D, Pl, hcs, _, hl, hm, hmm, hx, hel⟩
  · obtain rfl : v = .slice none 0 0 := by simpa using hcs
    exact ⟨[], ⟨none, 0, rfl, Nat.le_refl _, by simp [maxLen], fun i u hu => by simp at hu⟩, by simp⟩
  · obtain rfl : v = .slice (some a) len cap := by simpa using hcs
    subst hx
    have hml : len ≤ m := by rw [hmm]; split <;> omega
    obtain ⟨f1', _⟩ := Fit.slice ht hfit
    obtain ⟨Y, hY⟩ := choose_lt (n := len) (p := fun i (y : Tri) => w.cell? (a.add (i * 3)) = some (.int .i64 y.1) ∧ w.cell? (a.add (i * 3 + 1)) = some (.int .i64 y.2.1) ∧ w.cell? (a.add (i * 3 + 2)) = some (.int .i64 y.2.2)) (fun i hi => by
      obtain ⟨cs', h1, h2⟩ := hel i (by omega)
      rw [ce] at h1
      obtain ⟨_, hlen, hcell⟩ := World.cells?_some h1
      obtain ⟨xs, k, hk, hxy, _, hxl, hf⟩ := DataW.trod_struct he h2
      match xs, hxl, cs', hlen with
      | [y0, y1, y2], _, [v0, v1, v2], _ =>
        have g0 := hf 0 f0 rfl
        have g1 := hf 1 f1 rfl
        have g2 := hf 2 f2 rfl
        simp [o0, o1, o2, c0, c1, c2] at g0 g1 g2
        have e0 := hcell 0 (by omega)
        have e1 := hcell 1 (by omega)
        have e2 := hcell 2 (by omega)
        rw [add_add] at e0 e1 e2
        obtain ⟨z0, k1, _, k3⟩ := DataW.trod_int t0 g0
        obtain ⟨z1, l1, _, l3⟩ := DataW.trod_int t1 g1
        obtain ⟨z2, q1, _, q3⟩ := DataW.trod_int t2 g2
        obtain rfl : v0 = .int .i64 z0 := by simpa using k1
        obtain rfl : v1 = .int .i64 z1 := by simpa using l1
        obtain rfl : v2 = .int .i64 z2 := by simpa using q1
        exact ⟨(z0, z1, z2), by simpa using e0, by simpa using e1, by simpa using e2⟩)
    refine ⟨(List.range len).map Y, ⟨some a, cap, by simp, by simpa using hl, hm, ?_⟩, ?_⟩
    · intro i u hu
      obtain ⟨hi, hu⟩ := List.getElem?_eq_some_iff.1 hu
      simp at hi hu
      subst hu
      have h0 := (hY 0 (by omega)).1
      have hs : a.spot = none := by simpa [Addr.add] using World.cell?_spot h0
      obtain ⟨b, off, spot⟩ := a
      subst hs
      have h1 := hY i hi
      rw [Addr.add_lit, Addr.add_lit, Addr.add_lit] at h1
      exact ⟨b, off, rfl, h1⟩
    · rw [hb] at f1'; simp at f1'; simp; omega
end Go.Proofs.Ytidnohgjbbnadaa
