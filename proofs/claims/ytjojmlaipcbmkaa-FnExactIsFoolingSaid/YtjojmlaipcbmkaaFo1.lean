/-
  Pairs of words: slices of structs of two strings, what they read as and what is owned of them; their sizes, copies and comparisons by the laws' own helpers.
-/
import Derived.Test.YtjojmlaipcbmkaaPr
import Derived.Test.YtjojmlaipcbmkaaStr1
import Derived.Test.YtjojmlaipcbmkaaArg
namespace Go.Proofs.Ytjojmlaipcbmkaa
open Go.RowKit Go.ChangeShapes Go.WideShapes Go.Deep Go.Joins

def fcell (m : ByteArray × ByteArray) : List Value := [.string m.1, .string m.2]
def fcells (ms : List (ByteArray × ByteArray)) : List Value := ms.flatMap fcell
theorem fcells_cons (m : ByteArray × ByteArray) (ms : List (ByteArray × ByteArray)) : fcells (m :: ms) = .string m.1 :: .string m.2 :: fcells ms := rfl
theorem fcells_len (ms : List (ByteArray × ByteArray)) : (fcells ms).length = ms.length * 2 := by
  induction ms with
  | nil => rfl
  | cons x r ih => rw [fcells_cons]; simp only [List.length_cons, ih]; omega
theorem fcells_get {ms : List (ByteArray × ByteArray)} {i : Nat} {m : ByteArray × ByteArray} (h : ms[i]? = some m) : (fcells ms)[i * 2]? = some (.string m.1) ∧ (fcells ms)[i * 2 + 1]? = some (.string m.2) := by
  induction ms generalizing i with
  | nil => simp at h
  | cons x r ih =>
    cases i with
    | zero => simp at h; subst h; simp [fcells_cons]
    | succ i =>
      simp at h
      have := ih h
      rw [show (i + 1) * 2 = i * 2 + 1 + 1 by omega, fcells_cons]
      simpa using this
theorem fcells_set {ms : List (ByteArray × ByteArray)} {i : Nat} (h : i < ms.length) (m : ByteArray × ByteArray) : ((fcells ms).set (i * 2) (.string m.1)).set (i * 2 + 1) (.string m.2) = fcells (ms.set i m) := by
  induction ms generalizing i with
  | nil => simp at h
  | cons x r ih =>
    cases i with
    | zero => simp [fcells_cons]
    | succ i =>
      simp at h
      rw [show (i + 1) * 2 = i * 2 + 1 + 1 by omega]
      simp only [fcells_cons, List.set_cons_succ]
      rw [ih h]

/-- The slice v reads in w as the pairs ms. -/
def RdF (w : World) (v : Value) (ms : List (ByteArray × ByteArray)) : Prop :=
  ∃ A cap, v = .slice A ms.length cap ∧ ms.length ≤ cap ∧ cap ≤ maxLen ∧
    ∀ i m, ms[i]? = some m → ∃ b off, A = some ⟨b, off, none⟩ ∧ w.cell? ⟨b, off + i * 2, none⟩ = some (.string m.1) ∧ w.cell? ⟨b, off + i * 2 + 1, none⟩ = some (.string m.2)
theorem keepsF : Keeps RdF := fun w w' v x h hb => by
  obtain ⟨A, cap, rfl, h1, h2, h3⟩ := h
  refine ⟨A, cap, rfl, h1, h2, fun i u hu => ?_⟩
  obtain ⟨b, off, hA, hc, hd⟩ := h3 i u hu
  exact ⟨b, off, hA, below_keep hb hc, below_keep hb hd⟩
def RdFF : World → Value → List (List (ByteArray × ByteArray)) → Prop := RdL RdF
theorem keepsFF : Keeps RdFF := keepsL keepsF
theorem RdF.open {w : World} {v : Value} {ms : List (ByteArray × ByteArray)} (h : RdF w v ms) :
    ∃ A cap, v = .slice A ms.length cap ∧ ms.length ≤ cap ∧ cap ≤ maxLen ∧ ∀ i, i < ms.length → ∃ b off x y, A = some ⟨b, off, none⟩ ∧ ms[i]? = some (x, y) ∧ w.cell? ⟨b, off + i * 2, none⟩ = some (.string x) ∧ w.cell? ⟨b, off + i * 2 + 1, none⟩ = some (.string y) := by
  obtain ⟨A, cap, rfl, h1, h2, h3⟩ := h
  refine ⟨A, cap, rfl, h1, h2, fun i hi => ?_⟩
  obtain ⟨b, off, hA, hc, hd⟩ := h3 i ms[i] (List.getElem?_eq_getElem hi)
  exact ⟨b, off, ms[i].1, ms[i].2, hA, List.getElem?_eq_getElem hi, hc, hd⟩
theorem RdF.shape {w : World} {v : Value} {ms : List (ByteArray × ByteArray)} (h : RdF w v ms) : ∃ B c, v = .slice B ms.length c := by
  obtain ⟨A, cap, rfl, _⟩ := h; exact ⟨_, _, rfl⟩

/-- A slice of pairs that the call owns. -/
def OwF (e : TypeId) (w : World) (lo : Nat) (v : Value) (ms : List (ByteArray × ByteArray)) (bs : List Nat) : Prop := w.ownsRow lo e 2 v ms.length (fcells ms) ∧ bs = blks v

theorem goodF (e : TypeId) : Good (OwF e) where
  same := fun ⟨h, hb⟩ hs => ⟨rows_same h (by rw [← hb]; exact hs), hb⟩
  other := fun u ⟨h, hb⟩ ha => ⟨ownsRow_setCell_other h (fun e => ha (by simp [hb, blks, e])) u, hb⟩
  below := fun ⟨h, hb⟩ k => ⟨rows_below h k, hb⟩
  mono := fun ⟨h, hb⟩ k => ⟨World.ownsRow.mono h k, hb⟩
  lt := fun ⟨h, hb⟩ k => World.ownsRow.lt h _ (by rw [hb] at k; simpa [blks] using k)
  nodup := fun ⟨_, hb⟩ => by rw [hb]; exact blks_nodup _

theorem OwF.nil_or {e : TypeId} {w : World} {lo : Nat} {v : Value} {ms : List (ByteArray × ByteArray)} {bs : List Nat} (h : OwF e w lo v ms bs) : (v = .slice none 0 0 ∧ ms = []) ∨ ∃ g cap, v = .slice (some ⟨g, 0, none⟩) ms.length cap ∧ bs = [g] ∧ ms.length ≤ cap ∧ cap ≤ maxLen := by
  obtain ⟨⟨_, ⟨rfl, h0⟩ | ⟨g, cap, cur, rfl, _, _, h1, h2, _⟩⟩, hb⟩ := h
  · exact .inl ⟨rfl, List.length_eq_zero_iff.1 h0⟩
  · exact .inr ⟨g, cap, rfl, hb, h1, h2⟩
theorem OwF.rd {e : TypeId} {w : World} {lo : Nat} {v : Value} {ms : List (ByteArray × ByteArray)} {bs : List Nat} (h : OwF e w lo v ms bs) : RdF w v ms := by
  rcases h.nil_or with ⟨rfl, rfl⟩ | ⟨g, cap, rfl, _, h1, h2⟩
  · exact ⟨none, 0, rfl, Nat.le_refl _, by simp [maxLen], fun i u hu => by simp at hu⟩
  · refine ⟨_, cap, rfl, h1, h2, fun i m hm => ⟨g, 0, rfl, ?_, ?_⟩⟩
    · have hi := (List.getElem?_eq_some_iff.1 hm).1
      rw [Nat.zero_add, h.1.cellAt (i * 2) (by omega)]
      exact (fcells_get hm).1
    · have hi := (List.getElem?_eq_some_iff.1 hm).1
      rw [Nat.zero_add, h.1.cellAt (i * 2 + 1) (by omega)]
      exact (fcells_get hm).2
theorem owF_shape {e : TypeId} {w : World} {lo : Nat} {v : Value} {ms : List (ByteArray × ByteArray)} {bs : List Nat} (h : OwF e w lo v ms bs) : ∃ B c, v = .slice B ms.length c := h.rd.shape
theorem Row.fpairs {w : World} {g : Nat} {e : TypeId} {ms : List (ByteArray × ByteArray)} (h : Row w g e (fcells ms)) {lo : Nat} (hb : lo ≤ g) (hm : ms.length ≤ maxLen) : OwF e w lo (.slice (some ⟨g, 0, none⟩) ms.length ms.length) ms [g] :=
  ⟨⟨fcells_len ms, .inr ⟨g, ms.length, (fcells ms).toArray, rfl, hb, h, Nat.le_refl _, hm, by simp [fcells_len], List.take_of_length_le (by simp [fcells_len])⟩⟩, rfl⟩
theorem OwF.stored {e : TypeId} {w : World} {lo g cap : Nat} {ms : List (ByteArray × ByteArray)} (h : OwF e w lo (.slice (some ⟨g, 0, none⟩) ms.length cap) ms [g]) {i : Nat} (hi : i < ms.length) (m : ByteArray × ByteArray) :
    OwF e ((w.setCell ⟨g, i * 2, none⟩ (.string m.1)).setCell ⟨g, i * 2 + 1, none⟩ (.string m.2)) lo (.slice (some ⟨g, 0, none⟩) (ms.set i m).length cap) (ms.set i m) [g] := by
  have h1 := (h.1.stored (i * 2) (.string m.1)).1
  have h2 := (h1.stored (i * 2 + 1) (.string m.2)).1
  rw [fcells_set hi m] at h2
  exact ⟨by simpa using h2, h.2⟩

theorem Row.madeFPairs (w : World) (n : Nat) (e : TypeId) : Row (w.alloc (.cells (madeCells #[.string (ByteArray.mk #[]), .string (ByteArray.mk #[])] (n * 2)) e)) w.heap.size e (fcells (List.replicate n (ByteArray.mk #[], ByteArray.mk #[]))) := by
  have e1 : madeCells #[Value.string (ByteArray.mk #[]), .string (ByteArray.mk #[])] (n * 2) = (fcells (List.replicate n (ByteArray.mk #[], ByteArray.mk #[]))).toArray := by
    have e2 : fcells (List.replicate n (ByteArray.mk #[], ByteArray.mk #[])) = List.replicate (n * 2) (.string (ByteArray.mk #[])) := by
      induction n with
      | zero => rfl
      | succ n ih => rw [List.replicate_succ, fcells_cons, ih, show (n + 1) * 2 = n * 2 + 1 + 1 by omega, List.replicate_succ, List.replicate_succ]
    rw [e2]
    apply Array.ext
    · simp [madeCells]
    · intro i h1 h2
      have : i % 2 = 0 ∨ i % 2 = 1 := by omega
      rcases this with h | h <;> simp [madeCells, h]
  rw [e1]
  exact heap_alloc_new w _

/-- A row of pairs that is being filled. -/
def partF (ms : List (ByteArray × ByteArray)) (k : Nat) : List (ByteArray × ByteArray) := ms.take k ++ List.replicate (ms.length - k) (ByteArray.mk #[], ByteArray.mk #[])
theorem partF_zero (ms : List (ByteArray × ByteArray)) : partF ms 0 = List.replicate ms.length (ByteArray.mk #[], ByteArray.mk #[]) := by simp [partF]
theorem partF_full {ms : List (ByteArray × ByteArray)} {k : Nat} (h : ¬ k < ms.length) : partF ms k = ms := by
  rw [partF, List.take_of_length_le (by omega), show ms.length - k = 0 by omega]; simp
theorem partF_len {ms : List (ByteArray × ByteArray)} {k : Nat} (h : k ≤ ms.length) : (partF ms k).length = ms.length := by simp [partF]; omega
theorem partF_get {ms : List (ByteArray × ByteArray)} {k : Nat} (h : k < ms.length) : (partF ms k)[k]? = some (ByteArray.mk #[], ByteArray.mk #[]) := by
  simp [partF, List.getElem?_append, List.getElem?_replicate, Nat.min_eq_left (Nat.le_of_lt h)]; omega
theorem partF_set {ms : List (ByteArray × ByteArray)} {k : Nat} {u : ByteArray × ByteArray} (h : ms[k]? = some u) : (partF ms k).set k u = partF ms (k + 1) := by
  have hk : k < ms.length := (List.getElem?_eq_some_iff.1 h).1
  have e : ms.length - k = (ms.length - (k + 1)) + 1 := by omega
  rw [partF, partF, List.set_append, if_neg (by simp; omega), List.take_add_one, h, e, List.replicate_succ]
  simp [Nat.min_eq_left (Nat.le_of_lt hk)]
theorem Row.fpairStored {w : World} {g : Nat} {e : TypeId} {ms : List (ByteArray × ByteArray)} (h : Row w g e (fcells ms)) {i : Nat} (hi : i < ms.length) (m : ByteArray × ByteArray) :
    Row ((w.setCell ⟨g, i * 2, none⟩ (.string m.1)).setCell ⟨g, i * 2 + 1, none⟩ (.string m.2)) g e (fcells (ms.set i m)) := by
  rw [← fcells_set hi m]
  exact (h.stored (i * 2) _).stored (i * 2 + 1) _

/-- What an argument of this kind is bounded by. -/
def FSmall (ms : List (ByteArray × ByteArray)) : Prop := 32 * ms.length ≤ 281474976710656 ∧ ∀ m ∈ ms, m.1.size ≤ 140737488351232 ∧ m.2.size ≤ 140737488351232
/-- An argument that is a slice of pairs of strings. -/
theorem opens_fpairs {H : Type} {enc : TypeId × Value → H} {P : Program} {w : World} {base : Nat} {held : Bool} {t e : TypeId} {f0 f1 : Field} (ht : P.underlying t = some (.slice e)) (he : P.underlying e = some (.struct #[f0, f1]))
    (ce : P.cellsOf e = 2) (o0 : f0.offset = 0) (o1 : f1.offset = 1) (c0 : P.cellsOf f0.type = 1) (c1 : P.cellsOf f1.type = 1) (t0 : P.underlying f0.type = some .string) (t1 : P.underlying f1.type = some .string) (hb : P.bytesOf e = 32) :
    Opens enc P w base held t RdF FSmall := fun fuel v x h hfit => by
  rcases open_slice_pairs ht he ce o0 o1 c0 c1 h with ⟨hcs, _⟩ | ⟨a, len, cap, m, n, V0, V1, D0, D1, P0, P1, hcs, _, hl, hm, hmm, hx, hel⟩
  · obtain rfl : v = .slice none 0 0 := by simpa using hcs
    exact ⟨[], ⟨none, 0, rfl, Nat.le_refl _, by simp [maxLen], fun i u hu => by simp at hu⟩, by simp [FSmall]⟩
  · obtain rfl : v = .slice (some a) len cap := by simpa using hcs
    subst hx
    have hml : len ≤ m := by rw [hmm]; split <;> omega
    obtain ⟨f1', f2'⟩ := Fit.slice ht hfit
    obtain ⟨Y, hY⟩ := choose_lt (n := len) (p := fun i (y : ByteArray × ByteArray) => (V0 i = .string y.1 ∧ V1 i = .string y.2) ∧ y.1.size ≤ 140737488351232 ∧ y.2.size ≤ 140737488351232) (fun i hi => by
      obtain ⟨_, _, g0, g1⟩ := hel i (by omega)
      obtain ⟨z0, k1, k2, _⟩ := DataW.trod_string t0 g0
      obtain ⟨z1, l1, l2, _⟩ := DataW.trod_string t1 g1
      have hfe := f2' _ (List.mem_map.2 ⟨i, List.mem_range.2 hi, rfl⟩)
      have e0 : D0 i = .lit (.string z0.data.toList) := congrArg Prod.fst k2
      have e1 : D1 i = .lit (.string z1.data.toList) := congrArg Prod.fst l2
      have q0 : Fit P f0.type (D0 i) := hfe.part he (j := 0) rfl rfl
      have q1 : Fit P f1.type (D1 i) := hfe.part he (j := 1) rfl rfl
      rw [e0] at q0
      rw [e1] at q1
      exact ⟨(z0, z1), ⟨by simpa using k1, by simpa using l1⟩, fit_string q0, fit_string q1⟩)
    refine ⟨(List.range len).map Y, ⟨some a, cap, by simp, by simpa using hl, hm, ?_⟩, ?_, ?_⟩
    · intro i u hu
      obtain ⟨hi, hu⟩ := List.getElem?_eq_some_iff.1 hu
      simp at hi hu
      subst hu
      have h0 := (hel 0 (by omega)).1
      have hs : a.spot = none := by simpa [Addr.add] using World.cell?_spot h0
      obtain ⟨b, off, spot⟩ := a
      subst hs
      refine ⟨b, off, rfl, ?_, ?_⟩
      · have := (hel i (by omega)).1
        rw [(hY i hi).1.1] at this
        rwa [Addr.add_lit] at this
      · have := (hel i (by omega)).2.1
        rw [(hY i hi).1.2] at this
        rwa [Addr.add_lit] at this
    · rw [hb] at f1'; unfold reachBytes at f1'; simp at f1'; simp; omega
    · intro y hy
      obtain ⟨i, hi, rfl⟩ := List.mem_map.1 hy
      exact (hY i (List.mem_range.1 hi)).2

theorem infoFooling : (Try.prog.info? 110).map (fun i => (i.zero, i.size, i.bytes)) = some (some (.agg #[.string (ByteArray.mk #[]), .string (ByteArray.mk #[])]), 2, 32) := by kernel_rfl

set_option maxHeartbeats 400000 in
theorem toFooling_any (x y : ByteArray) (w : World) :
    Calls Try.prog 97 #[.agg #[.string x, .string y]] w fun e w' => e = .returned (.agg #[.string x, .string y]) ∧ Below w.heap.size w w' := by
  go_enter Try.func97, Try.ntmps97
  go_wp2
  refine bodyPost_ret (v := .agg #[.string x, .string y]) (by simp [results, Try.results97, go_sem]) rfl ⟨rfl, ?_⟩
  exact ((below_alloc w _).alloc (by simp) _).alloc (by simp; omega) _

set_option maxHeartbeats 400000 in
theorem eqFooling_same (x y : ByteArray) (w : World) :
    Calls Try.prog 99 #[.agg #[.string x, .string y], .agg #[.string x, .string y]] w fun e w' => e = .returned (.bool true) ∧ Below w.heap.size w w' := by
  have hb : ∀ a b, Below w.heap.size w ((w.alloc a).alloc b) := fun a b => (below_alloc w a).alloc (by simp) b
  have n1 : (!(x.toList == x.toList)) = false := by simp
  have n2 : (!(y.toList == y.toList)) = false := by simp
  go_enter Try.func99, Try.ntmps99
  go_wp2
  go_ret
  exact ⟨rfl, hb _ _⟩

set_option maxHeartbeats 800000 in
theorem toFoolingS_own (v : Value) (xs : List (ByteArray × ByteArray)) (w : World) (h : RdF w v xs) (hr : 32 * xs.length ≤ 281474976710656) :
    Calls Try.prog 50 #[v] w fun e w' => ∃ u bs, e = .returned u ∧ OwF 110 w' w.heap.size u xs bs ∧ Below w.heap.size w w' := by
  obtain ⟨A, cap, rfl, h1, h2, h3⟩ := h.open
  unfold maxLen at h2
  have hmk := run_make_pairs (P := Try.prog) 71 110 (.string (ByteArray.mk #[])) (.string (ByteArray.mk #[])) 32 Try.underlying71 infoFooling .i64 .i64 xs.length hr (by omega)
  go_enter Try.func50, Try.ntmps50
  go_wp2
  clear hmk
  have hM := Row.madeFPairs w xs.length 110
  rw [← partF_zero] at hM
  go_loopw [4] (fun i wr => ∃ k : Nat, k ≤ xs.length ∧ i = .int .i64 k ∧ Below w.heap.size w wr ∧ Row wr w.heap.size 110 (fcells (partF xs k))) (fun i _ => xs.length - (intOf i).toNat)
  case atStart => exact ⟨0, Nat.zero_le _, rfl, below_alloc _ _, hM⟩
  case round =>
    clear hM
    obtain ⟨k, hk, rfl, hb, hR⟩ := hrel
    by_cases hlt : k < xs.length
    · obtain ⟨b, off, x, y, rfl, hx, hc0, hc1⟩ := h3 k hlt
      have hc0' := below_keep (hb.mono (Nat.le_refl _)) hc0
      have hc1' := below_keep (hb.mono (Nat.le_refl _)) hc1
      have i1 : (0 : Int) ≤ k := by omega
      have i2 : (k : Int) < xs.length := by omega
      have HH := Lib.hid (show _ ∧ _ ∧ _ from ⟨hb, hR, hx⟩)
      clear hb hR hx h3 hc0 hc1
      go_wp2_with fail
      refine (toFooling_any x y _).mono ?_
      rintro e w1 ⟨rfl, hB⟩
      obtain ⟨hb, hR, hx⟩ := HH.out
      have hR1 := hR.below hB hR.lt
      have hl := partF_len (Nat.le_of_lt hlt)
      have hg := fcells_get (partF_get hlt)
      have hd0 := (hR1.cell (k * 2)).trans hg.1
      have hd1 := (hR1.cell (k * 2 + 1)).trans hg.2
      have hf0 := hR1.free (k * 2)
      have hf1 := hR1.free (k * 2 + 1)
      have hS := hR1.fpairStored (i := k) (by rw [hl]; exact hlt) (x, y)
      rw [partF_set hx] at hS
      have HS := Lib.hid (show _ ∧ _ ∧ _ from ⟨hS, hb.trans (hB.mono hb.size), hR1.lt⟩)
      clear hS hR1 hR hb hB hx hl hg hc0' hc1' HH
      go_wp2
      obtain ⟨hS, hb, hlt2⟩ := HS.out
      go_roundw
      case rel => exact ⟨k + 1, by omega, by go_num, (hb.setCell (Nat.le_refl _) _).setCell (Nat.le_refl _) _, hS⟩
      case measure => simp [intOf]; omega
    · have hR' : Row wr w.heap.size 110 (fcells xs) := by rw [partF_full hlt] at hR; exact hR
      have HR := Lib.hid hR'
      clear hR hR'
      go_wp2
      go_ret
      exact ⟨_, _, rfl, HR.out.fpairs (Nat.le_refl _) (by unfold maxLen; omega), hb⟩


set_option maxHeartbeats 800000 in
theorem eqFo_arg (v u : Value) (xs : List (ByteArray × ByteArray)) (w : World) (h : RdF w v xs) (hu : RdF w u xs) :
    Calls Try.prog 52 #[v, u] w fun e w' => e = .returned (.bool true) ∧ Below w.heap.size w w' := by
  obtain ⟨A, cap, rfl, h1, h2, h3⟩ := h.open
  obtain ⟨B, cap', rfl, k1, k2, k3⟩ := hu.open
  unfold maxLen at h2 k2
  have hl' : ((xs.length : Int) != (xs.length : Int)) = false := by simp
  clear h hu
  go_enter Try.func52, Try.ntmps52
  go_wp2
  go_loopw [5] (fun i wr => ∃ k : Nat, k ≤ xs.length ∧ i = .int .i64 k ∧ Below w.heap.size w wr) (fun i _ => xs.length - (intOf i).toNat)
  case atStart => exact ⟨0, Nat.zero_le _, rfl, Below.refl _ _⟩
  case round =>
    obtain ⟨k, hk, rfl, hb⟩ := hrel
    have HB := Lib.hid hb
    by_cases hlt : k < xs.length
    · obtain ⟨b, off, x, y, rfl, hx, hc0, hc1⟩ := h3 k hlt
      obtain ⟨b', off', x', y', rfl, hy, hd0, hd1⟩ := k3 k hlt
      obtain ⟨e1, e2⟩ : x = x' ∧ y = y' := by have := Option.some.inj (hx.symm.trans hy); simpa using this
      subst e1; subst e2
      have gc0 := below_keep hb hc0
      have gc1 := below_keep hb hc1
      have gd0 := below_keep hb hd0
      have gd1 := below_keep hb hd1
      clear hc0 hc1 hd0 hd1 h3 k3 hb hx hy
      have i1 : (0 : Int) ≤ k := by omega
      have i2 : (k : Int) < xs.length := by omega
      go_wp2_with fail
      go_region_held3 (fun W => W.cell? ⟨b, off + k * 2, none⟩ = some (.string x) ∧ W.cell? ⟨b, off + k * 2 + 1, none⟩ = some (.string y) ∧ W.cell? ⟨b', off' + k * 2, none⟩ = some (.string x) ∧ W.cell? ⟨b', off' + k * 2 + 1, none⟩ = some (.string y))
        (first | go_keep | (go_split_ands; refine ⟨?_, ?_, ?_, ?_⟩ <;> exact below_keep hbk (by assumption)))
        (first
          | (go_at_call 99; (with_reducible refine (eqFooling_same _ _ _).mono ?_); rintro e wz ⟨rfl, hbk⟩; have HCz := Lib.hid (show Below wr.heap.size wr wz from below_step (by first | exact Below.refl _ _ | exact below_drew _ | exact below_drewN (Below.refl _ _) _ | exact (below_drewN (Below.refl _ _) _).drew) hbk)))
      go_wp2
      go_roundw
      case rel => exact ⟨k + 1, by omega, by go_num, below_step HB.out HCz.out⟩
      case measure => simp [intOf]; omega
    · clear hb h3 k3
      go_wp2
      go_ret
      exact ⟨rfl, HB.out⟩

set_option maxHeartbeats 400000 in
theorem szFooling_tot (x y : ByteArray) (left : Int) (w : World) (hx : x.size ≤ 140737488351232) (hy : y.size ≤ 140737488351232) (h0 : 0 ≤ left) (hb : left ≤ 4611686018427387904) :
    Calls Try.prog 94 #[.agg #[.string x, .string y], .int .i64 left] w fun e w' => (∃ n : Int, e = .returned (.int .i64 n) ∧ (n < 0 ∨ n ≤ left)) ∧ Below w.heap.size w w' := by
  by_cases hl : left - (x.size : Int) < 0
  · go_enter Try.func94, Try.ntmps94
    go_wp2
    go_ret
    exact ⟨⟨_, rfl, .inl (by decide)⟩, below_alloc _ _⟩
  · by_cases hl2 : left - (x.size : Int) - (y.size : Int) < 0
    · go_enter Try.func94, Try.ntmps94
      go_wp2
      go_ret
      exact ⟨⟨_, rfl, .inl (by decide)⟩, below_alloc _ _⟩
    · go_enter Try.func94, Try.ntmps94
      go_wp2
      go_ret
      exact ⟨⟨_, rfl, .inr (by omega)⟩, below_alloc _ _⟩

set_option maxHeartbeats 800000 in
theorem szFo_arg (v : Value) (xs : List (ByteArray × ByteArray)) (left : Int) (w : World) (h : RdF w v xs) (hs : FSmall xs) (h0 : 0 ≤ left) (hb : left ≤ 4611686018427387904) :
    Calls Try.prog 48 #[v, .int .i64 left] w fun e w' => (∃ n : Int, e = .returned (.int .i64 n) ∧ (n < 0 ∨ n + (xs.length : Int) ≤ left)) ∧ Below w.heap.size w w' := by
  obtain ⟨A, cap, rfl, h1, h2, h3⟩ := h.open
  unfold maxLen at h2
  have hs2 := hs.2
  clear h hs
  by_cases hl : left - (xs.length : Int) < 0
  · clear h3
    go_enter Try.func48, Try.ntmps48
    go_wp2
    go_ret
    exact ⟨⟨_, rfl, .inl (by decide)⟩, Below.refl _ _⟩
  · go_enter Try.func48, Try.ntmps48
    go_wp2
    go_loopw [1, 5] (fun q i wr => ∃ k : Nat, ∃ m : Int, k ≤ xs.length ∧ i = .int .i64 k ∧ q = .int .i64 m ∧ 0 ≤ m ∧ m + (xs.length : Int) ≤ left ∧ Below w.heap.size w wr) (fun _ i _ => xs.length - (intOf i).toNat)
    case atStart => exact ⟨0, _, Nat.zero_le _, rfl, rfl, by omega, by omega, Below.refl _ _⟩
    case round =>
      obtain ⟨k, m, hk, rfl, rfl, hm0, hm, hq⟩ := hrel
      have HQ := Lib.hid hq
      by_cases hlt : k < xs.length
      · obtain ⟨b, off, x, y, rfl, hx, hc0, hc1⟩ := h3 k hlt
        have hc0' := below_keep hq hc0
        have hc1' := below_keep hq hc1
        have hxs := hs2 _ (List.mem_of_getElem? hx)
        have HS := Lib.hid (szFooling_tot x y m wr hxs.1 hxs.2 hm0 (by omega))
        have i1 : (0 : Int) ≤ k := by omega
        have i2 : (k : Int) < xs.length := by omega
        clear hc0 hc1 h3 hx hq hs2 hxs
        go_wp2_with fail
        refine HS.out.mono ?_
        rintro e w1 ⟨⟨n, rfl, hn⟩, hb1⟩
        have HB1 := Lib.hid (below_step HQ.out hb1)
        have HN := Lib.hid hn
        clear hb1 hn HS
        by_cases hneg : n < 0
        · go_wp2
          go_ret
          exact ⟨⟨_, rfl, .inl (by decide)⟩, HB1.out⟩
        · go_wp2
          go_roundw
          case rel => exact ⟨k + 1, n, by omega, by go_num, rfl, by omega, by have := HN.out; omega, HB1.out⟩
          case measure => simp [intOf]; omega
      · clear hq h3
        go_wp2
        go_ret
        exact ⟨⟨_, rfl, .inr (by omega)⟩, HQ.out⟩
theorem toFo_arg (v : Value) (xs : List (ByteArray × ByteArray)) (w : World) (h : RdF w v xs) (hs : FSmall xs) :
    Calls Try.prog 50 #[v] w fun e w' => ∃ u bs, e = .returned u ∧ OwF 110 w' w.heap.size u xs bs ∧ Below w.heap.size w w' := toFoolingS_own v xs w h hs.1
end Go.Proofs.Ytjojmlaipcbmkaa
