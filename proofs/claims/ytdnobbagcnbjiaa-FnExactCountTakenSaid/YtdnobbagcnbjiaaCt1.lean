/-
  How many words lead to each state: the numbers behind one letter more, and the program's 'oneLetterOn'.
-/
import Derived.Test.YtdnobbagcnbjiaaOpp
namespace Go.Proofs.Ytdnobbagcnbjiaa
open Go.RowKit

/-- One word more at the state t, x times. -/
def addAt (x : Int) (nx : List Int) (t : Int) : List Int := nx.set t.toNat (wrap64 (nx.getD t.toNat 0 + x))
def rowTo (x : Int) (row : List Int) (nx : List Int) (k : Nat) : List Int := (row.take k).foldl (addAt x) nx
def rowsTo (rows : List (List Int)) (now nx : List Int) : Nat → List Int
  | 0 => nx
  | s + 1 => rowTo (now.getD s 0) (rows.getD s []) (rowsTo rows now nx s) (rows.getD s []).length
def zeros (n : Nat) : List Int := List.replicate n 0
def oneOn (rows : List (List Int)) (now : List Int) : List Int := rowsTo rows now (zeros now.length) rows.length

theorem addAt_len (x : Int) (nx : List Int) (t : Int) : (addAt x nx t).length = nx.length := by simp [addAt]
theorem rowTo_len (x : Int) (row nx : List Int) (k : Nat) : (rowTo x row nx k).length = nx.length := by
  unfold rowTo
  generalize row.take k = l
  induction l generalizing nx with
  | nil => rfl
  | cons t l ih => rw [List.foldl_cons, ih, addAt_len]
theorem rowsTo_len (rows : List (List Int)) (now nx : List Int) (s : Nat) : (rowsTo rows now nx s).length = nx.length := by
  induction s with
  | zero => rfl
  | succ s ih => rw [rowsTo, rowTo_len, ih]
theorem oneOn_len (rows : List (List Int)) (now : List Int) : (oneOn rows now).length = now.length := by rw [oneOn, rowsTo_len, zeros, List.length_replicate]
theorem rowTo_zero (x : Int) (row nx : List Int) : rowTo x row nx 0 = nx := by simp [rowTo]
theorem rowTo_succ {x : Int} {row nx : List Int} {k : Nat} {t : Int} (h : row[k]? = some t) : rowTo x row nx (k + 1) = addAt x (rowTo x row nx k) t := by
  rw [rowTo, take_succ_of h, List.foldl_append]; rfl
theorem rowsTo_succ {rows : List (List Int)} {now nx : List Int} {s : Nat} {row : List Int} {x : Int} (h : rows[s]? = some row) (hx : now[s]? = some x) : rowsTo rows now nx (s + 1) = rowTo x row (rowsTo rows now nx s) row.length := by
  rw [rowsTo, List.getD, List.getD, h, hx]; rfl
/-- The store that is one 'addAt'. -/
theorem addAt_set {x : Int} {nx : List Int} {t : Nat} {z : Int} (h : nx[t]? = some z) : (ints nx).set t (.int .i64 (wrap64 (z + x))) = ints (addAt x nx t) := by
  rw [addAt, List.getD, show ((t : Int).toNat) = t by simp, h]
  simp [ints, List.map_set]
theorem ints_get {xs : List Int} {i : Nat} {x : Int} (h : xs[i]? = some x) : (ints xs)[i]? = some (.int .i64 x) := by simp [ints, h]
theorem ints_zeros (n : Nat) : ints (zeros n) = List.replicate n (.int .i64 0) := by simp [ints, zeros]

set_option maxRecDepth 100000 in
set_option maxHeartbeats 1600000 in
theorem oneLetterOn_own (v u : Value) (r : RData) (ws : List Int) (w : World) (h : RdR w v r) (hu : RdI w u ws) (hok : OkR r) (hl : ws.length = r.acc.length) :
    Calls Try.prog 59 #[v, u] w fun e w' => ∃ g, e = .returned (.slice (some ⟨g, 0, none⟩) ws.length ws.length) ∧ Row w' g 2 (ints (oneOn r.next ws)) ∧ w.heap.size ≤ g ∧ Below w.heap.size w w' := by
  obtain ⟨L, S, acc, next⟩ := r
  obtain ⟨l1, l2, n1, n2, s1, s2, nl, hlen, hdest⟩ := hok
  simp only at l1 l2 n1 n2 s1 s2 nl hlen hdest hl
  obtain ⟨va, vn, rfl, ha, hn⟩ := h
  obtain ⟨A, ca, rfl⟩ := rdB_shape ha
  obtain ⟨B, cb, rfl, b1, b2, b3⟩ := RdL.open hn
  obtain ⟨C, cc, rfl, c1, c2, c3⟩ := hu.open
  unfold maxLen at b2 c2
  simp only at *
  have hmk := run_make_row' (P := Try.prog) 34 2 (.int .i64 0) 8 Try.underlying34 infoI64 rfl .i64 .i64 ws.length (by omega) (by omega)
  have HW := Lib.hid hl
  have HNL := Lib.hid nl
  have HL := Lib.hid hlen
  have HD := Lib.hid hdest
  have hx := Row.new w [.int .i64 L, .int .i64 S, .slice A acc.length ca, .slice B next.length cb] 27
  have HR := Lib.hid hx
  have HB := Lib.hid (below_alloc w (.cells #[.int .i64 L, .int .i64 S, .slice A acc.length ca, .slice B next.length cb] 27))
  clear ha hn hu hl nl hlen hdest hx
  go_enter Try.func59, Try.ntmps59
  go_wp2
  clear hmk
  have hM := Row.made (w.alloc (.cells #[.int .i64 L, .int .i64 S, .slice A acc.length ca, .slice B next.length cb] 27)) (.int .i64 0) ws.length 2
  rw [← ints_zeros] at hM
  have HM := Lib.hid hM
  clear hM
  go_loopw [16] (fun i wr => ∃ s : Nat, s ≤ next.length ∧ i = .int .i64 s ∧ Below w.heap.size w wr ∧ Row wr (w.heap.size + 1) 2 (ints (rowsTo next ws (zeros ws.length) s))) (fun i _ => next.length - (intOf i).toNat)
  case atStart => exact ⟨0, Nat.zero_le _, rfl, HB.out.alloc (by simp) _, by have := HM.out; simp only [World.size_alloc] at this; exact this⟩
  case round =>
    obtain ⟨s, hs, rfl, hb, hR⟩ := hrel
    by_cases hlt : s < next.length
    · obtain ⟨b, off, p, x, rfl, hx, hc, hP⟩ := b3 s hlt
      obtain ⟨D, cd, rfl, d1, d2, d3⟩ := hP.open
      obtain ⟨bw, offw, z, rfl, hz, hcw⟩ := c3 s (by have := HW.out; have := HNL.out; omega)
      unfold maxLen at d2
      have gc := below_keep hb hc
      have HX := Lib.hid (show _ ∧ _ from ⟨hx, hz⟩)
      have HCW := Lib.hid hcw
      have HQ := Lib.hid (show _ ∧ _ from ⟨hb, hR⟩)
      have i1 : (0 : Int) ≤ s := by omega
      have i2 : (s : Int) < next.length := by omega
      have i3 : (s : Int) < ws.length := by have := HW.out; have := HNL.out; omega
      clear hc hcw hP hb hR b3 c3
      clear hx hz
      go_wp2
      clear gc
      go_loopw [23] (fun i wi => ∃ k : Nat, k ≤ x.length ∧ i = .int .i64 k ∧ Below w.heap.size w wi ∧ Row wi (w.heap.size + 1) 2 (ints (rowTo z x (rowsTo next ws (zeros ws.length) s) k))) (fun i _ => x.length - (intOf i).toNat)
      case atStart => exact ⟨0, Nat.zero_le _, rfl, HQ.out.1, by rw [rowTo_zero]; exact HQ.out.2⟩
      case round =>
        obtain ⟨k, hk, rfl, hb, hR⟩ := hrel
        by_cases hklt : k < x.length
        · obtain ⟨bx, offx, t, rfl, ht, hct⟩ := d3 k hklt
          have hd := HD.out s x k t HX.out.1 ht
          obtain ⟨m, rfl⟩ := Int.eq_ofNat_of_zero_le hd.1
          have hm : m < ws.length := by have := HW.out; omega
          have hlen2 : (rowTo z x (rowsTo next ws (zeros ws.length) s) k).length = ws.length := by rw [rowTo_len, rowsTo_len]; simp [zeros]
          obtain ⟨y, hy⟩ : ∃ y, (rowTo z x (rowsTo next ws (zeros ws.length) s) k)[m]? = some y := ⟨_, List.getElem?_eq_getElem (by omega)⟩
          have gt := below_keep hb hct
          have gw := below_keep hb HCW.out
          have gy := (hR.cell m).trans (ints_get hy)
          have gf := hR.free m
          have HT := Lib.hid ht
          have HS := Lib.hid (show Row _ _ _ _ from (addAt_set (x := z) hy) ▸ hR.stored m (.int .i64 (wrap64 (y + z))))
          have HY := Lib.hid (hb.setCell (p := ⟨w.heap.size + 1, m, none⟩) (by show w.heap.size ≤ w.heap.size + 1; omega) (.int .i64 (wrap64 (y + z))))
          have j1 : (0 : Int) ≤ k := by omega
          have j2 : (k : Int) < x.length := by omega
          have j3 : (0 : Int) ≤ m := by omega
          have j4 : (m : Int) < ws.length := by omega
          clear hct ht hb hR hd hlen2 hy d3
          go_wp2
          go_region
          all_goals
            (try go_wp2)
            go_roundw
            case rel => exact ⟨k + 1, by omega, by go_num, by first | exact HY.out | exact HY.out.drew | exact HY.out.drew.drew, by rw [rowTo_succ HT.out]; exact HS.out⟩
            case measure => simp [intOf]; omega
        · have ek : k = x.length := by omega
          subst ek
          have HR2 := Lib.hid (show _ ∧ _ from ⟨hb, hR⟩)
          clear hb hR d3
          go_wp2
          go_roundw
          case rel => exact ⟨s + 1, by omega, by go_num, HR2.out.1, by rw [rowsTo_succ HX.out.1 HX.out.2]; exact HR2.out.2⟩
          case measure => simp [intOf]; omega
    · have es : s = next.length := by omega
      subst es
      have HR2 := Lib.hid (show _ ∧ _ from ⟨hb, hR⟩)
      clear hb hR b3 c3
      go_wp2
      go_ret
      exact ⟨_, rfl, HR2.out.2, by omega, HR2.out.1⟩
end Go.Proofs.Ytdnobbagcnbjiaa
