/-
  Fooling lists: whether a list goes on to be one with a pair more; the program's test.
-/
import Derived.Test.YtjojmlaipcbmkaaFo1
import Derived.Test.YtjojmlaipcbmkaaBd6
namespace Go.Proofs.Ytjojmlaipcbmkaa
open Go.RowKit

def crossB (r : RData) (p q : ByteArray × ByteArray) : Bool := takeB r (p.1 ++ q.2) && takeB r (q.1 ++ p.2)
def goesB (r : RData) (p : ByteArray × ByteArray) (qs : List (ByteArray × ByteArray)) : Bool := takeB r (p.1 ++ p.2) && !qs.any (crossB r p)
/-- What stands of pairs whose words can be put together. -/
def FoOk (r : RData) (ps : List (ByteArray × ByteArray)) : Prop := ∀ p ∈ ps, ∀ q ∈ ps, okWord r.L p.1 = true ∧ okWord r.L q.2 = true ∧ p.1.size + q.2.size ≤ 60
theorem okWord_append {L : Int} {a b : ByteArray} (ha : okWord L a = true) (hb : okWord L b = true) (hs : a.size + b.size ≤ 60) : okWord L (a ++ b) = true := by
  have h1 := okWord_parts ha
  have h2 := okWord_parts hb
  have hL : decide (1 ≤ L ∧ L ≤ 3) = true := by
    unfold okWord at ha; simp only [Bool.and_eq_true] at ha; exact ha.1
  unfold okWord
  rw [hL, letters_append h1.2 h2.2, decide_eq_true (show ((a ++ b).size : Int) ≤ 60 by rw [ByteArray.size_append]; omega)]; rfl
theorem FoOk.word {r : RData} {ps : List (ByteArray × ByteArray)} (h : FoOk r ps) {p q : ByteArray × ByteArray} (hp : p ∈ ps) (hq : q ∈ ps) : okWord r.L (p.1 ++ q.2) = true :=
  okWord_append (h p hp q hq).1 (h p hp q hq).2.1 (h p hp q hq).2.2
theorem fo_any_take {P : ByteArray × ByteArray → Bool} {l : List (ByteArray × ByteArray)} {k : Nat} {c : ByteArray × ByteArray} (h : (l.take k).any P = false) (hc : l[k]? = some c) (hp : P c = false) : (l.take (k + 1)).any P = false := any_take_succ' h hc hp

set_option maxRecDepth 100000 in
set_option maxHeartbeats 1600000 in
theorem goesWith1_any (r : RData) (px py qx qy : ByteArray) (p1 p2 : Nat) (w : World) (h : AtR w p1 r) (c0 : w.cell? ⟨p2, 0, none⟩ = some (.string px)) (c1 : w.cell? ⟨p2, 1, none⟩ = some (.string py)) (ok : okR r = true)
    (k1 : okWord r.L px = true) (k2 : okWord r.L qy = true) (k3 : px.size + qy.size ≤ 60) (k4 : okWord r.L qx = true) (k5 : okWord r.L py = true) (k6 : qx.size + py.size ≤ 60) :
    Calls Try.prog 111 #[.agg #[.string qx, .string qy], .pointer (some ⟨p1, 0, none⟩), .pointer (some ⟨p2, 0, none⟩)] w fun e w' => e = .returned (.bool (crossB r (px, py) (qx, qy))) ∧ Below w.heap.size w w' := by
  have HT1 := Lib.hid (fun (W : World) (hb : Below w.heap.size w W) (v : Value) (hv : RdR W v r) => takes_any v r (px ++ qy) W hv ok (okWord_append k1 k2 k3))
  have HT2 := Lib.hid (fun (W : World) (hb : Below w.heap.size w W) (v : Value) (hv : RdR W v r) => takes_any v r (qx ++ py) W hv ok (okWord_append k4 k5 k6))
  have hs1 : (px ++ qy).size = px.size + qy.size := ByteArray.size_append
  have hs2 : (qx ++ py).size = qx.size + py.size := ByteArray.size_append
  obtain ⟨a, n, d0, d1, d2, d3, ha, hn⟩ := h
  have HK := Lib.hid (fun (W : World) (hb : Below w.heap.size w W) => (⟨a, n, rfl, keepsB _ _ _ _ ha hb, keepsII _ _ _ _ hn hb⟩ : RdR W (.agg #[.int .i64 r.L, .int .i64 r.S, a, n]) r))
  obtain ⟨A, ka, rfl⟩ := rdB_shape ha
  obtain ⟨B, kb, rfl⟩ := RdL.shape hn
  have hb0 := below_alloc w (.cells #[.string qx, .string qy] 110)
  have hrow := Row.new w [.string qx, .string qy] 110
  have HB0 := Lib.hid (show _ ∧ _ from ⟨hb0, hrow⟩)
  have l1 := World.block_lt_of_cell? _ _ d0
  have l2 := World.block_lt_of_cell? _ _ c0
  have HC := Lib.hid (fun (W : World) (hb : Below w.heap.size w W) => (⟨⟨below_keep hb c0, below_keep hb c1⟩, below_keep hb d0, below_keep hb d1, below_keep hb d2, below_keep hb d3⟩ : (_ ∧ _) ∧ _ ∧ _ ∧ _ ∧ _))
  obtain ⟨y1, hy1⟩ : ∃ y1, takeB r (px ++ qy) = y1 := ⟨_, rfl⟩
  obtain ⟨y2, hy2⟩ : ∃ y2, takeB r (qx ++ py) = y2 := ⟨_, rfl⟩
  have HE := Lib.hid (show crossB r (px, py) (qx, qy) = (y1 && y2) by simp only [crossB, hy1, hy2])
  rw [hy1] at HT1
  rw [hy2] at HT2
  clear ha hn hb0 hrow hy1 hy2 k1 k2 k4 k5
  go_enter Try.func111, Try.ntmps111
  go_wp2_with fail
  refine (HT1.out _ HB0.out.1 _ (HK.out _ HB0.out.1)).mono ?_
  generalize w.alloc (.cells #[.string qx, .string qy] 110) = w0 at *
  rintro e w1 ⟨rfl, hb1⟩
  have HB1 := Lib.hid (below_step HB0.out.1 hb1)
  have HR1 := Lib.hid (HB0.out.2.below hb1 HB0.out.2.lt)
  clear hb1
  cases y1
  · go_wp2
    go_ret
    exact ⟨ret_bool (by rw [HE.out]; rfl), HB1.out⟩
  · obtain ⟨⟨e0, e1⟩, f0, f1, f2, f3⟩ := HC.out w1 HB1.out
    obtain ⟨⟨g0, g1⟩, -⟩ := HR1.out.two
    clear c0 c1 d0 d1 d2 d3
    go_wp2_with fail
    refine (HT2.out w1 HB1.out _ (HK.out w1 HB1.out)).mono ?_
    rintro e w2 ⟨rfl, hb2⟩
    have HB2 := Lib.hid (below_step HB1.out hb2)
    clear hb2
    go_wp2
    go_ret
    exact ⟨ret_bool (by rw [HE.out]; rfl), HB2.out⟩

set_option maxHeartbeats 800000 in
theorem idxFo_any (v : Value) (p1 p2 : Nat) (xs : List (ByteArray × ByteArray)) (P : ByteArray × ByteArray → Bool) (w : World) (h : RdF w v xs)
    (hF : ∀ (W : World), Below w.heap.size w W → ∀ x y, (x, y) ∈ xs → Calls Try.prog 111 #[.agg #[.string x, .string y], .pointer (some ⟨p1, 0, none⟩), .pointer (some ⟨p2, 0, none⟩)] W fun e w' => e = .returned (.bool (P (x, y))) ∧ Below W.heap.size W w') :
    Calls Try.prog 116 #[v, .func (.func 111) #[] #[.pointer (some ⟨p1, 0, none⟩), .pointer (some ⟨p2, 0, none⟩)]] w fun e w' => (∃ n : Int, e = .returned (.int .i64 n) ∧ decide (0 ≤ n) = xs.any P) ∧ Below w.heap.size w w' := by
  obtain ⟨A, cap, rfl, h1, h2, h3⟩ := RdF.open h
  unfold maxLen at h2
  have HF := Lib.hid hF
  clear hF h
  go_enter Try.func116, Try.ntmps116
  go_wp2
  go_loopw [8] (fun i wr => ∃ k : Nat, k ≤ xs.length ∧ i = .int .i64 k ∧ Below w.heap.size w wr ∧ (xs.take k).any P = false) (fun i _ => xs.length - (intOf i).toNat)
  case atStart => exact ⟨0, Nat.zero_le _, rfl, Below.refl _ _, by simp⟩
  case round =>
    obtain ⟨k, hk, rfl, hb, hp⟩ := hrel
    have HP := Lib.hid hp; clear hp
    have HB := Lib.hid hb
    by_cases hlt : k < xs.length
    · obtain ⟨b, off, x, x', rfl, hx, hc0, hc1⟩ := h3 k hlt
      have hc0' := below_keep hb hc0
      have hc1' := below_keep hb hc1
      have HC := Lib.hid (HF.out wr hb x x' (List.mem_of_getElem? hx))
      have HX := Lib.hid hx
      have i1 : (0 : Int) ≤ k := by omega
      have i2 : (k : Int) < xs.length := by omega
      clear hc0 hc1 h3 hb hx
      obtain ⟨y, hy⟩ : ∃ y, P (x, x') = y := ⟨_, rfl⟩
      rw [hy] at HC
      have HY := Lib.hid hy; clear hy
      cases y
      · go_wp2_with (go_at_call 111; refine HC.out.mono ?_; rintro e w1 ⟨rfl, hb1⟩; have HB1 := Lib.hid (below_step HB.out hb1))
        go_roundw
        case rel => exact ⟨k + 1, by omega, by go_num, HB1.out, fo_any_take HP.out HX.out HY.out⟩
        case measure => simp [intOf]; omega
      · go_wp2_with (go_at_call 111; refine HC.out.mono ?_; rintro e w1 ⟨rfl, hb1⟩; have HB1 := Lib.hid (below_step HB.out hb1))
        go_ret
        exact ⟨⟨_, rfl, by rw [any_yes' HX.out HY.out]; simp⟩, HB1.out⟩
    · clear hb h3
      go_wp2
      go_ret
      exact ⟨⟨_, rfl, by have := HP.out; rw [full_take hlt] at this; rw [this]; decide⟩, HB.out⟩
set_option maxHeartbeats 800000 in
theorem hasFo_any (v : Value) (p1 p2 : Nat) (xs : List (ByteArray × ByteArray)) (P : ByteArray × ByteArray → Bool) (w : World) (h : RdF w v xs)
    (hF : ∀ (W : World), Below w.heap.size w W → ∀ x y, (x, y) ∈ xs → Calls Try.prog 111 #[.agg #[.string x, .string y], .pointer (some ⟨p1, 0, none⟩), .pointer (some ⟨p2, 0, none⟩)] W fun e w' => e = .returned (.bool (P (x, y))) ∧ Below W.heap.size W w') :
    Calls Try.prog 112 #[v, .func (.func 111) #[] #[.pointer (some ⟨p1, 0, none⟩), .pointer (some ⟨p2, 0, none⟩)]] w fun e w' => e = .returned (.bool (xs.any P)) ∧ Below w.heap.size w w' := by
  have HI := Lib.hid (idxFo_any v p1 p2 xs P w h hF)
  obtain ⟨A, cap, rfl, -⟩ := RdF.open h
  clear hF h
  go_enter Try.func112, Try.ntmps112
  go_wp2_with fail
  refine HI.out.mono ?_
  rintro e w1 ⟨⟨n, rfl, hn⟩, hb⟩
  have HB := Lib.hid hb
  have HN := Lib.hid hn
  clear HI hb hn
  go_wp2
  go_ret
  exact ⟨ret_bool HN.out, HB.out⟩

set_option maxRecDepth 100000 in
set_option maxHeartbeats 1600000 in
theorem goesWith_any (v v3 : Value) (r : RData) (px py : ByteArray) (qs : List (ByteArray × ByteArray)) (w : World) (h : RdR w v r) (h3 : RdF w v3 qs) (ok : okR r = true) (hok : FoOk r ((px, py) :: qs)) :
    Calls Try.prog 98 #[v, .agg #[.string px, .string py], v3] w fun e w' => e = .returned (.bool (goesB r (px, py) qs)) ∧ Below w.heap.size w w' := by
  obtain ⟨A, c, B, d, rfl⟩ := h.shape
  obtain ⟨A3, k3, rfl⟩ := h3.shape
  have hx1 := (Row.new w [.int .i64 r.L, .int .i64 r.S, .slice A r.acc.length c, .slice B r.next.length d] 29).alloc (.cells #[.string px, .string py] 110)
  have hx2 : Row ((w.alloc (.cells #[.int .i64 r.L, .int .i64 r.S, .slice A r.acc.length c, .slice B r.next.length d] 29)).alloc (.cells #[.string px, .string py] 110)) (w.heap.size + 1) 110 [.string px, .string py] := by
    have := Row.new (w.alloc (.cells #[.int .i64 r.L, .int .i64 r.S, .slice A r.acc.length c, .slice B r.next.length d] 29)) [.string px, .string py] 110
    simpa using this
  have hb0 : Below w.heap.size w ((w.alloc (.cells #[.int .i64 r.L, .int .i64 r.S, .slice A r.acc.length c, .slice B r.next.length d] 29)).alloc (.cells #[.string px, .string py] 110)) := (below_alloc _ _).alloc (by simp) _
  have hat := Row.atR hx1 (keepsR _ _ _ _ h hb0)
  have hpp := hok (px, py) (by simp) (px, py) (by simp)
  have hs1 : (px ++ py).size = px.size + py.size := ByteArray.size_append
  have hs60 : px.size + py.size ≤ 60 := hpp.2.2
  have HT := Lib.hid (takes_any _ r (px ++ py) _ (keepsR _ _ _ _ h hb0) ok (hok.word (p := (px, py)) (q := (px, py)) (by simp) (by simp)))
  have HC := Lib.hid (fun (W : World) (hb : Below ((w.alloc (.cells #[.int .i64 r.L, .int .i64 r.S, .slice A r.acc.length c, .slice B r.next.length d] 29)).alloc (.cells #[.string px, .string py] 110)).heap.size ((w.alloc (.cells #[.int .i64 r.L, .int .i64 r.S, .slice A r.acc.length c, .slice B r.next.length d] 29)).alloc (.cells #[.string px, .string py] 110)) W) =>
    hasFo_any _ w.heap.size (w.heap.size + 1) qs (crossB r (px, py)) W (keepsF _ _ _ _ h3 (below_step hb0 hb)) (fun W2 hb2 x y hm => goesWith1_any r px py x y _ _ W2 (hat.below (below_step hb hb2)) (hx2.below (below_step hb hb2) hx2.lt).two.1.1 (hx2.below (below_step hb hb2) hx2.lt).two.1.2 ok
      (hok (px, py) (by simp) (x, y) (by simp [hm])).1 (hok (px, py) (by simp) (x, y) (by simp [hm])).2.1 (hok (px, py) (by simp) (x, y) (by simp [hm])).2.2 (hok (x, y) (by simp [hm]) (px, py) (by simp)).1 (hok (x, y) (by simp [hm]) (px, py) (by simp)).2.1 (hok (x, y) (by simp [hm]) (px, py) (by simp)).2.2))
  have HB0 := Lib.hid hb0
  obtain ⟨y1, hy1⟩ : ∃ y1, takeB r (px ++ py) = y1 := ⟨_, rfl⟩
  obtain ⟨y2, hy2⟩ : ∃ y2, qs.any (crossB r (px, py)) = y2 := ⟨_, rfl⟩
  have HE := Lib.hid (show goesB r (px, py) qs = (y1 && !y2) by simp only [goesB, hy1, hy2])
  rw [hy1] at HT
  rw [hy2] at HC
  clear h h3 hx1 hx2 hb0 hat hpp hok hy1 hy2 ok
  go_enter Try.func98, Try.ntmps98
  go_wp2_with fail
  refine HT.out.mono ?_
  generalize (w.alloc (.cells #[.int .i64 r.L, .int .i64 r.S, .slice A r.acc.length c, .slice B r.next.length d] 29)).alloc (.cells #[.string px, .string py] 110) = w0 at *
  rintro e w1 ⟨rfl, hb1⟩
  have HB1 := Lib.hid (show _ ∧ _ from ⟨hb1, below_step HB0.out hb1⟩)
  clear hb1
  cases y1
  · go_wp2
    go_ret
    exact ⟨ret_bool (by rw [HE.out]; rfl), HB1.out.2⟩
  · go_wp2_with fail
    refine (HC.out w1 HB1.out.1).mono ?_
    rintro e w2 ⟨rfl, hb2⟩
    have HB2 := Lib.hid (below_step HB1.out.2 hb2)
    clear hb2
    go_wp2
    go_ret
    exact ⟨ret_bool (by rw [HE.out]; rfl), HB2.out⟩
end Go.Proofs.Ytjojmlaipcbmkaa
