/-
  Lists of words, and what a valid reader takes of them: the program's and the model's.
-/
import Derived.Test.YtjojmlaipcbmkaaW3
import Derived.Test.YtjojmlaipcbmkaaStr1
namespace Go.Proofs.Ytjojmlaipcbmkaa
open Go.RowKit

def takeB (r : RData) (s : ByteArray) : Bool := (r.acc[afterN r s.data.toList]?).getD false
def okWords (L : Int) (ss : List ByteArray) : Bool := ss.all (okWord L)
theorem okWords_mem {L : Int} {ss : List ByteArray} (h : okWords L ss = true) {s : ByteArray} (hs : s ∈ ss) : okWord L s = true := List.all_eq_true.1 h s hs
theorem all_take_succ' {α : Type} {p : α → Bool} {l : List α} {k : Nat} {c : α} (h : (l.take k).all p = true) (hc : l[k]? = some c) (hp : p c = true) : (l.take (k + 1)).all p = true := by
  rw [take_succ_of hc, List.all_append, h]; simp [hp]
theorem all_not' {α : Type} {p : α → Bool} {l : List α} {k : Nat} {c : α} (hc : l[k]? = some c) (hp : p c = false) : l.all p = false := by
  rw [List.all_eq_false]; exact ⟨c, List.mem_of_getElem? hc, by simp [hp]⟩
theorem any_take_succ' {α : Type} {p : α → Bool} {l : List α} {k : Nat} {c : α} (h : (l.take k).any p = false) (hc : l[k]? = some c) (hp : p c = false) : (l.take (k + 1)).any p = false := by
  rw [take_succ_of hc, List.any_append, h]; simp [hp]
theorem any_yes' {α : Type} {p : α → Bool} {l : List α} {k : Nat} {c : α} (hc : l[k]? = some c) (hp : p c = true) : l.any p = true := by
  rw [List.any_eq_true]; exact ⟨c, List.mem_of_getElem? hc, hp⟩
theorem full_take {α : Type} {l : List α} {k : Nat} (h : ¬ k < l.length) : l.take k = l := List.take_of_length_le (by omega)

set_option maxHeartbeats 800000 in
theorem takes_any (v : Value) (r : RData) (s : ByteArray) (w : World) (h : RdR w v r) (ok : okR r = true) (okw : okWord r.L s = true) :
    Calls Try.prog 76 #[v, .string s] w fun e w' => e = .returned (.bool (takeB r s)) ∧ Below w.heap.size w w' := by
  obtain ⟨A, c, B, d, rfl⟩ := h.shape
  have hp := okWord_parts okw
  have hbox := Row.new w [.int .i64 r.L, .int .i64 r.S, .slice A r.acc.length c, .slice B r.next.length d] 29
  have HB := Lib.hid (below_alloc w (.cells #[.int .i64 r.L, .int .i64 r.S, .slice A r.acc.length c, .slice B r.next.length d] 29))
  have HK := Lib.hid (fun W (hb : Below w.heap.size w W) => keepsR _ _ _ _ h hb)
  obtain ⟨⟨c0, c1, c2, c3⟩, -⟩ := hbox.four
  obtain ⟨q0, hq0⟩ : ∃ q0 : Nat, r.S = q0 := ⟨r.S.toNat, by have := (okR_parts ok).2.2.1.1; omega⟩
  have hS2 : q0 < r.next.length := by obtain ⟨_, _, h3, h4, _⟩ := okR_parts ok; omega
  have hlt := afterN_ok ok okw
  have hA0 : afterN r s.data.toList = runN r q0 s := by rw [afterN, hq0]; rfl
  have HA := Lib.hid (fun W (hb : Below w.heap.size w W) => after_any _ r s q0 W (HK.out W hb) ok hp.2 (by have := hp.1; omega) hS2)
  obtain ⟨a0, n0, hv, ha, -⟩ := HK.out _ HB.out
  simp only [Value.agg.injEq] at hv
  obtain rfl : a0 = .slice A r.acc.length c := by simpa using (congrArg (fun x : Array Value => x.getD 2 undef) hv).symm
  obtain ⟨A', cap', hA', a1, a2, a3⟩ := ha.open
  simp only [Value.slice.injEq, true_and] at hA'
  obtain ⟨rfl, rfl⟩ := hA'
  obtain ⟨b, off, z, rfl, hz, hc⟩ := a3 _ hlt
  have HE := Lib.hid (show takeB r s = z by rw [takeB, hz]; rfl)
  rw [hA0] at hc hlt
  have HQ0 := Lib.hid hq0
  unfold maxLen at a2
  have g := hbox.lt
  clear hz hv ha a3 hp hbox hA0 h hS2 ok okw hq0
  go_enter Try.func76, Try.ntmps76
  go_wp2
  generalize w.alloc (.cells #[.int .i64 r.L, .int .i64 r.S, .slice (some ⟨b, off, none⟩) r.acc.length c, .slice B r.next.length d] 29) = w1 at *
  rw [HQ0.out] at c1 HA
  generalize runN r q0 s = q at *
  have q1 : (0 : Int) ≤ q := by omega
  have q2 : (q : Int) < r.acc.length := by omega
  go_region_held3 (fun W => W.cell? ⟨w.heap.size, 0, none⟩ = some (.int .i64 r.L) ∧ W.cell? ⟨w.heap.size, 1, none⟩ = some (.int .i64 q0) ∧ W.cell? ⟨w.heap.size, 2, none⟩ = some (.slice (some ⟨b, off, none⟩) r.acc.length c) ∧ W.cell? ⟨w.heap.size, 3, none⟩ = some (.slice B r.next.length d) ∧ W.cell? ⟨b, off + q, none⟩ = some (.bool z))
    (first | go_keep | (go_split_ands; refine ⟨?_, ?_, ?_, ?_, ?_⟩ <;> exact below_keep hbk (by assumption)))
    ((go_at_call 63; (with_reducible refine (HA.out _ ?_).mono ?_); (exact below_step HB.out (by first | exact Below.refl _ _ | exact below_drew _ | exact below_drewN' _ _)); rintro e wy ⟨rfl, hbk⟩; have HCy := Lib.hid (show Below w1.heap.size w1 wy from below_step (by first | exact Below.refl _ _ | exact below_drew _ | exact below_drewN' _ _) hbk)))
  go_wp2
  go_ret
  exact ⟨ret_bool HE.out.symm, below_step HB.out (by first | exact HCy.out | exact HCy.out.drew | exact below_drewN HCy.out _)⟩


set_option maxHeartbeats 800000 in
theorem idxWords_any (v : Value) (p : Nat) (xs : List ByteArray) (P : ByteArray → Bool) (w : World) (h : RdS w v xs)
    (hF : ∀ (W : World), Below w.heap.size w W → ∀ x ∈ xs, Calls Try.prog 108 #[.string x, .pointer (some ⟨p, 0, none⟩)] W fun e w' => e = .returned (.bool (P x)) ∧ Below W.heap.size W w') :
    Calls Try.prog 109 #[v, .func (.func 108) #[] #[.pointer (some ⟨p, 0, none⟩)]] w fun e w' => (∃ n : Int, e = .returned (.int .i64 n) ∧ decide (0 ≤ n) = xs.any P) ∧ Below w.heap.size w w' := by
  obtain ⟨A, cap, rfl, h1, h2, h3⟩ := RdS.open h
  unfold maxLen at h2
  have HF := Lib.hid hF
  clear hF h
  go_enter Try.func109, Try.ntmps109
  go_wp2
  go_loopw [8] (fun i wr => ∃ k : Nat, k ≤ xs.length ∧ i = .int .i64 k ∧ Below w.heap.size w wr ∧ (xs.take k).any P = false) (fun i _ => xs.length - (intOf i).toNat)
  case atStart => exact ⟨0, Nat.zero_le _, rfl, Below.refl _ _, by simp⟩
  case round =>
    obtain ⟨k, hk, rfl, hb, hp⟩ := hrel
    have HP := Lib.hid hp; clear hp
    have HB := Lib.hid hb
    by_cases hlt : k < xs.length
    · obtain ⟨b, off, x, rfl, hx, hc⟩ := h3 k hlt
      have hc' := (hb.cell (p := ⟨b, off + k, none⟩) (World.block_lt_of_cell? _ _ hc)).trans hc
      have HC := Lib.hid (HF.out wr hb x (List.mem_of_getElem? hx))
      have HX := Lib.hid hx
      have i1 : (0 : Int) ≤ k := by omega
      have i2 : (k : Int) < xs.length := by omega
      clear hc h3 hb hx
      obtain ⟨y, hy⟩ : ∃ y, P x = y := ⟨_, rfl⟩
      rw [hy] at HC
      have HY := Lib.hid hy; clear hy
      cases y
      · go_wp2_with (go_at_call 108; refine HC.out.mono ?_; rintro e w1 ⟨rfl, hb1⟩; have HB1 := Lib.hid (below_step HB.out hb1))
        go_roundw
        case rel => exact ⟨k + 1, by omega, by go_num, HB1.out, any_take_succ' HP.out HX.out HY.out⟩
        case measure => simp [intOf]; omega
      · go_wp2_with (go_at_call 108; refine HC.out.mono ?_; rintro e w1 ⟨rfl, hb1⟩; have HB1 := Lib.hid (below_step HB.out hb1))
        go_ret
        exact ⟨⟨_, rfl, by rw [any_yes' HX.out HY.out]; simp⟩, HB1.out⟩
    · clear hb h3
      go_wp2
      go_ret
      exact ⟨⟨_, rfl, by have := HP.out; rw [full_take hlt] at this; rw [this]; decide⟩, HB.out⟩

set_option maxHeartbeats 800000 in
theorem hasWords_any (v : Value) (p : Nat) (xs : List ByteArray) (P : ByteArray → Bool) (w : World) (h : RdS w v xs)
    (hF : ∀ (W : World), Below w.heap.size w W → ∀ x ∈ xs, Calls Try.prog 108 #[.string x, .pointer (some ⟨p, 0, none⟩)] W fun e w' => e = .returned (.bool (P x)) ∧ Below W.heap.size W w') :
    Calls Try.prog 77 #[v, .func (.func 108) #[] #[.pointer (some ⟨p, 0, none⟩)]] w fun e w' => e = .returned (.bool (xs.any P)) ∧ Below w.heap.size w w' := by
  have HI := Lib.hid (idxWords_any v p xs P w h hF)
  obtain ⟨A, cap, rfl, -⟩ := RdS.open h
  clear hF h
  go_enter Try.func77, Try.ntmps77
  go_wp2_with fail
  refine HI.out.mono ?_
  rintro e w1 ⟨⟨n, rfl, hn⟩, hb⟩
  have HB := Lib.hid hb
  have HN := Lib.hid hn
  clear HI hb hn
  go_wp2
  go_ret
  exact ⟨ret_bool HN.out, HB.out⟩

set_option maxHeartbeats 800000 in
theorem idxFit_any (v : Value) (p : Nat) (xs : List ByteArray) (P : ByteArray → Bool) (w : World) (h : RdS w v xs)
    (hF : ∀ (W : World), Below w.heap.size w W → ∀ x ∈ xs, Calls Try.prog 75 #[.string x, .pointer (some ⟨p, 0, none⟩)] W fun e w' => e = .returned (.bool (P x)) ∧ Below W.heap.size W w') :
    Calls Try.prog 109 #[v, .func (.func 75) #[] #[.pointer (some ⟨p, 0, none⟩)]] w fun e w' => (∃ n : Int, e = .returned (.int .i64 n) ∧ decide (0 ≤ n) = xs.any P) ∧ Below w.heap.size w w' := by
  obtain ⟨A, cap, rfl, h1, h2, h3⟩ := RdS.open h
  unfold maxLen at h2
  have HF := Lib.hid hF
  clear hF h
  go_enter Try.func109, Try.ntmps109
  go_wp2
  go_loopw [8] (fun i wr => ∃ k : Nat, k ≤ xs.length ∧ i = .int .i64 k ∧ Below w.heap.size w wr ∧ (xs.take k).any P = false) (fun i _ => xs.length - (intOf i).toNat)
  case atStart => exact ⟨0, Nat.zero_le _, rfl, Below.refl _ _, by simp⟩
  case round =>
    obtain ⟨k, hk, rfl, hb, hp⟩ := hrel
    have HP := Lib.hid hp; clear hp
    have HB := Lib.hid hb
    by_cases hlt : k < xs.length
    · obtain ⟨b, off, x, rfl, hx, hc⟩ := h3 k hlt
      have hc' := (hb.cell (p := ⟨b, off + k, none⟩) (World.block_lt_of_cell? _ _ hc)).trans hc
      have HC := Lib.hid (HF.out wr hb x (List.mem_of_getElem? hx))
      have HX := Lib.hid hx
      have i1 : (0 : Int) ≤ k := by omega
      have i2 : (k : Int) < xs.length := by omega
      clear hc h3 hb hx
      obtain ⟨y, hy⟩ : ∃ y, P x = y := ⟨_, rfl⟩
      rw [hy] at HC
      have HY := Lib.hid hy; clear hy
      cases y
      · go_wp2_with (go_at_call 75; refine HC.out.mono ?_; rintro e w1 ⟨rfl, hb1⟩; have HB1 := Lib.hid (below_step HB.out hb1))
        go_roundw
        case rel => exact ⟨k + 1, by omega, by go_num, HB1.out, any_take_succ' HP.out HX.out HY.out⟩
        case measure => simp [intOf]; omega
      · go_wp2_with (go_at_call 75; refine HC.out.mono ?_; rintro e w1 ⟨rfl, hb1⟩; have HB1 := Lib.hid (below_step HB.out hb1))
        go_ret
        exact ⟨⟨_, rfl, by rw [any_yes' HX.out HY.out]; simp⟩, HB1.out⟩
    · clear hb h3
      go_wp2
      go_ret
      exact ⟨⟨_, rfl, by have := HP.out; rw [full_take hlt] at this; rw [this]; decide⟩, HB.out⟩

set_option maxHeartbeats 800000 in
theorem hasFit_any (v : Value) (p : Nat) (xs : List ByteArray) (P : ByteArray → Bool) (w : World) (h : RdS w v xs)
    (hF : ∀ (W : World), Below w.heap.size w W → ∀ x ∈ xs, Calls Try.prog 75 #[.string x, .pointer (some ⟨p, 0, none⟩)] W fun e w' => e = .returned (.bool (P x)) ∧ Below W.heap.size W w') :
    Calls Try.prog 77 #[v, .func (.func 75) #[] #[.pointer (some ⟨p, 0, none⟩)]] w fun e w' => e = .returned (.bool (xs.any P)) ∧ Below w.heap.size w w' := by
  have HI := Lib.hid (idxFit_any v p xs P w h hF)
  obtain ⟨A, cap, rfl, -⟩ := RdS.open h
  clear hF h
  go_enter Try.func77, Try.ntmps77
  go_wp2_with fail
  refine HI.out.mono ?_
  rintro e w1 ⟨⟨n, rfl, hn⟩, hb⟩
  have HB := Lib.hid hb
  have HN := Lib.hid hn
  clear HI hb hn
  go_wp2
  go_ret
  exact ⟨ret_bool HN.out, HB.out⟩

set_option maxHeartbeats 800000 in
theorem idxTakes_any (v : Value) (u : Value) (xs : List ByteArray) (P : ByteArray → Bool) (w : World) (h : RdS w v xs)
    (hF : ∀ (W : World), Below w.heap.size w W → ∀ x ∈ xs, Calls Try.prog 76 #[u, .string x] W fun e w' => e = .returned (.bool (P x)) ∧ Below W.heap.size W w') :
    Calls Try.prog 109 #[v, .func (.func 76) #[u] #[]] w fun e w' => (∃ n : Int, e = .returned (.int .i64 n) ∧ decide (0 ≤ n) = xs.any P) ∧ Below w.heap.size w w' := by
  obtain ⟨A, cap, rfl, h1, h2, h3⟩ := RdS.open h
  unfold maxLen at h2
  have HF := Lib.hid hF
  clear hF h
  go_enter Try.func109, Try.ntmps109
  go_wp2
  go_loopw [8] (fun i wr => ∃ k : Nat, k ≤ xs.length ∧ i = .int .i64 k ∧ Below w.heap.size w wr ∧ (xs.take k).any P = false) (fun i _ => xs.length - (intOf i).toNat)
  case atStart => exact ⟨0, Nat.zero_le _, rfl, Below.refl _ _, by simp⟩
  case round =>
    obtain ⟨k, hk, rfl, hb, hp⟩ := hrel
    have HP := Lib.hid hp; clear hp
    have HB := Lib.hid hb
    by_cases hlt : k < xs.length
    · obtain ⟨b, off, x, rfl, hx, hc⟩ := h3 k hlt
      have hc' := (hb.cell (p := ⟨b, off + k, none⟩) (World.block_lt_of_cell? _ _ hc)).trans hc
      have HC := Lib.hid (HF.out wr hb x (List.mem_of_getElem? hx))
      have HX := Lib.hid hx
      have i1 : (0 : Int) ≤ k := by omega
      have i2 : (k : Int) < xs.length := by omega
      clear hc h3 hb hx
      obtain ⟨y, hy⟩ : ∃ y, P x = y := ⟨_, rfl⟩
      rw [hy] at HC
      have HY := Lib.hid hy; clear hy
      cases y
      · go_wp2_with (go_at_call 76; refine HC.out.mono ?_; rintro e w1 ⟨rfl, hb1⟩; have HB1 := Lib.hid (below_step HB.out hb1))
        go_roundw
        case rel => exact ⟨k + 1, by omega, by go_num, HB1.out, any_take_succ' HP.out HX.out HY.out⟩
        case measure => simp [intOf]; omega
      · go_wp2_with (go_at_call 76; refine HC.out.mono ?_; rintro e w1 ⟨rfl, hb1⟩; have HB1 := Lib.hid (below_step HB.out hb1))
        go_ret
        exact ⟨⟨_, rfl, by rw [any_yes' HX.out HY.out]; simp⟩, HB1.out⟩
    · clear hb h3
      go_wp2
      go_ret
      exact ⟨⟨_, rfl, by have := HP.out; rw [full_take hlt] at this; rw [this]; decide⟩, HB.out⟩

set_option maxHeartbeats 800000 in
theorem hasTakes_any (v : Value) (u : Value) (xs : List ByteArray) (P : ByteArray → Bool) (w : World) (h : RdS w v xs)
    (hF : ∀ (W : World), Below w.heap.size w W → ∀ x ∈ xs, Calls Try.prog 76 #[u, .string x] W fun e w' => e = .returned (.bool (P x)) ∧ Below W.heap.size W w') :
    Calls Try.prog 77 #[v, .func (.func 76) #[u] #[]] w fun e w' => e = .returned (.bool (xs.any P)) ∧ Below w.heap.size w w' := by
  have HI := Lib.hid (idxTakes_any v u xs P w h hF)
  obtain ⟨A, cap, rfl, -⟩ := RdS.open h
  clear hF h
  go_enter Try.func77, Try.ntmps77
  go_wp2_with fail
  refine HI.out.mono ?_
  rintro e w1 ⟨⟨n, rfl, hn⟩, hb⟩
  have HB := Lib.hid hb
  have HN := Lib.hid hn
  clear HI hb hn
  go_wp2
  go_ret
  exact ⟨ret_bool HN.out, HB.out⟩


theorem areWords1_any (L : Int) (x : ByteArray) (p : Nat) (w : World) (hx : x.size ≤ maxLen) (hp : w.cell? ⟨p, 0, none⟩ = some (.int .i64 L)) :
    Calls Try.prog 108 #[.string x, .pointer (some ⟨p, 0, none⟩)] w fun e w' => e = .returned (.bool (!okWord L x)) ∧ Below w.heap.size w w' := by
  have HV := Lib.hid (implValidWord_any L x w hx)
  go_enter Try.func108, Try.ntmps108
  go_wp2_with (go_at_call 62; refine HV.out.mono ?_; rintro e w' ⟨rfl, rfl⟩)
  go_ret
  exact ⟨rfl, Below.refl _ _⟩

theorem any_not_all {α : Type} (p : α → Bool) (xs : List α) : (xs.any fun x => !p x) = !xs.all p := by
  induction xs with
  | nil => rfl
  | cons x r ih => simp only [List.any_cons, List.all_cons, ih]; cases p x <;> simp

set_option maxHeartbeats 800000 in
theorem areWords_any (L : Int) (v : Value) (xs : List ByteArray) (w : World) (h : RdS w v xs) (hs : SSmall xs) :
    Calls Try.prog 74 #[.int .i64 L, v] w fun e w' => e = .returned (.bool (okWords L xs)) ∧ Below w.heap.size w w' := by
  have hbox := Row.new w [.int .i64 L] 2
  have HB := Lib.hid (below_alloc w (.cells #[.int .i64 L] 2))
  have HI := Lib.hid (hasWords_any v w.heap.size xs (fun x => !okWord L x) (w.alloc (.cells #[.int .i64 L] 2)) (keepsS _ _ _ _ h HB.out)
    (fun W hb x hx => areWords1_any L x _ W (by have := hs.2 x hx; unfold maxLen; omega) (hbox.below hb hbox.lt).one.1))
  obtain ⟨A, cap, rfl, -⟩ := RdS.open h
  rw [any_not_all] at HI
  clear h hs hbox
  go_enter Try.func74, Try.ntmps74
  go_wp2_with (go_at_call 77; refine HI.out.mono ?_; rintro e w1 ⟨rfl, hb⟩; have HB1 := Lib.hid (below_step HB.out hb))
  go_ret
  exact ⟨ret_bool (by first | rfl | simp [okWords]), HB1.out⟩

/-! ### The model -/
set_option maxHeartbeats 800000 in
theorem l05Words_any (L : Int) (v : Value) (xs : List ByteArray) (w : World) (h : RdS w v xs) (hs : SSmall xs) :
    Calls Try.prog 72 #[.int .i64 L, v] w fun e w' => e = .returned (.bool (okWords L xs)) ∧ Qt w w' := by
  obtain ⟨A, cap, rfl, h1, h2, h3⟩ := RdS.open h
  unfold maxLen at h2
  have hs2 := hs.2
  clear h hs
  go_enter Try.func72, Try.ntmps72
  go_wp2
  go_loopw [5] (fun i wr => ∃ k : Nat, k ≤ xs.length ∧ i = .int .i64 k ∧ Qt w wr ∧ (xs.take k).all (okWord L) = true) (fun i _ => xs.length - (intOf i).toNat)
  case atStart => exact ⟨0, Nat.zero_le _, rfl, Qt.refl _, by simp⟩
  case round =>
    obtain ⟨k, hk, rfl, hb, hp⟩ := hrel
    have HP := Lib.hid hp; clear hp
    have HB := Lib.hid hb
    by_cases hlt : k < xs.length
    · obtain ⟨b, off, x, rfl, hx, hc⟩ := h3 k hlt
      have hc' := (hb.cell _).trans hc
      have HV := Lib.hid (fun W => specValidWord_any L x W (by have := hs2 x (List.mem_of_getElem? hx); unfold maxLen; omega))
      have HX := Lib.hid hx
      have i1 : (0 : Int) ≤ k := by omega
      have i2 : (k : Int) < xs.length := by omega
      clear hc h3 hb hx hs2
      obtain ⟨y, hy⟩ : ∃ y, okWord L x = y := ⟨_, rfl⟩
      rw [hy] at HV
      have HY := Lib.hid hy; clear hy
      cases y
      · go_wp2_with (go_at_call 58; refine (HV.out _).mono ?_; rintro e w1 ⟨rfl, rfl⟩)
        go_ret
        exact ⟨ret_bool (by rw [okWords, all_not' HX.out HY.out]), HB.out⟩
      · go_wp2_with (go_at_call 58; refine (HV.out _).mono ?_; rintro e w1 ⟨rfl, rfl⟩)
        go_roundw
        case rel => exact ⟨k + 1, by omega, by go_num, HB.out, all_take_succ' HP.out HX.out HY.out⟩
        case measure => simp [intOf]; omega
    · clear hb h3
      go_wp2
      go_ret
      exact ⟨ret_bool (by have := HP.out; rw [full_take hlt] at this; rw [okWords, this]), HB.out⟩

set_option maxHeartbeats 800000 in
theorem l05Run_any (p : Nat) (r : RData) (s : ByteArray) (q0 : Nat) (w : World) (h : AtR w p r) (ok : okR r = true) (okw : lettersOk r.L s = true) (hs : s.size ≤ maxLen) (hq0 : q0 < r.next.length) :
    Calls Try.prog 115 #[.pointer (some ⟨p, 0, none⟩), .int .i64 q0, .string s] w fun e w' => e = .returned (.int .i64 (runN r q0 s : Nat)) ∧ Qt w w' := by
  have HOK := Lib.hid ok
  have HW := Lib.hid okw
  obtain ⟨a, n, c0, c1, c2, c3, ha, hn⟩ := h
  obtain ⟨A, cap, rfl, a1, a2, -⟩ := ha.open
  obtain ⟨B, cap', rfl, n1, n2, n3⟩ := RdL.open hn
  unfold maxLen at a2 n2 hs
  have HS := Lib.hid hq0
  clear c0 c1 c2 ok okw hq0 ha hn
  go_enter Try.func115, Try.ntmps115
  go_wp2
  go_loopw [1, 7] (fun q i wr => ∃ k m : Nat, k ≤ s.size ∧ i = .int .i64 k ∧ q = .int .i64 m ∧ m < r.next.length ∧ (s.data.toList.take k).foldl (stepN r) q0 = m ∧ Qt w wr) (fun _ i _ => s.size - (intOf i).toNat)
  case atStart => exact ⟨0, q0, Nat.zero_le _, rfl, rfl, HS.out, by simp, Qt.refl _⟩
  case round =>
    obtain ⟨k, m, hk, rfl, rfl, hm, hf, hb⟩ := hrel
    have HF := Lib.hid hf; clear hf
    have HB := Lib.hid hb
    by_cases hlt : k < s.size
    · obtain ⟨b, off, u, x', rfl, hx', hc, hR⟩ := n3 m hm
      obtain ⟨x, t, m', hx, ht, htm, hm', hst, g97, gj, gx⟩ := step_ok HOK.out hm (letter_of HW.out hlt)
      have ex := Option.some.inj (hx.symm.trans hx')
      subst ex
      obtain ⟨C, capx, rfl, x1, x2, x3⟩ := RdI.open hR
      unfold maxLen at x2
      obtain ⟨bx, offx, t', rfl, ht', hct⟩ := x3 (s[k].toNat - 97) gj
      have et := Option.some.inj (ht.symm.trans ht')
      subst et
      subst htm
      have g3 := (hb.cell _).trans c3
      have gc := (hb.cell _).trans hc
      have gt := (hb.cell _).trans hct
      have HST := Lib.hid hst
      have HC := Lib.hid (bytes_at s k hlt)
      have i1 : (0 : Int) ≤ k := by omega
      have i2 : (k : Int) < s.size := by omega
      have j1 : (97 : Int) ≤ s[k].toNat := by omega
      have j2 : (s[k].toNat : Int) ≤ 255 := by have := s[k].toNat_lt; omega
      have j3 : (s[k].toNat : Int) - 97 < x.length := by omega
      have j4 : (0 : Int) ≤ (s[k].toNat : Int) - 97 := by omega
      have q1 : (0 : Int) ≤ m := by omega
      have q2 : (m : Int) < r.next.length := by omega
      clear hx ht hx' ht' hst gx gj g97 hR x3 n3 hc hct c3 hb
      go_wp2_with fail
      go_quiet (fail)
      go_wp2
      go_roundw
      case rel => exact ⟨k + 1, m', by omega, by go_num, rfl, hm', by rw [fold_take_succ HC.out, HF.out, HST.out], HB.out.drewN _⟩
      case measure => simp [intOf]; omega
    · clear n3 hb c3
      go_wp2
      go_ret
      exact ⟨ret_int (by have := HF.out; rw [List.take_of_length_le (by simp; omega)] at this; rw [runN, this]), HB.out⟩

/-- Any string of letters, also a long one. -/
theorem letters_lt {r : RData} (ok : okR r = true) {s : ByteArray} (k : lettersOk r.L s = true) : afterN r s.data.toList < r.acc.length := by
  obtain ⟨_, _, h3, h4, _⟩ := okR_parts ok
  rw [← h4]
  exact afterN_lt ok _ k _ (by omega)
set_option maxHeartbeats 800000 in
theorem l05Takes_any (p : Nat) (r : RData) (s : ByteArray) (w : World) (h : AtR w p r) (ok : okR r = true) (okw : lettersOk r.L s = true) (hs : s.size ≤ maxLen) :
    Calls Try.prog 106 #[.pointer (some ⟨p, 0, none⟩), .string s] w fun e w' => e = .returned (.bool (takeB r s)) ∧ Qt w w' := by
  obtain ⟨q0, hq0⟩ : ∃ q0 : Nat, r.S = q0 := ⟨r.S.toNat, by have := (okR_parts ok).2.2.1.1; omega⟩
  have hS2 : q0 < r.next.length := by obtain ⟨_, _, h3, h4, _⟩ := okR_parts ok; omega
  have hlt := letters_lt ok okw
  have hA0 : afterN r s.data.toList = runN r q0 s := by rw [afterN, hq0]; rfl
  have HA := Lib.hid (fun m => l05Run_any p r s q0 _ (atR_drewN h m) ok okw hs hS2)
  obtain ⟨a, n, c0, c1, c2, c3, ha, hn⟩ := h
  obtain ⟨A, cap, rfl, a1, a2, a3⟩ := ha.open
  obtain ⟨b, off, z, rfl, hz, hc⟩ := a3 _ hlt
  have HE := Lib.hid (show takeB r s = z by rw [takeB, hz]; rfl)
  rw [hA0] at hc hlt
  rw [hq0] at c1
  unfold maxLen at a2
  clear hz ha a3 hn hA0 hS2 ok okw hq0 hs
  go_enter Try.func106, Try.ntmps106
  generalize runN r q0 s = q at *
  have q1 : (0 : Int) ≤ q := by omega
  have q2 : (q : Int) < r.acc.length := by omega
  go_wp2_with fail
  go_quiet ((go_at_call 115; exact Calls.quiet_of (HA.out _)))
  go_wp2
  go_ret
  exact ⟨ret_bool HE.out.symm, (Qt.refl _).drewN _⟩
end Go.Proofs.Ytjojmlaipcbmkaa
