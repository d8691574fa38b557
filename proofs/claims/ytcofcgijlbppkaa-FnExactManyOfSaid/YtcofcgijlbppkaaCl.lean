/-
  Copies of slices: an empty slice and an append.
-/
import Derived.Test.YtcofcgijlbppkaaO1
import Derived.Test.YtcofcgijlbppkaaApp
import Derived.Laws.OwnMore
import Derived.Laws.AppendOwnNone
namespace Go.Proofs.Ytcofcgijlbppkaa
open Go.RowKit

theorem rd_news {w : World} {ad : Addr} {n c : Nat} {xs : List Value} (h : Rd w (.slice (some ad) n c) xs) : ∀ j u, xs[j]? = some u → w.cell? (ad.add j) = some u := by
  obtain ⟨A, cap, hv, _, _, h3⟩ := h
  simp only [Value.slice.injEq] at hv
  obtain ⟨hA, _, _⟩ := hv
  intro j u hu
  obtain ⟨b, off, hA', hc⟩ := h3 j u hu
  rw [← hA, Option.some.injEq] at hA'
  subst hA'
  rw [Addr.add_lit]
  exact hc

theorem run_append_none' {P : Program} {w : World} (base : Nat) (t ty e : TypeId) (i : TypeInfo) (size : Nat) (ht : P.underlying t = some (.slice e)) (hi : P.info? e = some i)
    (v : Value) (n c : Nat) (xs : List Value) (hown : w.ownsRow base e size v n xs) :
    (Builtin.append_ #[t, t] ty #[v, .slice none 0 c]).run P w = .ok v w := by
  rcases hown.2 with ⟨rfl, rfl⟩ | ⟨g, cap, cur, rfl, _, _, hnc, _⟩
  · simp [Builtin.append_, run_underlying ht, sizeOf, typeInfo, hi, Builtin.lenOf, Builtin.firstCells]
  · simp [Builtin.append_, run_underlying ht, sizeOf, typeInfo, hi, Builtin.lenOf, Builtin.firstCells, hnc, storeCells]
theorem wpList_append_none' {P : Program} {w : World} {ops : Array Oper} {rest : List Oper} {o : Oper} {a : Act} {Q : Exit → Act → World → Prop} (hgd : o.guard = none) (s x : Operand) (t : TypeId)
    (ho : o.op = .call { callee := .builtin .append, args := #[s, x], argTypes := #[t, t] })
    (base : Nat) (e : TypeId) (i : TypeInfo) (size : Nat) (ht : P.underlying t = some (.slice e)) (hi : P.info? e = some i)
    (v : Value) (n c : Nat) (xs : List Value) (hs : a.eval s = v) (hown : w.ownsRow base e size v n xs) (hx : a.eval x = .slice none 0 c)
    (h : wpList P ops Q rest (a.put o.dst v) w) : wpList P ops Q (o :: rest) a w := by
  refine wpList_plain hgd fun K hK => ?_
  have hrun := run_append_none' (P := P) (w := w) base t o.type e i size ht hi v n c xs hown
  unfold Oper.wp
  simp [execOp, ho, resolve, invoke, builtin, hs, hx, hrun, Result.andThen]
  exact hK _ _ h

set_option maxHeartbeats 800000 in
theorem l00Own_own (v : Value) (xs : List Int) (w : World) (h : RdI w v xs) (hr : 8 * xs.length ≤ 140737488355328) :
    Calls Try.prog 37 #[v] w fun e w' => ∃ u bs, e = .returned u ∧ OwV ints 2 w' w.heap.size u xs bs ∧ Below w.heap.size w w' := by
  obtain ⟨i0, hi, hz0, hz1, hz2⟩ := info_parts infoI64
  have hrd := h
  obtain ⟨A, cap, rfl, h1, h2, h3⟩ := h.open
  have hlen : xs.length ≤ maxLen := Nat.le_trans h1 h2
  unfold maxLen at h2
  have ho0 := World.ownsRow_lit (base := w.heap.size) (e := 2) (size := 1) w #[] 0 (Nat.le_refl _) (by unfold maxLen; omega) rfl
  cases A with
  | none =>
    have hx0 : xs = [] := by
      cases xs with
      | nil => rfl
      | cons x r => obtain ⟨_, _, _, hA, _⟩ := h3 0 (by simp); cases hA
    subst hx0
    clear h3
    go_enter Try.func37, Try.ntmps37
    go_wp2_with (at_builtin; refine wpList_append_none' rfl _ _ 27 rfl w.heap.size 2 i0 1 Try.underlying27 hi _ 0 _ [] rfl ho0 rfl ?_)
    go_ret
    exact ⟨_, rfl, ⟨_, by simpa [Own, ints] using ho0, rfl⟩, below_alloc w _⟩
  | some ad =>
    have hN := rd_news (show Rd (w.alloc (.cells #[] 2)) (.slice (some ad) xs.length cap) (ints xs) from by have := hrd.below (below_alloc w (.cells #[] 2)); exact this)
    have HN := Lib.hid hN
    have HO := Lib.hid ho0
    clear h3 hrd hN ho0
    go_enter Try.func37, Try.ntmps37
    go_wp2_with (at_builtin; refine wpList_append_own _ rfl _ _ 27 rfl w.heap.size 2 i0 (.int .i64 0) 1 8 Try.underlying27 hi hz0 hz1 hz2 rfl (by decide) _ 0 [] rfl HO.out ad xs.length cap (ints xs) rfl (by rw [ints_len, Nat.mul_one]) HN.out (by intro u hu; obtain ⟨_, _, rfl⟩ := List.mem_map.1 hu; rfl) (by rw [Nat.zero_add]; exact hlen) (by omega) (by simp) ?_; intro v' w1 hown hgrow hnil)
    have HW := Lib.hid hown
    have HG := Lib.hid hgrow
    clear hown hgrow hnil
    go_wp2
    go_ret
    refine ⟨_, rfl, ⟨_, by have := HW.out; simpa [Own, ints_len] using this, rfl⟩, (below_alloc w _).grown HG.out (by simp) ?_⟩
    intro k hk
    have hk' : some w.heap.size = some k := hk
    cases hk'
    exact Nat.le_refl _

set_option maxHeartbeats 800000 in
theorem cloneB_own (v : Value) (xs : List Bool) (w : World) (h : RdB w v xs) (hr : 1 * xs.length ≤ 140737488355328) :
    Calls Try.prog 26 #[v] w fun e w' => ∃ u bs, e = .returned u ∧ OwV bools 4 w' w.heap.size u xs bs ∧ Below w.heap.size w w' := by
  obtain ⟨i0, hi, hz0, hz1, hz2⟩ := info_parts infoBool
  have hrd := h
  obtain ⟨A, cap, rfl, h1, h2, h3⟩ := h.open
  have hlen : xs.length ≤ maxLen := Nat.le_trans h1 h2
  unfold maxLen at h2
  have ho0 := World.ownsRow_lit (base := w.heap.size) (e := 4) (size := 1) w #[] 0 (Nat.le_refl _) (by unfold maxLen; omega) rfl
  cases A with
  | none =>
    have hx0 : xs = [] := by
      cases xs with
      | nil => rfl
      | cons x r => obtain ⟨_, _, _, hA, _⟩ := h3 0 (by simp); cases hA
    subst hx0
    clear h3
    have e1 := fun (W : World) (n c : Nat) => Lib.run_eql_slice_nil (P := Try.prog) W 22 4 none n c 0 0 Try.underlying22
    go_enter Try.func26, Try.ntmps26
    go_wp2
    go_ret
    exact ⟨_, rfl, ⟨_, owV_nil bools [] rfl _ _ _⟩, Below.refl _ _⟩
  | some ad =>
    have hN := rd_news (show Rd (w.alloc (.cells #[] 4)) (.slice (some ad) xs.length cap) (bools xs) from by have := hrd.below (below_alloc w (.cells #[] 4)); exact this)
    have HN := Lib.hid hN
    have HO := Lib.hid ho0
    clear h3 hrd hN ho0
    have e1 := fun (W : World) (n c : Nat) => Lib.run_eql_slice_nil (P := Try.prog) W 22 4 (some ad) n c 0 0 Try.underlying22
    go_enter Try.func26, Try.ntmps26
    go_wp2_with (at_builtin; refine wpList_append_own _ rfl _ _ 22 rfl w.heap.size 4 i0 (.bool false) 1 1 Try.underlying22 hi hz0 hz1 hz2 rfl (by decide) _ 0 [] rfl HO.out ad xs.length cap (bools xs) rfl (by rw [bools_len, Nat.mul_one]) HN.out (by intro u hu; obtain ⟨_, _, rfl⟩ := List.mem_map.1 hu; rfl) (by rw [Nat.zero_add]; exact hlen) (by omega) (by simp) ?_; intro v' w1 hown hgrow hnil)
    have HW := Lib.hid hown
    have HG := Lib.hid hgrow
    clear hown hgrow hnil
    go_wp2
    go_ret
    refine ⟨_, rfl, ⟨_, by have := HW.out; simpa [Own, bools_len] using this, rfl⟩, (below_alloc w _).grown HG.out (by simp) ?_⟩
    intro k hk
    have hk' : some w.heap.size = some k := hk
    cases hk'
    exact Nat.le_refl _

end Go.Proofs.Ytcofcgijlbppkaa
