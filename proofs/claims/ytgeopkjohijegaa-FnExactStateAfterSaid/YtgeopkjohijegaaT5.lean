import Derived.Test.YtgeopkjohijegaaT4
namespace Go.Proofs.Ytgeopkjohijegaa
open Go.RowKit

/-- What a reader reads as. -/
structure RData where
  L : Int
  S : Int
  acc : List Bool
  next : List (List Int)

def RdR (w : World) (v : Value) (r : RData) : Prop := ∃ a n, v = .agg #[.int .i64 r.L, .int .i64 r.S, a, n] ∧ RdB w a r.acc ∧ RdII w n r.next
theorem keepsR : Keeps RdR := fun _ _ _ _ ⟨a, n, hv, ha, hn⟩ hb => ⟨a, n, hv, keepsB _ _ _ _ ha hb, keepsII _ _ _ _ hn hb⟩

set_option maxHeartbeats 400000 in
theorem szReader_any (v : Value) (r : RData) (left : Int) (w : World) (h : RdR w v r) :
    Calls Try.prog 29 #[v, .int .i64 left] w fun e w' => (∃ n, e = .returned (.int .i64 n)) ∧ Below w.heap.size w w' := by
  obtain ⟨L, S, acc, next⟩ := r
  obtain ⟨a, n, rfl, ha, hn⟩ := h
  have HA := Lib.hid (fun o l => szBoolS_any a acc l (w.alloc o) (keepsB _ _ _ _ ha (below_alloc _ _)))
  have HN := Lib.hid (fun o l => szInt64SS_any n next l (w.alloc o) (keepsII _ _ _ _ hn (below_alloc _ _)))
  clear ha hn
  go_enter Try.func29, Try.ntmps29
  go_wp2_with (first | (go_at_call 61; refine (HA.out _ _).mono ?_; rintro e w' ⟨⟨m, rfl⟩, rfl⟩) | (go_at_call 62; refine (HN.out _ _).mono ?_; rintro e w' ⟨⟨m, rfl⟩, rfl⟩))
  all_goals go_ret
  all_goals exact ⟨⟨_, rfl⟩, below_alloc _ _⟩

set_option maxHeartbeats 400000 in
theorem eqReader_same (v u : Value) (r : RData) (w : World) (h : RdR w v r) (k : RdR w u r) :
    Calls Try.prog 33 #[v, u] w fun e w' => e = .returned (.bool true) ∧ Below w.heap.size w w' := by
  obtain ⟨L, S, acc, next⟩ := r
  obtain ⟨a, n, rfl, ha, hn⟩ := h
  obtain ⟨a', n', rfl, ha', hn'⟩ := k
  have hL : (L != L) = false := by simp
  have hS : (S != S) = false := by simp
  have h1 : decide (acc = acc) = true := by simp
  have h2 : decide (next = next) = true := by simp
  have HA := Lib.hid (fun W (hb : Below w.heap.size w W) => eqBoolS_any a a' acc acc W (keepsB _ _ _ _ ha hb) (keepsB _ _ _ _ ha' hb))
  have HN := Lib.hid (fun W (hb : Below w.heap.size w W) => eqInt64SS_any n n' next next W (keepsII _ _ _ _ hn hb) (keepsII _ _ _ _ hn' hb))
  have HB := Lib.hid (fun o o' m => below_drewN (((below_alloc w o).alloc (by simp) o')) m)
  clear ha hn ha' hn'
  go_enter Try.func33, Try.ntmps33
  go_wp2_with (first | (go_at_call 66; refine (HA.out _ (HB.out _ _ 0)).mono ?_; rintro e w' ⟨rfl, m, rfl⟩) | (go_at_call 67; refine (HN.out _ (HB.out _ _ _)).mono ?_; rintro e w' ⟨rfl, m, rfl⟩))
  all_goals go_ret
  all_goals exact ⟨rfl, HB.out _ _ _⟩

/-- A reader that a call owns. -/
def OwnR (w : World) (lo : Nat) (v : Value) (r : RData) : Prop :=
  ∃ a n, v = .agg #[.int .i64 r.L, .int .i64 r.S, a, n] ∧ Own w 4 lo a (bools r.acc) ∧ ∃ vs, OwnL (fun w lo u xs => Own w 2 lo u (ints xs)) blks 58 w lo n r.next vs ∧ (blks a ++ (blks n ++ vs.flatMap blks)).Nodup

set_option maxHeartbeats 400000 in
theorem toReader_any (v : Value) (r : RData) (w : World) (h : RdR w v r) (r1 : r.acc.length ≤ 281474976710656) (r2 : 24 * r.next.length ≤ 281474976710656) (r3 : ∀ x ∈ r.next, 8 * x.length ≤ 281474976710656) :
    Calls Try.prog 31 #[v] w fun e w' => ∃ u, e = .returned u ∧ OwnR w' w.heap.size u r ∧ Below w.heap.size w w' := by
  obtain ⟨L, S, acc, next⟩ := r
  obtain ⟨a, n, rfl, ha, hn⟩ := h
  have HA := Lib.hid (fun W (hb : Below w.heap.size w W) => toBoolS_any a acc W (keepsB _ _ _ _ ha hb) (by simpa using r1))
  have HN := Lib.hid (fun W (hb : Below w.heap.size w W) => toInt64SS_any n next W (keepsII _ _ _ _ hn hb) r2 r3)
  go_enter Try.func31, Try.ntmps31
  go_wp2_with fail
  have hw1 : Below w.heap.size w (((w.alloc (Obj.cells #[Value.int IntKind.i64 L, Value.int IntKind.i64 S, a, n] 47)).alloc
        (Obj.cells #[Value.int IntKind.i64 0, Value.int IntKind.i64 0, Value.slice none 0 0, Value.slice none 0 0]
          28)).alloc
    (Obj.cells #[Value.int IntKind.i64 L, Value.int IntKind.i64 S, Value.slice none 0 0, Value.slice none 0 0] 28)) :=
    ((below_alloc _ _).alloc (by simp) _).alloc (by simp; omega) _
  have hrA : Row (((w.alloc (Obj.cells #[Value.int IntKind.i64 L, Value.int IntKind.i64 S, a, n] 47)).alloc
        (Obj.cells #[Value.int IntKind.i64 0, Value.int IntKind.i64 0, Value.slice none 0 0, Value.slice none 0 0]
          28)).alloc
    (Obj.cells #[Value.int IntKind.i64 L, Value.int IntKind.i64 S, Value.slice none 0 0, Value.slice none 0 0] 28)) w.heap.size 47 [.int .i64 L, .int .i64 S, a, n] :=
    ((Row.new w _ _).alloc _).alloc _
  have hrB : Row (((w.alloc (Obj.cells #[Value.int IntKind.i64 L, Value.int IntKind.i64 S, a, n] 47)).alloc
        (Obj.cells #[Value.int IntKind.i64 0, Value.int IntKind.i64 0, Value.slice none 0 0, Value.slice none 0 0]
          28)).alloc
    (Obj.cells #[Value.int IntKind.i64 L, Value.int IntKind.i64 S, Value.slice none 0 0, Value.slice none 0 0] 28)) (w.heap.size + 1) 28 [.int .i64 0, .int .i64 0, .slice none 0 0, .slice none 0 0] := by
    have := (Row.new (w.alloc (Obj.cells #[Value.int IntKind.i64 L, Value.int IntKind.i64 S, a, n] 47)) [.int .i64 0, .int .i64 0, .slice none 0 0, .slice none 0 0] 28).alloc (Obj.cells #[Value.int IntKind.i64 L, Value.int IntKind.i64 S, Value.slice none 0 0, Value.slice none 0 0] 28)
    simpa using this
  have hrC : Row (((w.alloc (Obj.cells #[Value.int IntKind.i64 L, Value.int IntKind.i64 S, a, n] 47)).alloc
        (Obj.cells #[Value.int IntKind.i64 0, Value.int IntKind.i64 0, Value.slice none 0 0, Value.slice none 0 0]
          28)).alloc
    (Obj.cells #[Value.int IntKind.i64 L, Value.int IntKind.i64 S, Value.slice none 0 0, Value.slice none 0 0] 28)) (w.heap.size + 1 + 1) 28 [.int .i64 L, .int .i64 S, .slice none 0 0, .slice none 0 0] := by
    have := Row.new ((w.alloc (Obj.cells #[Value.int IntKind.i64 L, Value.int IntKind.i64 S, a, n] 47)).alloc
        (Obj.cells #[Value.int IntKind.i64 0, Value.int IntKind.i64 0, Value.slice none 0 0, Value.slice none 0 0]
          28)) [.int .i64 L, .int .i64 S, .slice none 0 0, .slice none 0 0] 28
    simpa using this
  have hsz : (((w.alloc (Obj.cells #[Value.int IntKind.i64 L, Value.int IntKind.i64 S, a, n] 47)).alloc
        (Obj.cells #[Value.int IntKind.i64 0, Value.int IntKind.i64 0, Value.slice none 0 0, Value.slice none 0 0]
          28)).alloc
    (Obj.cells #[Value.int IntKind.i64 L, Value.int IntKind.i64 S, Value.slice none 0 0, Value.slice none 0 0] 28)).heap.size = w.heap.size + 3 := by simp
  refine (HA.out _ hw1).mono ?_
  generalize hW : (((w.alloc (Obj.cells #[Value.int IntKind.i64 L, Value.int IntKind.i64 S, a, n] 47)).alloc
        (Obj.cells #[Value.int IntKind.i64 0, Value.int IntKind.i64 0, Value.slice none 0 0, Value.slice none 0 0]
          28)).alloc
    (Obj.cells #[Value.int IntKind.i64 L, Value.int IntKind.i64 S, Value.slice none 0 0, Value.slice none 0 0] 28)) = W0 at *
  clear hW
  rintro e w1 ⟨g, rfl, hg, hlo, hb1⟩
  have rA := hrA.below hb1 hrA.lt
  have rB := hrB.below hb1 hrB.lt
  have rC := hrC.below hb1 hrC.lt
  have H1 := Lib.hid (show Row w1 w.heap.size _ _ ∧ Row w1 (w.heap.size + 1) _ _ ∧ Row w1 (w.heap.size + 1 + 1) _ _ ∧ Row w1 g _ _ ∧ w.heap.size + 3 ≤ g ∧ Below w.heap.size w w1 from ⟨rA, rB, rC, hg, by omega, hw1.trans (hb1.mono hw1.size)⟩)
  obtain ⟨⟨ca0, ca1, ca2, ca3⟩, -⟩ := rA.four
  obtain ⟨⟨cc0, cc1, cc2, cc3⟩, fc⟩ := rC.four
  clear hg hlo hb1 hw1 ha hn hrA hrB hrC rA rB rC hsz
  go_wp2_with fail
  obtain ⟨rA, rB, rC, rg, hg3, hb1⟩ := H1.out
  have rA2 := rA.other (a := ⟨w.heap.size + 1 + 1, 2, none⟩) (by show w.heap.size + 1 + 1 ≠ _; omega) (.slice (some ⟨g, 0, none⟩) acc.length acc.length)
  have rB2 := rB.other (a := ⟨w.heap.size + 1 + 1, 2, none⟩) (by show w.heap.size + 1 + 1 ≠ _; omega) (.slice (some ⟨g, 0, none⟩) acc.length acc.length)
  have rC2 := rC.stored 2 (.slice (some ⟨g, 0, none⟩) acc.length acc.length)
  have rg2 := rg.other (a := ⟨w.heap.size + 1 + 1, 2, none⟩) (by show w.heap.size + 1 + 1 ≠ g; omega) (.slice (some ⟨g, 0, none⟩) acc.length acc.length)
  have hw2 := hb1.setCell (p := ⟨w.heap.size + 1 + 1, 2, none⟩) (by show w.heap.size ≤ w.heap.size + 1 + 1; omega) (.slice (some ⟨g, 0, none⟩) acc.length acc.length)
  clear rA rB rC rg hb1 H1 ca0 ca1 ca2 ca3 cc0 cc1 cc2 cc3 fc
  refine (HN.out _ hw2).mono ?_
  generalize w1.setCell ⟨w.heap.size + 1 + 1, 2, none⟩ (.slice (some ⟨g, 0, none⟩) acc.length acc.length) = W1 at *
  rintro e w2 ⟨u, rfl, ⟨vs, hO⟩, hb2⟩
  obtain ⟨B, c, rfl⟩ := hO.1.shape
  have rA := rA2.below hb2 rA2.lt
  have rB := rB2.below hb2 rB2.lt
  have rC := rC2.below hb2 rC2.lt
  have rg := rg2.below hb2 rg2.lt
  have hgl := rg2.lt
  have H1 := Lib.hid (show Row w2 w.heap.size _ _ ∧ Row w2 (w.heap.size + 1) _ _ ∧ Row w2 (w.heap.size + 1 + 1) _ _ ∧ Row w2 g _ _ ∧ g < W1.heap.size ∧ Below w.heap.size w w2 ∧ _ from ⟨rA, rB, rC, rg, by omega, hw2.trans (hb2.mono hw2.size), hO⟩)
  obtain ⟨⟨ca0, ca1, ca2, ca3⟩, -⟩ := rA.four
  obtain ⟨⟨cb0, cb1, cb2, cb3⟩, fb⟩ := rB.four
  obtain ⟨⟨cc0, cc1, cc2, cc3⟩, fc⟩ := rC.four
  clear hO hb2 hw2 rA2 rB2 rC2 rg2 rA rB rC rg
  go_wp2
  obtain ⟨-, rB, -, rg, hgl, hb2, hO⟩ := H1.out
  clear ca0 ca1 ca2 ca3 cb0 cb1 cb2 cb3 cc0 cc1 cc2 cc3 fb fc H1 HA HN
  have rg' := (rg.own (lo := w.heap.size + 3) hg3 (by rw [bools_len]; unfold maxLen; omega))
  have hO' := hO.mono (stabOwn _ _) (lo' := w.heap.size + 3) (by omega)
  rw [bools_len] at rg'
  have hnd : (blks (.slice (some ⟨g, 0, none⟩) acc.length acc.length) ++ (blks (.slice B vs.length c) ++ vs.flatMap blks)).Nodup := nodup_before hO (by intro b hb; simp [blks_some] at hb; omega) (by simp [blks_some])
  have rF := ((((rB.other (a := ⟨w.heap.size + 1 + 1, 3, none⟩) (by show w.heap.size + 1 + 1 ≠ _; omega) (.slice B vs.length c)).stored 0 (.int .i64 L)).stored 1 (.int .i64 S)).stored 2 (.slice (some ⟨g, 0, none⟩) acc.length acc.length)).stored 3 (.slice B vs.length c)
  have eA := ((((rg'.under (a := ⟨w.heap.size + 1 + 1, 3, none⟩) (by show w.heap.size + 1 + 1 < _; omega) (.slice B vs.length c)).under (a := ⟨w.heap.size + 1, 0, none⟩) (by show w.heap.size + 1 < _; omega) (.int .i64 L)).under (a := ⟨w.heap.size + 1, 1, none⟩) (by show w.heap.size + 1 < _; omega) (.int .i64 S)).under (a := ⟨w.heap.size + 1, 2, none⟩) (by show w.heap.size + 1 < _; omega) (.slice (some ⟨g, 0, none⟩) acc.length acc.length)).under (a := ⟨w.heap.size + 1, 3, none⟩) (by show w.heap.size + 1 < _; omega) (.slice B vs.length c)
  have eN := ((((hO'.under (stabOwn _ _) (a := ⟨w.heap.size + 1 + 1, 3, none⟩) (by show w.heap.size + 1 + 1 < _; omega) (.slice B vs.length c)).under (stabOwn _ _) (a := ⟨w.heap.size + 1, 0, none⟩) (by show w.heap.size + 1 < _; omega) (.int .i64 L)).under (stabOwn _ _) (a := ⟨w.heap.size + 1, 1, none⟩) (by show w.heap.size + 1 < _; omega) (.int .i64 S)).under (stabOwn _ _) (a := ⟨w.heap.size + 1, 2, none⟩) (by show w.heap.size + 1 < _; omega) (.slice (some ⟨g, 0, none⟩) acc.length acc.length)).under (stabOwn _ _) (a := ⟨w.heap.size + 1, 3, none⟩) (by show w.heap.size + 1 < _; omega) (.slice B vs.length c)
  have eB := ((((hb2.setCell (p := ⟨w.heap.size + 1 + 1, 3, none⟩) (by show w.heap.size ≤ _ + 1 + 1; omega) (.slice B vs.length c)).setCell (p := ⟨w.heap.size + 1, 0, none⟩) (by show w.heap.size ≤ _ + 1; omega) (.int .i64 L)).setCell (p := ⟨w.heap.size + 1, 1, none⟩) (by show w.heap.size ≤ _ + 1; omega) (.int .i64 S)).setCell (p := ⟨w.heap.size + 1, 2, none⟩) (by show w.heap.size ≤ _ + 1; omega) (.slice (some ⟨g, 0, none⟩) acc.length acc.length)).setCell (p := ⟨w.heap.size + 1, 3, none⟩) (by show w.heap.size ≤ _ + 1; omega) (.slice B vs.length c)
  clear rB rg hgl hb2 hO rg' hO'
  generalize (((((w2.setCell ⟨w.heap.size + 1 + 1, 3, none⟩ (.slice B vs.length c)).setCell ⟨w.heap.size + 1, 0, none⟩ (.int .i64 L)).setCell ⟨w.heap.size + 1, 1, none⟩ (.int .i64 S)).setCell ⟨w.heap.size + 1, 2, none⟩ (.slice (some ⟨g, 0, none⟩) acc.length acc.length)).setCell ⟨w.heap.size + 1, 3, none⟩ (.slice B vs.length c)) = W2 at *
  obtain ⟨⟨q0, q1, q2, q3⟩, -⟩ := Row.four rF
  refine bodyPost_ret (v := .agg #[.int .i64 L, .int .i64 S, .slice (some ⟨g, 0, none⟩) acc.length acc.length, .slice B vs.length c]) (by simp [results, Try.results31, go_sem, q0, q1, q2, q3]) rfl ⟨_, rfl, ?_, eB⟩
  exact ⟨_, _, rfl, eA.mono (by omega), vs, eN.mono (stabOwn _ _) (by omega), hnd⟩
end Go.Proofs.Ytgeopkjohijegaa
