/-
  A turner on its way through a word: what one step of it is.
-/
import Derived.Test.YtdkalefepdlccaaRu1
import Derived.Test.YtdkalefepdlccaaSt4
import Derived.Test.YtdkalefepdlccaaZ
import Derived.Deep.RegionHeld3
namespace Go.Proofs.Ytdkalefepdlccaa
open Go.RowKit

theorem Turned.setIn {bs : List Nat} {a w : World} (h : Turned bs a w) {p : Addr} (hp : p.block ∈ bs) (u : Value) : Turned bs a (w.setCell p u) :=
  ⟨h.os, h.tape, h.output, by simpa using h.size, fun k hk hn => (Below.heap_setCell _ _ _ _ (fun e => hn (by simp_all))).trans (h.block k hk hn)⟩
theorem Turned.setNew {bs : List Nat} {a w : World} (h : Turned bs a w) {p : Addr} (hp : a.heap.size ≤ p.block) (u : Value) : Turned bs a (w.setCell p u) :=
  ⟨h.os, h.tape, h.output, by simpa using h.size, fun k hk hn => (Below.heap_setCell _ _ _ _ (fun e => by omega)).trans (h.block k hk hn)⟩
theorem Turned.then {bs : List Nat} {a b c : World} (h : Turned bs a b) (k : Below b.heap.size b c) : Turned bs a c :=
  ⟨k.os.trans h.os, k.tape.trans h.tape, k.output.trans h.output, Nat.le_trans h.size k.size, fun i hi hn => (k.block i (Nat.lt_of_lt_of_le hi h.size)).trans (h.block i hi hn)⟩
theorem Turned.trans {bs : List Nat} {a b c : World} (h : Turned bs a b) (k : Turned bs b c) : Turned bs a c :=
  ⟨k.os.trans h.os, k.tape.trans h.tape, k.output.trans h.output, Nat.le_trans h.size k.size, fun i hi hn => (k.block i (Nat.lt_of_lt_of_le hi h.size) hn).trans (h.block i hi hn)⟩
theorem Turned.row {bs : List Nat} {a b : World} (h : Turned bs a b) {g : Nat} {e : TypeId} {xs : List Value} (k : Row a g e xs) (hn : g ∉ bs) : Row b g e xs := k.same (h.block g k.lt hn)

/-- The cells of a turner on its way. -/
def wkr (t : TData) (vm : Value) (s : ByteArray) (p : Int × Int) : List Value := [.int .i64 t.L, .int .i64 t.S, vm, .string s, .int .i64 p.1, .int .i64 p.2]
theorem Row.six {w : World} {g : Nat} {e : TypeId} {a b c d f i : Value} (h : Row w g e [a, b, c, d, f, i]) :
    (w.cell? ⟨g, 0, none⟩ = some a ∧ w.cell? ⟨g, 1, none⟩ = some b ∧ w.cell? ⟨g, 2, none⟩ = some c ∧ w.cell? ⟨g, 3, none⟩ = some d ∧ w.cell? ⟨g, 4, none⟩ = some f ∧ w.cell? ⟨g, 5, none⟩ = some i) ∧ (∀ j, w.frozen? ⟨g, j, none⟩ = false) :=
  ⟨⟨h.cell 0, h.cell 1, h.cell 2, h.cell 3, h.cell 4, h.cell 5⟩, h.free⟩

/-- What it does at its place, and where it is then. -/
def onP (t : TData) (s : ByteArray) (p : Nat × Nat) : Int × Int := if (moveOn t s p.1 p.2).1 < 0 then pI p else ((moveOn t s p.1 p.2).1, (p.2 : Int) + (moveOn t s p.1 p.2).2)

theorem deedV_stopT : deedV (-1, 0) = .iface 143 (.agg #[.bool true]) := by simp [deedV, stopV]
theorem deedV_stopF : deedV (-2, 0) = .iface 143 (.agg #[.bool false]) := by simp [deedV, stopV]
theorem deedV_go (x y : Int) (h : 0 ≤ x) : deedV (x, y) = .iface 99 (.agg #[.int .i64 x, .int .i64 y]) := by
  simp only [deedV, walkV]; rw [if_neg (by omega), if_neg (by omega)]

theorem step_end {w W : World} {b : Nat} {xs : List Value} {z0 z1 : Value} (hb : Below w.heap.size w W) (hlt : b < w.heap.size) (hz : Row W w.heap.size 70 [z0, z1]) (hk : Row W b 139 xs) (q a : Value) (o : Obj) :
    let W2 := ((W.setCell ⟨w.heap.size, 0, none⟩ q).setCell ⟨w.heap.size, 1, none⟩ a).alloc o
    (W2.cell? ⟨w.heap.size, 0, none⟩ = some q ∧ W2.cell? ⟨w.heap.size, 1, none⟩ = some a) ∧ Row W2 b 139 xs ∧ Turned [b] w W2 := by
  intro W2
  have rF := (((hz.stored 0 q).stored 1 a).alloc o)
  have rK := (((hk.other (a := ⟨w.heap.size, 0, none⟩) (by show w.heap.size ≠ b; omega) q).other (a := ⟨w.heap.size, 1, none⟩) (by show w.heap.size ≠ b; omega) a).alloc o)
  refine ⟨(Row.two (a := q) (b := a) rF).1, rK, ?_⟩
  exact ((((Below.turned hb).mono (cs := [b]) (by simp)).setNew (p := ⟨w.heap.size, 0, none⟩) (Nat.le_refl _) q).setNew (p := ⟨w.heap.size, 1, none⟩) (Nat.le_refl _) a).then (below_alloc _ _)
theorem step_on {w W : World} {b : Nat} {x0 x1 x2 x3 x4 x5 : Value} {z0 z1 : Value} (hb : Below w.heap.size w W) (hlt : b < w.heap.size) (hz : Row W w.heap.size 70 [z0, z1]) (hk : Row W b 139 [x0, x1, x2, x3, x4, x5]) (u v q a : Value) :
    let W2 := ((((W.setCell ⟨b, 4, none⟩ u).setCell ⟨b, 5, none⟩ v).setCell ⟨w.heap.size, 0, none⟩ q).setCell ⟨w.heap.size, 1, none⟩ a)
    (W2.cell? ⟨w.heap.size, 0, none⟩ = some q ∧ W2.cell? ⟨w.heap.size, 1, none⟩ = some a) ∧ Row W2 b 139 [x0, x1, x2, x3, u, v] ∧ Turned [b] w W2 := by
  intro W2
  have rF := ((((hz.other (a := ⟨b, 4, none⟩) (by show b ≠ _; omega) u).other (a := ⟨b, 5, none⟩) (by show b ≠ _; omega) v).stored 0 q).stored 1 a)
  have rK := ((((hk.stored 4 u).stored 5 v).other (a := ⟨w.heap.size, 0, none⟩) (by show w.heap.size ≠ b; omega) q).other (a := ⟨w.heap.size, 1, none⟩) (by show w.heap.size ≠ b; omega) a)
  refine ⟨(Row.two (a := q) (b := a) rF).1, rK, ?_⟩
  exact (((((Below.turned hb).mono (cs := [b]) (by simp)).setIn (p := ⟨b, 4, none⟩) (by simp) u).setIn (p := ⟨b, 5, none⟩) (by simp) v).setNew (p := ⟨w.heap.size, 0, none⟩) (Nat.le_refl _) q).setNew (p := ⟨w.heap.size, 1, none⟩) (Nat.le_refl _) a

set_option maxRecDepth 100000 in
set_option maxHeartbeats 3200000 in
theorem step_any (b : Nat) (t : TData) (vm : Value) (s : ByteArray) (p : Nat × Nat) (w : World) (h : Row w b 139 (wkr t vm s (pI p))) (hm : RdPP w vm t.mv) (ok : OkT t) (hl : lettersOk t.L s = true) (hs : s.size ≤ 60) (hp : OkP t.mv.length s.size p) :
    Calls Try.prog 102 #[.pointer (some ⟨b, 0, none⟩)] w fun e w' => e = .returned (.tuple #[.agg #[.int .i64 (p.1 : Int), .int .i64 (p.2 : Int)], deedV (moveOn t s p.1 p.2)]) ∧ Row w' b 139 (wkr t vm s (onP t s p)) ∧ Turned [b] w w' := by
  obtain ⟨A, ca, rfl⟩ := RdL.shape hm
  have hv : RdT w (.agg #[.int .i64 t.L, .int .i64 t.S, .slice A t.mv.length ca]) t := ⟨_, rfl, hm⟩
  have HD := Lib.hid (fun W (hb : Below w.heap.size w W) => deedAt_any _ t s p.1 p.2 W (keepsT _ _ _ _ hv hb) ok hl hs hp.1 hp.2)
  have hmo := move_on ok hl hp
  have HON := Lib.hid (show onP t s p = if (moveOn t s p.1 p.2).1 < 0 then pI p else ((moveOn t s p.1 p.2).1, (p.2 : Int) + (moveOn t s p.1 p.2).2) from rfl)
  have hz := (Row.new w [.int .i64 0, .int .i64 0] 70).alloc (.cells #[.int .i64 (p.1 : Int), .int .i64 (p.2 : Int)] 70)
  have hq := Row.new (w.alloc (.cells #[.int .i64 0, .int .i64 0] 70)) [.int .i64 (p.1 : Int), .int .i64 (p.2 : Int)] 70
  have hk := (h.alloc (.cells #[.int .i64 0, .int .i64 0] 70)).alloc (.cells #[.int .i64 (p.1 : Int), .int .i64 (p.2 : Int)] 70)
  have HZ := Lib.hid hz
  have HQ := Lib.hid (show Row _ (w.heap.size + 1) _ _ by simpa using hq)
  have HK := Lib.hid hk
  have HB := Lib.hid ((below_alloc w (.cells #[.int .i64 0, .int .i64 0] 70)).alloc (by simp) (.cells #[.int .i64 (p.1 : Int), .int .i64 (p.2 : Int)] 70))
  have hlt := h.lt
  have HLT := Lib.hid hlt
  have cc := concWalk
  have hpa : p.2 ≤ 61 := by have := hp.2; omega
  unfold wkr pI at h
  obtain ⟨⟨k0, k1, k2, k3, k4, k5⟩, kf⟩ := h.six
  generalize onP t s p = on at *
  generalize moveOn t s p.1 p.2 = mv at *
  obtain ⟨mx, my⟩ := mv
  obtain ⟨pq, pa⟩ := p
  simp only at *
  have HMO := Lib.hid hmo
  clear hz hq hk hv hm h hp hmo
  go_enter Try.func102, Try.ntmps102
  go_wp2_with fail
  clear k0 k1 k2 k3 k4 k5 kf hlt
  generalize (w.alloc (.cells #[.int .i64 0, .int .i64 0] 70)).alloc (.cells #[.int .i64 (pq : Int), .int .i64 (pa : Int)] 70) = W0 at *
  obtain ⟨⟨k0, k1, k2, k3, k4, k5⟩, -⟩ := (show Row W0 b 139 [.int .i64 t.L, .int .i64 t.S, .slice A t.mv.length ca, .string s, .int .i64 (pq : Int), .int .i64 (pa : Int)] from HK.out).six
  obtain ⟨⟨q0, q1⟩, -⟩ := HQ.out.two
  go_region_held3 (fun W => W.cell? ⟨b, 0, none⟩ = some (.int .i64 t.L) ∧ W.cell? ⟨b, 1, none⟩ = some (.int .i64 t.S) ∧ W.cell? ⟨b, 2, none⟩ = some (.slice A t.mv.length ca) ∧ W.cell? ⟨b, 3, none⟩ = some (.string s) ∧ W.cell? ⟨w.heap.size + 1, 0, none⟩ = some (.int .i64 (pq : Int)) ∧ W.cell? ⟨w.heap.size + 1, 1, none⟩ = some (.int .i64 (pa : Int)))
    (first | go_keep | (go_split_ands; refine ⟨?_, ?_, ?_, ?_, ?_, ?_⟩ <;> exact below_keep hbk (by assumption)))
    (first
      | (go_at_call 71; (with_reducible refine (HD.out _ (by first | exact HB.out | exact HB.out.drew | exact below_drewN HB.out _)).mono ?_); rintro e wz ⟨rfl, hbk⟩; have HCz := Lib.hid (show Below W0.heap.size W0 wz from below_step (by first | exact Below.refl _ _ | exact below_drew _ | exact below_drewN' _ _) hbk)))
  clear k0 k1 k2 k3 k4 k5 q0 q1
  have HKz := Lib.hid (HK.out.below HCz.out HK.out.lt)
  have HZz := Lib.hid (HZ.out.below HCz.out HZ.out.lt)
  have HQz := Lib.hid (HQ.out.below HCz.out HQ.out.lt)
  have HBz := Lib.hid (below_step HB.out HCz.out)
  clear HK HZ HQ HB HCz HD
  rcases HMO.out with ⟨h0 | h0, h9⟩ | ⟨h0, h5, h6, h7, h8, h9⟩
  · subst h0; subst h9
    rw [deedV_stopT]
    have ht := taWalkNo wz (.agg #[.bool true])
    obtain ⟨⟨q0, q1⟩, qf⟩ := HQz.out.two
    obtain ⟨⟨z0, z1⟩, zf⟩ := HZz.out.two
    have lz := HZz.out.lt
    have lq := HQz.out.lt
    have HE := Lib.hid (step_end HBz.out HLT.out HZz.out HKz.out (.int .i64 (pq : Int)) (.int .i64 (pa : Int)) (.cells #[.int .i64 0, .int .i64 0] 99))
    go_wp2
    obtain ⟨⟨e0, e1⟩, eK, eT⟩ := HE.out
    have eo : on = ((pq : Int), (pa : Int)) := by rw [HON.out]; simp [pI]
    rw [eo]
    generalize ((wz.setCell ⟨w.heap.size, 0, none⟩ (.int .i64 (pq : Int))).setCell ⟨w.heap.size, 1, none⟩ (.int .i64 (pa : Int))).alloc (.cells #[.int .i64 0, .int .i64 0] 99) = W2 at *
    refine bodyPost_ret (v := .tuple #[.agg #[.int .i64 (pq : Int), .int .i64 (pa : Int)], .iface 143 (.agg #[.bool true])]) (by simp [results, Try.results102, go_sem, e0, e1]) rfl ⟨?_, eK, eT⟩
    simp [deedV, stopV]
  · subst h0; subst h9
    rw [deedV_stopF]
    have ht := taWalkNo wz (.agg #[.bool false])
    obtain ⟨⟨q0, q1⟩, qf⟩ := HQz.out.two
    obtain ⟨⟨z0, z1⟩, zf⟩ := HZz.out.two
    have lz := HZz.out.lt
    have lq := HQz.out.lt
    have HE := Lib.hid (step_end HBz.out HLT.out HZz.out HKz.out (.int .i64 (pq : Int)) (.int .i64 (pa : Int)) (.cells #[.int .i64 0, .int .i64 0] 99))
    go_wp2
    obtain ⟨⟨e0, e1⟩, eK, eT⟩ := HE.out
    have eo : on = ((pq : Int), (pa : Int)) := by rw [HON.out]; simp [pI]
    rw [eo]
    generalize ((wz.setCell ⟨w.heap.size, 0, none⟩ (.int .i64 (pq : Int))).setCell ⟨w.heap.size, 1, none⟩ (.int .i64 (pa : Int))).alloc (.cells #[.int .i64 0, .int .i64 0] 99) = W2 at *
    refine bodyPost_ret (v := .tuple #[.agg #[.int .i64 (pq : Int), .int .i64 (pa : Int)], .iface 143 (.agg #[.bool false])]) (by simp [results, Try.results102, go_sem, e0, e1]) rfl ⟨?_, eK, eT⟩
    simp [deedV, stopV]
  · rw [deedV_go _ _ h0]
    have ht := taWalkYes wz (.agg #[.int .i64 mx, .int .i64 my])
    obtain ⟨⟨q0, q1⟩, qf⟩ := HQz.out.two
    have lq := HQz.out.lt
    go_wp2_with fail
    refine (from_any mx my _ _ _ hpa h6 h7).mono ?_
    rintro e w3 ⟨rfl, hb3⟩
    have hb4 := below_step (below_alloc wz (.cells #[.int .i64 mx, .int .i64 my] 99)) hb3
    have HK3 := Lib.hid (HKz.out.below hb4 HKz.out.lt)
    have HZ3 := Lib.hid (HZz.out.below hb4 HZz.out.lt)
    have HQ3 := Lib.hid (HQz.out.below hb4 HQz.out.lt)
    have HE := Lib.hid (step_on (below_step HBz.out hb4) HLT.out HZ3.out HK3.out (.int .i64 mx) (.int .i64 ((pa : Int) + my)) (.int .i64 (pq : Int)) (.int .i64 (pa : Int)))
    clear q0 q1 qf lq hb3 hb4 ht
    obtain ⟨⟨q0, q1⟩, qf⟩ := HQ3.out.two
    obtain ⟨⟨z0, z1⟩, zf⟩ := HZ3.out.two
    obtain ⟨⟨k0, k1, k2, k3, k4, k5⟩, kf⟩ := (show Row w3 b 139 [.int .i64 t.L, .int .i64 t.S, .slice A t.mv.length ca, .string s, .int .i64 (pq : Int), .int .i64 (pa : Int)] from HK3.out).six
    have lz := HZ3.out.lt
    have lq := HQ3.out.lt
    have lk := HK3.out.lt
    have hne1 : b ≠ w.heap.size := by have := HLT.out; omega
    have hne2 : b ≠ w.heap.size + 1 := by have := HLT.out; omega
    go_wp2
    obtain ⟨⟨e0, e1⟩, eK, eT⟩ := HE.out
    have eo : on = (mx, (pa : Int) + my) := by rw [HON.out, if_neg (by omega)]
    rw [eo]
    generalize ((((w3.setCell ⟨b, 4, none⟩ (.int .i64 mx)).setCell ⟨b, 5, none⟩ (.int .i64 ((pa : Int) + my))).setCell ⟨w.heap.size, 0, none⟩ (.int .i64 (pq : Int))).setCell ⟨w.heap.size, 1, none⟩ (.int .i64 (pa : Int))) = W2 at *
    refine bodyPost_ret (v := .tuple #[.agg #[.int .i64 (pq : Int), .int .i64 (pa : Int)], .iface 99 (.agg #[.int .i64 mx, .int .i64 my])]) (by simp [results, Try.results102, go_sem, e0, e1]) rfl ⟨?_, eK, eT⟩
    rw [deedV_go _ _ h0]
end Go.Proofs.Ytdkalefepdlccaa
