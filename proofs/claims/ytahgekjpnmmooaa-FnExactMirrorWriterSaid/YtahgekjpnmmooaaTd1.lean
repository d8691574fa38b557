/-
  A turner that is being made in a box of the call's own: one row more; the rows by what is done in each state above each sign.
-/
import Derived.Test.YtahgekjpnmmooaaZT
import Derived.Test.YtahgekjpnmmooaaBR
namespace Go.Proofs.Ytahgekjpnmmooaa
open Go.RowKit

/-- A turner in the box po, what it leads to from block lo on. -/
def BoxT (w : World) (lo po : Nat) (t : TData) : Prop :=
  ∃ vm bm, Row w po 24 [.int .i64 t.L, .int .i64 t.S, vm] ∧ OwL (OwP 55) 51 w lo vm t.mv bm ∧ po ∉ bm

theorem BoxT.start (w : World) (L S : Int) : BoxT (w.alloc (.cells #[.int .i64 L, .int .i64 S, .slice none 0 0] 24)) w.heap.size w.heap.size ⟨L, S, []⟩ :=
  ⟨_, [], Row.new _ _ _, owL_nil _ _ _ _, by simp⟩
theorem BoxT.below {w w' : World} {lo po : Nat} {t : TData} (h : BoxT w lo po t) (hb : Below w.heap.size w w') : BoxT w' lo po t := by
  obtain ⟨vm, bm, ho, hm, hp⟩ := h
  exact ⟨vm, bm, ho.below hb ho.lt, (goodL (goodP _) _).below hm hb, hp⟩
theorem BoxT.lt {w : World} {lo po : Nat} {t : TData} (h : BoxT w lo po t) : po < w.heap.size := by
  obtain ⟨vm, bm, ho, hm, hp⟩ := h
  exact ho.lt
theorem BoxT.drew {w : World} {lo po : Nat} {t : TData} (h : BoxT w lo po t) : BoxT w.drew lo po t := h.below (below_drew w)

/-- One row more. -/
theorem BoxT.snoc {w w2 : World} {lo po : Nat} {L S : Int} {mv : List (List (Int × Int))} {vm u0 : Value} {b0 : List Nat} {vs : List Value} {bss : List (List Nat)} {o : Obj} {x0 : List (Int × Int)} {g m cap : Nat}
    (ho : Row w po 24 [.int .i64 L, .int .i64 S, vm])
    (hv : Own w 51 lo vm vs) (e1 : vs.length = mv.length) (e2 : bss.length = mv.length) (e3 : ∀ (i : Nat) u x b, vs[i]? = some u → mv[i]? = some x → bss[i]? = some b → OwP 55 w lo u x b) (e5 : (blks vm ++ bss.flatten).Nodup) (hp : po ∉ blks vm ++ bss.flatten)
    (hu : OwP 55 w lo u0 x0 b0) (hdu : ∀ c ∈ b0, c ∉ blks vm ++ bss.flatten) (hpu : po ∉ b0)
    (hg : (w.alloc o).grownBy w2 vm.ownBlock) (hown : w2.ownsRow lo 51 1 (.slice (some ⟨g, 0, none⟩) m cap) m (vs ++ [u0])) (hm : m = mv.length + 1) (hat : vm.ownBlock = some g ∨ g = w.heap.size + 1) :
    BoxT (w2.setCell ⟨po, 2, none⟩ (.slice (some ⟨g, 0, none⟩) m cap)) lo po ⟨L, S, mv ++ [x0]⟩ := by
  subst hm
  have hb := below_alloc w o
  have lpo := ho.lt
  simp only [List.mem_append, not_or] at hp
  have hgp : g ≠ po := by
    rintro rfl
    rcases hat with h | h
    · exact hp.1 (mem_blks.2 h)
    · omega
  have hnew := OwL.snoc (goodP 55) (hv.below hb) e1 e2 (fun i u x b h1 h2 h3 => (goodP _).below (e3 i u x b h1 h2 h3) hb) e5 ((goodP _).below hu hb) (fun c hc hm => hdu c hc hm) hg hown hat (by simp)
  have hpn : po ∉ [g] ++ (bss ++ [b0]).flatten := by
    rw [List.flatten_append]
    simp only [List.mem_append, List.mem_singleton, not_or]
    exact ⟨fun e => hgp e.symm, hp.2, by simpa using hpu⟩
  exact ⟨_, [g] ++ (bss ++ [b0]).flatten, (grown_row hg (ho.alloc o) hp.1).stored 2 _, (goodL (goodP _) _).other (a := ⟨po, 2, none⟩) _ hnew hpn, hpn⟩

/-- The rows of a turner that does G. -/
def rowOf (G : Nat → Nat → Int × Int) (c q : Nat) : List (Int × Int) := (List.range c).map (G q)
def tableOf (G : Nat → Nat → Int × Int) (c n : Nat) : List (List (Int × Int)) := (List.range n).map (rowOf G c)
theorem rowOf_len (G : Nat → Nat → Int × Int) (c q : Nat) : (rowOf G c q).length = c := by simp [rowOf]
theorem tableOf_len (G : Nat → Nat → Int × Int) (c n : Nat) : (tableOf G c n).length = n := by simp [tableOf]
theorem rowOf_get (G : Nat → Nat → Int × Int) {c q k : Nat} (h : k < c) : (rowOf G c q)[k]? = some (G q k) := by simp [rowOf, h]
theorem tableOf_succ (G : Nat → Nat → Int × Int) (c n : Nat) : tableOf G c (n + 1) = tableOf G c n ++ [rowOf G c n] := by simp [tableOf, List.range_succ]
/-- A move that a deed stands for. -/
def Deeded (m : Int × Int) : Prop := ((m.1 = -1 ∨ m.1 = -2) ∧ m.2 = 0) ∨ 0 ≤ m.1

theorem methodStopMove (n : Nat) (b : Bool) (w : World) : (method (n + 1) 63 (.agg #[.bool b]) "loop.example/g01134/impl.move").run Try.prog w = .ok (121, .agg #[.bool b]) w := by kernel_rfl
theorem methodWalkMove (n : Nat) (x y : Int) (w : World) : (method (n + 1) 61 (.agg #[.int .i64 x, .int .i64 y]) "loop.example/g01134/impl.move").run Try.prog w = .ok (116, .agg #[.int .i64 x, .int .i64 y]) w := by kernel_rfl
theorem stopEnding_any (b : Bool) (w : World) :
    Calls Try.prog 125 #[.agg #[.bool b]] w fun e w' => e = .returned (.int .i64 (if b then -1 else -2)) ∧ Below w.heap.size w w' := by
  cases b
  · go_enter Try.func125, Try.ntmps125
    go_wp2
    go_ret
    exact ⟨by simp, below_alloc _ _⟩
  · go_enter Try.func125, Try.ntmps125
    go_wp2
    go_ret
    exact ⟨by simp, below_alloc _ _⟩
theorem stopMove_any (b : Bool) (w : World) :
    Calls Try.prog 121 #[.agg #[.bool b]] w fun e w' => e = .returned (.agg #[.int .i64 (if b then -1 else -2), .int .i64 0]) ∧ Below w.heap.size w w' := by
  have HB := Lib.hid (below_step (below_alloc w (.cells #[.bool b] 63)) (below_alloc _ (.cells #[.int .i64 0, .int .i64 0] 55)))
  have hz0 := Row.new (w.alloc (.cells #[.bool b] 63)) [.int .i64 0, .int .i64 0] 55
  have HZ := Lib.hid (show Row _ (w.heap.size + 1) _ _ by simpa using hz0)
  clear hz0
  obtain ⟨z, hz⟩ : ∃ z : Int, (if b then -1 else -2) = z := ⟨_, rfl⟩
  have HE := Lib.hid (fun W => stopEnding_any b W)
  rw [hz] at HE ⊢
  clear hz
  go_enter Try.func121, Try.ntmps121
  go_wp2_with fail
  refine (HE.out _).mono ?_
  rintro e w1 ⟨rfl, hb⟩
  have HZ1 := Lib.hid (HZ.out.below hb HZ.out.lt)
  have HB1 := Lib.hid (below_step HB.out hb)
  obtain ⟨⟨z0, z1⟩, zf⟩ := HZ1.out.two
  have lz := HZ1.out.lt
  clear hb
  go_wp2
  have rF := (HZ1.out.stored 0 (.int .i64 z)).stored 1 (.int .i64 0)
  have eB := (HB1.out.setCell (p := ⟨w.heap.size + 1, 0, none⟩) (Nat.le_succ _) (.int .i64 z)).setCell (p := ⟨w.heap.size + 1, 1, none⟩) (Nat.le_succ _) (.int .i64 0)
  generalize (w1.setCell ⟨w.heap.size + 1, 0, none⟩ (.int .i64 z)).setCell ⟨w.heap.size + 1, 1, none⟩ (.int .i64 0) = W2 at *
  obtain ⟨⟨y0, y1⟩, -⟩ := Row.two (a := .int .i64 z) (b := .int .i64 0) rF
  exact bodyPost_ret (v := .agg #[.int .i64 z, .int .i64 0]) (by simp [results, Try.results121, go_sem, y0, y1]) rfl ⟨rfl, eB⟩
theorem walkMove_any (x y : Int) (w : World) :
    Calls Try.prog 116 #[.agg #[.int .i64 x, .int .i64 y]] w fun e w' => e = .returned (.agg #[.int .i64 x, .int .i64 y]) ∧ Below w.heap.size w w' := by
  go_enter Try.func116, Try.ntmps116
  go_wp2
  refine bodyPost_ret (v := .agg #[.int .i64 x, .int .i64 y]) (by simp [results, Try.results116, go_sem]) rfl ⟨rfl, ?_⟩
  exact (below_alloc _ _).alloc (by simp) _

theorem doing_limit (L S n : Int) (cl : Value) (w : World) (hn : 12 < n) :
    Calls Try.prog 78 #[.int .i64 L, .int .i64 S, .int .i64 n, cl] w fun e w' =>
      ∃ u bs, e = .returned (.tuple #[u, .int .i64 3]) ∧ OwT w' w.heap.size u ⟨0, 0, []⟩ bs ∧ Below w.heap.size w w' := by
  have hz := Row.new w [.int .i64 0, .int .i64 0, .slice none 0 0] 24
  have HI := Lib.hid (show _ ∧ _ from ⟨below_alloc w (.cells #[.int .i64 0, .int .i64 0, .slice none 0 0] 24), hz⟩)
  clear hz
  go_enter Try.func78, Try.ntmps78
  go_wp2
  refine bodyPost_ret (v := .tuple #[.agg #[.int .i64 0, .int .i64 0, .slice none 0 0], .int .i64 3]) (by simp [results, Try.results78, go_sem]) rfl ?_
  first | exact ⟨_, [], rfl, ⟨_, [], rfl, owL_nil _ _ _ _, rfl, by simp⟩, HI.out.1⟩ | exact ⟨_, rfl, ⟨[], ⟨_, [], rfl, owL_nil _ _ _ _, rfl, by simp⟩⟩, HI.out.1⟩
end Go.Proofs.Ytahgekjpnmmooaa
