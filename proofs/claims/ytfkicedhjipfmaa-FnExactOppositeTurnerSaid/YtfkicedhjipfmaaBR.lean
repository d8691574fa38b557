/-
  A reader that is being made in a box of the call's own: one state more, field by field.
-/
import Derived.Test.YtfkicedhjipfmaaKR
import Derived.Test.YtfkicedhjipfmaaApp
namespace Go.Proofs.Ytfkicedhjipfmaa
open Go.RowKit

/-- Draws do not matter for what an append has left. -/
theorem undrew {w w' : World} {r : Option Nat} (h : w.drew.grownBy w' r) : w.grownBy w' r := ⟨h.os, h.tape, h.output, h.size, h.block⟩

/-- Behind an append to v (its element in a block o of its own), and a store of it into a box p: another row. -/
theorem app_row {w w2 : World} {o : Obj} {v u : Value} {g p off : Nat} {e : TypeId} {xs : List Value} (hg : (w.alloc o).grownBy w2 v.ownBlock) (h : Row w g e xs) (h1 : g ∉ blks v) (h2 : p ≠ g) : Row (w2.setCell ⟨p, off, none⟩ u) g e xs :=
  (grown_row hg (h.alloc o) h1).other h2 u
theorem app_below {w0 w w2 : World} {o : Obj} {v u : Value} {p off : Nat} (hb : Below w0.heap.size w0 w) (hg : (w.alloc o).grownBy w2 v.ownBlock) (hv : ∀ b ∈ blks v, w0.heap.size ≤ b) (hp : w0.heap.size ≤ p) : Below w0.heap.size w0 (w2.setCell ⟨p, off, none⟩ u) :=
  ((below_step hb (below_alloc w o)).trans (grown_below hg (Nat.le_trans hb.size (below_alloc w o).size) hv)).setCell hp u
theorem app_own {α : Type} {R : World → Nat → Value → α → List Nat → Prop} (gd : Good R) {w w2 : World} {o : Obj} {v u y : Value} {p off lo : Nat} {x : α} {cs : List Nat} (hg : (w.alloc o).grownBy w2 v.ownBlock) (h : R w lo y x cs) (h1 : ∀ c ∈ cs, c ∉ blks v) (h2 : p < lo) : R (w2.setCell ⟨p, off, none⟩ u) lo y x cs :=
  gd.under (grown_keep gd hg (gd.below h (below_alloc w o)) h1) (a := ⟨p, off, none⟩) h2 u

theorem nodup_snoc {b c : List Nat} {g n : Nat} (h : (b ++ c).Nodup) (hat : g ∈ b ∨ g = n) (hc : ∀ x ∈ c, x < n) : ([g] ++ c).Nodup := by
  have hN := List.nodup_append.1 h
  rw [List.nodup_append]
  refine ⟨by simp, hN.2.1, ?_⟩
  intro x hx y hy e
  subst e
  simp at hx
  subst hx
  rcases hat with hm | rfl
  · exact hN.2.2 x hm x hy rfl
  · have := hc x hy; omega

/-- A reader in the box po, what it leads to from block lo on. -/
def BoxR (w : World) (lo po : Nat) (r : RData) : Prop :=
  ∃ va vn ba bn, Row w po 32 [.int .i64 r.L, .int .i64 r.S, va, vn] ∧ OwV bools 4 w lo va r.acc ba ∧ OwL (OwV ints 2) 48 w lo vn r.next bn ∧ (ba ++ bn).Nodup ∧ po ∉ ba ++ bn

theorem BoxR.start (w : World) (L S : Int) : BoxR (w.alloc (.cells #[.int .i64 L, .int .i64 S, .slice none 0 0, .slice none 0 0] 32)) w.heap.size w.heap.size ⟨L, S, [], []⟩ :=
  ⟨_, _, [], [], Row.new _ _ _, owV_nil bools [] rfl _ _ _, owL_nil _ _ _ _, by simp, by simp⟩

theorem BoxR.below {w w' : World} {lo po : Nat} {r : RData} (h : BoxR w lo po r) (hb : Below w.heap.size w w') : BoxR w' lo po r := by
  obtain ⟨va, vn, ba, bn, ho, ha, hn, hd, hp⟩ := h
  exact ⟨va, vn, ba, bn, ho.below hb ho.lt, (goodV bools _).below ha hb, (goodL (goodV ints _) _).below hn hb, hd, hp⟩
theorem BoxR.drew {w : World} {lo po : Nat} {r : RData} (h : BoxR w lo po r) : BoxR w.drew lo po r := h.below (below_drew w)

/-- One more in Accept. -/
theorem BoxR.snocAcc {w w2 : World} {lo po : Nat} {L S : Int} {acc : List Bool} {next : List (List Int)} {va vn : Value} {ba bn : List Nat} {o : Obj} {z : Bool} {g m cap : Nat}
    (ho : Row w po 32 [.int .i64 L, .int .i64 S, va, vn]) (ha : OwV bools 4 w lo va acc ba) (hn : OwL (OwV ints 2) 48 w lo vn next bn) (hd : (ba ++ bn).Nodup) (hp : po ∉ ba ++ bn)
    (hg : (w.alloc o).grownBy w2 va.ownBlock) (hown : w2.ownsRow lo 4 1 (.slice (some ⟨g, 0, none⟩) m cap) m (bools acc ++ [.bool z])) (hm : m = acc.length + 1) (hat : va.ownBlock = some g ∨ g = w.heap.size + 1) :
    BoxR (w2.setCell ⟨po, 2, none⟩ (.slice (some ⟨g, 0, none⟩) m cap)) lo po ⟨L, S, acc ++ [z], next⟩ := by
  obtain ⟨ha1, rfl⟩ := ha
  have hN := List.nodup_append.1 hd
  rw [List.mem_append, not_or] at hp
  have lpo := ho.lt
  have hgp : g ≠ po := by
    rintro rfl
    rcases hat with h | h
    · exact hp.1 (mem_blks.2 h)
    · omega
  refine ⟨_, vn, [g], bn, (grown_row hg (ho.alloc o) hp.1).stored 2 _, ?_, ?_, ?_, ?_⟩
  · refine (goodV bools _).other (a := ⟨po, 2, none⟩) _ ?_ (by simpa using fun e => hgp e.symm)
    exact ⟨by unfold Own; rw [bools_snoc, show (bools acc ++ [Value.bool z]).length = m by simp [bools_len, hm]]; exact hown, rfl⟩
  · exact (goodL (goodV ints _) _).other (a := ⟨po, 2, none⟩) _ (grown_keep (goodL (goodV ints _) _) hg ((goodL (goodV ints _) _).below hn (below_alloc w o)) (fun c hc hb => hN.2.2 c hb c hc rfl)) hp.2
  · exact nodup_snoc hd (snoc_block hat) (fun x hx => by have := ((goodL (goodV ints _) _).lt hn hx).2; omega)
  · simp only [List.mem_append, List.mem_singleton, not_or]
    exact ⟨fun e => hgp e.symm, hp.2⟩

/-- One more in Next. -/
theorem BoxR.snocNext {w w2 : World} {lo po : Nat} {L S : Int} {acc : List Bool} {next : List (List Int)} {va vn u0 : Value} {ba b0 : List Nat} {vs : List Value} {bss : List (List Nat)} {o : Obj} {x0 : List Int} {g m cap : Nat}
    (ho : Row w po 32 [.int .i64 L, .int .i64 S, va, vn]) (ha : OwV bools 4 w lo va acc ba)
    (hv : Own w 48 lo vn vs) (e1 : vs.length = next.length) (e2 : bss.length = next.length) (e3 : ∀ (i : Nat) u x b, vs[i]? = some u → next[i]? = some x → bss[i]? = some b → OwV ints 2 w lo u x b) (e5 : (blks vn ++ bss.flatten).Nodup) (hd : (ba ++ (blks vn ++ bss.flatten)).Nodup) (hp : po ∉ ba ++ (blks vn ++ bss.flatten))
    (hu : OwV ints 2 w lo u0 x0 b0) (hdu : ∀ c ∈ b0, c ∉ ba ++ (blks vn ++ bss.flatten)) (hpu : po ∉ b0)
    (hg : (w.alloc o).grownBy w2 vn.ownBlock) (hown : w2.ownsRow lo 48 1 (.slice (some ⟨g, 0, none⟩) m cap) m (vs ++ [u0])) (hm : m = next.length + 1) (hat : vn.ownBlock = some g ∨ g = w.heap.size + 1) :
    BoxR (w2.setCell ⟨po, 3, none⟩ (.slice (some ⟨g, 0, none⟩) m cap)) lo po ⟨L, S, acc, next ++ [x0]⟩ := by
  subst hm
  have hN := List.nodup_append.1 hd
  have hb := below_alloc w o
  have lpo := ho.lt
  simp only [List.mem_append, not_or] at hp
  have hgp : g ≠ po := by
    rintro rfl
    rcases hat with h | h
    · exact hp.2.1 (mem_blks.2 h)
    · omega
  have hnew := OwL.snoc (goodV ints 2) (hv.below hb) e1 e2 (fun i u x b h1 h2 h3 => (goodV ints _).below (e3 i u x b h1 h2 h3) hb) e5 ((goodV ints _).below hu hb) (fun c hc hm => hdu c hc (List.mem_append_right _ hm)) hg hown hat (by simp)
  have hpn : po ∉ [g] ++ (bss ++ [b0]).flatten := by
    rw [List.flatten_append]
    simp only [List.mem_append, List.mem_singleton, not_or]
    exact ⟨fun e => hgp e.symm, hp.2.2, by simpa using hpu⟩
  refine ⟨va, _, ba, [g] ++ (bss ++ [b0]).flatten, (grown_row hg (ho.alloc o) hp.2.1).stored 3 _, ?_, ?_, ?_, ?_⟩
  · exact (goodV bools _).other (a := ⟨po, 3, none⟩) _ (grown_keep (goodV bools _) hg ((goodV bools _).below ha (below_alloc w o)) (fun c hc hm => hN.2.2 c hc c (List.mem_append_left _ hm) rfl)) hp.1
  · exact (goodL (goodV ints _) _).other (a := ⟨po, 3, none⟩) _ hnew hpn
  · rw [List.nodup_append]
    refine ⟨hN.1, (goodL (goodV ints _) _).nodup hnew, ?_⟩
    intro x hx y hy e
    subst e
    rcases List.mem_append.1 hy with h | h
    · simp at h
      subst h
      rcases hat with h | h
      · exact hN.2.2 x hx x (List.mem_append_left _ (mem_blks.2 h)) rfl
      · have := ((goodV bools _).lt ha hx).2; omega
    · rw [List.flatten_append, List.mem_append] at h
      rcases h with h | h
      · exact hN.2.2 x hx x (List.mem_append_right _ h) rfl
      · exact hdu x (by simpa using h) (List.mem_append_left _ hx)
  · rw [List.mem_append, not_or]
    exact ⟨hp.1, hpn⟩
end Go.Proofs.Ytfkicedhjipfmaa
