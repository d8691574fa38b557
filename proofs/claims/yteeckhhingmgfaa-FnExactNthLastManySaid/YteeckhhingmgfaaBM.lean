/-
  An automaton with many ways that is being made in a box of the call's own: more in Starts, in Accept, in Next.
-/
import Derived.Test.YteeckhhingmgfaaZM
import Derived.Test.YteeckhhingmgfaaBR
namespace Go.Proofs.Yteeckhhingmgfaa
open Go.RowKit

def OwLL : World → Nat → Value → List (List (List Int)) → List Nat → Prop := OwL (OwL (OwV ints 2) 23) 22
theorem goodLL : Good OwLL := goodL (goodL (goodV ints _) _) _

def BoxM (w : World) (lo po : Nat) (m : MData) : Prop :=
  ∃ Bs ks Ba ka Bn kn, ∃ bs ba bn : List Nat, Row w po 43 [.int .i64 m.L, .slice Bs m.st.length ks, .slice Ba m.acc.length ka, .slice Bn m.next.length kn] ∧
    OwV ints 2 w lo (.slice Bs m.st.length ks) m.st bs ∧ OwV bools 4 w lo (.slice Ba m.acc.length ka) m.acc ba ∧ OwLL w lo (.slice Bn m.next.length kn) m.next bn ∧ (bs ++ (ba ++ bn)).Nodup ∧ po ∉ bs ++ (ba ++ bn)
theorem BoxM.below {w w' : World} {lo po : Nat} {m : MData} (h : BoxM w lo po m) (hb : Below w.heap.size w w') : BoxM w' lo po m := by
  obtain ⟨Bs, ks, Ba, ka, Bn, kn, bs, ba, bn, ho, h1, h2, h3, hd, hp⟩ := h
  exact ⟨Bs, ks, Ba, ka, Bn, kn, bs, ba, bn, ho.below hb ho.lt, (goodV ints _).below h1 hb, (goodV bools _).below h2 hb, goodLL.below h3 hb, hd, hp⟩
theorem BoxM.lt {w : World} {lo po : Nat} {m : MData} (h : BoxM w lo po m) : po < w.heap.size := by
  obtain ⟨Bs, ks, Ba, ka, Bn, kn, bs, ba, bn, ho, _⟩ := h
  exact ho.lt
theorem BoxM.start (w : World) (L : Int) (lo : Nat) : BoxM (w.alloc (.cells #[.int .i64 L, .slice none 0 0, .slice none 0 0, .slice none 0 0] 43)) lo w.heap.size ⟨L, [], [], []⟩ :=
  ⟨none, 0, none, 0, none, 0, [], [], [], Row.new _ _ _, owV_nil ints [] rfl _ _ _, owV_nil bools [] rfl _ _ _, owL_nil _ _ _ _, by simp, by simp⟩

theorem nodup_mid {a b c b' : List Nat} {n : Nat} (h : (a ++ (b ++ c)).Nodup) (hb : b'.Nodup) (hs : ∀ x ∈ b', x ∈ b ∨ n ≤ x) (ha : ∀ x ∈ a, x < n) (hc : ∀ x ∈ c, x < n) : (a ++ (b' ++ c)).Nodup := by
  have h1 := List.nodup_append.1 h
  have h2 := List.nodup_append.1 h1.2.1
  rw [List.nodup_append]
  refine ⟨h1.1, ?_, ?_⟩
  · rw [List.nodup_append]
    refine ⟨hb, h2.2.1, fun x hx y hy e => ?_⟩
    subst e
    rcases hs x hx with k | k
    · exact h2.2.2 x k x hy rfl
    · have := hc x hy; omega
  · intro x hx y hy e
    subst e
    rcases List.mem_append.1 hy with k | k
    · rcases hs x k with k | k
      · exact h1.2.2 x hx x (List.mem_append_left _ k) rfl
      · have := ha x hx; omega
    · exact h1.2.2 x hx x (List.mem_append_right _ k) rfl

section
variable {w w1 w2 : World} {lo po g m cap H : Nat} {L : Int} {st : List Int} {acc : List Bool} {next : List (List (List Int))} {Bs Ba Bn : Option Addr} {ks ka kn : Nat} {bs ba bn : List Nat}

theorem BoxM.appSt {ys : List Int} (ho : Row w po 43 [.int .i64 L, .slice Bs st.length ks, .slice Ba acc.length ka, .slice Bn next.length kn])
    (h1 : OwV ints 2 w lo (.slice Bs st.length ks) st bs) (h2 : OwV bools 4 w lo (.slice Ba acc.length ka) acc ba) (h3 : OwLL w lo (.slice Bn next.length kn) next bn) (hd : (bs ++ (ba ++ bn)).Nodup) (hp : po ∉ bs ++ (ba ++ bn))
    (hb : Below w.heap.size w w1) (hg : w1.grownBy w2 (Value.slice Bs st.length ks).ownBlock) (hown : w2.ownsRow lo 2 1 (.slice (some ⟨g, 0, none⟩) m cap) m (ints st ++ ints ys)) (hm : m = st.length + ys.length) (hat : (Value.slice Bs st.length ks).ownBlock = some g ∨ g = H) (hH : w1.heap.size ≤ H) :
    BoxM (w2.setCell ⟨po, 1, none⟩ (.slice (some ⟨g, 0, none⟩) m cap)) lo po ⟨L, st ++ ys, acc, next⟩ := by
  have e1 : ints st ++ ints ys = ints (st ++ ys) := by simp [ints]
  obtain rfl : m = (st ++ ys).length := by simp [hm]
  have hsz := hb.size
  simp only [List.mem_append, not_or] at hp
  have lpo := ho.lt
  have hl2 : ∀ x ∈ ba, x < w.heap.size := fun x hx => ((goodV bools 4).lt h2 hx).2
  have hl3 : ∀ x ∈ bn, x < w.heap.size := fun x hx => (goodLL.lt h3 hx).2
  have hbs : bs = blks (.slice Bs st.length ks) := h1.2
  have hgo : g ∈ bs ∨ w.heap.size ≤ g := by
    rcases hat with h | h
    · left; rw [hbs]; exact mem_blks.2 h
    · right; omega
  have hgp : ¬ po = g := by
    rintro rfl
    rcases hgo with h | h
    · exact hp.1 h
    · omega
  have hN := List.nodup_append.1 hd
  refine ⟨_, cap, Ba, ka, Bn, kn, [g], ba, bn, (grown_row hg (ho.below hb lpo) (by rw [← hbs]; exact hp.1)).stored 1 _, ?_, ?_, ?_, ?_, ?_⟩
  · refine (goodV ints _).other (a := ⟨po, 1, none⟩) _ ?_ (by simpa using hgp)
    exact ⟨by unfold Own; rw [ints_len, ← e1]; exact hown, by simp [blks, Value.ownBlock]⟩
  · exact (goodV bools _).other (a := ⟨po, 1, none⟩) _ (grown_keep (goodV bools _) hg ((goodV bools _).below h2 hb) (fun c hc hm => hN.2.2 c (by rw [hbs]; exact hm) c (List.mem_append_left _ hc) rfl)) hp.2.1
  · exact goodLL.other (a := ⟨po, 1, none⟩) _ (grown_keep goodLL hg (goodLL.below h3 hb) (fun c hc hm => hN.2.2 c (by rw [hbs]; exact hm) c (List.mem_append_right _ hc) rfl)) hp.2.2
  · have := nodup_mid (a := []) (b' := [g]) (n := w.heap.size) (by simpa using hd) (by simp) (fun x hx => by simp at hx; subst hx; exact hgo) (by simp) (fun x hx => by rcases List.mem_append.1 hx with h | h; exact hl2 x h; exact hl3 x h)
    simpa using this
  · simp only [List.mem_append, List.mem_singleton, not_or]
    exact ⟨hgp, hp.2.1, hp.2.2⟩

theorem BoxM.appAcc {ys : List Bool} (ho : Row w po 43 [.int .i64 L, .slice Bs st.length ks, .slice Ba acc.length ka, .slice Bn next.length kn])
    (h1 : OwV ints 2 w lo (.slice Bs st.length ks) st bs) (h2 : OwV bools 4 w lo (.slice Ba acc.length ka) acc ba) (h3 : OwLL w lo (.slice Bn next.length kn) next bn) (hd : (bs ++ (ba ++ bn)).Nodup) (hp : po ∉ bs ++ (ba ++ bn))
    (hb : Below w.heap.size w w1) (hg : w1.grownBy w2 (Value.slice Ba acc.length ka).ownBlock) (hown : w2.ownsRow lo 4 1 (.slice (some ⟨g, 0, none⟩) m cap) m (bools acc ++ bools ys)) (hm : m = acc.length + ys.length) (hat : (Value.slice Ba acc.length ka).ownBlock = some g ∨ g = H) (hH : w1.heap.size ≤ H) :
    BoxM (w2.setCell ⟨po, 2, none⟩ (.slice (some ⟨g, 0, none⟩) m cap)) lo po ⟨L, st, acc ++ ys, next⟩ := by
  have e1 : bools acc ++ bools ys = bools (acc ++ ys) := by simp [bools]
  obtain rfl : m = (acc ++ ys).length := by simp [hm]
  have hsz := hb.size
  simp only [List.mem_append, not_or] at hp
  have lpo := ho.lt
  have hl1 : ∀ x ∈ bs, x < w.heap.size := fun x hx => ((goodV ints 2).lt h1 hx).2
  have hl3 : ∀ x ∈ bn, x < w.heap.size := fun x hx => (goodLL.lt h3 hx).2
  have hbs : ba = blks (.slice Ba acc.length ka) := h2.2
  have hgo : g ∈ ba ∨ w.heap.size ≤ g := by
    rcases hat with h | h
    · left; rw [hbs]; exact mem_blks.2 h
    · right; omega
  have hgp : ¬ po = g := by
    rintro rfl
    rcases hgo with h | h
    · exact hp.2.1 h
    · omega
  have hN := List.nodup_append.1 hd
  have hN2 := List.nodup_append.1 hN.2.1
  refine ⟨Bs, ks, _, cap, Bn, kn, bs, [g], bn, (grown_row hg (ho.below hb lpo) (by rw [← hbs]; exact hp.2.1)).stored 2 _, ?_, ?_, ?_, ?_, ?_⟩
  · exact (goodV ints _).other (a := ⟨po, 2, none⟩) _ (grown_keep (goodV ints _) hg ((goodV ints _).below h1 hb) (fun c hc hm => hN.2.2 c hc c (List.mem_append_left _ (by rw [hbs]; exact hm)) rfl)) hp.1
  · refine (goodV bools _).other (a := ⟨po, 2, none⟩) _ ?_ (by simpa using hgp)
    exact ⟨by unfold Own; rw [bools_len, ← e1]; exact hown, by simp [blks, Value.ownBlock]⟩
  · exact goodLL.other (a := ⟨po, 2, none⟩) _ (grown_keep goodLL hg (goodLL.below h3 hb) (fun c hc hm => hN2.2.2 c (by rw [hbs]; exact hm) c hc rfl)) hp.2.2
  · exact nodup_mid (n := w.heap.size) hd (by simp) (fun x hx => by simp at hx; subst hx; exact hgo) hl1 hl3
  · simp only [List.mem_append, List.mem_singleton, not_or]
    exact ⟨hp.1, hgp, hp.2.2⟩

/-- One state more in Next, with one list of one number. -/
theorem BoxM.appNext {to : Int} (ho : Row w po 43 [.int .i64 L, .slice Bs st.length ks, .slice Ba acc.length ka, .slice Bn next.length kn])
    (h1 : OwV ints 2 w lo (.slice Bs st.length ks) st bs) (h2 : OwV bools 4 w lo (.slice Ba acc.length ka) acc ba) (h3 : OwLL w lo (.slice Bn next.length kn) next bn) (hd : (bs ++ (ba ++ bn)).Nodup) (hp : po ∉ bs ++ (ba ++ bn)) (hlo : lo ≤ w.heap.size)
    {vs : List Value} {bss : List (List Nat)} (hv : Own w 22 lo (.slice Bn next.length kn) vs) (e1 : vs.length = next.length) (e2 : bss.length = next.length)
    (e3 : ∀ (i : Nat) u x b, vs[i]? = some u → next[i]? = some x → bss[i]? = some b → OwL (OwV ints 2) 23 w lo u x b) (e4 : bn = blks (.slice Bn next.length kn) ++ bss.flatten) (e5 : (blks (.slice Bn next.length kn) ++ bss.flatten).Nodup)
    (hg : (((w.alloc (.cells #[.int .i64 to] 2)).alloc (.cells #[.slice (some ⟨w.heap.size, 0, none⟩) 1 1] 23)).alloc (.cells #[.slice (some ⟨w.heap.size + 1, 0, none⟩) 1 1] 22)).grownBy w2 (Value.slice Bn next.length kn).ownBlock)
    (hown : w2.ownsRow lo 22 1 (.slice (some ⟨g, 0, none⟩) (next.length + 1) cap) (next.length + 1) (vs ++ [.slice (some ⟨w.heap.size + 1, 0, none⟩) 1 1])) (hat : (Value.slice Bn next.length kn).ownBlock = some g ∨ g = w.heap.size + 1 + 1 + 1) :
    BoxM (w2.setCell ⟨po, 3, none⟩ (.slice (some ⟨g, 0, none⟩) (next.length + 1) cap)) lo po ⟨L, st, acc, next ++ [[[to]]]⟩ := by
  subst e4
  have hbb : Below w.heap.size w ((w.alloc (.cells #[.int .i64 to] 2)).alloc (.cells #[.slice (some ⟨w.heap.size, 0, none⟩) 1 1] 23)) := below_step (below_alloc _ _) (below_alloc _ _)
  have hb3 := below_step hbb (below_alloc _ (.cells #[.slice (some ⟨w.heap.size + 1, 0, none⟩) 1 1] 22))
  have hz : ((w.alloc (.cells #[.int .i64 to] 2)).alloc (.cells #[.slice (some ⟨w.heap.size, 0, none⟩) 1 1] 23)).heap.size = w.heap.size + 2 := by simp
  have lpo := ho.lt
  have hl1 : ∀ x ∈ bs, x < w.heap.size := fun x hx => ((goodV ints 2).lt h1 hx).2
  have hl2 : ∀ x ∈ ba, x < w.heap.size := fun x hx => ((goodV bools 4).lt h2 hx).2
  have hl3 : ∀ x ∈ blks (.slice Bn next.length kn) ++ bss.flatten, x < w.heap.size := fun x hx => (goodLL.lt h3 hx).2
  have hu0 : OwL (OwV ints 2) 23 ((w.alloc (.cells #[.int .i64 to] 2)).alloc (.cells #[.slice (some ⟨w.heap.size, 0, none⟩) 1 1] 23)) lo (.slice (some ⟨w.heap.size + 1, 0, none⟩) 1 1) [[to]] [w.heap.size + 1, w.heap.size] := by
    refine ⟨[.slice (some ⟨w.heap.size, 0, none⟩) 1 1], [[w.heap.size]], ?_, rfl, rfl, ?_, by simp [blks, Value.ownBlock], by simp [blks, Value.ownBlock]⟩
    · have hr : Row ((w.alloc (.cells #[.int .i64 to] 2)).alloc (.cells #[.slice (some ⟨w.heap.size, 0, none⟩) 1 1] 23)) (w.heap.size + 1) 23 [.slice (some ⟨w.heap.size, 0, none⟩) 1 1] := by
        simpa using Row.new (w.alloc (.cells #[.int .i64 to] 2)) [.slice (some ⟨w.heap.size, 0, none⟩) 1 1] 23
      exact hr.own (by omega) (by simp [maxLen])
    · intro i u x b hi hx hb
      have i0 : i = 0 := by have := (List.getElem?_eq_some_iff.1 hi).1; simp at this; exact this
      subst i0
      simp at hi hx hb
      subst hi; subst hx; subst hb
      exact ⟨((Row.new w [.int .i64 to] 2).alloc _).own hlo (by simp [maxLen]), by simp [blks, Value.ownBlock]⟩
  have hnew := OwL.snoc (goodL (goodV ints 2) 23) (hv.below hb3) e1 e2 (fun i u x b k1 k2 k3 => (goodL (goodV ints _) _).below (e3 i u x b k1 k2 k3) hb3) e5 ((goodL (goodV ints _) _).below hu0 (below_alloc _ _))
    (fun c hc hm => by have := hl3 c hm; simp at hc; omega) hg hown hat (by simp)
  have hgo : ∀ x ∈ [g] ++ (bss ++ [[w.heap.size + 1, w.heap.size]]).flatten, x ∈ blks (.slice Bn next.length kn) ++ bss.flatten ∨ w.heap.size ≤ x := fun x hx => by
    rw [List.flatten_append] at hx
    simp only [List.mem_append, List.mem_singleton] at hx
    rcases hx with hx | hx | hx
    · subst hx
      rcases hat with h | h
      · exact .inl (List.mem_append_left _ (mem_blks.2 h))
      · right; omega
    · exact .inl (List.mem_append_right _ hx)
    · right; simp at hx; omega
  simp only [List.mem_append, not_or] at hp
  have hpn : po ∉ [g] ++ (bss ++ [[w.heap.size + 1, w.heap.size]]).flatten := fun hm => by
    rcases hgo po hm with h | h
    · rcases List.mem_append.1 h with h | h
      · exact hp.2.2.1 h
      · exact hp.2.2.2 h
    · omega
  have hN := List.nodup_append.1 hd
  have hN2 := List.nodup_append.1 hN.2.1
  have hdn := goodLL.nodup hnew
  have hlen : (next ++ [[[to]]]).length = next.length + 1 := by simp
  refine ⟨Bs, ks, Ba, ka, some ⟨g, 0, none⟩, cap, bs, ba, [g] ++ (bss ++ [[w.heap.size + 1, w.heap.size]]).flatten, ?_, ?_, ?_, ?_, ?_, ?_⟩
  · rw [hlen]; exact (grown_row hg ((((ho.alloc _).alloc _).alloc _)) hp.2.2.1).stored 3 _
  · exact (goodV ints _).other (a := ⟨po, 3, none⟩) _ (grown_keep (goodV ints _) hg ((goodV ints _).below h1 hb3) (fun c hc hm => hN.2.2 c hc c (List.mem_append_right _ (List.mem_append_left _ hm)) rfl)) hp.1
  · exact (goodV bools _).other (a := ⟨po, 3, none⟩) _ (grown_keep (goodV bools _) hg ((goodV bools _).below h2 hb3) (fun c hc hm => hN2.2.2 c hc c (List.mem_append_left _ hm) rfl)) hp.2.1
  · rw [hlen]; exact goodLL.other (a := ⟨po, 3, none⟩) _ hnew hpn
  · have h5 := nodup_mid (a := bs ++ ba) (b := blks (.slice Bn next.length kn) ++ bss.flatten) (c := []) (n := w.heap.size) (by simpa using hd) hdn hgo (fun x hx => by rcases List.mem_append.1 hx with h | h; exact hl1 x h; exact hl2 x h) (by simp)
    simpa using h5
  · simp only [List.mem_append, not_or] at hpn ⊢
    exact ⟨hp.1, hp.2.1, hpn⟩
end
end Go.Proofs.Yteeckhhingmgfaa
