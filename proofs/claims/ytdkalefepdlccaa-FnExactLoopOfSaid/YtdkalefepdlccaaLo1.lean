/-
  A slice of places that begins in the midst of its block: what owns it, and its marks.
-/
import Derived.Test.YtdkalefepdlccaaRu6
import Derived.Test.YtdkalefepdlccaaNPlace
namespace Go.Proofs.Ytdkalefepdlccaa
open Go.RowKit

/-- Owned, from some place of its block on. -/
def OwO (e : TypeId) (w : World) (lo : Nat) (v : Value) (ms : List (Int × Int)) (bs : List Nat) : Prop :=
  (v = .slice none 0 0 ∧ ms = [] ∧ bs = []) ∨
  ∃ g off cap cs, v = .slice (some ⟨g, off, none⟩) ms.length cap ∧ ms.length ≤ cap ∧ cap ≤ maxLen ∧ bs = [g] ∧ lo ≤ g ∧ Row w g e cs ∧
    ∀ i m, ms[i]? = some m → cs[off + i * 2]? = some (.int .i64 m.1) ∧ cs[off + i * 2 + 1]? = some (.int .i64 m.2)
theorem goodO (e : TypeId) : Good (OwO e) where
  same := fun h hs => by
    rcases h with h | ⟨g, off, cap, cs, h1, h2, h3, rfl, h5, h6, h7⟩
    · exact .inl h
    · exact .inr ⟨g, off, cap, cs, h1, h2, h3, rfl, h5, h6.same (hs g (by simp)), h7⟩
  other := fun u h ha => by
    rcases h with h | ⟨g, off, cap, cs, h1, h2, h3, rfl, h5, h6, h7⟩
    · exact .inl h
    · exact .inr ⟨g, off, cap, cs, h1, h2, h3, rfl, h5, h6.other (by simpa using ha) u, h7⟩
  below := fun h hb => by
    rcases h with h | ⟨g, off, cap, cs, h1, h2, h3, rfl, h5, h6, h7⟩
    · exact .inl h
    · exact .inr ⟨g, off, cap, cs, h1, h2, h3, rfl, h5, h6.below hb h6.lt, h7⟩
  mono := fun h hl => by
    rcases h with h | ⟨g, off, cap, cs, h1, h2, h3, rfl, h5, h6, h7⟩
    · exact .inl h
    · exact .inr ⟨g, off, cap, cs, h1, h2, h3, rfl, Nat.le_trans hl h5, h6, h7⟩
  lt := fun h hm => by
    rcases h with ⟨_, _, rfl⟩ | ⟨g, off, cap, cs, h1, h2, h3, rfl, h5, h6, h7⟩
    · simp at hm
    · simp only [List.mem_singleton] at hm; subst hm; exact ⟨h5, h6.lt⟩
  nodup := fun h => by
    rcases h with ⟨_, _, rfl⟩ | ⟨g, off, cap, cs, h1, h2, h3, rfl, h5, h6, h7⟩ <;> simp
theorem OwO.rd {e : TypeId} {w : World} {lo : Nat} {v : Value} {ms : List (Int × Int)} {bs : List Nat} (h : OwO e w lo v ms bs) : RdP w v ms := by
  rcases h with ⟨rfl, rfl, rfl⟩ | ⟨g, off, cap, cs, h1, h2, h3, rfl, h5, h6, h7⟩
  · exact ⟨none, 0, rfl, Nat.le_refl _, by unfold maxLen; omega, by simp⟩
  · exact ⟨some ⟨g, off, none⟩, cap, h1, h2, h3, fun i m hm => ⟨g, off, rfl, (h6.cell _).trans (h7 i m hm).1, (h6.cell _).trans (h7 i m hm).2⟩⟩
theorem owO_nil (e : TypeId) (w : World) (lo : Nat) : OwO e w lo (.slice none 0 0) [] [] := .inl ⟨rfl, rfl, rfl⟩
/-- What is left of an owned slice behind its first elements. -/
theorem OwP.from {e : TypeId} {w : World} {lo g n cap : Nat} {ms : List (Int × Int)} {bs : List Nat} (h : OwP e w lo (.slice (some ⟨g, 0, none⟩) n cap) ms bs) (hn : ms.length = n) {d : Nat} (hd : d ≤ n) :
    OwO e w lo (.slice (some ⟨g, d * 2, none⟩) (n - d) (cap - d)) (ms.drop d) [g] := by
  subst hn
  obtain ⟨⟨hl, h1 | ⟨g', cap', cur, h1, h2, h3, h4, h5, h6, h7⟩⟩, -⟩ := h
  · simp at h1
  · simp only [Value.slice.injEq, Option.some.injEq, Addr.mk.injEq, and_true, true_and] at h1
    obtain ⟨rfl, rfl⟩ := h1
    refine .inr ⟨g, d * 2, cap - d, cur.toList, by rw [List.length_drop], by rw [List.length_drop]; omega, by omega, rfl, h2, by unfold Row; simpa using h3, fun i m hm => ?_⟩
    rw [List.getElem?_drop] at hm
    obtain ⟨q0, q1⟩ := pcells_get hm
    have hi := (List.getElem?_eq_some_iff.1 hm).1
    rw [← h7, List.getElem?_take, if_pos (by omega)] at q0 q1
    rw [show d * 2 + i * 2 = (d + i) * 2 by omega]
    exact ⟨q0, q1⟩

set_option maxHeartbeats 1600000 in
theorem markPlaceO_own (v : Value) (xs : List (Int × Int)) (bs : List Nat) (lo : Nat) (k : Int) (w : World) (h : OwO 70 w lo v xs bs) (hk0 : 0 ≤ k) (hk : k + ((2 * xs.length : Nat) : Int) ≤ 4611686018427387904) :
    Calls Try.prog 22 #[v, .int .i64 k] w fun e w' => e = .returned (.int .i64 (k + ((2 * xs.length : Nat) : Int))) ∧ OwO 70 w' lo v (mkP k xs) bs ∧ Only bs w w' := by
  rcases h with ⟨rfl, rfl, rfl⟩ | ⟨g, off, cap, cs, rfl, h2, h3, rfl, h5, h6, h7⟩
  · go_enter Try.func22, Try.ntmps22
    go_wp2
    refine wp_loop_rounds 1 ?_
    rw [rounds_succ]
    go_wp2
    go_ret
    exact ⟨ret_int (by simp), owO_nil _ _ _, Only.refl _ _⟩
  · have HO := Lib.hid (show _ ∧ _ from ⟨h6, h7⟩)
    have hml : xs.length ≤ maxLen := by omega
    unfold maxLen at hml
    clear h6 h7
    go_enter Try.func22, Try.ntmps22
    go_wp2
    go_loopw [1, 5] (fun q i wr => ∃ (j : Nat) (ds : List Value), j ≤ xs.length ∧ i = .int .i64 j ∧ q = .int .i64 (k + 2 * (j : Int)) ∧ Row wr g 70 ds ∧ (∀ i m, ((mkP k xs).take j ++ xs.drop j)[i]? = some m → ds[off + i * 2]? = some (.int .i64 m.1) ∧ ds[off + i * 2 + 1]? = some (.int .i64 m.2)) ∧ Only [g] w wr) (fun _ i _ => xs.length - (intOf i).toNat)
    case atStart => exact ⟨0, cs, Nat.zero_le _, rfl, by go_num, HO.out.1, by simpa using HO.out.2, Only.refl _ _⟩
    case round =>
      obtain ⟨j, ds, hj, rfl, rfl, hR, hD, hB⟩ := hrel
      by_cases hlt : j < xs.length
      · have hl : ((mkP k xs).take j ++ xs.drop j).length = xs.length := part_len (mkP_len k xs) hj
        obtain ⟨⟨x, y⟩, hm0⟩ : ∃ m, ((mkP k xs).take j ++ xs.drop j)[j]? = some m := ⟨_, List.getElem?_eq_getElem (by omega)⟩
        have hc0 := (hR.cell (off + j * 2)).trans (hD j _ hm0).1
        have hc1 := (hR.cell (off + j * 2 + 1)).trans (hD j _ hm0).2
        have hf0 := hR.free (off + j * 2)
        have hf1 := hR.free (off + j * 2 + 1)
        have hlt0 := (List.getElem?_eq_some_iff.1 (hD j _ hm0).1).1
        have hlt1 := (List.getElem?_eq_some_iff.1 (hD j _ hm0).2).1
        have hS := (hR.stored (off + j * 2) (.int .i64 (k + 2 * (j : Int)))).stored (off + j * 2 + 1) (.int .i64 (k + 2 * (j : Int) + 1))
        have hN : ∀ i m, ((mkP k xs).take (j + 1) ++ xs.drop (j + 1))[i]? = some m → ((ds.set (off + j * 2) (.int .i64 (k + 2 * (j : Int)))).set (off + j * 2 + 1) (.int .i64 (k + 2 * (j : Int) + 1)))[off + i * 2]? = some (.int .i64 m.1) ∧ ((ds.set (off + j * 2) (.int .i64 (k + 2 * (j : Int)))).set (off + j * 2 + 1) (.int .i64 (k + 2 * (j : Int) + 1)))[off + i * 2 + 1]? = some (.int .i64 m.2) := by
          intro i m hm
          rw [← part_step (mkP_len k xs) hlt (mkP_get hlt)] at hm
          by_cases e : i = j
          · subst e
            rw [List.getElem?_set_self (by rw [hl]; exact hlt)] at hm
            obtain rfl := Option.some.inj hm
            refine ⟨?_, ?_⟩
            · rw [List.getElem?_set_ne (by omega), List.getElem?_set_self hlt0]
            · rw [List.getElem?_set_self (by simpa using hlt1)]
          · rw [List.getElem?_set_ne (fun h => e h.symm)] at hm
            obtain ⟨d0, d1⟩ := hD i m hm
            refine ⟨?_, ?_⟩
            · rw [List.getElem?_set_ne (by omega), List.getElem?_set_ne (by omega)]; exact d0
            · rw [List.getElem?_set_ne (by omega), List.getElem?_set_ne (by omega)]; exact d1
        have i1 : (0 : Int) ≤ j := by omega
        have i2 : (j : Int) < xs.length := by omega
        have HS := Lib.hid (show _ ∧ _ ∧ _ from ⟨hS, hN, hB⟩)
        clear hR hD hB hS hN hm0 hl hlt0 hlt1
        go_wp2
        obtain ⟨s1, s2, s3⟩ := HS.out
        go_roundw
        case rel => exact ⟨j + 1, _, by omega, by go_num, by go_num, s1, s2, (s3.setCell (List.mem_singleton.2 rfl) _).setCell (List.mem_singleton.2 rfl) _⟩
        case measure => simp [intOf]; omega
      · have HR := Lib.hid (show _ ∧ _ ∧ _ from ⟨hR, hD, hB⟩)
        have ej : j = xs.length := by omega
        subst ej
        clear hR hD hB
        go_wp2
        go_ret
        obtain ⟨s1, s2, s3⟩ := HR.out
        rw [part_done (mkP_len k xs) hlt] at s2
        exact ⟨ret_int (by omega), .inr ⟨g, off, cap, ds, by rw [mkP_len], by rw [mkP_len]; exact h2, h3, rfl, h5, s1, s2⟩, s3⟩
end Go.Proofs.Ytdkalefepdlccaa
