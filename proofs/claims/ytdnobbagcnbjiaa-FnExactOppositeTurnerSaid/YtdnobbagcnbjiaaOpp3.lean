/-
  The opposite reader, by the model.
-/
import Derived.Test.YtdnobbagcnbjiaaOpp2
namespace Go.Proofs.Ytdnobbagcnbjiaa
open Go.RowKit

theorem AtR.below {w w' : World} {p : Nat} {r : RData} (h : AtR w p r) (hb : Below w.heap.size w w') : AtR w' p r := by
  obtain ⟨a, n, c0, c1, c2, c3, ha, hn⟩ := h
  exact ⟨a, n, below_keep hb c0, below_keep hb c1, below_keep hb c2, below_keep hb c3, keepsB _ _ _ _ ha hb, keepsII _ _ _ _ hn hb⟩

/-- One element of a list of bools of the call's own is stored. -/
theorem OwV.storeB {e : TypeId} {w : World} {lo g cap : Nat} {xs : List Bool} {bs : List Nat} (h : OwV bools e w lo (.slice (some ⟨g, 0, none⟩) xs.length cap) xs bs) {i : Nat} (z : Bool) :
    OwV bools e (w.setCell ⟨g, i, none⟩ (.bool z)) lo (.slice (some ⟨g, 0, none⟩) (xs.set i z).length cap) (xs.set i z) bs := by
  obtain ⟨h1, rfl⟩ := h
  unfold Own at h1
  rw [bools_len] at h1
  have h2 := (h1.stored i (.bool z)).1
  refine ⟨?_, rfl⟩
  unfold Own
  rw [bools_len, List.length_set, show bools (xs.set i z) = (bools xs).set i (.bool z) by simp [bools, List.map_set]]
  exact h2

/-- What has been turned so far. -/
def FlipI (w : World) (lo po : Nat) (sA sN : Value) (ba bn : List Nat) (L S : Int) (acc : List Bool) (next : List (List Int)) (s : Nat) (wr : World) : Prop :=
  Below w.heap.size w wr ∧ Row wr (w.heap.size + 1) 27 [.int .i64 0, .int .i64 0, .slice none 0 0, .slice none 0 0] ∧ Row wr po 27 [.int .i64 L, .int .i64 S, sA, sN] ∧
    OwV bools 4 wr lo sA ((flip acc).take s ++ acc.drop s) ba ∧ OwL (OwV ints 2) 34 wr lo sN next bn
theorem FlipI.drew {w : World} {lo po : Nat} {sA sN : Value} {ba bn : List Nat} {L S : Int} {acc : List Bool} {next : List (List Int)} {s : Nat} {wr : World} (h : FlipI w lo po sA sN ba bn L S acc next s wr) : FlipI w lo po sA sN ba bn L S acc next s wr.drew :=
  ⟨h.1.drew, h.2.1, h.2.2.1, (goodV bools _).below h.2.2.2.1 (below_drew _), (goodL (goodV ints _) _).below h.2.2.2.2 (below_drew _)⟩

set_option maxRecDepth 100000 in
set_option maxHeartbeats 3200000 in
theorem specOpp_any (v : Value) (r : RData) (w : World) (h : RdR w v r) :
    Calls Try.prog 10 #[v] w fun e w' => ∃ u, e = .returned (.tuple #[u, .int .i64 (oppRes r).2]) ∧ RdR w' u (oppRes r).1 ∧ Below w.heap.size w w' := by
  obtain ⟨va, vn, rfl, hA⟩ := atR_box h 27
  clear h
  have hA0 := hA.below (below_alloc _ (.cells #[.int .i64 0, .int .i64 0, .slice none 0 0, .slice none 0 0] 27))
  have HV := Lib.hid (l01Ok_any _ _ _ hA0)
  have HA := Lib.hid hA0
  have hz := Row.new (w.alloc (.cells #[.int .i64 r.L, .int .i64 r.S, va, vn] 27)) [.int .i64 0, .int .i64 0, .slice none 0 0, .slice none 0 0] 27
  have HZ := Lib.hid (show Row _ (w.heap.size + 1) _ _ by simpa using hz)
  have HB := Lib.hid ((below_alloc w (.cells #[.int .i64 r.L, .int .i64 r.S, va, vn] 27)).alloc (by simp) (.cells #[.int .i64 0, .int .i64 0, .slice none 0 0, .slice none 0 0] 27))
  clear hz hA hA0
  obtain ⟨L, S, acc, next⟩ := r
  simp only at *
  by_cases hok : okR ⟨L, S, acc, next⟩ = true
  · have HOK := Lib.hid hok
    have hn300 : (acc.length : Int) ≤ 300 := (okR_out hok).n2
    go_enter Try.func10, Try.ntmps10
    go_wp2_with fail
    refine HV.out.mono ?_
    generalize (w.alloc (.cells #[.int .i64 L, .int .i64 S, va, vn] 27)).alloc (.cells #[.int .i64 0, .int .i64 0, .slice none 0 0, .slice none 0 0] 27) = W0 at *
    rintro e w1 ⟨rfl, hq⟩
    have HB1 := Lib.hid (below_step HB.out hq.below)
    have HZ1 := Lib.hid (HZ.out.below hq.below HZ.out.lt)
    have HC := Lib.hid (l01Copy_own _ _ w1 (HA.out.below hq.below) (okR_out hok))
    clear hq
    go_wp2_with fail
    clear hok
    refine HC.out.mono ?_
    rintro e w2 ⟨u, bu, rfl, hu, hb⟩
    obtain ⟨sA, sN, ba, bn, rfl, hsA, hsN, rfl, hnd⟩ := hu
    have HZ2 := Lib.hid (HZ1.out.below hb HZ1.out.lt)
    have HB2 := Lib.hid (below_step HB1.out hb)
    simp only at *
    obtain ⟨Aa, ka, rfl⟩ := owB_shape hsA
    obtain ⟨An, kn, rfl⟩ := OwL.shape hsN
    have HH := Lib.hid (show _ ∧ _ ∧ _ from ⟨hsA, hsN, hnd⟩)
    have hl1 := HZ1.out.lt
    have HLT := Lib.hid (show _ ∧ _ from ⟨hl1, hb.size⟩)
    clear hb hsA hsN hnd hl1
    go_wp2
    go_loopw [5] (fun i wr => ∃ s : Nat, s ≤ acc.length ∧ i = .int .i64 s ∧ FlipI w w1.heap.size w2.heap.size (.slice Aa acc.length ka) (.slice An next.length kn) ba bn L S acc next s wr) (fun i _ => acc.length - (intOf i).toNat)
    case atStart =>
      refine ⟨0, Nat.zero_le _, rfl, below_step HB2.out (below_alloc _ _), HZ2.out.alloc _, Row.new _ _ _, ?_, (goodL (goodV ints _) _).below HH.out.2.1 (below_alloc _ _)⟩
      simpa using (goodV bools _).below HH.out.1 (below_alloc _ _)
    case round =>
      obtain ⟨s, hs, rfl, hI⟩ := hrel
      have HI := Lib.hid hI
      obtain ⟨hbw, hz, ho, hva, hvn⟩ := hI
      obtain ⟨⟨o0, o1, o2, o3⟩, -⟩ := ho.four
      by_cases hlt : s < acc.length
      · obtain ⟨z, hz0⟩ : ∃ z, acc[s]? = some z := ⟨_, List.getElem?_eq_getElem hlt⟩
        have hll : ((flip acc).take s ++ acc.drop s).length = acc.length := part_len (flip_len acc) (by omega)
        have hat0 : ((flip acc).take s ++ acc.drop s)[s]? = some z := by
          rw [List.getElem?_append_right (by simp [flip_len]; omega)]
          simp [flip_len, Nat.min_eq_left (Nat.le_of_lt hlt), hz0]
        rcases hva.1.nil_or with ⟨_, h0⟩ | ⟨g, cap, hv, hg⟩
        · have := congrArg List.length h0
          rw [bools_len, hll] at this
          have h9 : acc.length = 0 := this
          omega
        rw [bools_len, hll] at hv
        cases hv
        have hb2 : ba = [g] := by rw [hva.2]; rfl
        subst hb2
        have hva' : OwV bools 4 wr w1.heap.size (.slice (some ⟨g, 0, none⟩) ((flip acc).take s ++ acc.drop s).length ka) ((flip acc).take s ++ acc.drop s) [g] := by rw [hll]; exact hva
        have hw1 := hva'.1
        unfold Own at hw1
        rw [bools_len] at hw1
        have hc := (hw1.cellAt s (by omega)).trans (show _ = some (.bool z) by rw [bools, List.getElem?_map, hat0]; rfl)
        have hf := hw1.frozenAt s
        have hgb := (goodV bools 4).lt HH.out.1 (b := g) (by simp)
        have hlt2 := HLT.out
        have hnd := List.nodup_append.1 HH.out.2.2
        have hst := hva'.storeB (i := s) (!z)
        rw [part_step (flip_len acc) hlt (show (flip acc)[s]? = some (!z) by simp [flip, hz0]), part_len (flip_len acc) (by omega)] at hst
        have hnew : FlipI w w1.heap.size w2.heap.size (.slice (some ⟨g, 0, none⟩) acc.length ka) (.slice An next.length kn) [g] bn L S acc next (s + 1) (wr.setCell ⟨g, s, none⟩ (.bool (!z))) :=
          ⟨hbw.setCell (p := ⟨g, s, none⟩) (by show w.heap.size ≤ g; omega) _, hz.other (a := ⟨g, s, none⟩) (by show g ≠ _; omega) _, ho.other (a := ⟨g, s, none⟩) (by show g ≠ _; omega) _, hst, (goodL (goodV ints _) _).other (a := ⟨g, s, none⟩) _ hvn (fun hm => hnd.2.2 g (by simp) g hm rfl)⟩
        have HN := Lib.hid hnew
        have i1 : (0 : Int) ≤ s := by omega
        have i2 : (s : Int) < acc.length := by omega
        clear hbw hz ho hva hvn hw1 hva' hst hnew hgb hlt2 hnd hat0 hll hz0 hg HI o0 o1 o3
        go_wp2_with fail
        go_region
        all_goals
          (try go_wp2)
          go_roundw
          case rel => exact ⟨s + 1, by omega, by go_num, by first | exact HN.out | exact HN.out.drew | exact HN.out.drew.drew | exact HN.out.drew.drew.drew⟩
          case measure => simp [intOf]; omega
      · have es : s = acc.length := by omega
        have htf : (flip acc).take s ++ acc.drop s = flip acc := part_done (flip_len acc) (by omega)
        rw [htf] at hva
        obtain ⟨⟨z0, z1, z2, z3⟩, zf⟩ := hz.four
        have hl1 := hz.lt
        have hnz : w.heap.size + 1 ∉ ba ++ bn := fun hm => by
          have := HLT.out
          rcases List.mem_append.1 hm with hm | hm
          · have := ((goodV bools _).lt hva hm).1; omega
          · have := ((goodL (goodV ints _) _).lt hvn hm).1; omega
        have HJ := Lib.hid (show _ ∧ _ ∧ _ ∧ _ ∧ _ from ⟨hbw, hz, hva, hvn, hnz⟩)
        clear hbw hz ho hva hvn hnz htf HI
        go_wp2
        obtain ⟨hbw, hz, hva, hvn, hnz⟩ := HJ.out
        have hO : OwR wr w1.heap.size (.agg #[.int .i64 L, .int .i64 S, .slice Aa (flip acc).length ka, .slice An next.length kn]) ⟨L, S, flip acc, next⟩ (ba ++ bn) := ⟨_, _, ba, bn, by rw [flip_len], hva, hvn, rfl, HH.out.2.2⟩
        rw [flip_len] at hO
        have rF := ((((hz.stored 0 (.int .i64 L)).stored 1 (.int .i64 S)).stored 2 (.slice Aa acc.length ka)).stored 3 (.slice An next.length kn))
        have eO := (goodR.other (a := ⟨w.heap.size + 1, 3, none⟩) (.slice An next.length kn) (goodR.other (a := ⟨w.heap.size + 1, 2, none⟩) (.slice Aa acc.length ka) (goodR.other (a := ⟨w.heap.size + 1, 1, none⟩) (.int .i64 S) (goodR.other (a := ⟨w.heap.size + 1, 0, none⟩) (.int .i64 L) hO hnz) hnz) hnz) hnz)
        have eB := ((((hbw.setCell (p := ⟨w.heap.size + 1, 0, none⟩) (by show w.heap.size ≤ w.heap.size + 1; omega) (.int .i64 L)).setCell (p := ⟨w.heap.size + 1, 1, none⟩) (by show w.heap.size ≤ w.heap.size + 1; omega) (.int .i64 S)).setCell (p := ⟨w.heap.size + 1, 2, none⟩) (by show w.heap.size ≤ w.heap.size + 1; omega) (.slice Aa acc.length ka)).setCell (p := ⟨w.heap.size + 1, 3, none⟩) (by show w.heap.size ≤ w.heap.size + 1; omega) (.slice An next.length kn))
        generalize ((((wr.setCell ⟨w.heap.size + 1, 0, none⟩ (.int .i64 L)).setCell ⟨w.heap.size + 1, 1, none⟩ (.int .i64 S)).setCell ⟨w.heap.size + 1, 2, none⟩ (.slice Aa acc.length ka)).setCell ⟨w.heap.size + 1, 3, none⟩ (.slice An next.length kn)) = W2 at *
        obtain ⟨⟨y0, y1, y2, y3⟩, -⟩ := Row.four (a := .int .i64 L) (b := .int .i64 S) (c := .slice Aa acc.length ka) (d := .slice An next.length kn) rF
        have hres : oppRes ⟨L, S, acc, next⟩ = (⟨L, S, flip acc, next⟩, 0) := by simp [oppRes, HOK.out]
        refine bodyPost_ret (v := .tuple #[.agg #[.int .i64 L, .int .i64 S, .slice Aa acc.length ka, .slice An next.length kn], .int .i64 0]) (by simp [results, Try.results10, go_sem, y0, y1, y2, y3]) rfl ?_
        rw [hres]
        first | exact ⟨_, rfl, eO.rd, eB⟩ | exact ⟨_, rfl, ⟨eO.rd, eB⟩⟩
  · have hok' : okR ⟨L, S, acc, next⟩ = false := by simpa using hok
    have HOK := Lib.hid hok'
    clear hok
    go_enter Try.func10, Try.ntmps10
    go_wp2_with fail
    refine HV.out.mono ?_
    generalize (w.alloc (.cells #[.int .i64 L, .int .i64 S, va, vn] 27)).alloc (.cells #[.int .i64 0, .int .i64 0, .slice none 0 0, .slice none 0 0] 27) = W0 at *
    rintro e wr ⟨rfl, hq⟩
    have hz := HZ.out.below hq.below HZ.out.lt
    have hl1 := hz.lt
    have HJ := Lib.hid (show _ ∧ _ from ⟨below_step HB.out hq.below, hz⟩)
    obtain ⟨⟨z0, z1, z2, z3⟩, zf⟩ := hz.four
    clear hq hz
    go_wp2
    obtain ⟨hbw, hz⟩ := HJ.out
    have hO : OwR wr (w.heap.size + 2) (.agg #[.int .i64 0, .int .i64 0, .slice none 0 0, .slice none 0 0]) ⟨0, 0, [], []⟩ [] := ⟨_, _, [], [], rfl, owV_nil bools [] rfl _ _ _, owL_nil _ _ _ _, rfl, by simp⟩
    have hnz : w.heap.size + 1 ∉ ([] : List Nat) := by simp
    have rF := ((((hz.stored 0 (.int .i64 0)).stored 1 (.int .i64 0)).stored 2 (.slice none 0 0)).stored 3 (.slice none 0 0))
    have eO := (goodR.other (a := ⟨w.heap.size + 1, 3, none⟩) (.slice none 0 0) (goodR.other (a := ⟨w.heap.size + 1, 2, none⟩) (.slice none 0 0) (goodR.other (a := ⟨w.heap.size + 1, 1, none⟩) (.int .i64 0) (goodR.other (a := ⟨w.heap.size + 1, 0, none⟩) (.int .i64 0) hO hnz) hnz) hnz) hnz)
    have eB := ((((hbw.setCell (p := ⟨w.heap.size + 1, 0, none⟩) (by show w.heap.size ≤ w.heap.size + 1; omega) (.int .i64 0)).setCell (p := ⟨w.heap.size + 1, 1, none⟩) (by show w.heap.size ≤ w.heap.size + 1; omega) (.int .i64 0)).setCell (p := ⟨w.heap.size + 1, 2, none⟩) (by show w.heap.size ≤ w.heap.size + 1; omega) (.slice none 0 0)).setCell (p := ⟨w.heap.size + 1, 3, none⟩) (by show w.heap.size ≤ w.heap.size + 1; omega) (.slice none 0 0))
    generalize ((((wr.setCell ⟨w.heap.size + 1, 0, none⟩ (.int .i64 0)).setCell ⟨w.heap.size + 1, 1, none⟩ (.int .i64 0)).setCell ⟨w.heap.size + 1, 2, none⟩ (.slice none 0 0)).setCell ⟨w.heap.size + 1, 3, none⟩ (.slice none 0 0)) = W2 at *
    obtain ⟨⟨y0, y1, y2, y3⟩, -⟩ := Row.four (a := .int .i64 0) (b := .int .i64 0) (c := .slice none 0 0) (d := .slice none 0 0) rF
    have hres : oppRes ⟨L, S, acc, next⟩ = (⟨0, 0, [], []⟩, 1) := by simp [oppRes, HOK.out]
    refine bodyPost_ret (v := .tuple #[.agg #[.int .i64 0, .int .i64 0, .slice none 0 0, .slice none 0 0], .int .i64 1]) (by simp [results, Try.results10, go_sem, y0, y1, y2, y3]) rfl ?_
    rw [hres]
    first | exact ⟨_, rfl, eO.rd, eB⟩ | exact ⟨_, rfl, ⟨eO.rd, eB⟩⟩
end Go.Proofs.Ytdnobbagcnbjiaa
