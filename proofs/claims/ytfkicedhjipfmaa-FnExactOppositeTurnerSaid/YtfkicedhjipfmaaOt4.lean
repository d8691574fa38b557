/-
  The opposite turner: the model's answer.
-/
import Derived.Test.YtfkicedhjipfmaaOt3
namespace Go.Proofs.Ytfkicedhjipfmaa
open Go.RowKit

theorem OwP.storedFst {e : TypeId} {w : World} {lo g cap : Nat} {ms : List (Int × Int)} (h : OwP e w lo (.slice (some ⟨g, 0, none⟩) ms.length cap) ms [g]) {i : Nat} {x y : Int} (hi : ms[i]? = some (x, y)) (z : Int) :
    OwP e (w.setCell ⟨g, i * 2, none⟩ (.int .i64 z)) lo (.slice (some ⟨g, 0, none⟩) (ms.set i (z, y)).length cap) (ms.set i (z, y)) [g] := by
  have hl := (List.getElem?_eq_some_iff.1 hi).1
  have h1 := (h.1.stored (i * 2) (.int .i64 z)).1
  have e1 : (pcells ms).set (i * 2) (.int .i64 z) = pcells (ms.set i (z, y)) := by
    rw [← pcells_set hl (z, y)]
    apply List.ext_getElem?
    intro j
    by_cases hj : i * 2 + 1 = j
    · subst hj
      rw [List.getElem?_set_ne (by omega), (pcells_get hi).2, List.getElem?_set_self (by rw [List.length_set, pcells_len]; omega)]
    · rw [List.getElem?_set_ne hj]
  rw [e1] at h1
  exact ⟨by simpa using h1, h.2⟩

/-- What has been turned so far, up to the state s. -/
def OppI (w : World) (lo p4 : Nat) (sA : Value) (bm : List Nat) (L S : Int) (mv : List (List (Int × Int))) (ys : List (List (Int × Int))) (wr : World) : Prop :=
  Below w.heap.size w wr ∧ Row wr (w.heap.size + 1) 29 [.int .i64 0, .int .i64 0, .slice none 0 0] ∧ Row wr p4 29 [.int .i64 L, .int .i64 S, sA] ∧ OwL (OwP 66) 64 wr lo sA ys bm
theorem OppI.drew {w : World} {lo p4 : Nat} {sA : Value} {bm : List Nat} {L S : Int} {mv ys : List (List (Int × Int))} {wr : World} (h : OppI w lo p4 sA bm L S mv ys wr) : OppI w lo p4 sA bm L S mv ys wr.drew :=
  ⟨h.1.drew, h.2.1, h.2.2.1, (goodL (goodP _) _).below h.2.2.2 (below_drew _)⟩
theorem oppMv_len (mv : List (List (Int × Int))) : (oppMv mv).length = mv.length := by simp [oppMv]
def oppRows (mv : List (List (Int × Int))) (s : Nat) : List (List (Int × Int)) := (oppMv mv).take s ++ mv.drop s
def oppRow (x : List (Int × Int)) (k : Nat) : List (Int × Int) := (x.map oppM).take k ++ x.drop k
theorem oppRows_len (mv : List (List (Int × Int))) {s : Nat} (h : s ≤ mv.length) : (oppRows mv s).length = mv.length := part_len (oppMv_len mv) h
theorem oppRow_len (x : List (Int × Int)) {k : Nat} (h : k ≤ x.length) : (oppRow x k).length = x.length := part_len (by simp) h
theorem oppRow_zero (x : List (Int × Int)) : oppRow x 0 = x := by simp [oppRow]
theorem oppRow_full (x : List (Int × Int)) : oppRow x x.length = x.map oppM := part_done (by simp) (by omega)
theorem oppRow_at {x : List (Int × Int)} {k : Nat} {m : Int × Int} (h : x[k]? = some m) : (oppRow x k)[k]? = some m := by
  have hk := (List.getElem?_eq_some_iff.1 h).1
  unfold oppRow
  rw [List.getElem?_append_right (by simp; omega)]
  simp [Nat.min_eq_left (Nat.le_of_lt hk), h]
theorem oppRow_step {x : List (Int × Int)} {k : Nat} {m : Int × Int} (h : x[k]? = some m) : (oppRow x k).set k (oppM m) = oppRow x (k + 1) :=
  part_step (by simp) (List.getElem?_eq_some_iff.1 h).1 (by simp [h])
theorem oppRows_at {mv : List (List (Int × Int))} {s : Nat} {x : List (Int × Int)} (h : mv[s]? = some x) : (oppRows mv s)[s]? = some x := by
  have hk := (List.getElem?_eq_some_iff.1 h).1
  unfold oppRows
  rw [List.getElem?_append_right (by simp [oppMv_len]; omega)]
  simp [oppMv_len, Nat.min_eq_left (Nat.le_of_lt hk), h]
theorem oppRows_step {mv : List (List (Int × Int))} {s : Nat} {x : List (Int × Int)} (h : mv[s]? = some x) : (oppRows mv s).set s (x.map oppM) = oppRows mv (s + 1) :=
  part_step (oppMv_len mv) (List.getElem?_eq_some_iff.1 h).1 (by simp [oppMv, h])
theorem oppRows_full (mv : List (List (Int × Int))) : oppRows mv mv.length = oppMv mv := part_done (oppMv_len mv) (by omega)
theorem set_same {α : Type} {l : List α} {i : Nat} {x : α} (h : l[i]? = some x) : l.set i x = l := by
  apply List.ext_getElem?
  intro j
  by_cases hj : i = j
  · subst hj; rw [h, List.getElem?_set_self (List.getElem?_eq_some_iff.1 h).1]
  · rw [List.getElem?_set_ne hj]

set_option maxRecDepth 100000 in
set_option maxHeartbeats 3200000 in
theorem specOppT_any (v : Value) (t : TData) (w : World) (h : RdT w v t) :
    Calls Try.prog 20 #[v] w fun e w' => ∃ u, e = .returned (.tuple #[u, .int .i64 (oppTRes t).2]) ∧ RdT w' u (oppTRes t).1 ∧ Below w.heap.size w w' := by
  obtain ⟨vm, rfl, hA⟩ := atT_box h 29
  obtain ⟨A, ca, rfl⟩ := RdL.shape (show RdPP _ vm t.mv from by obtain ⟨_, e, hm⟩ := h; cases e; exact hm)
  have hA0 := hA.below (below_alloc _ (.cells #[.int .i64 0, .int .i64 0, .slice none 0 0] 29))
  have HV := Lib.hid (l02Ok_any _ _ _ hA0)
  have HA := Lib.hid hA0
  have hz := Row.new (w.alloc (.cells #[.int .i64 t.L, .int .i64 t.S, .slice A t.mv.length ca] 29)) [.int .i64 0, .int .i64 0, .slice none 0 0] 29
  have HZ := Lib.hid (show Row _ (w.heap.size + 1) _ _ by simpa using hz)
  have HB := Lib.hid ((below_alloc w (.cells #[.int .i64 t.L, .int .i64 t.S, .slice A t.mv.length ca] 29)).alloc (by simp) (.cells #[.int .i64 0, .int .i64 0, .slice none 0 0] 29))
  clear h hA hA0 hz
  obtain ⟨L, S, mv⟩ := t
  simp only at *
  by_cases hok : okT ⟨L, S, mv⟩ = true
  · have HK := Lib.hid (okT_out hok)
    have HOK := Lib.hid hok
    have n2 : (mv.length : Int) ≤ 12 := HK.out.n2
    have l2 : L ≤ 3 := HK.out.l2
    have HLN := Lib.hid (show ∀ (s : Nat) x, mv[s]? = some x → (x.length : Int) = L + 2 from HK.out.len)
    go_enter Try.func20, Try.ntmps20
    go_wp2_with fail
    refine HV.out.mono ?_
    generalize (w.alloc (.cells #[.int .i64 L, .int .i64 S, .slice A mv.length ca] 29)).alloc (.cells #[.int .i64 0, .int .i64 0, .slice none 0 0] 29) = W0 at *
    rintro e w1 ⟨rfl, hb1⟩
    have hz1 := HZ.out.below hb1 HZ.out.lt
    have HCP := Lib.hid (l02Copy_own _ _ w1 (HA.out.below hb1) HK.out)
    have HI1 := Lib.hid (show _ ∧ _ ∧ _ from ⟨below_step HB.out hb1, hz1, hz1.lt⟩)
    clear hb1 hz1 HZ HB HA
    go_wp2_with fail
    clear hok
    refine HCP.out.mono ?_
    rintro e w2 ⟨u, bm, rfl, hu, hb⟩
    obtain ⟨sm, bm2, rfl, hm, rfl, hnd⟩ := hu
    obtain ⟨Am, km, rfl⟩ := OwL.shape hm
    simp only at hm
    have hlt2 : ∀ b ∈ bm, w1.heap.size ≤ b ∧ b < w2.heap.size := fun b hb => (goodL (goodP 66) 64).lt hm hb
    have hI : OppI w w1.heap.size w2.heap.size (.slice Am mv.length km) bm L S mv (oppRows mv 0) (w2.alloc (.cells #[.int .i64 L, .int .i64 S, .slice Am mv.length km] 29)) :=
      ⟨below_step (below_step HI1.out.1 hb) (below_alloc _ _), (HI1.out.2.1.below hb HI1.out.2.2).alloc _, Row.new _ _ _, by simpa [oppRows] using (goodL (goodP 66) 64).below hm (below_alloc w2 (.cells #[.int .i64 L, .int .i64 S, .slice Am mv.length km] 29))⟩
    have HI := Lib.hid hI
    have HLT := Lib.hid (show _ ∧ _ ∧ _ from ⟨hlt2, HI1.out.2.2, hb.size⟩)
    clear hb hm hnd hlt2 hI HI1
    go_wp2
    generalize w2.alloc (.cells #[.int .i64 L, .int .i64 S, .slice Am mv.length km] 29) = w3 at *
    generalize w2.heap.size = p4 at *
    generalize w1.heap.size = lo at *
    go_loopw [5] (fun i wr => ∃ s : Nat, s ≤ mv.length ∧ i = .int .i64 s ∧ OppI w lo p4 (.slice Am mv.length km) bm L S mv (oppRows mv s) wr) (fun i _ => mv.length - (intOf i).toNat)
    case atStart => exact ⟨0, Nat.zero_le _, rfl, HI.out⟩
    case round =>
      obtain ⟨wo, hwo⟩ : ∃ wo, wo = wr := ⟨wr, rfl⟩
      subst hwo
      obtain ⟨s, hs, rfl, hI⟩ := hrel
      have HS := Lib.hid hI
      obtain ⟨⟨b0, b1, b2⟩, -⟩ := hI.2.2.1.three
      clear hI
      by_cases hlt : s < mv.length
      · have hx : mv[s]? = some mv[s] := List.getElem?_eq_getElem hlt
        generalize mv[s] = x at hx
        have hxl := HLN.out s x hx
        have HX := Lib.hid (show _ ∧ _ from ⟨hx, hxl⟩)
        have hxl5 : x.length ≤ 5 := by omega
        have i1 : (0 : Int) ≤ s := by omega
        have i2 : (s : Int) < mv.length := by omega
        clear hx hxl
        go_wp2
        clear b0 b1 b2
        go_loopw [6] (fun i wr => ∃ k : Nat, k ≤ x.length ∧ i = .int .i64 k ∧ OppI w lo p4 (.slice Am mv.length km) bm L S mv ((oppRows mv s).set s (oppRow x k)) wr) (fun i _ => x.length - (intOf i).toNat)
        case atStart => exact ⟨0, Nat.zero_le _, rfl, by rw [oppRow_zero, set_same (oppRows_at HX.out.1)]; exact HS.out⟩
        case round =>
          obtain ⟨k, hk, rfl, hI⟩ := hrel
          have HI2 := Lib.hid hI
          obtain ⟨hbw, hz, h4, hO⟩ := hI
          obtain ⟨⟨b0, b1, b2⟩, -⟩ := h4.three
          have hlen : ((oppRows mv s).set s (oppRow x k)).length = mv.length := by rw [List.length_set, oppRows_len mv hs]
          have hat : ((oppRows mv s).set s (oppRow x k))[s]? = some (oppRow x k) := List.getElem?_set_self (by rw [oppRows_len mv hs]; exact hlt)
          obtain ⟨g, cap, u, b, hv, hc, hR, hbb, hset⟩ := OwL.member (goodP 66) hO hat
          rw [hlen] at hv
          cases hv
          have hxl := HX.out.2
          rcases hR.nil_or with ⟨_, h0⟩ | ⟨gr, cr, hu, rfl, hcr1, hcr2⟩
          · have := congrArg List.length h0
            rw [oppRow_len x hk, List.length_nil] at this
            have l1 : 1 ≤ L := HK.out.l1
            omega
          have hR' := hR
          rw [hu] at hR'
          have hgr := hbb gr (by simp)
          have hgl := HLT.out.1 gr hgr
          have hlo := HLT.out.2
          rw [oppRow_len x hk] at hu hcr1
          subst hu
          unfold maxLen at hcr2
          by_cases hklt : k < x.length
          · have hm : x[k]? = some x[k] := List.getElem?_eq_getElem hklt
            generalize x[k] = m at hm
            obtain ⟨mx, my⟩ := m
            have hmv := okMove_out (HK.out.move s x k (mx, my) HX.out.1 hm)
            simp only at hmv
            have hgt := pcells_get (oppRow_at hm)
            have gx := (hR'.1.cellAt (k * 2) (by rw [oppRow_len x hk]; omega)).trans hgt.1
            have gf := hR'.1.frozenAt (k * 2)
            have j1 : (0 : Int) ≤ k := by omega
            have j2 : (k : Int) < x.length := by omega
            by_cases hneg : mx < 0
            · have m1 : -2 ≤ mx := by omega
              have m2 : mx ≤ -1 := by omega
              have hst := hR'.storedFst (oppRow_at hm) (-3 - mx)
              have hon : Only [gr] wr (wr.setCell ⟨gr, k * 2, none⟩ (.int .i64 (-3 - mx))) := (Only.refl _ _).setCell (p := ⟨gr, k * 2, none⟩) (by simp) _
              have e1 : (oppRow x k).set k (-3 - mx, my) = oppRow x (k + 1) := by
                rw [← oppRow_step hm]; unfold oppM; rw [if_pos hneg]
              rw [e1, oppRow_len x (show k + 1 ≤ x.length by omega)] at hst
              have hnew := hset _ _ hst hon
              rw [List.set_set] at hnew
              have hres : OppI w lo p4 (.slice (some ⟨g, 0, none⟩) mv.length km) bm L S mv ((oppRows mv s).set s (oppRow x (k + 1))) (wr.setCell ⟨gr, k * 2, none⟩ (.int .i64 (-3 - mx))) :=
                ⟨hbw.setCell (p := ⟨gr, k * 2, none⟩) (by show w.heap.size ≤ gr; omega) _, hz.other (a := ⟨gr, k * 2, none⟩) (by show gr ≠ _; omega) _, h4.other (a := ⟨gr, k * 2, none⟩) (by show gr ≠ _; omega) _, hnew⟩
              have HN := Lib.hid hres
              clear hres hnew hst hon e1 hbw hz h4 hO hR hR' hset hmv hgt hm hat hlen hbb
              go_wp2
              go_region
              all_goals
                (try go_wp2)
                go_roundw
                case rel => exact ⟨k + 1, by omega, by go_num, by first | exact HN.out | exact HN.out.drew | exact HN.out.drew.drew⟩
                case measure => simp [intOf]; omega
            · have d0 : decide (mx < 0) = false := by simpa using hneg
              have e1 : oppRow x (k + 1) = oppRow x k := by
                rw [← oppRow_step hm]; unfold oppM; rw [if_neg hneg]; exact set_same (oppRow_at hm)
              have HN := Lib.hid e1
              clear e1 hneg hbw hz h4 hO hR hR' hset hmv hgt hm hat hlen hbb
              go_wp2
              go_roundw
              case rel => exact ⟨k + 1, by omega, by go_num, by rw [HN.out]; exact HI2.out⟩
              case measure => simp [intOf]; omega
          · have ek : k = x.length := by omega
            subst ek
            clear hbw hz h4 hO hR hR' hset hat hlen hbb
            go_wp2
            go_roundw
            case rel => exact ⟨s + 1, by omega, by go_num, by have := HI2.out; rwa [oppRow_full, oppRows_step HX.out.1] at this⟩
            case measure => simp [intOf]; omega
      · have es : s = mv.length := by omega
        subst es
        obtain ⟨hbw, hz, h4, hO⟩ := HS.out
        rw [oppRows_full] at hO
        have hO' : OwT wo lo (.agg #[.int .i64 L, .int .i64 S, .slice Am mv.length km]) ⟨L, S, oppMv mv⟩ bm := ⟨_, bm, rfl, hO, rfl, (goodL (goodP _) _).nodup hO⟩
        obtain ⟨⟨z0, z1, z2⟩, zf⟩ := hz.three
        have lz := hz.lt
        have HH := Lib.hid (own_stored (w := w) hz hbw (by omega) (by have := HLT.out.2; omega) hO')
        clear hz h4 hO hO' hbw
        go_wp2
        obtain ⟨⟨y0, y1, y2⟩, eO, eB⟩ := HH.out
        have hres : oppTRes ⟨L, S, mv⟩ = (⟨L, S, oppMv mv⟩, 0) := by simp [oppTRes, HOK.out]
        rw [hres]
        generalize (((wo.setCell ⟨w.heap.size + 1, 0, none⟩ (.int .i64 L)).setCell ⟨w.heap.size + 1, 1, none⟩ (.int .i64 S)).setCell ⟨w.heap.size + 1, 2, none⟩ (.slice Am mv.length km)) = W2 at *
        refine bodyPost_ret (v := .tuple #[.agg #[.int .i64 L, .int .i64 S, .slice Am mv.length km], .int .i64 0]) (by simp [results, Try.results20, go_sem, y0, y1, y2]) rfl ?_
        first | exact ⟨_, rfl, eO.rd, eB⟩ | exact ⟨_, rfl, ⟨eO.rd, eB⟩⟩
  · have hok' : okT ⟨L, S, mv⟩ = false := by simpa using hok
    clear hok
    have HOK := Lib.hid hok'
    go_enter Try.func20, Try.ntmps20
    go_wp2_with fail
    refine HV.out.mono ?_
    generalize (w.alloc (.cells #[.int .i64 L, .int .i64 S, .slice A mv.length ca] 29)).alloc (.cells #[.int .i64 0, .int .i64 0, .slice none 0 0] 29) = W0 at *
    rintro e w1 ⟨rfl, hb1⟩
    have hz1 := HZ.out.below hb1 HZ.out.lt
    have HH := Lib.hid (own_stored (w := w) (A := none) (n := 0) (k := 0) (L := 0) (S := 0) hz1 (below_step HB.out hb1) (by omega) hz1.lt (t := ⟨0, 0, []⟩) ⟨_, [], rfl, owL_nil _ _ _ _, rfl, by simp⟩)
    obtain ⟨⟨z0, z1, z2⟩, zf⟩ := hz1.three
    have lz := hz1.lt
    clear hb1 hz1
    go_wp2
    obtain ⟨⟨y0, y1, y2⟩, eO, eB⟩ := HH.out
    have hres : oppTRes ⟨L, S, mv⟩ = (⟨0, 0, []⟩, 1) := by simp [oppTRes, HOK.out]
    rw [hres]
    generalize (((w1.setCell ⟨w.heap.size + 1, 0, none⟩ (.int .i64 0)).setCell ⟨w.heap.size + 1, 1, none⟩ (.int .i64 0)).setCell ⟨w.heap.size + 1, 2, none⟩ (.slice none 0 0)) = W2 at *
    refine bodyPost_ret (v := .tuple #[.agg #[.int .i64 0, .int .i64 0, .slice none 0 0], .int .i64 1]) (by simp [results, Try.results20, go_sem, y0, y1, y2]) rfl ?_
    first | exact ⟨_, rfl, eO.rd, eB⟩ | exact ⟨_, rfl, ⟨eO.rd, eB⟩⟩
end Go.Proofs.Ytfkicedhjipfmaa
