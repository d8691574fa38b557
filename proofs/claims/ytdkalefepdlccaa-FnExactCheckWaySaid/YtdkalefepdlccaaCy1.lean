/-
  Places among places: slices.Contains, and the places in which a wanderer begins.
-/
import Derived.Test.YtdkalefepdlccaaWn3
namespace Go.Proofs.Ytdkalefepdlccaa
open Go.RowKit

def hasPl (xs : List (Int × Int)) (p : Int × Int) : Bool := xs.any fun q => decide (q.1 = p.1) && decide (q.2 = p.2)
def notPl (p q : Int × Int) : Bool := !(decide (q.1 = p.1) && decide (q.2 = p.2))
theorem hasPl_take {xs : List (Int × Int)} {p q : Int × Int} {k : Nat} (h : hasPl (xs.take k) p = false) (hq : xs[k]? = some q) (hn : ¬ (q.1 = p.1 ∧ q.2 = p.2)) : hasPl (xs.take (k + 1)) p = false := by
  unfold hasPl at *
  rw [take_succ_of hq, List.any_append, h]; simp only [Bool.false_or, List.any_cons, List.any_nil, Bool.or_false, Bool.and_eq_false_iff, decide_eq_false_iff_not]
  by_cases h1 : q.1 = p.1
  · exact .inr (fun h2 => hn ⟨h1, h2⟩)
  · exact .inl h1
theorem hasPl_yes {xs : List (Int × Int)} {p q : Int × Int} {k : Nat} (hq : xs[k]? = some q) (h1 : q.1 = p.1) (h2 : q.2 = p.2) : hasPl xs p = true := by
  unfold hasPl
  rw [List.any_eq_true]
  exact ⟨q, List.mem_of_getElem? hq, by simp [h1, h2]⟩

set_option maxHeartbeats 800000 in
theorem indexPl_any (v : Value) (xs : List (Int × Int)) (px py : Int) (w : World) (h : RdP w v xs) :
    Calls Try.prog 126 #[v, .agg #[.int .i64 px, .int .i64 py]] w fun e w' => (∃ n : Int, e = .returned (.int .i64 n) ∧ decide (0 ≤ n) = hasPl xs (px, py)) ∧ Below w.heap.size w w' := by
  obtain ⟨A, cap, rfl, h1, h2, h3⟩ := RdP.open h
  unfold maxLen at h2
  have hbox := Row.new w [.int .i64 px, .int .i64 py] 70
  have HB0 := Lib.hid (show _ ∧ _ from ⟨below_alloc w (.cells #[.int .i64 px, .int .i64 py] 70), hbox⟩)
  clear hbox h
  go_enter Try.func126, Try.ntmps126
  go_wp2
  generalize w.alloc (.cells #[.int .i64 px, .int .i64 py] 70) = w0 at *
  go_loopw [8] (fun i wr => ∃ k : Nat, k ≤ xs.length ∧ i = .int .i64 k ∧ Qt w0 wr ∧ hasPl (xs.take k) (px, py) = false) (fun i _ => xs.length - (intOf i).toNat)
  case atStart => exact ⟨0, Nat.zero_le _, rfl, Qt.refl _, by simp [hasPl]⟩
  case round =>
    obtain ⟨k, hk, rfl, hb, hp⟩ := hrel
    have HP := Lib.hid hp; clear hp
    have HQ := Lib.hid hb
    by_cases hlt : k < xs.length
    · obtain ⟨b, off, qx, qy, rfl, hq, hc0, hc1⟩ := h3 k hlt
      have hc0' := (hb.cell _).trans (below_keep HB0.out.1 hc0)
      have hc1' := (hb.cell _).trans (below_keep HB0.out.1 hc1)
      obtain ⟨⟨d0, d1⟩, -⟩ := HB0.out.2.two
      have e0 := (hb.cell _).trans d0
      have e1 := (hb.cell _).trans d1
      have HX := Lib.hid hq
      have i1 : (0 : Int) ≤ k := by omega
      have i2 : (k : Int) < xs.length := by omega
      clear hc0 hc1 h3 hb hq d0 d1
      by_cases g1 : qx = px
      · subst g1
        by_cases g2 : qy = py
        · subst g2
          go_wp2
          go_quiet (fail)
          go_wp2
          go_ret
          exact ⟨⟨_, rfl, by rw [hasPl_yes HX.out rfl rfl]; simp⟩, below_step HB0.out.1 (HQ.out.drewN _).below⟩
        · have g3 : (py == qy) = false := by simpa using fun e => g2 e.symm
          have g4 : (qy == py) = false := by simpa using g2
          have HN := Lib.hid g2
          clear g2
          go_wp2
          go_quiet (fail)
          go_wp2
          go_roundw
          case rel => exact ⟨k + 1, by omega, by go_num, HQ.out.drewN _, hasPl_take HP.out HX.out (fun e => HN.out e.2)⟩
          case measure => simp [intOf]; omega
      · have g3 : (px == qx) = false := by simpa using fun e => g1 e.symm
        have g4 : (qx == px) = false := by simpa using g1
        have HN := Lib.hid g1
        clear g1
        go_wp2
        go_quiet (fail)
        go_wp2
        go_roundw
        case rel => exact ⟨k + 1, by omega, by go_num, HQ.out.drewN _, hasPl_take HP.out HX.out (fun e => HN.out e.1)⟩
        case measure => simp [intOf]; omega
    · clear hb h3
      go_wp2
      go_ret
      exact ⟨⟨_, rfl, by have := HP.out; rw [List.take_of_length_le (by omega)] at this; rw [this]; decide⟩, below_step HB0.out.1 HQ.out.below⟩

set_option maxHeartbeats 800000 in
theorem containsPl_any (v : Value) (xs : List (Int × Int)) (px py : Int) (w : World) (h : RdP w v xs) :
    Calls Try.prog 95 #[v, .agg #[.int .i64 px, .int .i64 py]] w fun e w' => e = .returned (.bool (hasPl xs (px, py))) ∧ Below w.heap.size w w' := by
  have HI := Lib.hid (indexPl_any v xs px py _ (keepsP _ _ _ _ h (below_alloc w (.cells #[.int .i64 px, .int .i64 py] 70))))
  have HB0 := Lib.hid (below_alloc w (.cells #[.int .i64 px, .int .i64 py] 70))
  obtain ⟨A, cap, rfl, -⟩ := RdP.open h
  clear h
  go_enter Try.func95, Try.ntmps95
  go_wp2_with fail
  refine HI.out.mono ?_
  rintro e w1 ⟨⟨n, rfl, hn⟩, hb⟩
  have HB := Lib.hid (below_step HB0.out hb)
  have HN := Lib.hid hn
  clear HI hb hn
  go_wp2
  go_ret
  exact ⟨ret_bool HN.out, HB.out⟩

def firstsOf (st : List Int) : List (Int × Int) := st.map fun q => (q, 0)
set_option maxRecDepth 100000 in
set_option maxHeartbeats 1600000 in
theorem firstPlaces_own (v : Value) (r : WData) (w : World) (h : RdW w v r) (hn : r.st.length ≤ 5) :
    Calls Try.prog 94 #[v] w fun e w' => ∃ u bs, e = .returned u ∧ OwP 70 w' w.heap.size u (firstsOf r.st) bs ∧ Below w.heap.size w w' := by
  obtain ⟨im, him, hzm0, hzm1, hzm2⟩ := info_parts infoPlace
  obtain ⟨A, ka, B, kb, rfl⟩ := h.shape
  have hbox := Row.new w [.int .i64 r.L, .slice A r.st.length ka, .slice B r.mv.length kb] 68
  have hb0 := below_alloc w (.cells #[.int .i64 r.L, .slice A r.st.length ka, .slice B r.mv.length kb] 68)
  obtain ⟨a0, m0, hv, hst, -⟩ := h
  simp only [Value.agg.injEq] at hv
  obtain rfl : a0 = .slice A r.st.length ka := by simpa using (congrArg (fun x : Array Value => x.getD 1 undef) hv).symm
  obtain ⟨A', cap', hA', a1, a2, a3⟩ := (keepsI _ _ _ _ hst hb0).open
  simp only [Value.slice.injEq, true_and] at hA'
  obtain ⟨rfl, rfl⟩ := hA'
  unfold maxLen at a2
  obtain ⟨⟨c0, c1, c2⟩, -⟩ := hbox.three
  have HB0 := Lib.hid hb0
  have HSZ := Lib.hid (show w.heap.size < (w.alloc (.cells #[.int .i64 r.L, .slice A r.st.length ka, .slice B r.mv.length kb] 68)).heap.size by simp)
  clear hbox hb0 hv hst
  go_enter Try.func94, Try.ntmps94
  go_wp2
  generalize w.alloc (.cells #[.int .i64 r.L, .slice A r.st.length ka, .slice B r.mv.length kb] 68) = w0 at *
  clear c0 c1 c2
  go_loopw [3, 9] (fun u i wr => ∃ k : Nat, ∃ Bu ku, k ≤ r.st.length ∧ i = .int .i64 k ∧ u = .slice Bu k ku ∧ NxI w0 (.slice Bu k ku) k (firstsOf (r.st.take k)) wr) (fun _ i _ => r.st.length - (intOf i).toNat)
  case atStart => exact ⟨0, none, 0, Nat.zero_le _, rfl, rfl, Below.refl _ _, World.ownsRow_nil w0 _ _ 2⟩
  case round =>
    obtain ⟨k, Bu, ku, hk, rfl, rfl, hI⟩ := hrel
    have HI := Lib.hid hI
    by_cases hlt : k < r.st.length
    · obtain ⟨b, off, x, rfl, hx, hc⟩ := a3 k hlt
      have hc' := below_keep hI.1 hc
      have hsz := hI.1.size
      have HX := Lib.hid (show firstsOf (r.st.take (k + 1)) = firstsOf (r.st.take k) ++ [(x, 0)] by rw [take_succ_of hx]; simp [firstsOf])
      have i1 : (0 : Int) ≤ k := by omega
      have i2 : (k : Int) < r.st.length := by omega
      clear hc a3 hI hx
      go_wp2_with (at_builtin; refine wpList_append_lies _ rfl _ _ 26 rfl w0.heap.size 70 im _ 2 16 Try.underlying26 him hzm0 hzm1 hzm2 rfl (by decide) (.slice Bu k ku) k _ rfl (rows_below HI.out.2 (below_alloc _ _)) ⟨wr.heap.size, 0, none⟩ 1 1 [.int .i64 x, .int .i64 0] rfl rfl (World.news_of_block (cs := #[.int .i64 x, .int .i64 0]) (t := 70) (fr := (0, 0)) (heap_alloc_new wr _)) (by simp [Value.oneCell']) (by omega) (by unfold maxLen; omega) (by omega) (by simp; omega) (wr.heap.size + 1) (by simp) ?_; intro g cap w5 hown5 hgrow5 hat5 hlt5; have hE := (HI.out.snoc (m := (x, 0)) (below_alloc _ _) hgrow5 hown5); rw [← HX.out] at hE; have HE := Lib.hid hE; clear hown5 hgrow5 hat5 hlt5 hE)
      go_roundw
      case rel => exact ⟨k + 1, _, _, by omega, by go_num, rfl, HE.out⟩
      case measure => simp [intOf]; omega
    · have ek : k = r.st.length := by omega
      subst ek
      rw [List.take_length] at hI
      have HI2 := Lib.hid hI
      clear hI a3 HI
      go_wp2
      go_ret
      refine ⟨_, _, rfl, ⟨?_, rfl⟩, below_step HB0.out HI2.out.1⟩
      rw [show (firstsOf r.st).length = r.st.length by simp [firstsOf]]
      exact World.ownsRow.mono HI2.out.2 (by have := HSZ.out; omega)
end Go.Proofs.Ytdkalefepdlccaa
