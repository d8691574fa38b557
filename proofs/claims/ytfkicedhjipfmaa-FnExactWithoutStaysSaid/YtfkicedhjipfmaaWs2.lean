/-
  Moves that stay: what the program says of them.
-/
import Derived.Test.YtfkicedhjipfmaaWs1
import Derived.Test.YtfkicedhjipfmaaTd1
namespace Go.Proofs.Ytfkicedhjipfmaa
open Go.RowKit

def leaveV (o : Option (Int × Int)) : Value := match o with
  | some m => .tuple #[deedV m, .bool true]
  | none => .tuple #[Value.nilIface, .bool false]
theorem deedV_goW (x y : Int) (h : 0 ≤ x) : deedV (x, y) = .iface 75 (.agg #[.int .i64 x, .int .i64 y]) := by
  simp only [deedV, walkV]; rw [if_neg (by omega), if_neg (by omega)]

set_option maxRecDepth 100000 in
set_option maxHeartbeats 3200000 in
theorem leaving_any (v : Value) (t : TData) (q0 k : Nat) (w : World) (h : RdT w v t) (ok : OkT t) (hq0 : q0 < t.mv.length) (hk : (k : Int) < t.L + 2) :
    Calls Try.prog 66 #[v, .int .i64 (q0 : Int), .int .i64 (k : Int)] w fun e w' => e = .returned (leaveV (leaveF t k t.mv.length q0)) ∧ Below w.heap.size w w' := by
  have HST := Lib.hid (fun W (hb : Below w.heap.size w W) => states_any v t W (keepsT _ _ _ _ h hb))
  have HD := Lib.hid (fun W (hb : Below w.heap.size w W) q (hq : q < t.mv.length) => deed_any v t q k W (keepsT _ _ _ _ h hb) ok hq hk)
  have HK := Lib.hid ok
  obtain ⟨A, c, rfl⟩ := h.shape
  have HR := Lib.hid (Row.new w [.int .i64 t.L, .int .i64 t.S, .slice A t.mv.length c] 29)
  have HB := Lib.hid (below_alloc w (.cells #[.int .i64 t.L, .int .i64 t.S, .slice A t.mv.length c] 29))
  have n2 := ok.n2
  clear h ok
  go_enter Try.func66, Try.ntmps66
  go_wp2_with fail
  refine (HST.out _ HB.out).mono ?_
  rintro e w1 ⟨rfl, hb1⟩
  have HR1 := Lib.hid (HR.out.below hb1 HR.out.lt)
  have HB1 := Lib.hid (below_step HB.out hb1)
  clear hb1 HR HB
  go_wp2
  go_loopw [1, 13] (fun u i wr => ∃ (j q : Nat), j ≤ t.mv.length ∧ i = .int .i64 (j : Int) ∧ u = .int .i64 (q : Int) ∧ q < t.mv.length ∧ Below w.heap.size w wr ∧ Row wr w.heap.size 29 [.int .i64 t.L, .int .i64 t.S, .slice A t.mv.length c] ∧ leaveF t k (t.mv.length - j) q = leaveF t k t.mv.length q0) (fun _ i _ => t.mv.length - (intOf i).toNat)
  case atStart => exact ⟨0, q0, Nat.zero_le _, rfl, rfl, hq0, HB1.out, HR1.out, by simp⟩
  case round =>
    clear HB1 HR1
    obtain ⟨j, q, hj, rfl, rfl, hq, hb, hR, hL⟩ := hrel
    have HL := Lib.hid hL
    have HH := Lib.hid (show _ ∧ _ from ⟨hb, hR⟩)
    obtain ⟨⟨b0, b1, b2⟩, -⟩ := hR.three
    have lt0 := hR.lt
    by_cases hlt : j < t.mv.length
    · have hDD := HD.out wr hb q hq
      obtain ⟨x0, m, -, -, hat, hmv, -⟩ := HK.out.at hq hk
      have hmo := okMove_out hmv
      have HAT := Lib.hid hat
      have HUN := Lib.hid (show leaveF t k (t.mv.length - j) q = if staysAt t k q then leaveF t k (t.mv.length - (j + 1)) (nextS t k q) else some (moveAt t q k) by
        rw [show t.mv.length - j = (t.mv.length - (j + 1)) + 1 by omega]; rfl)
      rw [hat] at hDD
      have HDD := Lib.hid hDD
      have i1 : (0 : Int) ≤ j := by omega
      have i2 : (j : Int) < t.mv.length := by omega
      clear hb hR hL hDD hat hmv
      obtain ⟨mx, my⟩ := m
      simp only at hmo
      rcases hmo with ⟨h0 | h0, h9⟩ | ⟨-, h0, -, h5, h6, -, -⟩
      · subst h0; subst h9
        have HN := Lib.hid (show leaveF t k t.mv.length q0 = some (-1, 0) by
          rw [← HL.out, HUN.out, if_neg (by unfold staysAt; rw [HAT.out]; simp), HAT.out])
        rw [show deedV (-1, 0) = .iface 77 (.agg #[.bool true]) from by simp [deedV, stopV]] at HDD
        go_wp2_with fail
        refine HDD.out.mono ?_
        rintro e w2 ⟨rfl, hb2⟩
        have HB2 := Lib.hid (below_step HH.out.1 hb2)
        have ta := taWalkNo w2 (.agg #[.bool true])
        clear hb2 b0 b1 b2 lt0
        go_wp2
        refine bodyPost_ret (v := .tuple #[.iface 77 (.agg #[.bool true]), .bool true]) (by simp [results, Try.results66, go_sem]) rfl ?_
        rw [HN.out]
        exact ⟨by simp [leaveV, deedV, stopV], below_step HB2.out (below_alloc _ _)⟩
      · subst h0; subst h9
        have HN := Lib.hid (show leaveF t k t.mv.length q0 = some (-2, 0) by
          rw [← HL.out, HUN.out, if_neg (by unfold staysAt; rw [HAT.out]; simp), HAT.out])
        rw [show deedV (-2, 0) = .iface 77 (.agg #[.bool false]) from by simp [deedV, stopV]] at HDD
        go_wp2_with fail
        refine HDD.out.mono ?_
        rintro e w2 ⟨rfl, hb2⟩
        have HB2 := Lib.hid (below_step HH.out.1 hb2)
        have ta := taWalkNo w2 (.agg #[.bool false])
        clear hb2 b0 b1 b2 lt0
        go_wp2
        refine bodyPost_ret (v := .tuple #[.iface 77 (.agg #[.bool false]), .bool true]) (by simp [results, Try.results66, go_sem]) rfl ?_
        rw [HN.out]
        exact ⟨by simp [leaveV, deedV, stopV], below_step HB2.out (below_alloc _ _)⟩
      · by_cases hy : my = 0
        · subst hy
          have HN := Lib.hid (show leaveF t k (t.mv.length - (j + 1)) (nextS t k q) = leaveF t k t.mv.length q0 by
            rw [← HL.out, HUN.out, if_pos (by unfold staysAt; rw [HAT.out]; exact ⟨h0, rfl⟩)])
          have HNX := Lib.hid (show nextS t k q = mx.toNat by unfold nextS; rw [HAT.out])
          have hnl := stay_next HK.out hq hk (show staysAt t k q by unfold staysAt; rw [HAT.out]; exact ⟨h0, rfl⟩)
          rw [HNX.out] at hnl
          obtain ⟨q', rfl⟩ := Int.eq_ofNat_of_zero_le h0
          rw [deedV_goW _ _ h0] at HDD
          go_wp2_with fail
          refine HDD.out.mono ?_
          rintro e w2 ⟨rfl, hb2⟩
          have hb3 := below_step hb2 (below_alloc w2 (.cells #[.int .i64 (q' : Int), .int .i64 0] 75))
          have HH2 := Lib.hid (show _ ∧ _ from ⟨below_step HH.out.1 hb3, HH.out.2.below hb3 HH.out.2.lt⟩)
          have ta := taWalkYes w2 (.agg #[.int .i64 (q' : Int), .int .i64 0])
          clear hb2 hb3 b0 b1 b2 lt0
          go_wp2
          go_roundw
          case rel => exact ⟨j + 1, q', by omega, by go_num, rfl, by simpa using hnl, HH2.out.1, HH2.out.2, by have := HN.out; rwa [HNX.out, Int.toNat_natCast] at this⟩
          case measure => simp [intOf]; omega
        · have d1 : (my != 0) = true := by simpa using hy
          have HN := Lib.hid (show leaveF t k t.mv.length q0 = some (mx, my) by
            rw [← HL.out, HUN.out, if_neg (by unfold staysAt; rw [HAT.out]; exact fun h => hy h.2), HAT.out])
          rw [deedV_goW _ _ h0] at HDD
          clear hy
          go_wp2_with fail
          refine HDD.out.mono ?_
          rintro e w2 ⟨rfl, hb2⟩
          have HB2 := Lib.hid (below_step HH.out.1 hb2)
          have ta := taWalkYes w2 (.agg #[.int .i64 mx, .int .i64 my])
          clear hb2 b0 b1 b2 lt0
          go_wp2
          refine bodyPost_ret (v := .tuple #[.iface 75 (.agg #[.int .i64 mx, .int .i64 my]), .bool true]) (by simp [results, Try.results66, go_sem]) rfl ?_
          rw [HN.out]
          exact ⟨by simp only [leaveV]; rw [deedV_goW _ _ h0], below_step HB2.out (below_alloc _ _)⟩
    · obtain rfl : j = t.mv.length := by omega
      have HN := Lib.hid (show leaveF t k t.mv.length q0 = none by rw [← HL.out, Nat.sub_self]; rfl)
      clear hb hR hL
      go_wp2
      refine bodyPost_ret (v := .tuple #[Value.nilIface, .bool false]) (by simp [results, Try.results66, go_sem]) rfl ?_
      rw [HN.out]
      exact ⟨rfl, HH.out.1⟩
end Go.Proofs.Ytfkicedhjipfmaa
