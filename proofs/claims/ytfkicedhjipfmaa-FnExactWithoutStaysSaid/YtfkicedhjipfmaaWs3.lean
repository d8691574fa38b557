/-
  The turner that never stays: the program's answer.
-/
import Derived.Test.YtfkicedhjipfmaaWs2
import Derived.Test.YtfkicedhjipfmaaTdWithoutStays
import Derived.Test.YtfkicedhjipfmaaV4
namespace Go.Proofs.Ytfkicedhjipfmaa
open Go.RowKit

def wsG (t : TData) (q k : Nat) : Int × Int := (leaveF t k t.mv.length q).getD (0, 0)
def wsRow (t : TData) (q : Nat) : Bool := (List.range (t.L + 2).toNat).all fun k => (leaveF t k t.mv.length q).isSome
def wsAll (t : TData) : Bool := (List.range t.mv.length).all (wsRow t)
def wsRes (t : TData) : TData × Int := if okT t then (if wsAll t then (⟨t.L, t.S, tableOf (wsG t) (t.L + 2).toNat t.mv.length⟩, 0) else (⟨0, 0, []⟩, 4)) else (⟨0, 0, []⟩, 1)
theorem wsAll_at {t : TData} (h : wsAll t = true) {q k : Nat} (hq : q < t.mv.length) (hk : (k : Int) < t.L + 2) : (leaveF t k t.mv.length q).isSome = true := by
  unfold wsAll at h
  have h1 := List.all_eq_true.1 h q (List.mem_range.2 hq)
  unfold wsRow at h1
  exact List.all_eq_true.1 h1 k (List.mem_range.2 (by omega))
theorem wsAll_not {t : TData} {q k : Nat} (hq : q < t.mv.length) (hk : (k : Int) < t.L + 2) (h : leaveF t k t.mv.length q = none) : wsAll t = false := by
  cases hw : wsAll t
  · rfl
  · have := wsAll_at hw hq hk
    rw [h] at this
    simp at this
theorem range_all_succ {p : Nat → Bool} {k : Nat} (h : (List.range k).all p = true) (hk : p k = true) : (List.range (k + 1)).all p = true := by
  rw [List.range_succ, List.all_append, h]; simp [hk]
theorem wsG_ok {t : TData} (ok : OkT t) (h : wsAll t = true) {q k : Nat} (hq : q < t.mv.length) (hk : (k : Int) < t.L + 2) : okMove t.mv.length t.L k (wsG t q k) = true := by
  obtain ⟨m, hm⟩ := Option.isSome_iff_exists.1 (wsAll_at h hq hk)
  unfold wsG
  rw [hm]
  exact leave_move ok hk _ _ _ hq hm
theorem wsG_deeded {t : TData} (ok : OkT t) (h : wsAll t = true) {q k : Nat} (hq : q < t.mv.length) (hk : (k : Int) < t.L + 2) : Deeded (wsG t q k) := by
  have hm := okMove_out (wsG_ok ok h hq hk)
  unfold Deeded
  omega

set_option maxRecDepth 100000 in
set_option maxHeartbeats 1600000 in
theorem wsClosure_any (p : Nat) (t : TData) (q k : Nat) (w : World) (h : AtT w p t) (ok : OkT t) (hall : wsAll t = true) (hq : q < t.mv.length) (hk : (k : Int) < t.L + 2) :
    Calls Try.prog 67 #[.int .i64 (q : Int), .int .i64 (k : Int), .pointer (some ⟨p, 0, none⟩)] w fun e w' => e = .returned (deedV (wsG t q k)) ∧ Below w.heap.size w w' := by
  obtain ⟨m, hm⟩ := Option.isSome_iff_exists.1 (wsAll_at hall hq hk)
  have hG : wsG t q k = m := by unfold wsG; rw [hm]; rfl
  obtain ⟨vm, c0, c1, c2, hR⟩ := h
  have HD := Lib.hid (leaving_any (.agg #[.int .i64 t.L, .int .i64 t.S, vm]) t q k w ⟨vm, rfl, hR⟩ ok hq hk)
  rw [hm] at HD
  rw [hG]
  obtain ⟨A, ca, rfl⟩ := RdL.shape hR
  clear hR ok hm hG hall hq hk
  go_enter Try.func67, Try.ntmps67
  go_wp2_with fail
  refine HD.out.mono ?_
  rintro e w1 ⟨rfl, hb⟩
  have HB := Lib.hid hb
  clear hb
  rw [show leaveV (some m) = .tuple #[deedV m, .bool true] from rfl]
  go_wp2
  go_ret
  exact ⟨rfl, HB.out⟩

/-- The memory of the call. -/
def WsI (w : World) (rc : List Value) (wr : World) : Prop :=
  Below w.heap.size w wr ∧ Row wr w.heap.size 29 rc ∧ Row wr (w.heap.size + 1) 29 [.int .i64 0, .int .i64 0, .slice none 0 0]
theorem WsI.below {w w' wr : World} {rc : List Value} (h : WsI w rc wr) (hb : Below wr.heap.size wr w') : WsI w rc w' :=
  ⟨below_step h.1 hb, h.2.1.below hb h.2.1.lt, h.2.2.below hb h.2.2.lt⟩
theorem own_storedW {w W : World} {b lo : Nat} {L S : Int} {A : Option Addr} {n k : Nat} {t : TData} {bs : List Nat} {z0 z1 z2 : Value}
    (hz : Row W b 29 [z0, z1, z2]) (hb : Below w.heap.size w W) (hlo : w.heap.size ≤ b) (hbl : b < lo) (hO : OwT W lo (.agg #[.int .i64 L, .int .i64 S, .slice A n k]) t bs) :
    let W2 := (((W.setCell ⟨b, 0, none⟩ (.int .i64 L)).setCell ⟨b, 1, none⟩ (.int .i64 S)).setCell ⟨b, 2, none⟩ (.slice A n k));
    (W2.cell? ⟨b, 0, none⟩ = some (.int .i64 L) ∧ W2.cell? ⟨b, 1, none⟩ = some (.int .i64 S) ∧ W2.cell? ⟨b, 2, none⟩ = some (.slice A n k)) ∧ OwT W2 w.heap.size (.agg #[.int .i64 L, .int .i64 S, .slice A n k]) t bs ∧ Below w.heap.size w W2 := by
  intro W2
  have rF := (((hz.stored 0 (.int .i64 L)).stored 1 (.int .i64 S)).stored 2 (.slice A n k))
  have eO := (goodT.under (a := ⟨b, 2, none⟩) (goodT.under (a := ⟨b, 1, none⟩) (goodT.under (a := ⟨b, 0, none⟩) hO hbl (.int .i64 L)) hbl (.int .i64 S)) hbl (.slice A n k))
  have eB := (((hb.setCell (p := ⟨b, 0, none⟩) hlo (.int .i64 L)).setCell (p := ⟨b, 1, none⟩) hlo (.int .i64 S)).setCell (p := ⟨b, 2, none⟩) hlo (.slice A n k))
  exact ⟨(Row.three (a := .int .i64 L) (b := .int .i64 S) (c := .slice A n k) rF).1, goodT.mono eO (by omega), eB⟩

set_option maxRecDepth 100000 in
set_option maxHeartbeats 6400000 in
theorem implWs_any (v : Value) (t : TData) (w : World) (h : RdT w v t) :
    Calls Try.prog 26 #[v] w fun e w' => ∃ u bs, e = .returned (.tuple #[u, .int .i64 (wsRes t).2]) ∧ OwT w' w.heap.size u (wsRes t).1 bs ∧ Below w.heap.size w w' := by
  have hV := fun W (hb : Below w.heap.size w W) => ValidTurner_any v t W (keepsT _ _ _ _ h hb)
  have hS := fun W (hb : Below w.heap.size w W) => states_any v t W (keepsT _ _ _ _ h hb)
  have hL := fun W (hb : Below w.heap.size w W) (q k : Nat) (ok : OkT t) (hq : q < t.mv.length) (hk : (k : Int) < t.L + 2) => leaving_any v t q k W (keepsT _ _ _ _ h hb) ok hq hk
  obtain ⟨vm, rfl, hA⟩ := atT_box h 29
  obtain ⟨A, ca, rfl⟩ := RdL.shape (show RdPP _ vm t.mv from by obtain ⟨_, e, hm⟩ := h; cases e; exact hm)
  have hA0 := hA.below (below_alloc _ (.cells #[.int .i64 0, .int .i64 0, .slice none 0 0] 29))
  have HV := Lib.hid hV
  have HST := Lib.hid hS
  have HLV := Lib.hid hL
  have HA := Lib.hid (show ∀ W, Below ((w.alloc (.cells #[.int .i64 t.L, .int .i64 t.S, .slice A t.mv.length ca] 29)).alloc (.cells #[.int .i64 0, .int .i64 0, .slice none 0 0] 29)).heap.size _ W → AtT W w.heap.size t from fun W hb => hA0.below hb)
  have hr := (Row.new w [.int .i64 t.L, .int .i64 t.S, .slice A t.mv.length ca] 29).alloc (.cells #[.int .i64 0, .int .i64 0, .slice none 0 0] 29)
  have hz := Row.new (w.alloc (.cells #[.int .i64 t.L, .int .i64 t.S, .slice A t.mv.length ca] 29)) [.int .i64 0, .int .i64 0, .slice none 0 0] 29
  have HI0 := Lib.hid (show WsI w [.int .i64 t.L, .int .i64 t.S, .slice A t.mv.length ca] _ from ⟨(below_alloc w (.cells #[.int .i64 t.L, .int .i64 t.S, .slice A t.mv.length ca] 29)).alloc (by simp) (.cells #[.int .i64 0, .int .i64 0, .slice none 0 0] 29), hr, by simpa using hz⟩)
  clear hV hS hL h hA hA0 hr hz
  by_cases hok : okT t = true
  · have HK := Lib.hid (okT_out hok)
    have HOK := Lib.hid hok
    go_enter Try.func26, Try.ntmps26
    go_wp2_with fail
    refine (HV.out _ HI0.out.1).mono ?_
    generalize (w.alloc (.cells #[.int .i64 t.L, .int .i64 t.S, .slice A t.mv.length ca] 29)).alloc (.cells #[.int .i64 0, .int .i64 0, .slice none 0 0] 29) = W0 at *
    rintro e w1 ⟨rfl, hb1⟩
    have HI1 := Lib.hid (HI0.out.below hb1)
    have HB1 := Lib.hid hb1
    obtain ⟨⟨b0, b1, b2⟩, -⟩ := HI1.out.2.1.three
    clear hb1 HI0
    obtain ⟨c, hc⟩ : ∃ c : Nat, (c : Int) = t.L + 2 := ⟨(t.L + 2).toNat, by have := HK.out.l1; omega⟩
    have HC := Lib.hid hc
    have n2 := HK.out.n2
    have l1 := HK.out.l1
    have l2 := HK.out.l2
    have c5 : c ≤ 5 := by omega
    clear hc
    go_wp2_with fail
    clear hok b0 b1 b2
    refine (HST.out _ HI1.out.1).mono ?_
    rintro e w2 ⟨rfl, hb2⟩
    have HI2 := Lib.hid (show _ ∧ _ from ⟨HI1.out.below hb2, below_step HB1.out hb2⟩)
    clear hb2
    go_wp2
    go_loopw [14] (fun i wr => ∃ s : Nat, s ≤ t.mv.length ∧ i = .int .i64 (s : Int) ∧ WsI w [.int .i64 t.L, .int .i64 t.S, .slice A t.mv.length ca] wr ∧ Below W0.heap.size W0 wr ∧ (List.range s).all (wsRow t) = true) (fun i _ => t.mv.length - (intOf i).toNat)
    case atStart => exact ⟨0, Nat.zero_le _, rfl, HI2.out.1, HI2.out.2, by simp⟩
    case round =>
      clear HI2
      obtain ⟨wo, hwo⟩ : ∃ wo, wo = wr := ⟨wr, rfl⟩
      subst hwo
      obtain ⟨s, hs, rfl, hI, hb0, hall⟩ := hrel
      have HS := Lib.hid (show _ ∧ _ ∧ _ from ⟨hI, hb0, hall⟩)
      obtain ⟨⟨b0, b1, b2⟩, -⟩ := hI.2.1.three
      clear hI hb0 hall
      by_cases hlt : s < t.mv.length
      · have HCS := Lib.hid (fun W => countSigns_any t.L W (by omega) (by omega))
        rw [← HC.out] at HCS
        have i1 : (0 : Int) ≤ s := by omega
        have i2 : (s : Int) < t.mv.length := by omega
        go_wp2_with (go_at_call 65; refine (HCS.out _).mono ?_; rintro e w' ⟨rfl, rfl⟩)
        clear b0 b1 b2
        go_loopw [20] (fun i wi => ∃ k : Nat, k ≤ c ∧ i = .int .i64 (k : Int) ∧ WsI w [.int .i64 t.L, .int .i64 t.S, .slice A t.mv.length ca] wi ∧ Below W0.heap.size W0 wi ∧ (List.range k).all (fun k => (leaveF t k t.mv.length s).isSome) = true) (fun i _ => c - (intOf i).toNat)
        case atStart => exact ⟨0, Nat.zero_le _, rfl, HS.out.1, HS.out.2.1, by simp⟩
        case round =>
          obtain ⟨k, hk, rfl, hI, hb0, hp⟩ := hrel
          have HI3 := Lib.hid (show _ ∧ _ ∧ _ from ⟨hI, hb0, hp⟩)
          obtain ⟨⟨b0, b1, b2⟩, -⟩ := hI.2.1.three
          by_cases hklt : k < c
          · have hkL : (k : Int) < t.L + 2 := by have := HC.out; omega
            have HLL := Lib.hid (HLV.out wr hI.1 s k HK.out hlt hkL)
            have j1 : (0 : Int) ≤ k := by omega
            have j2 : (k : Int) < c := by omega
            clear hI hb0 hp
            cases hF : leaveF t k t.mv.length s with
            | some m =>
              have HF := Lib.hid hF
              rw [hF, show leaveV (some m) = .tuple #[deedV m, .bool true] from rfl] at HLL
              clear hF
              go_wp2_with fail
              refine HLL.out.mono ?_
              rintro e w3 ⟨rfl, hb3⟩
              have HI4 := Lib.hid (show _ ∧ _ ∧ _ from ⟨HI3.out.1.below hb3, below_step HI3.out.2.1 hb3, range_all_succ HI3.out.2.2 (by rw [HF.out]; rfl)⟩)
              clear hb3 b0 b1 b2
              go_wp2
              go_roundw
              case rel => exact ⟨k + 1, by omega, by go_num, HI4.out.1, HI4.out.2.1, HI4.out.2.2⟩
              case measure => simp [intOf]; omega
            | none =>
              have HRES := Lib.hid (show wsRes t = (⟨0, 0, []⟩, 4) by simp [wsRes, HOK.out, wsAll_not hlt hkL hF])
              rw [hF, show leaveV none = .tuple #[Value.nilIface, .bool false] from rfl] at HLL
              clear hF
              go_wp2_with fail
              refine HLL.out.mono ?_
              rintro e w3 ⟨rfl, hb3⟩
              have hI4 := HI3.out.1.below hb3
              have HH := Lib.hid (own_storedW (w := w) (A := none) (n := 0) (k := 0) (L := 0) (S := 0) hI4.2.2 hI4.1 (by omega) hI4.2.2.lt (t := ⟨0, 0, []⟩) ⟨_, [], rfl, owL_nil _ _ _ _, rfl, by simp⟩)
              obtain ⟨⟨z0, z1, z2⟩, zf⟩ := hI4.2.2.three
              have lz := hI4.2.2.lt
              clear hb3 b0 b1 b2 hI4
              go_wp2
              obtain ⟨⟨y0, y1, y2⟩, eO, eB⟩ := HH.out
              rw [HRES.out]
              generalize (((w3.setCell ⟨w.heap.size + 1, 0, none⟩ (.int .i64 0)).setCell ⟨w.heap.size + 1, 1, none⟩ (.int .i64 0)).setCell ⟨w.heap.size + 1, 2, none⟩ (.slice none 0 0)) = W2 at *
              refine bodyPost_ret (v := .tuple #[.agg #[.int .i64 0, .int .i64 0, .slice none 0 0], .int .i64 4]) (by simp [results, Try.results26, go_sem, y0, y1, y2]) rfl ?_
              first | exact ⟨_, _, rfl, eO, eB⟩ | exact ⟨_, rfl, ⟨_, eO⟩, eB⟩
          · obtain rfl : k = c := by omega
            clear hI hb0 hp
            have HI4 := Lib.hid (show _ ∧ _ ∧ _ from ⟨HI3.out.1, HI3.out.2.1, range_all_succ HS.out.2.2 (show wsRow t s = true by unfold wsRow; rw [show (t.L + 2).toNat = k by have := HC.out; omega]; exact HI3.out.2.2)⟩)
            go_wp2
            go_roundw
            case rel => exact ⟨s + 1, by omega, by go_num, HI4.out.1, HI4.out.2.1, HI4.out.2.2⟩
            case measure => simp [intOf]; omega
      · obtain rfl : s = t.mv.length := by omega
        have hws : wsAll t = true := HS.out.2.2
        have HWS := Lib.hid hws
        have HRES := Lib.hid (show wsRes t = (⟨t.L, t.S, tableOf (wsG t) c t.mv.length⟩, 0) by
          have e : (t.L + 2).toNat = c := by have := HC.out; omega
          simp only [wsRes, HOK.out, hws, if_true, e])
        clear hws
        have HD := Lib.hid (fun W (hb : Below wo.heap.size wo W) => doingWithoutStays_own t.L t.S t.mv.length c w.heap.size (wsG t) W HK.out.l1 HK.out.l2 HC.out (by omega)
          (fun q k hq hk => wsG_deeded HK.out HWS.out hq (by have := HC.out; omega))
          (fun W' hb' q k hq hk => wsClosure_any _ t q k W' ((HA.out _ (below_step HS.out.2.1 hb)).below hb') HK.out HWS.out hq (by have := HC.out; omega)))
        go_wp2_with fail
        go_region_held3 (fun W => W.cell? ⟨w.heap.size, 0, none⟩ = some (.int .i64 t.L) ∧ W.cell? ⟨w.heap.size, 1, none⟩ = some (.int .i64 t.S) ∧ W.cell? ⟨w.heap.size, 2, none⟩ = some (.slice A t.mv.length ca))
          (first | (go_split_ands; refine ⟨?_, ?_, ?_⟩ <;> (first | assumption | exact below_keep hbk (by assumption))) | go_keep)
          (first
            | (go_at_call 60; (with_reducible refine (HST.out _ ?_).mono ?_); (first | exact HS.out.1.1 | exact HS.out.1.1.drew); rintro e wa ⟨rfl, hbk⟩; have HCa := Lib.hid (show Below wo.heap.size wo wa from below_step (by first | exact Below.refl _ _ | exact below_drew _) hbk))
            | (go_at_call 44; (with_reducible refine (HD.out _ ?_).mono ?_); (first | exact HCa.out | exact HCa.out.drew); rintro e w2 ⟨u, bs, rfl, hu, hbk⟩; obtain ⟨vm2, bm2, rfl, hvm2, rfl, hnd2⟩ := hu; obtain ⟨Am, km, rfl⟩ := OwL.shape hvm2; simp only at hvm2; have HU := Lib.hid (show _ ∧ _ from ⟨hvm2, hnd2⟩); have hb2 := below_step HCa.out hbk; have hz2 := HS.out.1.2.2.below hb2 HS.out.1.2.2.lt; have HF := Lib.hid (show _ ∧ _ from ⟨hb2, hz2⟩); obtain ⟨⟨z0, z1, z2⟩, zf⟩ := hz2.three; have lz := hz2.lt; clear hvm2 hnd2 hb2 hz2))
        all_goals
          go_wp2
          obtain ⟨hb2, hz2⟩ := HF.out
          obtain ⟨hvm2, hnd2⟩ := HU.out
          have hlw := (HS.out.1.2.2.below HCa.out HS.out.1.2.2.lt).lt
          have hst := own_storedW (w := w) hz2 (below_step HS.out.1.1 hb2) (by omega) (by first | exact hlw | (simp; exact hlw)) (t := ⟨t.L, t.S, tableOf (wsG t) c t.mv.length⟩) ⟨_, _, rfl, hvm2, rfl, hnd2⟩
          obtain ⟨⟨y0, y1, y2⟩, eO, eB⟩ := hst
          rw [HRES.out]
          refine bodyPost_ret (v := .tuple #[.agg #[.int .i64 t.L, .int .i64 t.S, .slice Am (tableOf (wsG t) c t.mv.length).length km], .int .i64 0]) (by simp [results, Try.results26, go_sem, y0, y1, y2]) rfl ?_
          first | exact ⟨_, _, rfl, eO, eB⟩ | exact ⟨_, rfl, ⟨_, eO⟩, eB⟩ | exact ⟨_, _, rfl, goodT.below eO (below_drew _), eB.drew⟩ | exact ⟨_, rfl, ⟨_, goodT.below eO (below_drew _)⟩, eB.drew⟩
  · have hok' : okT t = false := by simpa using hok
    clear hok
    have HOK := Lib.hid hok'
    go_enter Try.func26, Try.ntmps26
    go_wp2_with fail
    refine (HV.out _ HI0.out.1).mono ?_
    generalize (w.alloc (.cells #[.int .i64 t.L, .int .i64 t.S, .slice A t.mv.length ca] 29)).alloc (.cells #[.int .i64 0, .int .i64 0, .slice none 0 0] 29) = W0 at *
    rintro e w1 ⟨rfl, hb1⟩
    have hI1 := HI0.out.below hb1
    have HH := Lib.hid (own_storedW (w := w) (A := none) (n := 0) (k := 0) (L := 0) (S := 0) hI1.2.2 hI1.1 (by omega) hI1.2.2.lt (t := ⟨0, 0, []⟩) ⟨_, [], rfl, owL_nil _ _ _ _, rfl, by simp⟩)
    obtain ⟨⟨z0, z1, z2⟩, zf⟩ := hI1.2.2.three
    have lz := hI1.2.2.lt
    clear hb1 hI1
    go_wp2
    obtain ⟨⟨y0, y1, y2⟩, eO, eB⟩ := HH.out
    have hres : wsRes t = (⟨0, 0, []⟩, 1) := by simp [wsRes, HOK.out]
    rw [hres]
    generalize (((w1.setCell ⟨w.heap.size + 1, 0, none⟩ (.int .i64 0)).setCell ⟨w.heap.size + 1, 1, none⟩ (.int .i64 0)).setCell ⟨w.heap.size + 1, 2, none⟩ (.slice none 0 0)) = W2 at *
    refine bodyPost_ret (v := .tuple #[.agg #[.int .i64 0, .int .i64 0, .slice none 0 0], .int .i64 1]) (by simp [results, Try.results26, go_sem, y0, y1, y2]) rfl ?_
    first | exact ⟨_, _, rfl, eO, eB⟩ | exact ⟨_, rfl, ⟨_, eO⟩, eB⟩
end Go.Proofs.Ytfkicedhjipfmaa
