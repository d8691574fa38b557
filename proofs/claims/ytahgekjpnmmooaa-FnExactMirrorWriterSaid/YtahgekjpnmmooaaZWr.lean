/-
  A writer's marks.
-/
import Derived.Test.YtahgekjpnmmooaaMS1
import Derived.Test.YtahgekjpnmmooaaGWr
namespace Go.Proofs.Ytahgekjpnmmooaa
open Go.RowKit

def numWr (r : WrData) : Nat := numT r.t + numSS r.out
theorem numWr_le (r : WrData) : numWr r ≤ 2 * cntWr r := by
  have := numT_le r.t
  unfold numWr cntWr
  omega
def mkWr (k : Int) (r : WrData) : WrData := ⟨r.L, r.S, (mkT k r.t).mv, mkSS (k + ((numT r.t : Nat) : Int)) r.out⟩

abbrev OwSS : World → Nat → Value → List (List ByteArray) → List Nat → Prop := OwL (OwV strs 9) 44
theorem goodSS : Good OwSS := goodL (goodV strs 9) 44

set_option maxHeartbeats 1600000 in
theorem markWr_own (v : Value) (r : WrData) (bs : List Nat) (lo : Nat) (k : Int) (w : World) (h : OwWr w lo v r bs) (hk0 : 0 ≤ k) (hk : k + (numWr r : Int) ≤ 4611686018427387904) :
    Calls Try.prog 10 #[v, .int .i64 k] w fun e w' => e = .returned (.int .i64 (k + (numWr r : Int))) ∧ OwWr w' lo v (mkWr k r) bs ∧ Turned bs w w' := by
  obtain ⟨vmv, vout, bmv, bout, hv, hmv, hout, hbs, hnd⟩ := h
  subst hv
  subst hbs
  unfold numWr at hk
  have hnd' := List.nodup_append.1 hnd
  have hOT : OwT w lo (.agg #[.int .i64 r.L, .int .i64 r.S, vmv]) r.t bmv := ⟨vmv, bmv, rfl, hmv, rfl, hnd'.1⟩
  have hltm : ∀ x ∈ bmv, x < w.heap.size := fun x hx => (goodT.lt hOT hx).2
  have hlto : ∀ x ∈ bout, x < w.heap.size := fun x hx => (goodSS.lt hout hx).2
  obtain ⟨A0, k0, rfl⟩ := OwL.shape hmv
  obtain ⟨A1, k1, rfl⟩ := OwL.shape hout
  have HR := Lib.hid (Row.new w [.int .i64 r.L, .int .i64 r.S, .slice A0 r.mv.length k0, .slice A1 r.out.length k1] 27)
  have HOT := Lib.hid (goodT.below hOT (below_alloc w (.cells #[.int .i64 r.L, .int .i64 r.S, .slice A0 r.mv.length k0, .slice A1 r.out.length k1] 27)))
  have HOO := Lib.hid (goodSS.below hout (below_alloc w (.cells #[.int .i64 r.L, .int .i64 r.S, .slice A0 r.mv.length k0, .slice A1 r.out.length k1] 27)))
  have HT := Lib.hid (Turned.alloc w (.cells #[.int .i64 r.L, .int .i64 r.S, .slice A0 r.mv.length k0, .slice A1 r.out.length k1] 27))
  have HF := Lib.hid (show _ ∧ _ ∧ _ from ⟨hnd, hltm, hlto⟩)
  have HAP := Lib.hid hnd'.2.2
  clear hmv hout hOT hnd hnd' hltm hlto
  go_enter Try.func10, Try.ntmps10
  go_wp2_with fail
  refine (markT_own _ r.t bmv lo k _ HOT.out hk0 (by omega)).mono ?_
  generalize w.alloc (.cells #[.int .i64 r.L, .int .i64 r.S, .slice A0 r.mv.length k0, .slice A1 r.out.length k1] 27) = W0 at *
  rintro e w1 ⟨rfl, hoT, hT1⟩
  have HR1 := Lib.hid (HR.out.same (hT1.block w.heap.size HR.out.lt (fun hm => absurd (HF.out.2.1 _ hm) (by omega))))
  have HOO1 := Lib.hid (hT1.keep goodSS HOO.out (fun c hc hm => HAP.out c hm c hc rfl))
  have HT1 := Lib.hid (show Turned (bmv ++ bout) w w1 from ⟨hT1.os.trans HT.out.os, hT1.tape.trans HT.out.tape, hT1.output.trans HT.out.output, Nat.le_trans HT.out.size hT1.size, fun i hi hn => (hT1.block i (by have := HT.out.size; omega) (fun hm => hn (by simp [hm]))).trans (HT.out.block i hi (by simp))⟩)
  have HOT1 := Lib.hid hoT
  obtain ⟨⟨c0, c1, c2, c3⟩, -⟩ := HR1.out.four
  have i0 : (0 : Int) ≤ k + ((numT r.t : Nat) : Int) := by omega
  clear hoT hT1
  go_wp2_with fail
  refine (markStringSS_own _ r.out bout lo (k + ((numT r.t : Nat) : Int)) _ HOO1.out (by omega) (by show k + ((numT r.t : Nat) : Int) + (numSS r.out : Int) ≤ _; omega)).mono ?_
  rintro e w2 ⟨rfl, hoO, hT2⟩
  have hoT2 := hT2.keep goodT HOT1.out (fun c hc hm => HAP.out c hc c hm rfl)
  have HRES := Lib.hid (show OwWr w2 lo (.agg #[.int .i64 r.L, .int .i64 r.S, .slice A0 r.mv.length k0, .slice A1 r.out.length k1]) (mkWr k r) (bmv ++ bout) ∧ Turned (bmv ++ bout) w w2 from by
    refine ⟨?_, ?_⟩
    · obtain ⟨vm, bm, hv, hm, hb, _⟩ := hoT2
      subst hb
      have hv2 : Value.slice A0 r.mv.length k0 = vm := by
        have := congrArg (fun x => match x with | .agg a => a[2]? | _ => none) hv
        simpa using this
      subst hv2
      exact ⟨_, _, _, _, rfl, hm, hoO, rfl, HF.out.1⟩
    · exact ⟨hT2.os.trans HT1.out.os, hT2.tape.trans HT1.out.tape, hT2.output.trans HT1.out.output, Nat.le_trans HT1.out.size hT2.size, fun i hi hn => (hT2.block i (by have := HT1.out.size; omega) (fun hm => hn (by simp [hm]))).trans (HT1.out.block i hi hn)⟩)
  clear hoO hT2 hoT2
  go_wp2
  go_ret
  exact ⟨ret_int (by show _ = k + ((numT r.t + numSS r.out : Nat) : Int); unfold numSS; omega), HRES.out.1, HRES.out.2⟩

set_option maxHeartbeats 1600000 in
theorem heldWr_any (v : Value) (r : WrData) (k : Int) (w : World) (h : RdWr w v (mkWr k r)) (hk0 : 0 ≤ k) (hk : k + (numWr r : Int) ≤ 4611686018427387904) :
    Calls Try.prog 11 #[v, .int .i64 k] w fun e w' => e = .returned (.int .i64 (k + (numWr r : Int))) ∧ Below w.heap.size w w' := by
  obtain ⟨vmv, vout, hv, hmv, hout⟩ := h
  subst hv
  unfold numWr at hk
  have HT := Lib.hid (fun o => heldT_any (.agg #[.int .i64 r.L, .int .i64 r.S, vmv]) r.t k (w.alloc o) ⟨vmv, rfl, keepsPP _ _ _ _ hmv (below_alloc _ _)⟩ hk0 (by omega))
  have HO := Lib.hid (fun W (hb : Below w.heap.size w W) => heldStringSS_any vout r.out (k + ((numT r.t : Nat) : Int)) W (keepsSS _ _ _ _ hout hb) (by omega) (by show k + ((numT r.t : Nat) : Int) + (numSS r.out : Int) ≤ _; omega))
  have HR := Lib.hid (Row.new w [.int .i64 r.L, .int .i64 r.S, vmv, vout] 27)
  have HB0 := Lib.hid (below_alloc w (.cells #[.int .i64 r.L, .int .i64 r.S, vmv, vout] 27))
  have i0 : (0 : Int) ≤ k + ((numT r.t : Nat) : Int) := by omega
  have i1 : (0 : Int) ≤ k + ((numT r.t : Nat) : Int) + ((numSS r.out : Nat) : Int) := by omega
  clear hmv hout
  go_enter Try.func11, Try.ntmps11
  go_wp2_with fail
  refine (HT.out _).mono ?_
  rintro e w1 ⟨rfl, hb1⟩
  have HB1 := Lib.hid (below_step HB0.out hb1)
  obtain ⟨⟨c0, c1, c2, c3⟩, -⟩ := (HR.out.below hb1 HR.out.lt).four
  clear hb1
  go_wp2_with fail
  refine (HO.out _ HB1.out).mono ?_
  rintro e w2 ⟨rfl, hb2⟩
  have HB2 := Lib.hid (below_step HB1.out hb2)
  clear hb2
  go_wp2
  go_ret
  exact ⟨ret_int (by show _ = k + ((numT r.t + numSS r.out : Nat) : Int); unfold numSS; omega), HB2.out⟩
end Go.Proofs.Ytahgekjpnmmooaa
