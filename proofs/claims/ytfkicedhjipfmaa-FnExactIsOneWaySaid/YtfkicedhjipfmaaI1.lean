/-
  Which turners go one way: the model's answer and the program's.
-/
import Derived.Test.YtfkicedhjipfmaaV5
namespace Go.Proofs.Ytfkicedhjipfmaa
open Go.RowKit

def badMove (L k : Int) (m : Int × Int) : Bool := decide (0 ≤ m.1 ∧ m.2 ≠ 1 ∧ ¬ (k = L + 1 ∧ m.2 = 0))
def goodTo (L : Int) (row : List (Int × Int)) (k : Nat) : Bool := (List.range k).all fun (j : Nat) => !badMove L (j : Int) (row.getD j (0, 0))
def goodRow (L : Int) (row : List (Int × Int)) : Bool := goodTo L row row.length
def oneWay (t : TData) : Bool := t.mv.all (goodRow t.L)
def oneWayRes (t : TData) : Bool × Int := if okT t then (oneWay t, 0) else (false, 1)
theorem goodTo_succ {L : Int} {row : List (Int × Int)} {k : Nat} {m : Int × Int} (hm : row[k]? = some m) (h : goodTo L row k = true) (hk : badMove L k m = false) : goodTo L row (k + 1) = true := by
  unfold goodTo at h ⊢
  rw [List.range_succ, List.all_append, h]
  simp [List.getD, hm, hk]
theorem goodRow_not {L : Int} {row : List (Int × Int)} {k : Nat} {m : Int × Int} (hm : row[k]? = some m) (hk : badMove L k m = true) : goodRow L row = false := by
  have hl := (List.getElem?_eq_some_iff.1 hm).1
  unfold goodRow goodTo
  rw [List.all_eq_false]
  exact ⟨k, by simpa using hl, by simp [List.getD, hm, hk]⟩
theorem oneWay_not {t : TData} {s : Nat} {x : List (Int × Int)} (hx : t.mv[s]? = some x) (h : goodRow t.L x = false) : oneWay t = false := by
  unfold oneWay
  rw [List.all_eq_false]
  exact ⟨x, List.mem_of_getElem? hx, by simp [h]⟩
theorem ret_pair {a b : Value} {a' b' : Value} (h : a = a') (k : b = b') : Ending.returned (.tuple #[a, b]) = .returned (.tuple #[a', b']) := by rw [h, k]

set_option maxHeartbeats 1600000 in
theorem specIsOneWay_any (v : Value) (t : TData) (w : World) (h : RdT w v t) :
    Calls Try.prog 35 #[v] w fun e w' => e = .returned (.tuple #[.bool (oneWayRes t).1, .int .i64 (oneWayRes t).2]) ∧ Below w.heap.size w w' := by
  obtain ⟨m, rfl, hA⟩ := atT_box h 29
  have HV := Lib.hid (l02Ok_any _ _ _ hA)
  obtain ⟨L, S, mv⟩ := t
  simp only at *
  obtain ⟨_, c0, c1, c2, hm⟩ := hA
  have hx := Row.new w [.int .i64 L, .int .i64 S, m] 29
  obtain ⟨⟨-, -, q2⟩, -⟩ := hx.three
  obtain rfl := Option.some.inj (q2.symm.trans c2)
  clear q2 c0 c1 c2 h
  obtain ⟨A, cap, rfl, a1, a2, a3⟩ := RdL.open hm
  unfold maxLen at a2
  have HR := Lib.hid hx
  have HB := Lib.hid (below_alloc w (.cells #[.int .i64 L, .int .i64 S, .slice A mv.length cap] 29))
  clear hx hm
  by_cases hok : okT ⟨L, S, mv⟩ = true
  · obtain ⟨l1, l2, n1, n2, -, -, hlen, -⟩ := okT_out hok
    simp only at l1 l2 n1 n2 hlen
    have HL := Lib.hid hlen
    have HOK := Lib.hid hok
    clear hlen
    go_enter Try.func35, Try.ntmps35
    go_wp2_with fail
    refine HV.out.mono ?_
    generalize w.alloc (.cells #[.int .i64 L, .int .i64 S, .slice A mv.length cap] 29) = W0 at *
    rintro e w1 ⟨rfl, hb1⟩
    have HB1 := Lib.hid hb1
    obtain ⟨⟨b0, b1, b2⟩, -⟩ := (HR.out.below hb1 HR.out.lt).three
    clear hb1
    go_wp2
    clear hok
    go_loopw [4] (fun i wr => ∃ s : Nat, s ≤ mv.length ∧ i = .int .i64 s ∧ Below W0.heap.size W0 wr ∧ (mv.take s).all (goodRow L) = true) (fun i _ => mv.length - (intOf i).toNat)
    case atStart => exact ⟨0, Nat.zero_le _, rfl, HB1.out, by simp⟩
    case round =>
      clear b0 b1 b2
      obtain ⟨s, hs, rfl, hb, hp⟩ := hrel
      have HP := Lib.hid hp; clear hp
      have HQ := Lib.hid hb
      obtain ⟨⟨b0, b1, b2⟩, -⟩ := (HR.out.below hb HR.out.lt).three
      by_cases hlt : s < mv.length
      · obtain ⟨b, off, u, x, rfl, hx, hc, hR⟩ := a3 s hlt
        obtain ⟨C, capx, rfl, x1, x2, x3⟩ := RdP.open hR
        unfold maxLen at x2
        have gc := below_keep hb hc
        have HC := Lib.hid hc
        have HX := Lib.hid hx
        have hxl : (x.length : Int) = L + 2 := HL.out s x hx
        have hle1 : (x.length : Int) ≤ L + 2 := by omega
        have hle2 : L + 2 ≤ (x.length : Int) := by omega
        clear hc hx hR hb a3 hxl
        have i1 : (0 : Int) ≤ s := by omega
        have i2 : (s : Int) < mv.length := by omega
        go_wp2
        go_loopw [5] (fun i wi => ∃ k : Nat, k ≤ x.length ∧ i = .int .i64 k ∧ Below W0.heap.size W0 wi ∧ goodTo L x k = true) (fun i _ => x.length - (intOf i).toNat)
        case atStart => exact ⟨0, Nat.zero_le _, rfl, HQ.out, by simp [goodTo]⟩
        case round =>
          clear b0 b1 b2 gc
          obtain ⟨k, hk, rfl, hq, hp⟩ := hrel
          have HP2 := Lib.hid hp; clear hp
          have HQ2 := Lib.hid hq
          obtain ⟨⟨b0, b1, b2⟩, -⟩ := (HR.out.below hq HR.out.lt).three
          have gc := below_keep HQ2.out HC.out
          have lt2 : w.heap.size < wr.heap.size := Nat.lt_of_lt_of_le HR.out.lt hq.size
          clear hq
          by_cases hklt : k < x.length
          · obtain ⟨bx, offx, tx, ty, rfl, ht, hct, hdt⟩ := x3 k hklt
            have gt := below_keep HQ2.out hct
            have gd := below_keep HQ2.out hdt
            have HT := Lib.hid ht
            clear hct hdt ht x3
            have j1 : (0 : Int) ≤ k := by omega
            have j2 : (k : Int) < x.length := by omega
            have j3 : (k : Int) < L + 2 := by omega
            go_wp2
            all_goals first
              | (go_ret2
                 exact ⟨ret_pair (by have hb : badMove L k (tx, ty) = true := (by unfold badMove; rw [decide_eq_true_iff]; simp_all <;> omega); simp only [oneWayRes, HOK.out, if_true]; rw [oneWay_not (t := ⟨L, S, mv⟩) HX.out (goodRow_not HT.out hb)]; rfl) (by simp [oneWayRes, HOK.out]), below_step HB.out (below_step HQ2.out (below_alloc _ _))⟩)
              | (go_roundw
                 case rel => exact ⟨k + 1, by omega, by go_num, below_step HQ2.out (below_alloc _ _), goodTo_succ HT.out HP2.out (by unfold badMove; rw [decide_eq_false_iff_not]; simp_all <;> omega)⟩
                 case measure => simp [intOf]; omega)
          · clear x3
            have hkL : ¬ (k : Int) < L + 2 := by omega
            go_wp2
            go_roundw
            case rel => exact ⟨s + 1, by omega, by go_num, HQ2.out, all_snoc HX.out HP.out (by unfold goodRow; have := HP2.out; rwa [show k = x.length by omega] at this)⟩
            case measure => simp [intOf]; omega
      · clear hb a3
        go_wp2
        go_ret2
        exact ⟨ret_pair (by simp only [oneWayRes, HOK.out, if_true]; have := HP.out; rw [List.take_of_length_le (by omega)] at this; rw [show oneWay ⟨L, S, mv⟩ = true from this]; rfl) (by simp [oneWayRes, HOK.out]), below_step HB.out HQ.out⟩
  · have hok' : okT ⟨L, S, mv⟩ = false := by simpa using hok
    clear hok
    go_enter Try.func35, Try.ntmps35
    go_wp2_with fail
    refine HV.out.mono ?_
    rintro e w1 ⟨rfl, hb1⟩
    have HOK := Lib.hid hok'
    go_wp2
    go_ret2
    exact ⟨ret_pair (by simp [oneWayRes, HOK.out]) (by simp [oneWayRes, HOK.out]), below_step HB.out hb1⟩
end Go.Proofs.Ytfkicedhjipfmaa
