/-
  The code of a turner and a word; signs and deeds of the program.
-/
import Derived.Test.YtahgekjpnmmooaaSt1
namespace Go.Proofs.Ytahgekjpnmmooaa
open Go.RowKit

def givenC (t : TData) (s : ByteArray) : Int := if okT t = true ∧ okWord t.L s = true then 0 else 1
theorem givenC_yes {t : TData} {s : ByteArray} (h : okT t = true) (k : okWord t.L s = true) : givenC t s = 0 := by simp [givenC, h, k]
theorem givenC_no1 {t : TData} {s : ByteArray} (h : okT t = false) : givenC t s = 1 := by simp [givenC, h]
theorem givenC_no2 {t : TData} {s : ByteArray} (h : okWord t.L s = false) : givenC t s = 1 := by simp [givenC, h]

def cellOk (a : Int) (s : ByteArray) : Bool := decide (0 ≤ a ∧ a < (s.size : Int) + 2)
set_option maxHeartbeats 1600000 in
theorem deed_any (v : Value) (t : TData) (q k : Nat) (w : World) (h : RdT w v t) (hok : OkT t) (hq : q < t.mv.length) (hk : (k : Int) < t.L + 2) :
    Calls Try.prog 61 #[v, .int .i64 (q : Int), .int .i64 (k : Int)] w fun e w' => e = .returned (deedV (moveAt t q k)) ∧ Below w.heap.size w w' := by
  obtain ⟨x, m, hx, hm, hat, -, hxl⟩ := hok.at hq hk
  rw [hat]
  obtain ⟨mx, my⟩ := m
  obtain ⟨vm, rfl, hR⟩ := h
  obtain ⟨A, cap, rfl, a1, a2, a3⟩ := RdL.open hR
  obtain ⟨b, off, u, x', rfl, hx', hc, hP⟩ := a3 q hq
  obtain rfl := Option.some.inj (hx.symm.trans hx')
  obtain ⟨C, capx, rfl, x1, x2, x3⟩ := RdP.open hP
  obtain ⟨bx, offx, tx, ty, rfl, ht, hct, hdt⟩ := x3 k (by omega)
  obtain ⟨rfl, rfl⟩ := Prod.mk.inj (Option.some.inj (hm.symm.trans ht))
  unfold maxLen at a2 x2
  have ltb := World.block_lt_of_cell? _ _ hc
  have ltx := World.block_lt_of_cell? _ _ hct
  have q1 : (0 : Int) ≤ q := by omega
  have q2 : (q : Int) < t.mv.length := by omega
  have k1 : (0 : Int) ≤ k := by omega
  have k2 : (k : Int) < x.length := by omega
  have HD := Lib.hid (fun W => deedOf_any mx my W)
  clear hx hm hat hx' hR hP a3 x3 ht hxl hok
  go_enter Try.func61, Try.ntmps61
  go_wp2_with fail
  refine (HD.out _).mono ?_
  rintro e w1 ⟨rfl, hb⟩
  have HB := Lib.hid (below_step (below_alloc w _) hb)
  clear hb
  go_wp2
  go_ret
  exact ⟨rfl, HB.out⟩

end Go.Proofs.Ytahgekjpnmmooaa
