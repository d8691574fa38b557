/-
  Takes: the model's and the program's.
-/
import Derived.Test.YtjojmlaipcbmkaaW2
namespace Go.Proofs.Ytjojmlaipcbmkaa
open Go.RowKit

def takesRes (r : RData) (s : ByteArray) : Bool × Int := if okR r && okWord r.L s then ((r.acc[afterN r s.data.toList]?).getD false, 0) else (false, 1)
theorem takesRes_ok {r : RData} {s : ByteArray} (h : okR r = true) (k : okWord r.L s = true) {b : Bool} (hb : r.acc[afterN r s.data.toList]? = some b) : (takesRes r s).1 = b ∧ (takesRes r s).2 = 0 := by simp [takesRes, h, k, hb]
theorem takesRes_no {r : RData} {s : ByteArray} (h : ¬ (okR r = true ∧ okWord r.L s = true)) : (takesRes r s).1 = false ∧ (takesRes r s).2 = 1 := by
  have : ¬ (okR r && okWord r.L s) = true := by simpa using h
  simp only [takesRes, if_neg this]; exact ⟨trivial, trivial⟩
theorem ret_bi {a c : Bool} {b d : Int} (h : a = c) (k : b = d) : Ending.returned (.tuple #[.bool a, .int .i64 b]) = .returned (.tuple #[.bool c, .int .i64 d]) := by rw [h, k]
theorem afterN_ok {r : RData} (h : okR r = true) {s : ByteArray} (k : okWord r.L s = true) : afterN r s.data.toList < r.acc.length := by
  obtain ⟨_, _, h3, h4, _⟩ := okR_parts h
  rw [← h4]
  exact afterN_lt h _ (okWord_parts k).2 _ (by omega)

set_option maxHeartbeats 800000 in
theorem specTakes_any (v : Value) (r : RData) (s : ByteArray) (w : World) (h : RdR w v r) (hs : s.size ≤ maxLen) :
    Calls Try.prog 17 #[v, .string s] w fun e w' => e = .returned (.tuple #[.bool (takesRes r s).1, .int .i64 (takesRes r s).2]) ∧ Below w.heap.size w w' := by
  obtain ⟨a, n, rfl, hA⟩ := atR_box h 29
  have H := Lib.hid (l01Ok_any _ _ _ hA)
  have HB := Lib.hid (fun m => below_drewN (below_alloc w (.cells #[.int .i64 r.L, .int .i64 r.S, a, n] 29)) m)
  by_cases hr : okR r = true
  · by_cases hw : okWord r.L s = true
    · have hp := okWord_parts hw
      have HV := Lib.hid (fun W => specValidWord_any r.L s W hs)
      have hlt := afterN_ok hr hw
      obtain ⟨a0, n0, hv, ha, -⟩ := h
      simp only [Value.agg.injEq] at hv
      obtain rfl : a0 = a := by simpa using (congrArg (fun x : Array Value => x.getD 2 undef) hv).symm
      obtain ⟨A, cap, rfl, a1, a2, a3⟩ := ha.open
      obtain ⟨b, off, z, rfl, hz, hc⟩ := a3 _ hlt
      have HE := Lib.hid (takesRes_ok hr hw hz)
      unfold maxLen at a2
      obtain ⟨⟨b0, b1, b2, b3⟩, -⟩ := (Row.new w [.int .i64 r.L, .int .i64 r.S, .slice (some ⟨b, off, none⟩) r.acc.length cap, n] 29).four
      have HP := Lib.hid (show _ ∧ _ ∧ _ from ⟨hA, hr, hp.2⟩)
      have h60 : s.size ≤ 60 := by have := hp.1; omega
      clear hA hp hz hv ha a3
      go_enter Try.func17, Try.ntmps17
      go_wp2_with fail
      refine H.out.mono ?_
      rintro e w1 ⟨rfl, hq⟩
      have g0 := (hq.cell _).trans b0
      have g2 := (hq.cell _).trans b2
      have gc := ((hq.cell _).trans (below_keep (below_alloc w _) hc))
      have hA1 : AtR w1 w.heap.size r := by obtain ⟨m, rfl⟩ := hq; exact atR_drewN HP.out.1 m
      have HA := Lib.hid (fun m => l01After_any _ r s _ (atR_drewN hA1 m) HP.out.2.1 HP.out.2.2 h60)
      have HQ := Lib.hid hq
      clear b0 b1 b2 b3 hc hA1 hq H h60
      go_wp2_with (go_at_call 58; refine (HV.out _).mono ?_; rintro e w' ⟨rfl, rfl⟩)
      generalize afterN r s.data.toList = q at *
      have q1 : (0 : Int) ≤ q := by omega
      have q2 : (q : Int) < r.acc.length := by omega
      go_quiet ((go_at_call 59; exact Calls.quiet_of (HA.out _)))
      go_wp2
      go_ret2
      exact ⟨ret_bi HE.out.1.symm HE.out.2.symm, below_step (HB.out 0) (HQ.out.drewN _).below⟩
    · have hw' : okWord r.L s = false := by simpa using hw
      have HV := Lib.hid (fun W => specValidWord_any r.L s W hs)
      have HE := Lib.hid (takesRes_no (r := r) (s := s) (fun h => hw h.2))
      clear h hA hw
      go_enter Try.func17, Try.ntmps17
      go_wp2_with (first | (go_at_call 57; refine H.out.mono ?_; rintro e w' ⟨rfl, m, rfl⟩) | (go_at_call 58; refine (HV.out _).mono ?_; rintro e w' ⟨rfl, rfl⟩))
      go_ret2
      exact ⟨ret_bi HE.out.1.symm HE.out.2.symm, HB.out _⟩
  · have hr' : okR r = false := by simpa using hr
    have HE := Lib.hid (takesRes_no (r := r) (s := s) (fun h => hr h.1))
    clear h hA hr
    go_enter Try.func17, Try.ntmps17
    go_wp2_with (go_at_call 57; refine H.out.mono ?_; rintro e w' ⟨rfl, m, rfl⟩)
    go_ret2
    exact ⟨ret_bi HE.out.1.symm HE.out.2.symm, HB.out _⟩

set_option maxHeartbeats 800000 in
theorem implTakes_any (v : Value) (r : RData) (s : ByteArray) (w : World) (h : RdR w v r) (hs : s.size ≤ maxLen) :
    Calls Try.prog 18 #[v, .string s] w fun e w' => e = .returned (.tuple #[.bool (takesRes r s).1, .int .i64 (takesRes r s).2]) ∧ Below w.heap.size w w' := by
  obtain ⟨A, c, B, d, rfl⟩ := h.shape
  have hbox := Row.new w [.int .i64 r.L, .int .i64 r.S, .slice A r.acc.length c, .slice B r.next.length d] 29
  have HV := Lib.hid (implStateAfter_any _ r s (w.alloc (.cells #[.int .i64 r.L, .int .i64 r.S, .slice A r.acc.length c, .slice B r.next.length d] 29)) (keepsR _ _ _ _ h (below_alloc _ _)) hs)
  have HK := Lib.hid (fun W (hb : Below w.heap.size w W) => keepsR _ _ _ _ h hb)
  have HB0 := Lib.hid (below_alloc w (.cells #[.int .i64 r.L, .int .i64 r.S, .slice A r.acc.length c, .slice B r.next.length d] 29))
  clear h
  go_enter Try.func18, Try.ntmps18
  go_wp2_with fail
  refine HV.out.mono ?_
  rintro e w1 ⟨rfl, hb⟩
  have HB := Lib.hid (below_step HB0.out hb)
  obtain ⟨⟨c0, c1, c2, c3⟩, -⟩ := (hbox.below hb hbox.lt).four
  clear hbox hb HB0 HV c0 c1 c3
  by_cases ho : okR r = true ∧ okWord r.L s = true
  · obtain ⟨hr, hw⟩ := ho
    have HR1 := HK.out w1 HB.out
    have hlt := afterN_ok hr hw
    obtain ⟨a0, n0, hv, ha, -⟩ := HR1
    simp only [Value.agg.injEq] at hv
    obtain rfl : a0 = .slice A r.acc.length c := by simpa using (congrArg (fun x : Array Value => x.getD 2 undef) hv).symm
    obtain ⟨A', cap', hA', a1, a2, a3⟩ := ha.open
    simp only [Value.slice.injEq, true_and] at hA'
    obtain ⟨rfl, rfl⟩ := hA'
    obtain ⟨b, off, z, rfl, hz, hc⟩ := a3 _ hlt
    have HE := Lib.hid (takesRes_ok hr hw hz)
    obtain ⟨e1, e2⟩ := afterRes_ok hr hw
    rw [e1, e2]
    generalize afterN r s.data.toList = q at *
    unfold maxLen at a2
    have q1 : (0 : Int) ≤ q := by omega
    have q2 : (q : Int) < r.acc.length := by omega
    clear hz hv ha a3 e1 e2 hr hw HK
    go_wp2
    go_ret2
    exact ⟨ret_bi HE.out.1.symm HE.out.2.symm, HB.out⟩
  · obtain ⟨e1, e2⟩ := afterRes_no ho
    have HE := Lib.hid (takesRes_no ho)
    rw [e1, e2]
    clear e1 e2 ho
    go_wp2
    go_ret2
    exact ⟨ret_bi HE.out.1.symm HE.out.2.symm, HB.out⟩
end Go.Proofs.Ytjojmlaipcbmkaa
