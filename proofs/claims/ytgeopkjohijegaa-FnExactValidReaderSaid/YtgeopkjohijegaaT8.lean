/-
  FnExactValidReader: the walk.
-/
import Derived.Test.YtgeopkjohijegaaT7
namespace Go.Proofs.Ytgeopkjohijegaa
open Go.RowKit

theorem atR_box {w : World} {v : Value} {r : RData} (h : RdR w v r) (e : TypeId) : ∃ a n, v = .agg #[.int .i64 r.L, .int .i64 r.S, a, n] ∧ AtR (w.alloc (.cells #[.int .i64 r.L, .int .i64 r.S, a, n] e)) w.heap.size r := by
  obtain ⟨a, n, rfl, ha, hn⟩ := h
  obtain ⟨⟨q0, q1, q2, q3⟩, -⟩ := (Row.new w [.int .i64 r.L, .int .i64 r.S, a, n] e).four
  exact ⟨a, n, rfl, a, n, q0, q1, q2, q3, keepsB _ _ _ _ ha (below_alloc _ _), keepsII _ _ _ _ hn (below_alloc _ _)⟩

theorem specValidReader_any (v : Value) (r : RData) (w : World) (h : RdR w v r) :
    Calls Try.prog 30 #[v] w fun e w' => e = .returned (.bool (okR r)) ∧ Below w.heap.size w w' := by
  obtain ⟨a, n, rfl, hA⟩ := atR_box h 28
  have H := Lib.hid (l01Ok_any _ _ _ hA)
  clear h hA
  go_enter Try.func30, Try.ntmps30
  go_wp2_with (go_at_call 46; refine H.out.mono ?_; rintro e w' ⟨rfl, m, rfl⟩)
  go_ret
  exact ⟨rfl, below_drewN (below_alloc _ _) _⟩

theorem OwnR.rd {w : World} {lo : Nat} {v : Value} {r : RData} (h : OwnR w lo v r) : RdR w v r := by
  obtain ⟨a, n, rfl, ha, vs, hn, -⟩ := h
  exact ⟨a, n, rfl, ha.rd, vs, hn.1.rd, hn.2.1, fun i u x hu hx => (hn.2.2.1 i u x hu hx).rd⟩

theorem RdR.shape {w : World} {v : Value} {r : RData} (h : RdR w v r) : ∃ A c B d, v = .agg #[.int .i64 r.L, .int .i64 r.S, .slice A r.acc.length c, .slice B r.next.length d] := by
  obtain ⟨a, n, rfl, ha, vs, hn, hl, -⟩ := h
  obtain ⟨A, c, rfl⟩ := Rd.shape ha
  obtain ⟨B, d, rfl⟩ := hn.shape
  rw [bools_len, hl]
  exact ⟨A, c, B, d, rfl⟩

/-- What an argument of the reader's kind is bounded by. -/
def RSmall (r : RData) : Prop := r.acc.length ≤ 281474976710656 ∧ 24 * r.next.length ≤ 281474976710656 ∧ ∀ x ∈ r.next, 8 * x.length ≤ 281474976710656

set_option maxHeartbeats 800000 in
theorem walkValidReader (v : Value) (r : RData) (w : World) (h : RdR w v r) (hs : RSmall r) :
    Calls Try.prog 8 #[v] w fun e w' => e = .returned (.bool true) ∧ Below w.heap.size w w' := by
  obtain ⟨s1, s2, s3⟩ := hs
  have hv := h
  obtain ⟨a, n, rfl, -, -⟩ := hv
  have HK := Lib.hid (fun W (hb : Below w.heap.size w W) => keepsR _ _ _ _ h hb)
  have HS := Lib.hid (show _ ∧ _ ∧ _ from ⟨s1, s2, s3⟩)
  have H0 := Lib.hid (below_alloc w (.cells #[.int .i64 r.L, .int .i64 r.S, a, n] 47))
  have hbox := Row.new w [.int .i64 r.L, .int .i64 r.S, a, n] 47
  clear h s1 s2 s3
  go_enter Try.func8, Try.ntmps8
  go_wp2_with fail
  refine (szReader_any _ r _ _ (HK.out _ H0.out)).mono ?_
  rintro e w1 ⟨⟨m, rfl⟩, hb1⟩
  have B1 := Lib.hid (below_step H0.out hb1)
  have hbox1 := hbox.below hb1 hbox.lt
  have HB1 := Lib.hid hbox1
  obtain ⟨⟨c0, c1, c2, c3⟩, -⟩ := hbox1.four
  clear hbox hbox1 hb1 H0
  by_cases hm : m < 0
  · go_wp2_with fail
    go_ret
    exact ⟨rfl, B1.out⟩
  · go_wp2_with fail
    refine (toReader_any _ r _ (HK.out _ B1.out) HS.out.1 HS.out.2.1 HS.out.2.2).mono ?_
    rintro e w2 ⟨u, rfl, hu, hb2⟩
    have B2 := Lib.hid (below_step B1.out hb2)
    have hbox2 := HB1.out.below hb2 HB1.out.lt
    have HB2 := Lib.hid hbox2
    obtain ⟨⟨d0, d1, d2, d3⟩, -⟩ := hbox2.four
    have HU := Lib.hid hu.rd
    clear c0 c1 c2 c3 hb2 hbox2 hu HB1 B1
    go_wp2_with fail
    refine (specValidReader_any _ r _ HU.out).mono ?_
    rintro e w3 ⟨rfl, hb3⟩
    have B3 := Lib.hid (below_step B2.out hb3)
    have hbox3 := HB2.out.below hb3 HB2.out.lt
    have HB3 := Lib.hid hbox3
    obtain ⟨⟨c0, c1, c2, c3⟩, -⟩ := hbox3.four
    clear d0 d1 d2 d3 hb3 hbox3 HU HB2 B2
    go_wp2_with fail
    refine (toReader_any _ r _ (HK.out _ B3.out) HS.out.1 HS.out.2.1 HS.out.2.2).mono ?_
    rintro e w4 ⟨x0, rfl, hx, hb4⟩
    have B4 := Lib.hid (below_step B3.out hb4)
    have hbox4 := HB3.out.below hb4 HB3.out.lt
    have HB4 := Lib.hid hbox4
    obtain ⟨⟨d0, d1, d2, d3⟩, -⟩ := hbox4.four
    have hx' := hx.rd
    have HX := Lib.hid hx
    obtain ⟨A0, k0, B0, l0, rfl⟩ := hx'.shape
    clear c0 c1 c2 c3 hb4 hbox4 HB3 B3 hx hx'
    go_wp2_with fail
    have hxb := Row.new w4 [.int .i64 r.L, .int .i64 r.S, .slice A0 r.acc.length k0, .slice B0 r.next.length l0] 28
    refine (ValidReader_any _ r _ (keepsR _ _ _ _ HX.out.rd (below_alloc _ _))).mono ?_
    rintro e w5 ⟨rfl, hb5⟩
    have hb45 := below_step (below_alloc w4 _) hb5
    have B5 := Lib.hid (below_step B4.out hb45)
    have hbox5 := HB4.out.below hb45 HB4.out.lt
    have hxb5 := hxb.below hb5 hxb.lt
    have HB5 := Lib.hid (show _ ∧ _ from ⟨hbox5, hxb5⟩)
    obtain ⟨⟨c0, c1, c2, c3⟩, -⟩ := hbox5.four
    obtain ⟨⟨e0, e1, e2, e3⟩, -⟩ := hxb5.four
    have HX5 := Lib.hid (keepsR _ _ _ _ HX.out.rd hb45)
    clear d0 d1 d2 d3 hb5 hb45 hxb hbox5 hxb5 HB4 B4 HX
    have hne : (!(okR r == okR r)) = false := by simp
    go_wp2_with fail
    go_outline
    go_region_held3 (fun W => W.cell? ⟨w.heap.size, 0, none⟩ = some (.int .i64 r.L) ∧ W.cell? ⟨w.heap.size, 1, none⟩ = some (.int .i64 r.S) ∧ W.cell? ⟨w.heap.size, 2, none⟩ = some a ∧ W.cell? ⟨w.heap.size, 3, none⟩ = some n ∧
        W.cell? ⟨w4.heap.size, 0, none⟩ = some (.int .i64 r.L) ∧ W.cell? ⟨w4.heap.size, 1, none⟩ = some (.int .i64 r.S) ∧ W.cell? ⟨w4.heap.size, 2, none⟩ = some (.slice A0 r.acc.length k0) ∧ W.cell? ⟨w4.heap.size, 3, none⟩ = some (.slice B0 r.next.length l0))
      (first | go_keep | (go_split_ands; refine ⟨?_, ?_, ?_, ?_, ?_, ?_, ?_, ?_⟩ <;> exact below_keep hbk (by assumption)))
      (first
        | (go_at_call 31; refine (toReader_any _ r _ (HK.out _ ?_) HS.out.1 HS.out.2.1 HS.out.2.2).mono ?_; (first | exact B5.out | exact B5.out.drew); rintro e w6 ⟨y0, rfl, hy, hbk⟩; have hb6 := Lib.hid (below_step B5.out.drew hbk))
        | (go_at_call 33; refine (eqReader_same _ _ r _ (keepsR _ _ _ _ (keepsR _ _ _ _ HX5.out (below_drew w5)) hbk) hy.rd).mono ?_; rintro e w7 ⟨rfl, hbk⟩; have hb7 := Lib.hid (below_step hb6.out hbk)))
    go_wp2
    go_ret
    exact ⟨rfl, hb7.out⟩
end Go.Proofs.Ytgeopkjohijegaa
