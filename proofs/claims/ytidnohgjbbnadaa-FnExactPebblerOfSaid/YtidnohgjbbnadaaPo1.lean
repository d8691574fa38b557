/-
  The pebbler of a turner: what it is, and the program's answer.
-/
import Derived.Test.YtidnohgjbbnadaaBxP
import Derived.Test.YtidnohgjbbnadaaV5
import Derived.Test.YtidnohgjbbnadaaZT
namespace Go.Proofs.Ytidnohgjbbnadaa
open Go.RowKit

def dblRow (x : List (Int × Int)) : List Tri := x.flatMap fun m => [(m.1, m.2, 0), (m.1, m.2, 0)]
def pebT (t : TData) : PbData := ⟨t.L, t.S, t.mv.map dblRow⟩
def pebRes (t : TData) : PbData × Int := if okT t = true then (if t.mv.length ≤ 8 then (pebT t, 0) else (⟨0, 0, []⟩, 3)) else (⟨0, 0, []⟩, 1)
theorem dblRow_len (x : List (Int × Int)) : (dblRow x).length = 2 * x.length := by
  induction x with
  | nil => rfl
  | cons a r ih => simp only [dblRow, List.flatMap_cons, List.length_append, List.length_cons, List.length_nil] at ih ⊢; omega
theorem dblRow_take {x : List (Int × Int)} {j : Nat} {a b : Int} (h : x[j]? = some (a, b)) : dblRow (x.take (j + 1)) = dblRow (x.take j) ++ [(a, b, 0), (a, b, 0)] := by
  rw [take_succ_of h]; simp [dblRow]
theorem peb_num (t : TData) : (numPb (pebRes t).1 : Int) ≤ 2305843009213693952 := by
  unfold pebRes
  split
  · rename_i h
    split
    · rename_i h8
      have hk := okT_out h
      have hsum : ∀ l : List (List (Int × Int)), (∀ x ∈ l, x.length ≤ 5) → numL (fun x : List Tri => 3 * x.length) (l.map dblRow) ≤ 30 * l.length := by
        intro l
        induction l with
        | nil => intro _; simp [numL]
        | cons x r ih => intro h; have h1 := ih (fun y hy => h y (by simp [hy])); have h2 := h x (by simp); simp only [numL, List.map_cons, List.sum_cons, List.length_cons, dblRow_len] at h1 ⊢; omega
      have := hsum t.mv (fun x hx => by
        obtain ⟨s, hs⟩ := List.mem_iff_getElem?.1 hx
        have := hk.len s x hs
        have := hk.l2
        omega)
      simp only [numPb, pebT]; omega
    · simp [numPb, numL]
  · simp [numPb, numL]

/-- What stands while the pebbler is made: the argument's box, the result's, and the one in which it is made. -/
def PoI (w : World) (po : Nat) (cR : List Value) (t : PbData) (wr : World) : Prop :=
  Below w.heap.size w wr ∧ Row wr w.heap.size 29 cR ∧ Row wr (w.heap.size + 1) 48 [.int .i64 0, .int .i64 0, .slice none 0 0] ∧ w.heap.size + 2 ≤ po ∧ BoxPb wr (w.heap.size + 2) po t
theorem PoI.below {w : World} {po : Nat} {cR : List Value} {t : PbData} {wr w' : World} (h : PoI w po cR t wr) (hb : Below wr.heap.size wr w') : PoI w po cR t w' :=
  ⟨below_step h.1 hb, h.2.1.below hb h.2.1.lt, h.2.2.1.below hb h.2.2.1.lt, h.2.2.2.1, h.2.2.2.2.below hb⟩
/-- One row more in the box. -/
theorem PoI.more {w wo w5 w6 : World} {po : Nat} {cR : List Value} {t : PbData} {Bm : Option Addr} {km q g6 cap6 : Nat} {v5 : Value} {vs : List Value} {row : List Tri} {o : Obj} {bs' : List Nat} (hI : PoI w po cR t wo)
    (hb : Below wo.heap.size wo w5) (hu : Ow3 102 w5 wo.heap.size v5 row bs') (hv : ∀ b ∈ blks (.slice Bm q km), w.heap.size + 2 ≤ b)
    (hgr : ∀ (w1 : World) (u0 : Value) (x0 : List Tri) (b0 : List Nat), Below wo.heap.size wo w1 → Ow3 102 w1 (w.heap.size + 2) u0 x0 b0 → (∀ c ∈ b0, wo.heap.size ≤ c) → ∀ (o : Obj) (w2 : World) (g cap : Nat), (w1.alloc o).grownBy w2 (Value.slice Bm q km).ownBlock →
        w2.ownsRow (w.heap.size + 2) 100 1 (.slice (some ⟨g, 0, none⟩) (q + 1) cap) (q + 1) (vs ++ [u0]) → ((Value.slice Bm q km).ownBlock = some g ∨ g = w1.heap.size + 1) → BoxPb (w2.setCell ⟨po, 2, none⟩ (.slice (some ⟨g, 0, none⟩) (q + 1) cap)) (w.heap.size + 2) po ⟨t.L, t.S, t.mv ++ [x0]⟩)
    (hg6 : (w5.alloc o).grownBy w6 (Value.slice Bm q km).ownBlock) (hown6 : w6.ownsRow (w.heap.size + 2) 100 1 (.slice (some ⟨g6, 0, none⟩) (q + 1) cap6) (q + 1) (vs ++ [v5])) (hat : (Value.slice Bm q km).ownBlock = some g6 ∨ g6 = w5.heap.size + 1) :
    PoI w po cR ⟨t.L, t.S, t.mv ++ [row]⟩ (w6.setCell ⟨po, 2, none⟩ (.slice (some ⟨g6, 0, none⟩) (q + 1) cap6)) := by
  have hpo := hI.2.2.2.1
  have hlo : w.heap.size + 2 ≤ wo.heap.size := by have := hI.2.2.2.2.lt; omega
  have hbox := hgr w5 _ row bs' hb ((good3 _).mono hu hlo) (fun c hc => ((good3 _).lt hu hc).1) o w6 g6 cap6 hg6 hown6 hat
  have hb1 := below_step hb (below_alloc w5 o)
  have h1 := below_step hI.1 hb1
  exact ⟨(h1.trans (grown_below hg6 h1.size (fun b hb => by have := hv b hb; omega))).setCell (p := ⟨po, 2, none⟩) (by show w.heap.size ≤ po; omega) _, (grown_row hg6 (hI.2.1.below hb1 hI.2.1.lt) (fun hm => by have := hv _ hm; omega)).other (by show po ≠ w.heap.size; omega) _, (grown_row hg6 (hI.2.2.1.below hb1 hI.2.2.1.lt) (fun hm => by have := hv _ hm; omega)).other (by show po ≠ w.heap.size + 1; omega) _, hpo, hbox⟩
theorem tri2 (a b : Int) : tcells [(a, b, 0), (a, b, 0)] = [.int .i64 a, .int .i64 b, .int .i64 0, .int .i64 a, .int .i64 b, .int .i64 0] := rfl

set_option maxRecDepth 100000 in
set_option maxHeartbeats 6400000 in
theorem implPo_own (v : Value) (t : TData) (w : World) (h : RdT w v t) :
    Calls Try.prog 32 #[v] w fun e w' => ∃ u bs, e = .returned (.tuple #[u, .int .i64 (pebRes t).2]) ∧ OwPb w' w.heap.size u (pebRes t).1 bs ∧ Below w.heap.size w w' := by
  obtain ⟨im, him, hzm0, hzm1, hzm2⟩ := info_parts infoPebbleMove
  obtain ⟨is, his, hzs0, hzs1, hzs2⟩ := info_parts infoTrS
  have HV := Lib.hid (fun W (hb : Below w.heap.size w W) => ValidTurner_any v t W (keepsT _ _ _ _ h hb))
  have HST := Lib.hid (fun W (hb : Below w.heap.size w W) => states_any v t W (keepsT _ _ _ _ h hb))
  obtain ⟨L, S, mv⟩ := t
  obtain ⟨vm, rfl, hm⟩ := h
  simp only at hm
  obtain ⟨A, ka, rfl, a1, a2, a3⟩ := RdL.open hm
  unfold maxLen at a2
  have HB := Lib.hid (below_step (below_alloc w (.cells #[.int .i64 L, .int .i64 S, .slice A mv.length ka] 29)) (below_alloc _ (.cells #[.int .i64 0, .int .i64 0, .slice none 0 0] 48)))
  have HR := Lib.hid ((Row.new w [.int .i64 L, .int .i64 S, .slice A mv.length ka] 29).alloc (.cells #[.int .i64 0, .int .i64 0, .slice none 0 0] 48))
  have hz := Row.new (w.alloc (.cells #[.int .i64 L, .int .i64 S, .slice A mv.length ka] 29)) [.int .i64 0, .int .i64 0, .slice none 0 0] 48
  have HZ := Lib.hid (show Row _ (w.heap.size + 1) _ _ by simpa using hz)
  clear hm hz
  by_cases hok : okT ⟨L, S, mv⟩ = true
  · rw [hok] at HV
    have HK := Lib.hid (okT_out hok)
    have hk2 := HK.out.n2
    have hk1 := HK.out.n1
    have hl2 := HK.out.l2
    have hl1 := HK.out.l1
    simp only at hk1 hk2 hl1 hl2
    by_cases h8 : mv.length ≤ 8
    · have HRES := Lib.hid (show pebRes ⟨L, S, mv⟩ = (⟨L, S, mv.map dblRow⟩, 0) by rw [pebRes, if_pos hok, if_pos h8]; rfl)
      have d8 : ¬ (8 : Int) < mv.length := by omega
      clear hok
      go_enter Try.func32, Try.ntmps32
      go_wp2_with fail
      refine (HV.out _ HB.out).mono ?_
      rintro e w1 ⟨rfl, hb1⟩
      have HR1 := Lib.hid (HR.out.below hb1 HR.out.lt)
      have HZ1 := Lib.hid (HZ.out.below hb1 HZ.out.lt)
      have HB1 := Lib.hid (below_step HB.out hb1)
      obtain ⟨⟨c0, c1, c2⟩, -⟩ := HR1.out.three
      have lt1 := HR1.out.lt
      clear hb1 HR HZ HB
      go_wp2_with fail
      refine (HST.out _ HB1.out).mono ?_
      rintro e w2 ⟨rfl, hb2⟩
      have HI := Lib.hid (show PoI w w2.heap.size [.int .i64 L, .int .i64 S, .slice A mv.length ka] ⟨L, S, []⟩ (w2.alloc (.cells #[.int .i64 L, .int .i64 S, .slice none 0 0] 48)) from by
        have hr2 := HR1.out.below hb2 HR1.out.lt
        have hz2 := HZ1.out.below hb2 HZ1.out.lt
        refine ⟨below_step (below_step HB1.out hb2) (below_alloc _ _), hr2.alloc _, hz2.alloc _, by have := hz2.lt; omega, _, [], Row.new w2 [.int .i64 L, .int .i64 S, .slice none 0 0] _, owL_nil _ _ _ _, by simp⟩)
      obtain ⟨⟨b0, b1, b2⟩, -⟩ := (HR1.out.below hb2 HR1.out.lt).three
      have lt2 := (HR1.out.below hb2 HR1.out.lt).lt
      clear hb2 c0 c1 c2 lt1 HR1 HZ1 HB1
      go_wp2
      generalize hpo : w2.heap.size = po at *
      clear hpo b0 b1 b2 lt2
      generalize w2.alloc (.cells #[.int .i64 L, .int .i64 S, .slice none 0 0] 48) = W0 at *
      go_loopw [27] (fun i wr => ∃ q : Nat, q ≤ mv.length ∧ i = .int .i64 q ∧ PoI w po [.int .i64 L, .int .i64 S, .slice A mv.length ka] ⟨L, S, (mv.map dblRow).take q⟩ wr) (fun i _ => mv.length - (intOf i).toNat)
      case atStart => exact ⟨0, Nat.zero_le _, rfl, by simpa using HI.out⟩
      case round =>
        clear HI
        obtain ⟨wo, hwo⟩ : ∃ wo, wo = wr := ⟨wr, rfl⟩
        subst hwo
        obtain ⟨q, hq, rfl, hI⟩ := hrel
        have HI2 := Lib.hid hI
        clear hI
        by_cases hlt : q < mv.length
        · obtain ⟨b, off, ux, x, rfl, hx, hcx, hRx⟩ := a3 q hlt
          have hxl := HK.out.len q x hx
          simp only at hxl
          obtain ⟨C, kc, rfl, x1, x2, x3⟩ := RdP.open hRx
          unfold maxLen at x2
          have gx := below_keep HI2.out.1 hcx
          have HTK := Lib.hid (show (mv.map dblRow).take (q + 1) = (mv.map dblRow).take q ++ [dblRow x] from take_succ_of (by simp [hx]))
          obtain ⟨ms, hms⟩ : ∃ ms, (mv.map dblRow).take q = ms := ⟨_, rfl⟩
          have hml : ms.length = q := by rw [← hms, List.length_take, List.length_map]; omega
          rw [hms] at HTK HI2
          have i1 : (0 : Int) ≤ q := by omega
          have i2 : (q : Int) < mv.length := by omega
          have hx5 : x.length ≤ 5 := by omega
          clear hx hcx hRx hms hxl
          go_wp2
          go_loopw [7, 33] (fun vl i wi => ∃ (j dn dl : Nat) (Bd : Option Addr), j ≤ x.length ∧ i = .int .i64 j ∧ dn = 2 * j ∧ vl = .slice Bd dn dl ∧ Below wo.heap.size wo wi ∧ ∃ bs, Ow3 102 wi wo.heap.size (.slice Bd dn dl) (dblRow (x.take j)) bs) (fun _ i _ => x.length - (intOf i).toNat)
          case atStart => exact ⟨0, 0, 0, none, Nat.zero_le _, rfl, rfl, rfl, Below.refl _ _, [], by simpa [dblRow] using ow3_nil _ _ _⟩
          case round =>
            clear gx
            obtain ⟨j, dn, dl, Bd, hj, rfl, hdn, rfl, hbd, bsd, hOd⟩ := hrel
            have HDN := Lib.hid hdn
            have hdn2 : dn ≤ 10 := by omega
            have HD := Lib.hid (show _ ∧ _ from ⟨hbd, hOd⟩)
            have hsd := hbd.size
            by_cases hjl : j < x.length
            · obtain ⟨bt, offt, tx, ty, rfl, ht, hct, hdt⟩ := x3 j hjl
              have gt := below_keep (below_step HI2.out.1 hbd) hct
              have gd := below_keep (below_step HI2.out.1 hbd) hdt
              have HTJ := Lib.hid (dblRow_take ht)
              have HG := Lib.hid (addTris HD.out.1 HD.out.2 (by rw [dblRow_len, List.length_take]; omega) (below_step (below_step (below_alloc wr (.cells #[.int .i64 tx, .int .i64 ty] 71)) (below_alloc _ (.cells #[.int .i64 tx, .int .i64 ty, .int .i64 0] 102))) (below_alloc _ (.cells #[.int .i64 tx, .int .i64 ty, .int .i64 0, .int .i64 tx, .int .i64 ty, .int .i64 0] 102))))
              have j1 : (0 : Int) ≤ j := by omega
              have j2 : (j : Int) < x.length := by omega
              clear ht hct hdt hbd hOd x3 hdn
              go_wp2_with (at_builtin; refine wpList_append_lies _ rfl _ _ 100 rfl wo.heap.size 102 im _ 3 24 Try.underlying100 him hzm0 hzm1 hzm2 rfl (by decide) (.slice Bd dn dl) dn _ rfl HG.out.1 ⟨wr.heap.size + 2, 0, none⟩ 2 2 [.int .i64 tx, .int .i64 ty, .int .i64 0, .int .i64 tx, .int .i64 ty, .int .i64 0] rfl rfl (World.news_of_block (cs := #[.int .i64 tx, .int .i64 ty, .int .i64 0, .int .i64 tx, .int .i64 ty, .int .i64 0]) (t := 102) (fr := (0, 0)) (by simpa using heap_alloc_new ((wr.alloc (.cells #[.int .i64 tx, .int .i64 ty] 71)).alloc (.cells #[.int .i64 tx, .int .i64 ty, .int .i64 0] 102)) (.cells #[.int .i64 tx, .int .i64 ty, .int .i64 0, .int .i64 tx, .int .i64 ty, .int .i64 0] 102))) (by simp [Value.oneCell']) (by omega) (by unfold maxLen; omega) (by omega) (by simp; omega) (wr.heap.size + 3) (by simp) ?_; intro g5 cap5 w5 hown5 hgrow5 hat5 hlt5; have HE := Lib.hid (HG.out.2 w5 g5 cap5 (dn + 2) [(tx, ty, 0), (tx, ty, 0)] (by simp) hgrow5 (by rw [tri2]; exact hown5)); clear hown5 hgrow5 hat5 hlt5)
              go_roundw
              case rel => exact ⟨j + 1, dn + 2, _, _, by omega, by go_num, by have := HDN.out; omega, rfl, HE.out.1, by rw [HTJ.out]; exact HE.out.2⟩
              case measure => simp [intOf]; omega
            · obtain rfl : j = x.length := by omega
              rw [List.take_length] at hOd HD
              obtain ⟨Bm, km, vs, ho, hrn, pn, vn1, gN⟩ := (BoxPb.open HI2.out.2.2.2.2)
              rw [hml] at ho hrn pn vn1 gN
              have HO := Lib.hid (show _ ∧ _ ∧ _ ∧ _ ∧ _ from ⟨ho, hrn, pn, vn1, gN⟩)
              have lpo := ho.lt
              have hlo2 := HI2.out.2.2.2.1
              have o2 := below_keep hbd (ho.three.1.2.2)
              have f2 := below_keepf hbd lpo (ho.free 2)
              have o2' := below_keep (below_alloc wr (.cells #[.slice Bd dn dl] 100)) o2
              have f2' := below_keepf (below_alloc wr (.cells #[.slice Bd dn dl] 100)) (Nat.lt_of_lt_of_le lpo hsd) f2
              clear ho hrn pn vn1 gN hOd hbd x3 hdn
              go_wp2_with (at_builtin; refine wpList_append_lies _ rfl _ _ 46 rfl (w.heap.size + 2) 100 is _ 1 24 Try.underlying46 his hzs0 hzs1 hzs2 rfl (by decide) (.slice Bm q km) q _ rfl (rows_below HO.out.2.1 (below_step HD.out.1 (below_alloc _ _))) ⟨wr.heap.size, 0, none⟩ 1 1 [.slice Bd dn dl] rfl rfl (World.news_of_block (cs := #[.slice Bd dn dl]) (t := 100) (fr := (0, 0)) (heap_alloc_new wr _)) (by simp [Value.oneCell']) (by omega) (by unfold maxLen; omega) (by omega) (by simp; omega) (wr.heap.size + 1) (by simp) ?_; intro g6 cap6 w6 hown6 hgrow6 hat6 hlt6; have p2 := grown_cell hgrow6 HO.out.2.2.1 o2'; have q2 := grown_free hgrow6 HO.out.2.2.1 (by simp; omega) f2'; have HN := Lib.hid (HI2.out.more HD.out.1 HD.out.2 HO.out.2.2.2.1 HO.out.2.2.2.2 hgrow6 hown6 hat6); clear hown6 hgrow6 hat6 hlt6)
              go_roundw
              case rel => exact ⟨q + 1, by omega, by go_num, by rw [HTK.out]; exact HN.out⟩
              case measure => simp [intOf]; omega
        · obtain rfl : q = mv.length := by omega
          rw [List.take_of_length_le (by simp)] at HI2
          obtain ⟨Bm, km, bs, hrow, hOw⟩ := (BoxPb.own HI2.out.2.2.2.2)
          simp only [List.length_map] at hrow hOw
          obtain ⟨⟨x0, x1, x2⟩, -⟩ := hrow.three
          obtain ⟨⟨z0, z1, z2⟩, zf⟩ := HI2.out.2.2.1.three
          obtain ⟨⟨c0, c1, c2⟩, -⟩ := HI2.out.2.1.three
          have lx := hrow.lt
          have lz := HI2.out.2.2.1.lt
          have lc := HI2.out.2.1.lt
          have HXX := Lib.hid hOw
          clear hrow hOw a3
          go_wp2
          obtain ⟨W2, hW2, ⟨y0, y1, y2⟩, eO, eB⟩ := stored3Pb HI2.out.2.2.1 HXX.out (Nat.lt_succ_self _) (Nat.le_succ _) HI2.out.1
          rw [← hW2]
          clear hW2
          refine bodyPost_ret (v := .tuple #[.agg #[.int .i64 L, .int .i64 S, .slice Bm mv.length km], .int .i64 0]) (by simp [results, Try.results32, go_sem, y0, y1, y2]) rfl ?_
          rw [HRES.out]
          first | exact ⟨_, rfl, ⟨_, eO⟩, eB⟩ | exact ⟨_, _, rfl, eO, eB⟩
    · have HRES := Lib.hid (show pebRes ⟨L, S, mv⟩ = (⟨0, 0, []⟩, 3) by rw [pebRes, if_pos hok, if_neg h8])
      have d8 : (8 : Int) < mv.length := by omega
      clear hok a3
      go_enter Try.func32, Try.ntmps32
      go_wp2_with fail
      refine (HV.out _ HB.out).mono ?_
      rintro e w1 ⟨rfl, hb1⟩
      have HR1 := Lib.hid (HR.out.below hb1 HR.out.lt)
      have HZ1 := Lib.hid (HZ.out.below hb1 HZ.out.lt)
      have HB1 := Lib.hid (below_step HB.out hb1)
      obtain ⟨⟨c0, c1, c2⟩, -⟩ := HR1.out.three
      have lt1 := HR1.out.lt
      clear hb1 HR HZ HB
      go_wp2_with fail
      refine (HST.out _ HB1.out).mono ?_
      rintro e w2 ⟨rfl, hb2⟩
      have HZ2 := Lib.hid (HZ1.out.below hb2 HZ1.out.lt)
      have HB2 := Lib.hid (below_step HB1.out hb2)
      clear hb2 c0 c1 c2
      obtain ⟨⟨z0, z1, z2⟩, zf⟩ := HZ2.out.three
      have lz := HZ2.out.lt
      go_wp2
      obtain ⟨W2, hW2, ⟨y0, y1, y2⟩, eO, eB⟩ := stored3Pb HZ2.out (owPb_zero _ (w.heap.size + 2)) (Nat.lt_succ_self _) (Nat.le_succ _) HB2.out
      rw [← hW2]
      clear hW2
      refine bodyPost_ret (v := .tuple #[.agg #[.int .i64 0, .int .i64 0, .slice none 0 0], .int .i64 3]) (by simp [results, Try.results32, go_sem, y0, y1, y2]) rfl ?_
      rw [HRES.out]
      first | exact ⟨_, rfl, ⟨_, eO⟩, eB⟩ | exact ⟨_, _, rfl, eO, eB⟩
  · have hok' : okT ⟨L, S, mv⟩ = false := by simpa using hok
    rw [hok'] at HV
    have HRES := Lib.hid (show pebRes ⟨L, S, mv⟩ = (⟨0, 0, []⟩, 1) by rw [pebRes, if_neg hok])
    clear hok hok' a3
    go_enter Try.func32, Try.ntmps32
    go_wp2_with fail
    refine (HV.out _ HB.out).mono ?_
    rintro e w1 ⟨rfl, hb1⟩
    have HR1 := Lib.hid (HR.out.below hb1 HR.out.lt)
    have HZ1 := Lib.hid (HZ.out.below hb1 HZ.out.lt)
    have HB1 := Lib.hid (below_step HB.out hb1)
    obtain ⟨⟨c0, c1, c2⟩, -⟩ := HR1.out.three
    have lt1 := HR1.out.lt
    clear hb1 HR HZ HB
    clear c0 c1 c2
    obtain ⟨⟨z0, z1, z2⟩, zf⟩ := HZ1.out.three
    have lz := HZ1.out.lt
    go_wp2
    obtain ⟨W2, hW2, ⟨y0, y1, y2⟩, eO, eB⟩ := stored3Pb HZ1.out (owPb_zero _ (w.heap.size + 2)) (Nat.lt_succ_self _) (Nat.le_succ _) HB1.out
    rw [← hW2]
    clear hW2
    refine bodyPost_ret (v := .tuple #[.agg #[.int .i64 0, .int .i64 0, .slice none 0 0], .int .i64 1]) (by simp [results, Try.results32, go_sem, y0, y1, y2]) rfl ?_
    rw [HRES.out]
    first | exact ⟨_, rfl, ⟨_, eO⟩, eB⟩ | exact ⟨_, _, rfl, eO, eB⟩
end Go.Proofs.Ytidnohgjbbnadaa
