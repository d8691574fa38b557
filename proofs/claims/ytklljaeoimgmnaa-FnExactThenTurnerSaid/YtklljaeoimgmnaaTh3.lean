/-
  One turner after another: the program's answer.
-/
import Derived.Test.YtklljaeoimgmnaaTh2
import Derived.Test.YtklljaeoimgmnaaTdThenTurner
import Derived.Test.YtklljaeoimgmnaaV4
import Derived.Laws.EntriesVeiled
import Derived.Deep.CutRange
namespace Go.Proofs.Ytklljaeoimgmnaa
open Go.RowKit

def thRes (t u : TData) : TData × Int :=
  if okT t && okT u then (if t.L = u.L then (if thHome t u + 1 ≤ 12 then (⟨t.L, t.S, tableOf (thG t u) (t.L + 2).toNat (thHome t u + 1)⟩, 0) else (⟨0, 0, []⟩, 3)) else (⟨0, 0, []⟩, 2)) else (⟨0, 0, []⟩, 1)

/-- A turner that a call has made, stored into a box of the caller's own and handed on. -/
theorem own_storedT {w W : World} {b lo : Nat} {L S : Int} {A : Option Addr} {n k : Nat} {t : TData} {bs : List Nat} {z0 z1 z2 : Value}
    (hz : Row W b 28 [z0, z1, z2]) (hb : Below w.heap.size w W) (hlo : w.heap.size ≤ b) (hbl : b < lo) (hO : OwT W lo (.agg #[.int .i64 L, .int .i64 S, .slice A n k]) t bs) :
    let W2 := (((W.setCell ⟨b, 0, none⟩ (.int .i64 L)).setCell ⟨b, 1, none⟩ (.int .i64 S)).setCell ⟨b, 2, none⟩ (.slice A n k));
    (W2.cell? ⟨b, 0, none⟩ = some (.int .i64 L) ∧ W2.cell? ⟨b, 1, none⟩ = some (.int .i64 S) ∧ W2.cell? ⟨b, 2, none⟩ = some (.slice A n k)) ∧ OwT W2 w.heap.size (.agg #[.int .i64 L, .int .i64 S, .slice A n k]) t bs ∧ Below w.heap.size w W2 := by
  intro W2
  have rF := (((hz.stored 0 (.int .i64 L)).stored 1 (.int .i64 S)).stored 2 (.slice A n k))
  have eO := (goodT.under (a := ⟨b, 2, none⟩) (goodT.under (a := ⟨b, 1, none⟩) (goodT.under (a := ⟨b, 0, none⟩) hO hbl (.int .i64 L)) hbl (.int .i64 S)) hbl (.slice A n k))
  have eB := (((hb.setCell (p := ⟨b, 0, none⟩) hlo (.int .i64 L)).setCell (p := ⟨b, 1, none⟩) hlo (.int .i64 S)).setCell (p := ⟨b, 2, none⟩) hlo (.slice A n k))
  exact ⟨(Row.three (a := .int .i64 L) (b := .int .i64 S) (c := .slice A n k) rF).1, goodT.mono eO (by omega), eB⟩
theorem Row.atT {W : World} {p : Nat} {t : TData} {s : Value} (h : Row W p 28 [.int .i64 t.L, .int .i64 t.S, s]) (hm : RdPP W s t.mv) : AtT W p t :=
  ⟨s, h.three.1.1, h.three.1.2.1, h.three.1.2.2, hm⟩

/-- The memory of the call. -/
def ThI (w : World) (rt ru : List Value) (wr : World) : Prop :=
  Below w.heap.size w wr ∧ Row wr w.heap.size 28 rt ∧ Row wr (w.heap.size + 1) 28 ru ∧ Row wr (w.heap.size + 2) 28 [.int .i64 0, .int .i64 0, .slice none 0 0]
theorem ThI.below {w w' wr : World} {rt ru : List Value} (h : ThI w rt ru wr) (hb : Below wr.heap.size wr w') : ThI w rt ru w' :=
  ⟨below_step h.1 hb, h.2.1.below hb h.2.1.lt, h.2.2.1.below hb h.2.2.1.lt, h.2.2.2.below hb h.2.2.2.lt⟩
theorem ThI.start (w : World) (rt ru : List Value) : ThI w rt ru (((w.alloc (.cells rt.toArray 28)).alloc (.cells ru.toArray 28)).alloc (.cells #[.int .i64 0, .int .i64 0, .slice none 0 0] 28)) := by
  have h0 := Row.new w rt 28
  have h1 := Row.new (w.alloc (.cells rt.toArray 28)) ru 28
  have h2 := Row.new ((w.alloc (.cells rt.toArray 28)).alloc (.cells ru.toArray 28)) [.int .i64 0, .int .i64 0, .slice none 0 0] 28
  exact ⟨((below_alloc w (.cells rt.toArray 28)).alloc (by simp) (.cells ru.toArray 28)).alloc (by simp; omega) (.cells #[.int .i64 0, .int .i64 0, .slice none 0 0] 28), (h0.alloc _).alloc _, by simpa using h1.alloc (.cells #[.int .i64 0, .int .i64 0, .slice none 0 0] 28), by simpa using h2⟩

/-- Behind the raising closure, and behind the number of the last state. -/
def Th6 (w : World) (rt ru : List Value) (pr : Nat) (wr : World) : Prop :=
  ThI w rt ru wr ∧ Row wr pr 59 [raisedV w.heap.size]
theorem Th6.below {w w' wr : World} {rt ru : List Value} {pr : Nat} (h : Th6 w rt ru pr wr) (hb : Below wr.heap.size wr w') : Th6 w rt ru pr w' := ⟨h.1.below hb, h.2.below hb h.2.lt⟩
theorem Th6.drew {w wr : World} {rt ru : List Value} {pr : Nat} (h : Th6 w rt ru pr wr) : Th6 w rt ru pr wr.drew := h.below (below_drew _)
def Th7 (w : World) (rt ru : List Value) (pr ph : Nat) (home : Int) (wr : World) : Prop :=
  Th6 w rt ru pr wr ∧ Row wr ph 2 [.int .i64 home]
theorem Th7.below {w w' wr : World} {rt ru : List Value} {pr ph : Nat} {home : Int} (h : Th7 w rt ru pr ph home wr) (hb : Below wr.heap.size wr w') : Th7 w rt ru pr ph home w' := ⟨h.1.below hb, h.2.below hb h.2.lt⟩
theorem Th7.drew {w wr : World} {rt ru : List Value} {pr ph : Nat} {home : Int} (h : Th7 w rt ru pr ph home wr) : Th7 w rt ru pr ph home wr.drew := h.below (below_drew _)
theorem Th7.new {w wr : World} {rt ru : List Value} {pr : Nat} (h : Th6 w rt ru pr wr) (home : Int) : Th7 w rt ru pr wr.heap.size home (wr.alloc (.cells #[.int .i64 home] 2)) := ⟨h.below (below_alloc _ _), Row.new wr [.int .i64 home] 2⟩

/-- A box of one cell that a region has made. -/
def AtBox (W : World) (e : TypeId) (h : Value) (s : Value) (wx : World) : Prop := ∃ ph, s = .pointer (some ⟨ph, 0, none⟩) ∧ Row wx ph e [h] ∧ Below W.heap.size W wx
theorem AtBox.drew {W : World} {e : TypeId} {h s : Value} {wx : World} (k : AtBox W e h s wx) : AtBox W e h s wx.drew := by
  obtain ⟨ph, a, b, c⟩ := k
  exact ⟨ph, a, b, c.drew⟩
theorem atBox_new {W wb : World} {e : TypeId} {h : Value} (k : Below W.heap.size W wb) : AtBox W e h (.pointer (some ⟨wb.heap.size, 0, none⟩)) (wb.alloc (.cells #[h] e)) :=
  ⟨_, rfl, Row.new wb [h] e, below_step k (below_alloc _ _)⟩
theorem atBox_old {W wb : World} {po : Nat} {e : TypeId} {h x : Value} (k : Row wb po e [x]) (hp : W.heap.size ≤ po) (h0 : Below W.heap.size W wb) : AtBox W e h (.pointer (some ⟨po, 0, none⟩)) (wb.setCell ⟨po, 0, none⟩ h) :=
  ⟨_, rfl, k.stored 0 _, h0.setCell (p := ⟨po, 0, none⟩) hp _⟩
theorem keep_reallocT {w : World} {o o' : Obj} {b i : Nat} {v : Value} (hp : b < w.heap.size) (h : (w.alloc o).cell? ⟨b, i, none⟩ = some v) : (w.alloc o').cell? ⟨b, i, none⟩ = some v := by
  have e1 := (below_alloc w o).cell (p := ⟨b, i, none⟩) hp
  have e2 := (below_alloc w o').cell (p := ⟨b, i, none⟩) hp
  rw [e2, ← e1]; exact h
theorem keep_oneT {w : World} {q p i : Nat} {a v : Value} (hq : p < q) (h : w.cell? ⟨p, i, none⟩ = some v) : (w.setCell ⟨q, 0, none⟩ a).cell? ⟨p, i, none⟩ = some v := by
  rw [World.cell?_of_block (w := w) (w' := (w.setCell ⟨q, 0, none⟩ a)) (a := ⟨p, i, none⟩) ?_]
  · exact h
  · exact Below.heap_setCell w ⟨q, 0, none⟩ a p (fun e => by subst e; simp at hq)
theorem keep_oneT_drew {w : World} {q p i : Nat} {a v : Value} (hq : p < q) (h : w.cell? ⟨p, i, none⟩ = some v) : (w.setCell ⟨q, 0, none⟩ a).drew.cell? ⟨p, i, none⟩ = some v := keep_oneT hq h

set_option maxRecDepth 100000 in
set_option maxHeartbeats 6400000 in
theorem implTh_any (v0 v1 : Value) (t u : TData) (w : World) (h0 : RdT w v0 t) (h1 : RdT w v1 u) :
    Calls Try.prog 8 #[v0, v1] w fun e w' => ∃ x bs, e = .returned (.tuple #[x, .int .i64 (thRes t u).2]) ∧ OwT w' w.heap.size x (thRes t u).1 bs ∧ Below w.heap.size w w' := by
  have HV0 := Lib.hid (fun W (hb : Below w.heap.size w W) => ValidTurner_any v0 t W (keepsT _ _ _ _ h0 hb))
  have HV1 := Lib.hid (fun W (hb : Below w.heap.size w W) => ValidTurner_any v1 u W (keepsT _ _ _ _ h1 hb))
  have HS1 := Lib.hid (fun W (hb : Below w.heap.size w W) => states_any v1 u W (keepsT _ _ _ _ h1 hb))
  have HD1 := Lib.hid (fun W (hb : Below w.heap.size w W) (ok : OkT u) => deed_any v1 u u.S.toNat u.L.toNat W (keepsT _ _ _ _ h1 hb) ok (by have := ok.s1; have := ok.s2; omega) (by have := ok.l1; omega))
  obtain ⟨m0, rfl, -⟩ := atT_box h0 28
  obtain ⟨_, e0, hm0⟩ := h0
  cases e0
  obtain ⟨A, ca, rfl⟩ := RdL.shape (show RdPP _ m0 t.mv from hm0)
  obtain ⟨m1, rfl, -⟩ := atT_box h1 28
  obtain ⟨_, e1, hm1⟩ := h1
  cases e1
  obtain ⟨B, cb, rfl⟩ := RdL.shape (show RdPP _ m1 u.mv from hm1)
  have HM0 := Lib.hid (show RdPP w (.slice A t.mv.length ca) t.mv from hm0)
  have HM1 := Lib.hid (show RdPP w (.slice B u.mv.length cb) u.mv from hm1)
  have HI0 := Lib.hid (ThI.start w [.int .i64 t.L, .int .i64 t.S, .slice A t.mv.length ca] [.int .i64 u.L, .int .i64 u.S, .slice B u.mv.length cb])
  simp only [List.toArray] at HI0
  clear hm0 hm1
  have HERR := Lib.hid (fun (W : World) (hI : ThI w [.int .i64 t.L, .int .i64 t.S, .slice A t.mv.length ca] [.int .i64 u.L, .int .i64 u.S, .slice B u.mv.length cb] W) => own_storedT (w := w) (A := none) (n := 0) (k := 0) (L := 0) (S := 0) hI.2.2.2 hI.1 (by omega) hI.2.2.2.lt (t := ⟨0, 0, []⟩) ⟨_, [], rfl, owL_nil _ _ _ _, rfl, by simp⟩)
  by_cases hok : okT t = true
  · by_cases hoku : okT u = true
    · have HK := Lib.hid (show _ ∧ _ from ⟨okT_out hok, okT_out hoku⟩)
      have HOK := Lib.hid (show _ ∧ _ from ⟨hok, hoku⟩)
      rw [hok] at HV0
      rw [hoku] at HV1
      clear hok hoku
      go_enter Try.func8, Try.ntmps8
      go_wp2_with fail
      refine (HV0.out _ HI0.out.1).mono ?_
      generalize (((w.alloc (.cells #[.int .i64 t.L, .int .i64 t.S, .slice A t.mv.length ca] 28)).alloc (.cells #[.int .i64 u.L, .int .i64 u.S, .slice B u.mv.length cb] 28)).alloc (.cells #[.int .i64 0, .int .i64 0, .slice none 0 0] 28)) = W0 at *
      rintro e w1 ⟨rfl, hb1⟩
      have hI1 := HI0.out.below hb1
      have HI1 := Lib.hid hI1
      obtain ⟨⟨b0, b1, b2⟩, -⟩ := hI1.2.2.1.three
      clear hb1 hI1 HI0
      go_wp2_with fail
      clear b0 b1 b2
      refine (HV1.out _ HI1.out.1).mono ?_
      rintro e w2 ⟨rfl, hb2⟩
      have HI2 := Lib.hid (HI1.out.below hb2)
      clear hb2 HI1
      by_cases hL : t.L = u.L
      · have HLE := Lib.hid hL
        have dL : (t.L != u.L) = false := by simpa using hL
        clear hL
        obtain ⟨⟨a0, a1, a2⟩, -⟩ := HI2.out.2.1.three
        obtain ⟨⟨b0, b1, b2⟩, -⟩ := HI2.out.2.2.1.three
        have lt0 := HI2.out.2.1.lt
        have lt1 := HI2.out.2.2.1.lt
        have HJ3 := Lib.hid (show Th6 w [.int .i64 t.L, .int .i64 t.S, .slice A t.mv.length ca] [.int .i64 u.L, .int .i64 u.S, .slice B u.mv.length cb] w2.heap.size (w2.alloc (.cells #[.func (.func 26) #[] #[.pointer (some ⟨w.heap.size, 0, none⟩)]] 59)) from ⟨HI2.out.below (below_alloc _ _), Row.new w2 [.func (.func 26) #[] #[.pointer (some ⟨w.heap.size, 0, none⟩)]] 59⟩)
        have n12 : t.mv.length ≤ 12 := by have := HK.out.1.n2; omega
        have m12 : u.mv.length ≤ 12 := by have := HK.out.2.n2; omega
        have HRS := Lib.hid (fun W (hJ : Th6 w [.int .i64 t.L, .int .i64 t.S, .slice A t.mv.length ca] [.int .i64 u.L, .int .i64 u.S, .slice B u.mv.length cb] w2.heap.size W) => thenRaised_any w.heap.size t u.mv.length W (Row.atT hJ.1.2.1 (keepsPP _ _ _ _ HM0.out hJ.1.1)) n12 (by omega) (by omega))
        rw [show (u.mv.length : Int) + t.mv.length = (thHome t u : Nat) by unfold thHome; omega] at HRS
        go_upto_region 6 with fail
        generalize w2.alloc (.cells #[.func (.func 26) #[] #[.pointer (some ⟨w.heap.size, 0, none⟩)]] 59) = w3 at *
        generalize w2.heap.size = pr at *
        clear a0 a1 a2 b0 b1 b2 lt0 lt1
        obtain ⟨⟨b0, b1, b2⟩, -⟩ := HJ3.out.1.2.2.1.three
        have lt3 := HJ3.out.1.2.2.1.lt
        have ltr := HJ3.out.2.lt
        have g0 := HJ3.out.2.cell 0
        simp only [List.getElem?_cons_zero] at g0
        have HW3 := Lib.hid (show Below w.heap.size w w3 from HJ3.out.1.1)
        go_cut [7] from 26 to 29 (fun s7 wx => AtBox w3 2 (.int .i64 (thHome t u : Nat)) s7 wx)
        case first =>
          go_region_held3 (fun W => W.cell? ⟨w.heap.size + 1, 0, none⟩ = some (.int .i64 u.L) ∧ W.cell? ⟨w.heap.size + 1, 1, none⟩ = some (.int .i64 u.S) ∧ W.cell? ⟨w.heap.size + 1, 2, none⟩ = some (.slice B u.mv.length cb) ∧ W.cell? ⟨pr, 0, none⟩ = some (.func (.func 26) #[] #[.pointer (some ⟨w.heap.size, 0, none⟩)]))
            (first | (go_split_ands; refine ⟨?_, ?_, ?_, ?_⟩ <;> (first | assumption | exact below_keep hbk (by assumption) | exact below_keep (below_alloc _ _) (by assumption) | exact below_keep ((below_alloc _ _).drew) (by assumption) | exact keep_reallocT (by omega) (by assumption) | exact keep_oneT (by omega) (by assumption) | exact keep_oneT_drew (by omega) (by assumption))) | go_keep)
            (first
              | (go_at_call 27; (with_reducible refine (HS1.out _ (below_step HW3.out ?_)).mono ?_); (first | with_reducible exact (Below.refl _ _) | with_reducible exact (Below.refl _ _).drew | with_reducible exact (below_step (Below.refl _ _) (below_alloc _ _)) | with_reducible exact (below_step (Below.refl _ _) (below_alloc _ _)).drew); rintro e wa ⟨rfl, hbk⟩; have HCa := Lib.hid (show Below w3.heap.size w3 wa from below_step (by (first | with_reducible exact (Below.refl _ _) | with_reducible exact (Below.refl _ _).drew | with_reducible exact (below_step (Below.refl _ _) (below_alloc _ _)) | with_reducible exact (below_step (Below.refl _ _) (below_alloc _ _)).drew)) hbk); have hsza := HCa.out.size; (first | (have HZn := Lib.hid (show Row wa w3.heap.size 2 [.int .i64 0] from Row.below (Row.new w3 [.int .i64 0] 2) hbk (Row.lt (Row.new w3 [.int .i64 0] 2)))) | (have HZn := Lib.hid (show Row wa w3.heap.size 2 [.int .i64 0] from Row.below (Row.new w3 [.int .i64 0] 2).drew hbk (Row.lt (Row.new w3 [.int .i64 0] 2).drew))) | (have HZn := Lib.hid (Row.below HZn.out hbk (Row.lt HZn.out))) | (have HZn := Lib.hid (Row.below HZn.out.drew hbk (Row.lt HZn.out.drew))) | skip))
              | (go_at_call 26; (with_reducible refine (HRS.out _ (HJ3.out.below ?_)).mono ?_); (first | with_reducible exact (Below.refl _ _) | with_reducible exact (Below.refl _ _).drew | with_reducible exact (below_step (Below.refl _ _) (below_alloc _ _)) | with_reducible exact (below_step (Below.refl _ _) (below_alloc _ _)).drew | with_reducible exact HCa.out | with_reducible exact HCa.out.drew | with_reducible exact (below_step HCa.out (below_alloc _ _)) | with_reducible exact (below_step HCa.out (below_alloc _ _)).drew); rintro e wb ⟨rfl, hbk⟩; have HCb := Lib.hid (show Below w3.heap.size w3 wb from below_step (by (first | with_reducible exact (Below.refl _ _) | with_reducible exact (Below.refl _ _).drew | with_reducible exact (below_step (Below.refl _ _) (below_alloc _ _)) | with_reducible exact (below_step (Below.refl _ _) (below_alloc _ _)).drew | with_reducible exact HCa.out | with_reducible exact HCa.out.drew | with_reducible exact (below_step HCa.out (below_alloc _ _)) | with_reducible exact (below_step HCa.out (below_alloc _ _)).drew)) hbk); have hszb := HCb.out.size; (first | (have HZn := Lib.hid (show Row wb w3.heap.size 2 [.int .i64 0] from Row.below (Row.new w3 [.int .i64 0] 2) hbk (Row.lt (Row.new w3 [.int .i64 0] 2)))) | (have HZn := Lib.hid (show Row wb w3.heap.size 2 [.int .i64 0] from Row.below (Row.new w3 [.int .i64 0] 2).drew hbk (Row.lt (Row.new w3 [.int .i64 0] 2).drew))) | (have HZn := Lib.hid (show Row wb wa.heap.size 2 [.int .i64 0] from Row.below (Row.new wa [.int .i64 0] 2) hbk (Row.lt (Row.new wa [.int .i64 0] 2)))) | (have HZn := Lib.hid (show Row wb wa.heap.size 2 [.int .i64 0] from Row.below (Row.new wa [.int .i64 0] 2).drew hbk (Row.lt (Row.new wa [.int .i64 0] 2).drew))) | (have HZn := Lib.hid (Row.below HZn.out hbk (Row.lt HZn.out))) | (have HZn := Lib.hid (Row.below HZn.out.drew hbk (Row.lt HZn.out.drew))) | skip); (first | (obtain ⟨z0, zf⟩ := HZn.out.one; have ltz := HZn.out.lt) | skip)))
          all_goals
            go_wp2_with fail
            go_meet
            first | exact atBox_new HCb.out | exact (atBox_new HCb.out).drew | exact atBox_old HZn.out (by omega) HCb.out | exact (atBox_old HZn.out (by omega) HCb.out).drew
        case rest =>
          obtain ⟨ph, rfl, hph, hb4⟩ := hcut
          have HJ4 := Lib.hid (show Th7 w [.int .i64 t.L, .int .i64 t.S, .slice A t.mv.length ca] [.int .i64 u.L, .int .i64 u.S, .slice B u.mv.length cb] pr ph (thHome t u : Nat) wc from ⟨HJ3.out.below hb4, hph⟩)
          clear hph hb4 b0 b1 b2 g0 lt3 ltr HJ3 HW3 HRS HI2
          generalize wc = w4 at *
          go_upto_region 7 with fail
          obtain ⟨⟨b0, b1, b2⟩, -⟩ := HJ4.out.1.1.2.2.1.three
          have lt3 := HJ4.out.1.1.2.2.1.lt
          have ltr := HJ4.out.1.2.lt
          have g0 := HJ4.out.1.2.cell 0
          simp only [List.getElem?_cons_zero] at g0
          have HW4 := Lib.hid (show Below w.heap.size w w4 from HJ4.out.1.1.1)
          have HAT4 := Lib.hid (fun W (hb : Below w4.heap.size w4 W) => Row.atT (HJ4.out.1.1.2.1.below hb HJ4.out.1.1.2.1.lt) (keepsPP _ _ _ _ HM0.out (below_step HJ4.out.1.1.1 hb)))
          have HDD := Lib.hid (fun W (hb : Below w.heap.size w W) => HD1.out W hb HK.out.2)
          rw [show ((u.S.toNat : Nat) : Int) = u.S by have := HK.out.2.s1; omega, show ((u.L.toNat : Nat) : Int) = u.L by have := HK.out.2.l1; omega] at HDD
          go_cut [8] from 30 to 38 (fun s8 wx => AtBox w4 61 (deedV (thBegin t u)) s8 wx)
          case first =>
            obtain ⟨x0, m, -, -, hat, hmv, -⟩ := HK.out.2.at (q := u.S.toNat) (k := u.L.toNat) (by have := HK.out.2.s1; have := HK.out.2.s2; omega) (by have := HK.out.2.l1; omega)
            have hin := okMove_out hmv
            have HB0 := Lib.hid (show thBegin t u = raiseM t.mv.length m by unfold thBegin; rw [hat])
            rw [hat] at HDD
            have m13 : m.1 ≤ 12 := by omega
            clear hat hmv HD1
            obtain ⟨mx, my⟩ := m
            rcases hin with ⟨h0 | h0, h9⟩ | ⟨_, h0, _⟩
            · simp only at h0 h9
              subst h0; subst h9
              rw [deedV_stopT] at HDD
              have HBG := Lib.hid (show deedV (thBegin t u) = .iface 69 (.agg #[.bool true]) by rw [HB0.out, show raiseM t.mv.length (-1, 0) = (-1, 0) from by simp [raiseM], deedV_stopT])
              have hm := methodStopRen
              go_region_held3 (fun W => W.cell? ⟨w.heap.size + 1, 0, none⟩ = some (.int .i64 u.L) ∧ W.cell? ⟨w.heap.size + 1, 1, none⟩ = some (.int .i64 u.S) ∧ W.cell? ⟨w.heap.size + 1, 2, none⟩ = some (.slice B u.mv.length cb) ∧ W.cell? ⟨pr, 0, none⟩ = some (.func (.func 26) #[] #[.pointer (some ⟨w.heap.size, 0, none⟩)]))
                (first | (go_split_ands; refine ⟨?_, ?_, ?_, ?_⟩ <;> (first | assumption | exact below_keep hbk (by assumption) | exact below_keep (below_alloc _ _) (by assumption) | exact below_keep ((below_alloc _ _).drew) (by assumption) | exact keep_reallocT (by omega) (by assumption) | exact keep_oneT (by omega) (by assumption) | exact keep_oneT_drew (by omega) (by assumption))) | go_keep)
                (first
                  | (go_at_call 29; (with_reducible refine (leftMark_any _ _).mono ?_); rintro e wl ⟨rfl, rfl⟩)
                  | (go_at_call 28; (with_reducible refine (HDD.out _ (below_step HW4.out ?_)).mono ?_); (first | with_reducible exact (Below.refl _ _) | with_reducible exact (Below.refl _ _).drew | with_reducible exact (below_step (Below.refl _ _) (below_alloc _ _)) | with_reducible exact (below_step (Below.refl _ _) (below_alloc _ _)).drew); rintro e wa ⟨rfl, hbk⟩; have HCa := Lib.hid (show Below w4.heap.size w4 wa from below_step (by (first | with_reducible exact (Below.refl _ _) | with_reducible exact (Below.refl _ _).drew | with_reducible exact (below_step (Below.refl _ _) (below_alloc _ _)) | with_reducible exact (below_step (Below.refl _ _) (below_alloc _ _)).drew)) hbk); have hsza := HCa.out.size; (first | (have HZn := Lib.hid (show Row wa w4.heap.size 61 [Value.nilIface] from Row.below (Row.new w4 [Value.nilIface] 61) hbk (Row.lt (Row.new w4 [Value.nilIface] 61)))) | (have HZn := Lib.hid (show Row wa w4.heap.size 61 [Value.nilIface] from Row.below (Row.new w4 [Value.nilIface] 61).drew hbk (Row.lt (Row.new w4 [Value.nilIface] 61).drew))) | (have HZn := Lib.hid (Row.below HZn.out hbk (Row.lt HZn.out))) | (have HZn := Lib.hid (Row.below HZn.out.drew hbk (Row.lt HZn.out.drew))) | skip))
                  | (go_at_call 98; (with_reducible refine (stopRen_any true (raisedV w.heap.size) _).mono ?_); rintro e wb ⟨rfl, hbk⟩; have HCb := Lib.hid (show Below w4.heap.size w4 wb from below_step (by (first | with_reducible exact (Below.refl _ _) | with_reducible exact (Below.refl _ _).drew | with_reducible exact (below_step (Below.refl _ _) (below_alloc _ _)) | with_reducible exact (below_step (Below.refl _ _) (below_alloc _ _)).drew | with_reducible exact HCa.out | with_reducible exact HCa.out.drew | with_reducible exact (below_step HCa.out (below_alloc _ _)) | with_reducible exact (below_step HCa.out (below_alloc _ _)).drew)) hbk); have hszb := HCb.out.size; (first | (have HZn := Lib.hid (show Row wb w4.heap.size 61 [Value.nilIface] from Row.below (Row.new w4 [Value.nilIface] 61) hbk (Row.lt (Row.new w4 [Value.nilIface] 61)))) | (have HZn := Lib.hid (show Row wb w4.heap.size 61 [Value.nilIface] from Row.below (Row.new w4 [Value.nilIface] 61).drew hbk (Row.lt (Row.new w4 [Value.nilIface] 61).drew))) | (have HZn := Lib.hid (show Row wb wa.heap.size 61 [Value.nilIface] from Row.below (Row.new wa [Value.nilIface] 61) hbk (Row.lt (Row.new wa [Value.nilIface] 61)))) | (have HZn := Lib.hid (show Row wb wa.heap.size 61 [Value.nilIface] from Row.below (Row.new wa [Value.nilIface] 61).drew hbk (Row.lt (Row.new wa [Value.nilIface] 61).drew))) | (have HZn := Lib.hid (Row.below HZn.out hbk (Row.lt HZn.out))) | (have HZn := Lib.hid (Row.below HZn.out.drew hbk (Row.lt HZn.out.drew))) | skip); (first | (obtain ⟨z0, zf⟩ := HZn.out.one; have ltz := HZn.out.lt) | skip)))
              all_goals
                go_wp2_with fail
                go_meet
                rw [HBG.out]
                first | exact atBox_new HCb.out | exact (atBox_new HCb.out).drew | exact atBox_old HZn.out (by omega) HCb.out | exact (atBox_old HZn.out (by omega) HCb.out).drew
            · simp only at h0 h9
              subst h0; subst h9
              rw [deedV_stopF] at HDD
              have HBG := Lib.hid (show deedV (thBegin t u) = .iface 69 (.agg #[.bool false]) by rw [HB0.out, show raiseM t.mv.length (-2, 0) = (-2, 0) from by simp [raiseM], deedV_stopF])
              have hm := methodStopRen
              go_region_held3 (fun W => W.cell? ⟨w.heap.size + 1, 0, none⟩ = some (.int .i64 u.L) ∧ W.cell? ⟨w.heap.size + 1, 1, none⟩ = some (.int .i64 u.S) ∧ W.cell? ⟨w.heap.size + 1, 2, none⟩ = some (.slice B u.mv.length cb) ∧ W.cell? ⟨pr, 0, none⟩ = some (.func (.func 26) #[] #[.pointer (some ⟨w.heap.size, 0, none⟩)]))
                (first | (go_split_ands; refine ⟨?_, ?_, ?_, ?_⟩ <;> (first | assumption | exact below_keep hbk (by assumption) | exact below_keep (below_alloc _ _) (by assumption) | exact below_keep ((below_alloc _ _).drew) (by assumption) | exact keep_reallocT (by omega) (by assumption) | exact keep_oneT (by omega) (by assumption) | exact keep_oneT_drew (by omega) (by assumption))) | go_keep)
                (first
                  | (go_at_call 29; (with_reducible refine (leftMark_any _ _).mono ?_); rintro e wl ⟨rfl, rfl⟩)
                  | (go_at_call 28; (with_reducible refine (HDD.out _ (below_step HW4.out ?_)).mono ?_); (first | with_reducible exact (Below.refl _ _) | with_reducible exact (Below.refl _ _).drew | with_reducible exact (below_step (Below.refl _ _) (below_alloc _ _)) | with_reducible exact (below_step (Below.refl _ _) (below_alloc _ _)).drew); rintro e wa ⟨rfl, hbk⟩; have HCa := Lib.hid (show Below w4.heap.size w4 wa from below_step (by (first | with_reducible exact (Below.refl _ _) | with_reducible exact (Below.refl _ _).drew | with_reducible exact (below_step (Below.refl _ _) (below_alloc _ _)) | with_reducible exact (below_step (Below.refl _ _) (below_alloc _ _)).drew)) hbk); have hsza := HCa.out.size; (first | (have HZn := Lib.hid (show Row wa w4.heap.size 61 [Value.nilIface] from Row.below (Row.new w4 [Value.nilIface] 61) hbk (Row.lt (Row.new w4 [Value.nilIface] 61)))) | (have HZn := Lib.hid (show Row wa w4.heap.size 61 [Value.nilIface] from Row.below (Row.new w4 [Value.nilIface] 61).drew hbk (Row.lt (Row.new w4 [Value.nilIface] 61).drew))) | (have HZn := Lib.hid (Row.below HZn.out hbk (Row.lt HZn.out))) | (have HZn := Lib.hid (Row.below HZn.out.drew hbk (Row.lt HZn.out.drew))) | skip))
                  | (go_at_call 98; (with_reducible refine (stopRen_any false (raisedV w.heap.size) _).mono ?_); rintro e wb ⟨rfl, hbk⟩; have HCb := Lib.hid (show Below w4.heap.size w4 wb from below_step (by (first | with_reducible exact (Below.refl _ _) | with_reducible exact (Below.refl _ _).drew | with_reducible exact (below_step (Below.refl _ _) (below_alloc _ _)) | with_reducible exact (below_step (Below.refl _ _) (below_alloc _ _)).drew | with_reducible exact HCa.out | with_reducible exact HCa.out.drew | with_reducible exact (below_step HCa.out (below_alloc _ _)) | with_reducible exact (below_step HCa.out (below_alloc _ _)).drew)) hbk); have hszb := HCb.out.size; (first | (have HZn := Lib.hid (show Row wb w4.heap.size 61 [Value.nilIface] from Row.below (Row.new w4 [Value.nilIface] 61) hbk (Row.lt (Row.new w4 [Value.nilIface] 61)))) | (have HZn := Lib.hid (show Row wb w4.heap.size 61 [Value.nilIface] from Row.below (Row.new w4 [Value.nilIface] 61).drew hbk (Row.lt (Row.new w4 [Value.nilIface] 61).drew))) | (have HZn := Lib.hid (show Row wb wa.heap.size 61 [Value.nilIface] from Row.below (Row.new wa [Value.nilIface] 61) hbk (Row.lt (Row.new wa [Value.nilIface] 61)))) | (have HZn := Lib.hid (show Row wb wa.heap.size 61 [Value.nilIface] from Row.below (Row.new wa [Value.nilIface] 61).drew hbk (Row.lt (Row.new wa [Value.nilIface] 61).drew))) | (have HZn := Lib.hid (Row.below HZn.out hbk (Row.lt HZn.out))) | (have HZn := Lib.hid (Row.below HZn.out.drew hbk (Row.lt HZn.out.drew))) | skip); (first | (obtain ⟨z0, zf⟩ := HZn.out.one; have ltz := HZn.out.lt) | skip)))
              all_goals
                go_wp2_with fail
                go_meet
                rw [HBG.out]
                first | exact atBox_new HCb.out | exact (atBox_new HCb.out).drew | exact atBox_old HZn.out (by omega) HCb.out | exact (atBox_old HZn.out (by omega) HCb.out).drew
            · simp only at h0 m13
              rw [deedV_goT _ _ h0] at HDD
              have HBG := Lib.hid (show deedV (thBegin t u) = .iface 65 (.agg #[.int .i64 (mx + t.mv.length), .int .i64 my]) by rw [HB0.out, show raiseM t.mv.length (mx, my) = (mx + t.mv.length, my) from by unfold raiseM; rw [if_pos h0], deedV_goT _ _ (by omega)])
              have hm := methodWalkRen
              go_region_held3 (fun W => W.cell? ⟨w.heap.size + 1, 0, none⟩ = some (.int .i64 u.L) ∧ W.cell? ⟨w.heap.size + 1, 1, none⟩ = some (.int .i64 u.S) ∧ W.cell? ⟨w.heap.size + 1, 2, none⟩ = some (.slice B u.mv.length cb) ∧ W.cell? ⟨pr, 0, none⟩ = some (.func (.func 26) #[] #[.pointer (some ⟨w.heap.size, 0, none⟩)]))
                (first | (go_split_ands; refine ⟨?_, ?_, ?_, ?_⟩ <;> (first | assumption | exact below_keep hbk (by assumption) | exact below_keep (below_alloc _ _) (by assumption) | exact below_keep ((below_alloc _ _).drew) (by assumption) | exact keep_reallocT (by omega) (by assumption) | exact keep_oneT (by omega) (by assumption) | exact keep_oneT_drew (by omega) (by assumption))) | go_keep)
                (first
                  | (go_at_call 29; (with_reducible refine (leftMark_any _ _).mono ?_); rintro e wl ⟨rfl, rfl⟩)
                  | (go_at_call 28; (with_reducible refine (HDD.out _ (below_step HW4.out ?_)).mono ?_); (first | with_reducible exact (Below.refl _ _) | with_reducible exact (Below.refl _ _).drew | with_reducible exact (below_step (Below.refl _ _) (below_alloc _ _)) | with_reducible exact (below_step (Below.refl _ _) (below_alloc _ _)).drew); rintro e wa ⟨rfl, hbk⟩; have HCa := Lib.hid (show Below w4.heap.size w4 wa from below_step (by (first | with_reducible exact (Below.refl _ _) | with_reducible exact (Below.refl _ _).drew | with_reducible exact (below_step (Below.refl _ _) (below_alloc _ _)) | with_reducible exact (below_step (Below.refl _ _) (below_alloc _ _)).drew)) hbk); have hsza := HCa.out.size; (first | (have HZn := Lib.hid (show Row wa w4.heap.size 61 [Value.nilIface] from Row.below (Row.new w4 [Value.nilIface] 61) hbk (Row.lt (Row.new w4 [Value.nilIface] 61)))) | (have HZn := Lib.hid (show Row wa w4.heap.size 61 [Value.nilIface] from Row.below (Row.new w4 [Value.nilIface] 61).drew hbk (Row.lt (Row.new w4 [Value.nilIface] 61).drew))) | (have HZn := Lib.hid (Row.below HZn.out hbk (Row.lt HZn.out))) | (have HZn := Lib.hid (Row.below HZn.out.drew hbk (Row.lt HZn.out.drew))) | skip))
                  | (go_at_call 93; (with_reducible refine (walkRen_any w.heap.size t mx my _ (HAT4.out _ (by (first | with_reducible exact (Below.refl _ _) | with_reducible exact (Below.refl _ _).drew | with_reducible exact (below_step (Below.refl _ _) (below_alloc _ _)) | with_reducible exact (below_step (Below.refl _ _) (below_alloc _ _)).drew | with_reducible exact HCa.out | with_reducible exact HCa.out.drew | with_reducible exact (below_step HCa.out (below_alloc _ _)) | with_reducible exact (below_step HCa.out (below_alloc _ _)).drew))) n12 h0 m13).mono ?_); rintro e wb ⟨rfl, hbk⟩; have HCb := Lib.hid (show Below w4.heap.size w4 wb from below_step (by (first | with_reducible exact (Below.refl _ _) | with_reducible exact (Below.refl _ _).drew | with_reducible exact (below_step (Below.refl _ _) (below_alloc _ _)) | with_reducible exact (below_step (Below.refl _ _) (below_alloc _ _)).drew | with_reducible exact HCa.out | with_reducible exact HCa.out.drew | with_reducible exact (below_step HCa.out (below_alloc _ _)) | with_reducible exact (below_step HCa.out (below_alloc _ _)).drew)) hbk); have hszb := HCb.out.size; (first | (have HZn := Lib.hid (show Row wb w4.heap.size 61 [Value.nilIface] from Row.below (Row.new w4 [Value.nilIface] 61) hbk (Row.lt (Row.new w4 [Value.nilIface] 61)))) | (have HZn := Lib.hid (show Row wb w4.heap.size 61 [Value.nilIface] from Row.below (Row.new w4 [Value.nilIface] 61).drew hbk (Row.lt (Row.new w4 [Value.nilIface] 61).drew))) | (have HZn := Lib.hid (show Row wb wa.heap.size 61 [Value.nilIface] from Row.below (Row.new wa [Value.nilIface] 61) hbk (Row.lt (Row.new wa [Value.nilIface] 61)))) | (have HZn := Lib.hid (show Row wb wa.heap.size 61 [Value.nilIface] from Row.below (Row.new wa [Value.nilIface] 61).drew hbk (Row.lt (Row.new wa [Value.nilIface] 61).drew))) | (have HZn := Lib.hid (Row.below HZn.out hbk (Row.lt HZn.out))) | (have HZn := Lib.hid (Row.below HZn.out.drew hbk (Row.lt HZn.out.drew))) | skip); (first | (obtain ⟨z0, zf⟩ := HZn.out.one; have ltz := HZn.out.lt) | skip)))
              all_goals
                go_wp2_with fail
                go_meet
                rw [HBG.out]
                first | exact atBox_new HCb.out | exact (atBox_new HCb.out).drew | exact atBox_old HZn.out (by omega) HCb.out | exact (atBox_old HZn.out (by omega) HCb.out).drew
          case rest =>
            obtain ⟨pb, rfl, hpb, hb5⟩ := hcut
            have HJ5 := Lib.hid (show Th7 w [.int .i64 t.L, .int .i64 t.S, .slice A t.mv.length ca] [.int .i64 u.L, .int .i64 u.S, .slice B u.mv.length cb] pr ph (thHome t u : Nat) wc ∧ Row wc pb 61 [deedV (thBegin t u)] from ⟨HJ4.out.below hb5, hpb⟩)
            clear hpb hb5 b0 b1 b2 g0 lt3 ltr HJ4 HW4 HAT4 HDD HD1 HS1
            generalize wc = w5 at *
            have hb6 := below_alloc w5 (.cells #[(.func (.func 30) #[] #[.pointer (some ⟨w.heap.size, 0, none⟩), .pointer (some ⟨pb, 0, none⟩), .pointer (some ⟨ph, 0, none⟩)])] 66)
            have HJ6 := Lib.hid (show Th7 w [.int .i64 t.L, .int .i64 t.S, .slice A t.mv.length ca] [.int .i64 u.L, .int .i64 u.S, .slice B u.mv.length cb] pr ph (thHome t u : Nat) (w5.alloc (.cells #[(.func (.func 30) #[] #[.pointer (some ⟨w.heap.size, 0, none⟩), .pointer (some ⟨pb, 0, none⟩), .pointer (some ⟨ph, 0, none⟩)])] 66)) ∧ Row (w5.alloc (.cells #[(.func (.func 30) #[] #[.pointer (some ⟨w.heap.size, 0, none⟩), .pointer (some ⟨pb, 0, none⟩), .pointer (some ⟨ph, 0, none⟩)])] 66)) pb 61 [deedV (thBegin t u)] ∧ Row (w5.alloc (.cells #[(.func (.func 30) #[] #[.pointer (some ⟨w.heap.size, 0, none⟩), .pointer (some ⟨pb, 0, none⟩), .pointer (some ⟨ph, 0, none⟩)])] 66)) w5.heap.size 66 [(.func (.func 30) #[] #[.pointer (some ⟨w.heap.size, 0, none⟩), .pointer (some ⟨pb, 0, none⟩), .pointer (some ⟨ph, 0, none⟩)])] from ⟨HJ5.out.1.below hb6, HJ5.out.2.below hb6 HJ5.out.2.lt, Row.new w5 [(.func (.func 30) #[] #[.pointer (some ⟨w.heap.size, 0, none⟩), .pointer (some ⟨pb, 0, none⟩), .pointer (some ⟨ph, 0, none⟩)])] 66⟩)
            have HENV := Lib.hid (show ThEnv ph w5.heap.size w.heap.size (w.heap.size + 1) pr pb t u (w5.alloc (.cells #[(.func (.func 30) #[] #[.pointer (some ⟨w.heap.size, 0, none⟩), .pointer (some ⟨pb, 0, none⟩), .pointer (some ⟨ph, 0, none⟩)])] 66)) from ⟨Row.atT HJ6.out.1.1.1.2.1 (keepsPP _ _ _ _ HM0.out HJ6.out.1.1.1.1), Row.atT HJ6.out.1.1.1.2.2.1 (keepsPP _ _ _ _ HM1.out HJ6.out.1.1.1.1), HJ6.out.1.2.one.1, HJ6.out.2.1.one.1, HJ6.out.1.1.2.one.1, HJ6.out.2.2.one.1⟩)
            clear hb6
            obtain ⟨c, hc⟩ : ∃ c : Nat, (c : Int) = t.L + 2 := ⟨(t.L + 2).toNat, by have := HK.out.1.l1; omega⟩
            have HC := Lib.hid hc
            clear hc
            have h24 : thHome t u ≤ 24 := by unfold thHome; omega
            obtain ⟨⟨a0, a1, a2⟩, -⟩ := HJ5.out.1.1.1.2.1.three
            have lt0 := HJ5.out.1.1.1.2.1.lt
            have p0 := HJ5.out.1.2.one.1
            have ltp := HJ5.out.1.2.lt
            by_cases hn : thHome t u + 1 ≤ 12
            · have HRES := Lib.hid (show thRes t u = (⟨t.L, t.S, tableOf (thG t u) c (thHome t u + 1)⟩, 0) by
                have := HC.out
                simp only [thRes, HOK.out.1, HOK.out.2, Bool.and_self, if_true, if_pos HLE.out, if_pos hn, show (t.L + 2).toNat = c by omega])
              have HD := Lib.hid (doingThenTurner_own t.L t.S (thHome t u + 1) c ph w5.heap.size w.heap.size (w.heap.size + 1) pr (thG t u) (w5.alloc (.cells #[(.func (.func 30) #[] #[.pointer (some ⟨w.heap.size, 0, none⟩), .pointer (some ⟨pb, 0, none⟩), .pointer (some ⟨ph, 0, none⟩)])] 66)) HK.out.1.l1 HK.out.1.l2 HC.out hn
                (fun q k hq hk => ok_deeded (thG_ok HK.out.1 HK.out.2 HLE.out hq (by have := HC.out; omega)))
                (fun W' hb' q k hq hk => thenClosure_any _ _ _ _ _ pb t u q k W' (HENV.out.below hb') HK.out.1 HK.out.2 HLE.out hn hq (by have := HC.out; omega)))
              rw [show ((thHome t u + 1 : Nat) : Int) = (thHome t u : Nat) + 1 by omega] at HD
              clear hn
              go_wp2_with fail
              refine HD.out.mono ?_
              generalize (w5.alloc (.cells #[(.func (.func 30) #[] #[.pointer (some ⟨w.heap.size, 0, none⟩), .pointer (some ⟨pb, 0, none⟩), .pointer (some ⟨ph, 0, none⟩)])] 66)) = w6 at *
              rintro e w7 ⟨x, bs, rfl, hu, hb⟩
              have hz6 := HJ6.out.1.1.1.2.2.2
              have hl1 := hz6.lt
              have hz7 := hz6.below hb hl1
              obtain ⟨vm2, bm2, rfl, hvm2, rfl, hnd2⟩ := hu
              obtain ⟨Am, km, rfl⟩ := OwL.shape hvm2
              simp only at hvm2
              have HH := Lib.hid (own_storedT (w := w) hz7 (below_step HJ6.out.1.1.1.1 hb) (by omega) hl1 (t := ⟨t.L, t.S, tableOf (thG t u) c (thHome t u + 1)⟩) ⟨_, _, rfl, hvm2, rfl, hnd2⟩)
              obtain ⟨⟨z0, z1, z2⟩, zf⟩ := hz7.three
              have lz := hz7.lt
              clear hz6 hz7 hvm2 hnd2 hb hl1 a0 a1 a2 lt0 p0 ltp
              go_wp2
              obtain ⟨⟨y0, y1, y2⟩, eO, eB⟩ := HH.out
              rw [HRES.out]
              refine bodyPost_ret (v := .tuple #[.agg #[.int .i64 t.L, .int .i64 t.S, .slice Am (tableOf (thG t u) c (thHome t u + 1)).length km], .int .i64 0]) (by simp [results, Try.results8, go_sem, y0, y1, y2]) rfl ?_
              first | exact ⟨_, _, rfl, eO, eB⟩ | exact ⟨_, rfl, ⟨_, eO⟩, eB⟩
            · have HRES := Lib.hid (show thRes t u = (⟨0, 0, []⟩, 3) by
                simp only [thRes, HOK.out.1, HOK.out.2, Bool.and_self, if_true, if_pos HLE.out, if_neg hn])
              have HD := Lib.hid (doing_limit t.L t.S ((thHome t u : Nat) + 1) (.func (.func 32) #[] #[.pointer (some ⟨ph, 0, none⟩), .pointer (some ⟨w5.heap.size, 0, none⟩), .pointer (some ⟨w.heap.size, 0, none⟩), .pointer (some ⟨w.heap.size + 1, 0, none⟩), .pointer (some ⟨pr, 0, none⟩)]) (w5.alloc (.cells #[(.func (.func 30) #[] #[.pointer (some ⟨w.heap.size, 0, none⟩), .pointer (some ⟨pb, 0, none⟩), .pointer (some ⟨ph, 0, none⟩)])] 66)) (by omega))
              clear hn
              go_wp2_with fail
              refine HD.out.mono ?_
              generalize (w5.alloc (.cells #[(.func (.func 30) #[] #[.pointer (some ⟨w.heap.size, 0, none⟩), .pointer (some ⟨pb, 0, none⟩), .pointer (some ⟨ph, 0, none⟩)])] 66)) = w6 at *
              rintro e w7 ⟨x, bs, rfl, hu, hb⟩
              have hz6 := HJ6.out.1.1.1.2.2.2
              have hl1 := hz6.lt
              have hz7 := hz6.below hb hl1
              obtain ⟨vm2, bm2, rfl, hvm2, rfl, hnd2⟩ := hu
              obtain ⟨Am, km, rfl⟩ := OwL.shape hvm2
              simp only at hvm2
              have HH := Lib.hid (own_storedT (w := w) hz7 (below_step HJ6.out.1.1.1.1 hb) (by omega) hl1 (t := ⟨0, 0, []⟩) ⟨_, _, rfl, hvm2, rfl, hnd2⟩)
              obtain ⟨⟨z0, z1, z2⟩, zf⟩ := hz7.three
              have lz := hz7.lt
              clear hz6 hz7 hvm2 hnd2 hb hl1 a0 a1 a2 lt0 p0 ltp
              go_wp2
              obtain ⟨⟨y0, y1, y2⟩, eO, eB⟩ := HH.out
              rw [HRES.out]
              generalize (((w7.setCell ⟨w.heap.size + 2, 0, none⟩ (.int .i64 0)).setCell ⟨w.heap.size + 2, 1, none⟩ (.int .i64 0)).setCell ⟨w.heap.size + 2, 2, none⟩ (.slice Am 0 km)) = W2 at *
              refine bodyPost_ret (v := .tuple #[.agg #[.int .i64 0, .int .i64 0, .slice Am 0 km], .int .i64 3]) (by simp [results, Try.results8, go_sem, y0, y1, y2]) rfl ?_
              first | exact ⟨_, _, rfl, eO, eB⟩ | exact ⟨_, rfl, ⟨_, eO⟩, eB⟩
      · have hres : thRes t u = (⟨0, 0, []⟩, 2) := by simp [thRes, HOK.out.1, HOK.out.2, hL]
        have HRES := Lib.hid hres
        have dL : (t.L != u.L) = true := by simpa using hL
        have hI2 := HI2.out
        have HH := Lib.hid (HERR.out _ hI2)
        obtain ⟨⟨a0, a1, a2⟩, -⟩ := hI2.2.1.three
        obtain ⟨⟨b0, b1, b2⟩, -⟩ := hI2.2.2.1.three
        have lt0 := hI2.2.1.lt
        have lt1 := hI2.2.2.1.lt
        obtain ⟨⟨z0, z1, z2⟩, zf⟩ := hI2.2.2.2.three
        have lz := hI2.2.2.2.lt
        clear hL hI2 hres
        go_wp2
        obtain ⟨⟨y0, y1, y2⟩, eO, eB⟩ := HH.out
        rw [HRES.out]
        generalize (((w2.setCell ⟨w.heap.size + 2, 0, none⟩ (.int .i64 0)).setCell ⟨w.heap.size + 2, 1, none⟩ (.int .i64 0)).setCell ⟨w.heap.size + 2, 2, none⟩ (.slice none 0 0)) = W2 at *
        refine bodyPost_ret (v := .tuple #[.agg #[.int .i64 0, .int .i64 0, .slice none 0 0], .int .i64 2]) (by simp [results, Try.results8, go_sem, y0, y1, y2]) rfl ?_
        first | exact ⟨_, _, rfl, eO, eB⟩ | exact ⟨_, rfl, ⟨_, eO⟩, eB⟩
    · have hres : thRes t u = (⟨0, 0, []⟩, 1) := by simp [thRes, hok, hoku]
      have hk : okT u = false := by simpa using hoku
      have HRES := Lib.hid hres
      rw [hok] at HV0
      rw [hk] at HV1
      clear hok hoku hk hres
      go_enter Try.func8, Try.ntmps8
      go_wp2_with fail
      refine (HV0.out _ HI0.out.1).mono ?_
      generalize (((w.alloc (.cells #[.int .i64 t.L, .int .i64 t.S, .slice A t.mv.length ca] 28)).alloc (.cells #[.int .i64 u.L, .int .i64 u.S, .slice B u.mv.length cb] 28)).alloc (.cells #[.int .i64 0, .int .i64 0, .slice none 0 0] 28)) = W0 at *
      rintro e w1 ⟨rfl, hb1⟩
      have hI1 := HI0.out.below hb1
      have HI1 := Lib.hid hI1
      obtain ⟨⟨b0, b1, b2⟩, -⟩ := hI1.2.2.1.three
      clear hb1 hI1 HI0
      go_wp2_with fail
      clear b0 b1 b2
      refine (HV1.out _ HI1.out.1).mono ?_
      rintro e w2 ⟨rfl, hb2⟩
      have hI2 := HI1.out.below hb2
      have HH := Lib.hid (HERR.out _ hI2)
      obtain ⟨⟨z0, z1, z2⟩, zf⟩ := hI2.2.2.2.three
      have lz := hI2.2.2.2.lt
      clear hb2 hI2
      go_wp2
      obtain ⟨⟨y0, y1, y2⟩, eO, eB⟩ := HH.out
      rw [HRES.out]
      generalize (((w2.setCell ⟨w.heap.size + 2, 0, none⟩ (.int .i64 0)).setCell ⟨w.heap.size + 2, 1, none⟩ (.int .i64 0)).setCell ⟨w.heap.size + 2, 2, none⟩ (.slice none 0 0)) = W2 at *
      refine bodyPost_ret (v := .tuple #[.agg #[.int .i64 0, .int .i64 0, .slice none 0 0], .int .i64 1]) (by simp [results, Try.results8, go_sem, y0, y1, y2]) rfl ?_
      first | exact ⟨_, _, rfl, eO, eB⟩ | exact ⟨_, rfl, ⟨_, eO⟩, eB⟩
  · have hres : thRes t u = (⟨0, 0, []⟩, 1) := by simp [thRes, hok]
    have hk : okT t = false := by simpa using hok
    have HRES := Lib.hid hres
    rw [hk] at HV0
    clear hok hk hres
    go_enter Try.func8, Try.ntmps8
    go_wp2_with fail
    refine (HV0.out _ HI0.out.1).mono ?_
    generalize (((w.alloc (.cells #[.int .i64 t.L, .int .i64 t.S, .slice A t.mv.length ca] 28)).alloc (.cells #[.int .i64 u.L, .int .i64 u.S, .slice B u.mv.length cb] 28)).alloc (.cells #[.int .i64 0, .int .i64 0, .slice none 0 0] 28)) = W0 at *
    rintro e w1 ⟨rfl, hb1⟩
    have hI1 := HI0.out.below hb1
    have HH := Lib.hid (HERR.out _ hI1)
    obtain ⟨⟨z0, z1, z2⟩, zf⟩ := hI1.2.2.2.three
    have lz := hI1.2.2.2.lt
    clear hb1 hI1
    go_wp2
    obtain ⟨⟨y0, y1, y2⟩, eO, eB⟩ := HH.out
    rw [HRES.out]
    generalize (((w1.setCell ⟨w.heap.size + 2, 0, none⟩ (.int .i64 0)).setCell ⟨w.heap.size + 2, 1, none⟩ (.int .i64 0)).setCell ⟨w.heap.size + 2, 2, none⟩ (.slice none 0 0)) = W2 at *
    refine bodyPost_ret (v := .tuple #[.agg #[.int .i64 0, .int .i64 0, .slice none 0 0], .int .i64 1]) (by simp [results, Try.results8, go_sem, y0, y1, y2]) rfl ?_
    first | exact ⟨_, _, rfl, eO, eB⟩ | exact ⟨_, rfl, ⟨_, eO⟩, eB⟩
end Go.Proofs.Ytklljaeoimgmnaa
