/-
  Turns: in which cells a run turns.
-/
import Derived.Test.YtdkalefepdlccaaRu7
namespace Go.Proofs.Ytdkalefepdlccaa
open Go.RowKit

def turnStep (t : TData) (s : ByteArray) (st : Int × List Int) (p : Nat × Nat) : Int × List Int :=
  if (moveOn t s p.1 p.2).2 = 0 then st else ((moveOn t s p.1 p.2).2, if st.1 ≠ 0 ∧ (moveOn t s p.1 p.2).2 ≠ st.1 then st.2 ++ [(p.2 : Int)] else st.2)
def turnsG (t : TData) (s : ByteArray) (ps : List (Nat × Nat)) : Int × List Int := ps.foldl (turnStep t s) (0, [])
def turnsRes (t : TData) (s : ByteArray) : List Int × Int := if givenC t s = 0 then ((turnsG t s (runN t s).places).2, 0) else ([], 1)
theorem turnsG_snoc (t : TData) (s : ByteArray) (ps : List (Nat × Nat)) (p : Nat × Nat) : turnsG t s (ps ++ [p]) = turnStep t s (turnsG t s ps) p := by simp [turnsG, List.foldl_append]
theorem turnsG_len (t : TData) (s : ByteArray) (ps : List (Nat × Nat)) : (turnsG t s ps).2.length ≤ ps.length := by
  have h : ∀ (ps : List (Nat × Nat)) (st : Int × List Int), (ps.foldl (turnStep t s) st).2.length ≤ ps.length + st.2.length := by
    intro ps
    induction ps with
    | nil => intro st; simp
    | cons p r ih =>
      intro st
      have h1 := ih (turnStep t s st p)
      have h2 : (turnStep t s st p).2.length ≤ st.2.length + 1 := by
        unfold turnStep
        split
        · omega
        · split
          · simp
          · simp
      simp only [List.foldl_cons, List.length_cons]
      omega
  have h3 := h ps (0, [])
  unfold turnsG
  simpa using h3
theorem turnsG_last {t : TData} {s : ByteArray} (ok : OkT t) (hl : lettersOk t.L s = true) : ∀ (ps : List (Nat × Nat)), (∀ p ∈ ps, OkP t.mv.length s.size p) → -1 ≤ (turnsG t s ps).1 ∧ (turnsG t s ps).1 ≤ 1 := by
  have h : ∀ (ps : List (Nat × Nat)) (st : Int × List Int), (∀ p ∈ ps, OkP t.mv.length s.size p) → -1 ≤ st.1 ∧ st.1 ≤ 1 → -1 ≤ (ps.foldl (turnStep t s) st).1 ∧ (ps.foldl (turnStep t s) st).1 ≤ 1 := by
    intro ps
    induction ps with
    | nil => intro st _ h; simpa using h
    | cons p r ih =>
      intro st hp hst
      refine ih (turnStep t s st p) (fun q hq => hp q (List.mem_cons_of_mem _ hq)) ?_
      have hm := move_on ok hl (hp p List.mem_cons_self)
      unfold turnStep
      split
      · exact hst
      · simp only; omega
  intro ps hp
  exact h ps (0, []) hp (by simp)
theorem turn_stay {t : TData} {s : ByteArray} {st : Int × List Int} {p : Nat × Nat} (h : (moveOn t s p.1 p.2).2 = 0) : turnStep t s st p = st := by simp [turnStep, h]
theorem turn_turns {t : TData} {s : ByteArray} {st : Int × List Int} {p : Nat × Nat} {y : Int} (h : (moveOn t s p.1 p.2).2 = y) (h0 : y ≠ 0) (h1 : -1 ≤ y) (h2 : y ≤ 1) (h3 : -1 ≤ st.1) (h4 : st.1 ≤ 1) (e : y = -st.1) : turnStep t s st p = (y, st.2 ++ [(p.2 : Int)]) := by
  unfold turnStep; rw [h, if_neg h0, if_pos ⟨by omega, by omega⟩]
theorem turn_goes {t : TData} {s : ByteArray} {st : Int × List Int} {p : Nat × Nat} {y : Int} (h : (moveOn t s p.1 p.2).2 = y) (h0 : y ≠ 0) (h1 : -1 ≤ y) (h2 : y ≤ 1) (h3 : -1 ≤ st.1) (h4 : st.1 ≤ 1) (e : ¬ y = -st.1) : turnStep t s st p = (y, st.2) := by
  unfold turnStep; rw [h, if_neg h0, if_neg (by omega)]

/-- The memory of a call while turns are told: the places, and the turns so far. -/
structure TuI (w wr : World) (lo : Nat) (pv : Value) (pl : List (Nat × Nat)) (bs : List Nat) (Bn : Option Addr) (n kn : Nat) (ts : List Int) (cs : List Value) : Prop where
  bel : Below w.heap.size w wr
  hlo : w.heap.size < lo
  tb : Row wr w.heap.size 31 cs
  len : ts.length = n
  own : wr.ownsRow lo 2 1 (.slice Bn n kn) n (ints ts)
  pls : OwP 70 wr w.heap.size pv (pl.map pI) bs
  off : ∀ b ∈ bs, b < lo
  low : lo ≤ wr.heap.size
theorem TuI.below {w wr w1 : World} {lo : Nat} {pv : Value} {pl : List (Nat × Nat)} {bs : List Nat} {Bn : Option Addr} {n kn : Nat} {ts : List Int} {cs : List Value} (h : TuI w wr lo pv pl bs Bn n kn ts cs) (hb : Below wr.heap.size wr w1) : TuI w w1 lo pv pl bs Bn n kn ts cs :=
  ⟨below_step h.bel hb, h.hlo, h.tb.below hb h.tb.lt, h.len, rows_below h.own hb, (goodP _).below h.pls hb, h.off, Nat.le_trans h.low hb.size⟩
theorem TuI.at {w wr : World} {lo : Nat} {pv vm : Value} {pl : List (Nat × Nat)} {bs : List Nat} {Bn : Option Addr} {n kn : Nat} {ts : List Int} {t : TData} (h : TuI w wr lo pv pl bs Bn n kn ts [.int .i64 t.L, .int .i64 t.S, vm]) (hm : RdPP w vm t.mv) : AtT wr w.heap.size t := by
  obtain ⟨⟨q0, q1, q2⟩, -⟩ := h.tb.three
  exact ⟨vm, q0, q1, q2, keepsPP _ _ _ _ hm h.bel⟩
theorem TuI.appended {w wr w3 : World} {lo : Nat} {pv : Value} {pl : List (Nat × Nat)} {bs : List Nat} {Bn : Option Addr} {n kn : Nat} {ts : List Int} {cs : List Value} {g cap : Nat} {x : Int} {o : Obj} (h : TuI w wr lo pv pl bs Bn n kn ts cs) (hg : (wr.alloc o).grownBy w3 (Value.slice Bn n kn).ownBlock)
    (ho : w3.ownsRow lo 2 1 (.slice (some ⟨g, 0, none⟩) (n + 1) cap) (n + 1) (ints ts ++ [.int .i64 x])) : TuI w w3 lo pv pl bs (some ⟨g, 0, none⟩) (n + 1) cap (ts ++ [x]) cs := by
  have hlt : ∀ b ∈ blks (.slice Bn n kn), lo ≤ b := fun b hb => (World.ownsRow.lt h.own b (mem_blks.1 hb)).1
  have hlo := h.hlo
  have hlw := h.low
  refine ⟨(below_step h.bel (below_alloc wr o)).trans (grown_below hg (B := w.heap.size) (by have := h.bel.size; simp; omega) (fun b hb => by have := hlt b hb; omega)), hlo, grown_row hg (h.tb.alloc o) (fun hm => by have := hlt _ hm; omega), by simp [h.len], by rw [ints_snoc]; exact ho, ?_, h.off, ?_⟩
  · exact grown_keep (goodP _) hg ((goodP _).below h.pls (below_alloc wr o)) (fun c hc hm => by have := h.off c hc; have := hlt c hm; omega)
  · have := hg.size; simp at this; omega

set_option maxRecDepth 100000 in
set_option maxHeartbeats 6400000 in
theorem implTurnsOf_any (v : Value) (t : TData) (s : ByteArray) (w : World) (h : RdT w v t) (hs : s.size ≤ maxLen) :
    Calls Try.prog 34 #[v, .string s] w fun e w' => ∃ u bs, e = .returned (.tuple #[u, .int .i64 (turnsRes t s).2]) ∧ OwV ints 2 w' w.heap.size u (turnsRes t s).1 bs ∧ Below w.heap.size w w' := by
  obtain ⟨im, him, hzm0, hzm1, hzm2⟩ := info_parts infoI64
  have HG := Lib.hid (fun W (hb : Below w.heap.size w W) => wordCode_any v t s W (keepsT _ _ _ _ h hb) hs)
  have HC := Lib.hid (fun W (hb : Below w.heap.size w W) (ok : OkT t) hl h6 => courseOn_own v t s W (keepsT _ _ _ _ h hb) ok hl h6)
  have HDD := Lib.hid (fun W (hb : Below w.heap.size w W) (ok : OkT t) hl h6 q a hq ha => deedAt_any v t s q a W (keepsT _ _ _ _ h hb) ok hl h6 hq ha)
  obtain ⟨A, c, rfl⟩ := h.shape
  have cc := concWalk
  have HR := Lib.hid (Row.new w [.int .i64 t.L, .int .i64 t.S, .slice A t.mv.length c] 31)
  have HB := Lib.hid (below_alloc w (.cells #[.int .i64 t.L, .int .i64 t.S, .slice A t.mv.length c] 31))
  clear h
  go_enter Try.func34, Try.ntmps34
  go_wp2_with fail
  refine (HG.out _ HB.out).mono ?_
  rintro e w1 ⟨rfl, hb1⟩
  have HB1 := Lib.hid (below_step HB.out hb1)
  have HR1 := Lib.hid (HR.out.below hb1 HR.out.lt)

  clear hb1
  rcases givenC_or t s with hg | hg
  · obtain ⟨ok1, ok2⟩ := givenC_zero hg
    obtain ⟨s60, hl⟩ := okWord_parts ok2
    have HOK := Lib.hid (okT_out ok1)
    have HL := Lib.hid hl
    have HRES := Lib.hid (show turnsRes t s = ((turnsG t s (runN t s).places).2, 0) by simp [turnsRes, hg])
    have HPL := Lib.hid (run_ok (okT_out ok1) hl)
    have hlen := run_len t s hg
    have HCC := Lib.hid (HC.out _ HB1.out (okT_out ok1) hl s60)
    obtain ⟨⟨b0, b1, b2⟩, -⟩ := HR1.out.three
    have lt0 := HR1.out.lt
    rw [hg]
    clear hg ok1 ok2 hl
    go_wp2_with fail
    refine HCC.out.mono ?_
    rintro e w2 ⟨u, bs, rfl, hu, hb3⟩
    obtain ⟨B, k0, rfl⟩ := owP_shape hu
    generalize hpl : (runN t s).places = pl at *
    have HP := Lib.hid (show OwP 70 w2 w.heap.size (.slice B pl.length k0) (pl.map pI) bs from (goodP _).mono (by rwa [List.length_map] at hu) HB1.out.size)
    have HLT := Lib.hid (fun x hx => ((goodP 70).lt hu (b := x) hx).2)
    have HB3 := Lib.hid (below_step HB1.out hb3)
    have HR2 := Lib.hid (HR1.out.below hb3 HR1.out.lt)
    have HLE := Lib.hid (show w.heap.size < w2.heap.size from HR2.out.lt)
    have HS0 := Lib.hid (show TuI w w2 w2.heap.size (.slice B pl.length k0) pl bs none 0 0 [] [.int .i64 t.L, .int .i64 t.S, .slice A t.mv.length c] from ⟨HB3.out, HLE.out, HR2.out, rfl, World.ownsRow_nil _ _ _ 1, HP.out, HLT.out, Nat.le_refl _⟩)
    clear hu hb3 HCC b0 b1 b2 lt0 HP
    have hfd := fieldCourse
    go_wp2
    clear hfd
    go_loopw [7, 8, 24] (fun u q i wr => ∃ (k kn : Nat) (Bn : Option Addr), k ≤ pl.length ∧ i = .int .i64 k ∧ q = .int .i64 (turnsG t s (pl.take k)).1 ∧ u = .slice Bn (turnsG t s (pl.take k)).2.length kn ∧ TuI w wr w2.heap.size (.slice B pl.length k0) pl bs Bn (turnsG t s (pl.take k)).2.length kn (turnsG t s (pl.take k)).2 [.int .i64 t.L, .int .i64 t.S, .slice A t.mv.length c]) (fun _ _ i _ => pl.length - (intOf i).toNat)
    case atStart => exact ⟨0, 0, _, Nat.zero_le _, rfl, rfl, rfl, HS0.out⟩
    case round =>
      clear HS0
      obtain ⟨k, kn, Bn, hk, rfl, rfl, rfl, hI⟩ := hrel
      by_cases hlt : k < pl.length
      · obtain ⟨p, hp⟩ : ∃ p, pl[k]? = some p := ⟨_, List.getElem?_eq_getElem hlt⟩
        have HT := Lib.hid (take_snoc hp)
        have HSN := Lib.hid (turnsG_snoc t s (pl.take k) p)
        have hll := turnsG_len t s (pl.take k)
        rw [List.length_take, Nat.min_eq_left hk] at hll
        have hla := turnsG_last HOK.out HL.out (pl.take k) (fun q hq => HPL.out q (List.mem_of_mem_take hq))
        generalize turnsG t s (pl.take k) = st at *
        obtain ⟨la, ts⟩ := st
        simp only at *
        have HI := Lib.hid hI
        obtain ⟨b, off, rfl, c0, c1⟩ := rdP_at hI.pls.rd (i := k) (m := pI p) (by rw [List.getElem?_map, hp]; rfl)
        have hpo := HPL.out p (List.mem_of_getElem? hp)
        have hp2 := hpo.2
        have hmo2 := move_on HOK.out HL.out hpo
        have i1 : (0 : Int) ≤ k := by omega
        have i2 : (k : Int) < pl.length := by omega
        unfold pI at c0 c1
        simp only at c0 c1
        obtain ⟨l1, l2⟩ := hla
        have h744 : ts.length ≤ 745 := by omega
        have HD := Lib.hid (fun W hb => HDD.out W hb HOK.out HL.out s60 p.1 p.2 hpo.1 hpo.2)
        obtain ⟨⟨b0, b1, b2⟩, -⟩ := hI.tb.three
        have lt0 := hI.tb.lt
        clear hI hpo hp
        rcases hmo2 with ⟨h0 | h0, h9⟩ | ⟨h0, h5, h6, h7, h8, h9⟩
        · have e : moveOn t s p.1 p.2 = (-1, 0) := Prod.ext h0 h9
          have HTS := Lib.hid (turn_stay (st := (la, ts)) h9)
          rw [e, deedV_stopT] at HD
          clear h0 h9 e
          go_wp2_with fail
          refine (HD.out _ (below_step HI.out.bel (below_alloc _ _))).mono ?_
          rintro e w5 ⟨rfl, hb5⟩
          have HI5 := Lib.hid (HI.out.below (below_step (below_alloc _ _) hb5))
          clear hb5 b0 b1 b2 lt0 c0 c1
          have ta := taWalkNo w5 (.agg #[.bool true])
          go_wp2
          go_roundw
          case rel =>
            have hfin : turnsG t s (pl.take (k + 1)) = (la, ts) := by rw [HT.out, HSN.out, HTS.out]
            refine ⟨k + 1, kn, _, by omega, by go_num, by rw [hfin], by rw [hfin], ?_⟩
            rw [hfin]
            exact HI5.out.below (below_alloc _ _)
          case measure => simp [intOf]; omega
        · have e : moveOn t s p.1 p.2 = (-2, 0) := Prod.ext h0 h9
          have HTS := Lib.hid (turn_stay (st := (la, ts)) h9)
          rw [e, deedV_stopF] at HD
          clear h0 h9 e
          go_wp2_with fail
          refine (HD.out _ (below_step HI.out.bel (below_alloc _ _))).mono ?_
          rintro e w5 ⟨rfl, hb5⟩
          have HI5 := Lib.hid (HI.out.below (below_step (below_alloc _ _) hb5))
          clear hb5 b0 b1 b2 lt0 c0 c1
          have ta := taWalkNo w5 (.agg #[.bool false])
          go_wp2
          go_roundw
          case rel =>
            have hfin : turnsG t s (pl.take (k + 1)) = (la, ts) := by rw [HT.out, HSN.out, HTS.out]
            refine ⟨k + 1, kn, _, by omega, by go_num, by rw [hfin], by rw [hfin], ?_⟩
            rw [hfin]
            exact HI5.out.below (below_alloc _ _)
          case measure => simp [intOf]; omega
        · have HY := Lib.hid (show (moveOn t s p.1 p.2).2 = (moveOn t s p.1 p.2).2 from rfl)
          have hy0 : ∃ x y, moveOn t s p.1 p.2 = (x, y) := ⟨_, _, rfl⟩
          obtain ⟨x, y, hxy⟩ := hy0
          have h2 : (moveOn t s p.1 p.2).2 = y := by rw [hxy]
          have H2 := Lib.hid h2
          rw [hxy] at h0 h6 h7 HD
          simp only at h0 h6 h7
          rw [deedV_go _ _ h0] at HD
          clear h5 h8 h9 h2 hxy HY
          have l5 : -1 ≤ y := h6
          have l6 : y ≤ 1 := h7
          by_cases hy : y = 0
          · subst hy
            have HTS := Lib.hid (turn_stay (st := (la, ts)) H2.out)
            go_wp2_with fail
            refine (HD.out _ (below_step HI.out.bel (below_alloc _ _))).mono ?_
            rintro e w5 ⟨rfl, hb5⟩
            have HI5 := Lib.hid (HI.out.below (below_step (below_alloc _ _) hb5))
            clear hb5 b0 b1 b2 lt0 c0 c1
            have ta := taWalkYes w5 (.agg #[.int .i64 x, .int .i64 0])
            go_wp2
            go_roundw
            case rel =>
              have hfin : turnsG t s (pl.take (k + 1)) = (la, ts) := by rw [HT.out, HSN.out, HTS.out]
              refine ⟨k + 1, kn, _, by omega, by go_num, by rw [hfin], by rw [hfin], ?_⟩
              rw [hfin]
              exact HI5.out.below (below_alloc _ _)
            case measure => simp [intOf]; omega
          have d0 : (y == 0) = false := by simpa using hy
          by_cases hm : y = -la
          · have HTS := Lib.hid (turn_turns (st := (la, ts)) H2.out hy l5 l6 l1 l2 hm)
            have d1 : (y == -la) = true := by simpa using hm
            clear hm hy
            go_wp2_with fail
            refine (HD.out _ (below_step HI.out.bel (below_alloc _ _))).mono ?_
            rintro e w5 ⟨rfl, hb5⟩
            have HI5 := Lib.hid (HI.out.below (below_step (below_alloc _ _) hb5))
            obtain ⟨⟨y0, y1⟩, -⟩ := ((Row.new wr [.int .i64 (p.1 : Int), .int .i64 (p.2 : Int)] 70).below hb5 (Row.new wr [.int .i64 (p.1 : Int), .int .i64 (p.2 : Int)] 70).lt).two
            have ly := ((Row.new wr [.int .i64 (p.1 : Int), .int .i64 (p.2 : Int)] 70).below hb5 (Row.new wr [.int .i64 (p.1 : Int), .int .i64 (p.2 : Int)] 70).lt).lt
            clear hb5 b0 b1 b2 lt0 c0 c1
            have ta := taWalkYes w5 (.agg #[.int .i64 x, .int .i64 y])
            go_wp2_with (at_builtin; refine wpList_append_lies _ rfl _ _ 42 rfl w2.heap.size 2 im _ 1 8 Try.underlying42 him hzm0 hzm1 hzm2 rfl (by decide) (.slice Bn ts.length kn) ts.length _ rfl ((HI5.out.own.alloc (.cells #[.int .i64 x, .int .i64 y] 99)).alloc _) ⟨w5.heap.size + 1, 0, none⟩ 1 1 [.int .i64 (p.2 : Int)] rfl rfl (World.news_of_block (cs := #[.int .i64 (p.2 : Int)]) (t := 2) (fr := (0, 0)) (by simpa using heap_alloc_new (w5.alloc (.cells #[.int .i64 x, .int .i64 y] 99)) (.cells #[.int .i64 (p.2 : Int)] 2))) (by simp [Value.oneCell']) (by omega) (by unfold maxLen; omega) (by omega) (by have := HI5.out.low; simp; omega) (w5.heap.size + 1 + 1) (by simp) ?_; intro g cap w6 hown6 hgrow6 hat6 hlt6; have HA6 := Lib.hid ((HI5.out.below (below_alloc w5 (.cells #[.int .i64 x, .int .i64 y] 99))).appended hgrow6 hown6); have q6 := grown_cell hgrow6 (fun hm => by have := (World.ownsRow.lt HI5.out.own _ (mem_blks.1 hm)).2; simp at this) (below_keep (below_alloc _ _) (show (w5.alloc (.cells #[.int .i64 x, .int .i64 y] 99)).cell? ⟨w5.heap.size, 1, none⟩ = some (.int .i64 y) from (Row.new w5 [.int .i64 x, .int .i64 y] 99).two.1.2)); clear hown6 hgrow6 hat6)
            go_roundw
            case rel =>
              have hfin : turnsG t s (pl.take (k + 1)) = (y, ts ++ [(p.2 : Int)]) := by rw [HT.out, HSN.out, HTS.out]
              refine ⟨k + 1, cap, some ⟨g, 0, none⟩, by omega, by go_num, by rw [hfin], by rw [hfin]; simp, ?_⟩
              rw [hfin]
              exact (by have := HA6.out; simpa using this)
            case measure => simp [intOf]; omega
          
          · have HTS := Lib.hid (turn_goes (st := (la, ts)) H2.out hy l5 l6 l1 l2 hm)
            have d1 : (y == -la) = false := by simpa using hm
            clear hm hy
            go_wp2_with fail
            refine (HD.out _ (below_step HI.out.bel (below_alloc _ _))).mono ?_
            rintro e w5 ⟨rfl, hb5⟩
            have HI5 := Lib.hid (HI.out.below (below_step (below_alloc _ _) hb5))
            clear hb5 b0 b1 b2 lt0 c0 c1
            have ta := taWalkYes w5 (.agg #[.int .i64 x, .int .i64 y])
            go_wp2
            go_roundw
            case rel =>
              have hfin : turnsG t s (pl.take (k + 1)) = (y, ts) := by rw [HT.out, HSN.out, HTS.out]
              refine ⟨k + 1, kn, _, by omega, by go_num, by rw [hfin], by rw [hfin], ?_⟩
              rw [hfin]
              exact HI5.out.below (below_alloc _ _)
            case measure => simp [intOf]; omega
      · obtain rfl : k = pl.length := by omega
        rw [List.take_of_length_le (Nat.le_refl _)] at *
        have HI := Lib.hid hI
        clear hI
        go_wp2
        refine bodyPost_ret (v := .tuple #[.slice Bn (turnsG t s pl).2.length kn, .int .i64 0]) (by simp [results, Try.results34, go_sem]) rfl ?_
        rw [HRES.out]
        have ho := HI.out.own
        exact ⟨_, _, rfl, (goodV ints _).mono (show OwV ints 2 _ w2.heap.size _ (turnsG t s pl).2 _ from ⟨by unfold Own; rw [ints_len]; exact ho, rfl⟩) (Nat.le_of_lt HLE.out), HI.out.bel⟩
  · have HRES := Lib.hid (show turnsRes t s = ([], 1) by simp [turnsRes, hg])
    obtain ⟨⟨b0, b1, b2⟩, -⟩ := HR1.out.three
    rw [hg]
    clear hg
    go_wp2
    refine bodyPost_ret (v := .tuple #[.slice none 0 0, .int .i64 1]) (by simp [results, Try.results34, go_sem]) rfl ?_
    rw [HRES.out]
    exact ⟨_, _, rfl, owV_nil ints [] rfl _ _ _, HB1.out⟩

set_option maxRecDepth 100000 in
set_option maxHeartbeats 6400000 in
theorem specTurnsOf_any (v : Value) (t : TData) (s : ByteArray) (w : World) (h : RdT w v t) (hs : s.size ≤ maxLen) :
    Calls Try.prog 33 #[v, .string s] w fun e w' => ∃ u bs, e = .returned (.tuple #[u, .int .i64 (turnsRes t s).2]) ∧ OwV ints 2 w' w.heap.size u (turnsRes t s).1 bs ∧ Below w.heap.size w w' := by
  obtain ⟨im, him, hzm0, hzm1, hzm2⟩ := info_parts infoI64
  obtain ⟨vm, rfl, hA⟩ := atT_box h 31
  have HVM := Lib.hid (show RdPP w vm t.mv from by obtain ⟨_, e, hm⟩ := h; cases e; exact hm)
  have HG := Lib.hid (l02Given_any _ t s _ hA hs)
  have HA := Lib.hid hA
  clear hA
  have HR := Lib.hid (Row.new w [.int .i64 t.L, .int .i64 t.S, vm] 31)
  have HB := Lib.hid (below_alloc w (.cells #[.int .i64 t.L, .int .i64 t.S, vm] 31))
  clear h
  go_enter Try.func33, Try.ntmps33
  go_wp2_with fail
  refine HG.out.mono ?_
  rintro e w1 ⟨rfl, hb1⟩
  have HB1 := Lib.hid (below_step HB.out hb1)
  have HR1 := Lib.hid (HR.out.below hb1 HR.out.lt)
  have HA1 := Lib.hid (HA.out.below hb1)
  clear hb1
  rcases givenC_or t s with hg | hg
  · obtain ⟨ok1, ok2⟩ := givenC_zero hg
    obtain ⟨s60, hl⟩ := okWord_parts ok2
    have HOK := Lib.hid (okT_out ok1)
    have HL := Lib.hid hl
    have HRES := Lib.hid (show turnsRes t s = ((turnsG t s (runN t s).places).2, 0) by simp [turnsRes, hg])
    have HPL := Lib.hid (run_ok (okT_out ok1) hl)
    have hlen := run_len t s hg
    have HCC := Lib.hid (l02Run_own _ t s w1 HA1.out (okT_out ok1) hl s60)
    obtain ⟨⟨b0, b1, b2⟩, -⟩ := HR1.out.three
    have lt0 := HR1.out.lt
    rw [hg]
    clear hg ok1 ok2 hl
    go_wp2_with fail
    refine HCC.out.mono ?_
    rintro e w2 ⟨u, bs, rfl, hu, hb3⟩
    obtain ⟨B, k0, rfl⟩ := owP_shape hu
    generalize hpl : (runN t s).places = pl at *
    have HP := Lib.hid (show OwP 70 w2 w.heap.size (.slice B pl.length k0) (pl.map pI) bs from (goodP _).mono (by rwa [List.length_map] at hu) HB1.out.size)
    have HLT := Lib.hid (fun x hx => ((goodP 70).lt hu (b := x) hx).2)
    have HB3 := Lib.hid (below_step HB1.out hb3)
    have HR2 := Lib.hid (HR1.out.below hb3 HR1.out.lt)
    have HLE := Lib.hid (show w.heap.size < w2.heap.size from HR2.out.lt)
    have HO := Lib.hid (World.ownsRow_lit (base := w2.heap.size) (e := 2) (size := 1) w2 #[] 0 (Nat.le_refl _) (by unfold maxLen; omega) rfl)
    have HS0 := Lib.hid (show TuI w (w2.alloc (.cells #[] 2)) w2.heap.size (.slice B pl.length k0) pl bs (some ⟨w2.heap.size, 0, none⟩) 0 0 [] [.int .i64 t.L, .int .i64 t.S, vm] from ⟨below_step HB3.out (below_alloc _ _), HLE.out, HR2.out.alloc _, rfl, HO.out, (goodP _).below HP.out (below_alloc _ _), HLT.out, by simp⟩)
    clear hu hb3 HCC b0 b1 b2 lt0 HP HO
    go_wp2
    generalize w2.alloc (.cells #[] 2) = W2 at *
    go_loopw [10, 11, 12] (fun u q i wr => ∃ (k kn : Nat) (Bn : Option Addr), k ≤ pl.length ∧ i = .int .i64 k ∧ q = .int .i64 (turnsG t s (pl.take k)).1 ∧ u = .slice Bn (turnsG t s (pl.take k)).2.length kn ∧ TuI w wr w2.heap.size (.slice B pl.length k0) pl bs Bn (turnsG t s (pl.take k)).2.length kn (turnsG t s (pl.take k)).2 [.int .i64 t.L, .int .i64 t.S, vm]) (fun _ _ i _ => pl.length - (intOf i).toNat)
    case atStart => exact ⟨0, 0, _, Nat.zero_le _, rfl, rfl, rfl, HS0.out⟩
    case round =>
      clear HS0
      obtain ⟨k, kn, Bn, hk, rfl, rfl, rfl, hI⟩ := hrel
      by_cases hlt : k < pl.length
      · obtain ⟨p, hp⟩ : ∃ p, pl[k]? = some p := ⟨_, List.getElem?_eq_getElem hlt⟩
        have HT := Lib.hid (take_snoc hp)
        have HSN := Lib.hid (turnsG_snoc t s (pl.take k) p)
        have hll := turnsG_len t s (pl.take k)
        rw [List.length_take, Nat.min_eq_left hk] at hll
        have hla := turnsG_last HOK.out HL.out (pl.take k) (fun q hq => HPL.out q (List.mem_of_mem_take hq))
        generalize turnsG t s (pl.take k) = st at *
        obtain ⟨la, ts⟩ := st
        simp only at *
        have HI := Lib.hid hI
        obtain ⟨b, off, rfl, c0, c1⟩ := rdP_at hI.pls.rd (i := k) (m := pI p) (by rw [List.getElem?_map, hp]; rfl)
        have hpo := HPL.out p (List.mem_of_getElem? hp)
        have hp2 := hpo.2
        have hmo2 := move_on HOK.out HL.out hpo
        have i1 : (0 : Int) ≤ k := by omega
        have i2 : (k : Int) < pl.length := by omega
        unfold pI at c0 c1
        simp only at c0 c1
        obtain ⟨l1, l2⟩ := hla
        have h744 : ts.length ≤ 745 := by omega
        have HD := Lib.hid (l02At_any _ t s p.1 p.2 wr (hI.at HVM.out) HOK.out HL.out s60 hpo.1 hpo.2)
        obtain ⟨⟨b0, b1, b2⟩, -⟩ := hI.tb.three
        have lt0 := hI.tb.lt
        clear hI hpo hp
        have hfm := fieldMove
        rcases hmo2 with ⟨h0 | h0, h9⟩ | ⟨h0, h5, h6, h7, h8, h9⟩
        · have e : moveOn t s p.1 p.2 = (-1, 0) := Prod.ext h0 h9
          have HTS := Lib.hid (turn_stay (st := (la, ts)) h9)
          rw [e] at HD
          clear h0 h9 e
          go_wp2_with fail
          refine HD.out.mono ?_
          rintro e w5 ⟨rfl, hb5⟩
          have HI5 := Lib.hid (HI.out.below (hb5))
          clear hb5 b0 b1 b2 lt0 c0 c1
          go_wp2
          go_roundw
          case rel =>
            have hfin : turnsG t s (pl.take (k + 1)) = (la, ts) := by rw [HT.out, HSN.out, HTS.out]
            refine ⟨k + 1, kn, _, by omega, by go_num, by rw [hfin], by rw [hfin], ?_⟩
            rw [hfin]
            exact HI5.out
          case measure => simp [intOf]; omega
        · have e : moveOn t s p.1 p.2 = (-2, 0) := Prod.ext h0 h9
          have HTS := Lib.hid (turn_stay (st := (la, ts)) h9)
          rw [e] at HD
          clear h0 h9 e
          go_wp2_with fail
          refine HD.out.mono ?_
          rintro e w5 ⟨rfl, hb5⟩
          have HI5 := Lib.hid (HI.out.below (hb5))
          clear hb5 b0 b1 b2 lt0 c0 c1
          go_wp2
          go_roundw
          case rel =>
            have hfin : turnsG t s (pl.take (k + 1)) = (la, ts) := by rw [HT.out, HSN.out, HTS.out]
            refine ⟨k + 1, kn, _, by omega, by go_num, by rw [hfin], by rw [hfin], ?_⟩
            rw [hfin]
            exact HI5.out
          case measure => simp [intOf]; omega
        · have HY := Lib.hid (show (moveOn t s p.1 p.2).2 = (moveOn t s p.1 p.2).2 from rfl)
          have hy0 : ∃ x y, moveOn t s p.1 p.2 = (x, y) := ⟨_, _, rfl⟩
          obtain ⟨x, y, hxy⟩ := hy0
          have h2 : (moveOn t s p.1 p.2).2 = y := by rw [hxy]
          have H2 := Lib.hid h2
          rw [hxy] at h0 h6 h7 HD
          simp only at h0 h6 h7
          clear h5 h8 h9 h2 hxy HY
          have l5 : -1 ≤ y := h6
          have l6 : y ≤ 1 := h7
          by_cases hy : y = 0
          · subst hy
            have HTS := Lib.hid (turn_stay (st := (la, ts)) H2.out)
            go_wp2_with fail
            refine HD.out.mono ?_
            rintro e w5 ⟨rfl, hb5⟩
            have HI5 := Lib.hid (HI.out.below (hb5))
            clear hb5 b0 b1 b2 lt0 c0 c1
            go_wp2
            go_roundw
            case rel =>
              have hfin : turnsG t s (pl.take (k + 1)) = (la, ts) := by rw [HT.out, HSN.out, HTS.out]
              refine ⟨k + 1, kn, _, by omega, by go_num, by rw [hfin], by rw [hfin], ?_⟩
              rw [hfin]
              exact HI5.out
            case measure => simp [intOf]; omega
          have d0 : (y == 0) = false := by simpa using hy
          by_cases hm : y = -la
          · have HTS := Lib.hid (turn_turns (st := (la, ts)) H2.out hy l5 l6 l1 l2 hm)
            have d1 : (la != 0) = true := by simp; omega
            have d2 : (y != la) = true := by simp; omega
            clear hm hy
            go_wp2_with fail
            refine HD.out.mono ?_
            rintro e w5 ⟨rfl, hb5⟩
            have HI5 := Lib.hid (HI.out.below (hb5))
            have c2 := below_keep hb5 c1
            clear hb5 b0 b1 b2 lt0 c0 c1
            go_wp2_with (at_builtin; refine wpList_append_lies _ rfl _ _ 42 rfl w2.heap.size 2 im _ 1 8 Try.underlying42 him hzm0 hzm1 hzm2 rfl (by decide) (.slice Bn ts.length kn) ts.length _ rfl (HI5.out.own.alloc _) ⟨w5.heap.size, 0, none⟩ 1 1 [.int .i64 (p.2 : Int)] rfl rfl (World.news_of_block (cs := #[.int .i64 (p.2 : Int)]) (t := 2) (fr := (0, 0)) (heap_alloc_new w5 _)) (by simp [Value.oneCell']) (by omega) (by unfold maxLen; omega) (by omega) (by have := HI5.out.low; simp; omega) (w5.heap.size + 1) (by simp) ?_; intro g cap w6 hown6 hgrow6 hat6 hlt6; have HA6 := Lib.hid (HI5.out.appended hgrow6 hown6); clear hown6 hgrow6 hat6)
            go_roundw
            case rel =>
              have hfin : turnsG t s (pl.take (k + 1)) = (y, ts ++ [(p.2 : Int)]) := by rw [HT.out, HSN.out, HTS.out]
              refine ⟨k + 1, cap, some ⟨g, 0, none⟩, by omega, by go_num, by rw [hfin], by rw [hfin]; simp, ?_⟩
              rw [hfin]
              exact (by have := HA6.out; simpa using this)
            case measure => simp [intOf]; omega
          
          · have HTS := Lib.hid (turn_goes (st := (la, ts)) H2.out hy l5 l6 l1 l2 hm)
            have d3 : ((la != 0) = true ∧ (y != la) = false) ∨ (la != 0) = false := by simp; omega
            clear hm hy
            go_wp2_with fail
            refine HD.out.mono ?_
            rintro e w5 ⟨rfl, hb5⟩
            have HI5 := Lib.hid (HI.out.below (hb5))
            clear hb5 b0 b1 b2 lt0 c0 c1
            rcases d3 with ⟨d1, d2⟩ | d1
            · go_wp2
              go_roundw
              case rel =>
                have hfin : turnsG t s (pl.take (k + 1)) = (y, ts) := by rw [HT.out, HSN.out, HTS.out]
                refine ⟨k + 1, kn, _, by omega, by go_num, by rw [hfin], by rw [hfin], ?_⟩
                rw [hfin]
                exact HI5.out
              case measure => simp [intOf]; omega
            · go_wp2
              go_roundw
              case rel =>
                have hfin : turnsG t s (pl.take (k + 1)) = (y, ts) := by rw [HT.out, HSN.out, HTS.out]
                refine ⟨k + 1, kn, _, by omega, by go_num, by rw [hfin], by rw [hfin], ?_⟩
                rw [hfin]
                exact HI5.out
              case measure => simp [intOf]; omega
      · obtain rfl : k = pl.length := by omega
        rw [List.take_of_length_le (Nat.le_refl _)] at *
        have HI := Lib.hid hI
        clear hI
        go_wp2
        refine bodyPost_ret (v := .tuple #[.slice Bn (turnsG t s pl).2.length kn, .int .i64 0]) (by simp [results, Try.results33, go_sem]) rfl ?_
        rw [HRES.out]
        have ho := HI.out.own
        exact ⟨_, _, rfl, (goodV ints _).mono (show OwV ints 2 _ w2.heap.size _ (turnsG t s pl).2 _ from ⟨by unfold Own; rw [ints_len]; exact ho, rfl⟩) (Nat.le_of_lt HLE.out), HI.out.bel⟩
  · have HRES := Lib.hid (show turnsRes t s = ([], 1) by simp [turnsRes, hg])
    obtain ⟨⟨b0, b1, b2⟩, -⟩ := HR1.out.three
    have HO := Lib.hid (World.ownsRow_lit (base := w1.heap.size) (e := 2) (size := 1) w1 #[] 0 (Nat.le_refl _) (by unfold maxLen; omega) rfl)
    rw [hg]
    clear hg
    go_wp2
    refine bodyPost_ret (v := .tuple #[.slice (some ⟨w1.heap.size, 0, none⟩) 0 0, .int .i64 1]) (by simp [results, Try.results33, go_sem]) rfl ?_
    rw [HRES.out]
    exact ⟨_, _, rfl, (goodV ints _).mono (show OwV ints 2 _ w1.heap.size _ [] _ from ⟨HO.out, rfl⟩) HB1.out.size, below_step HB1.out (below_alloc _ _)⟩

theorem specTurnsOf_rd (v : Value) (t : TData) (s : ByteArray) (w : World) (h : RdT w v t) (hs : s.size ≤ maxLen) :
    Calls Try.prog 33 #[v, .string s] w fun e w' => ∃ u, e = .returned (.tuple #[u, .int .i64 (turnsRes t s).2]) ∧ RdI w' u (turnsRes t s).1 ∧ Below w.heap.size w w' :=
  (specTurnsOf_any v t s w h hs).mono fun e w' ⟨u, bs, he, hO, hb⟩ => ⟨u, he, hO.1.rd, hb⟩
theorem turns_num (t : TData) (s : ByteArray) : (((turnsRes t s).1).length : Int) ≤ 2305843009213693952 := by
  unfold turnsRes
  split
  · rename_i h
    have h1 := run_len t s h
    have h2 := turnsG_len t s (runN t s).places
    simp only
    omega
  · simp
end Go.Proofs.Ytdkalefepdlccaa
