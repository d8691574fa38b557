/-
  IsFooling: the program's walk.
-/
import Derived.Test.YtjojmlaipcbmkaaFo3
import Derived.Deep.CutRange
namespace Go.Proofs.Ytjojmlaipcbmkaa
open Go.RowKit

set_option maxRecDepth 100000 in
set_option maxHeartbeats 3200000 in
theorem implIsFooling_any (v v1 : Value) (r : RData) (ps : List (ByteArray × ByteArray)) (w : World) (h : RdR w v r) (h1 : RdF w v1 ps) (s1 : FSmall ps) :
    Calls Try.prog 51 #[v, v1] w fun e w' => e = .returned (.tuple #[.bool (foolRes r ps).1, .int .i64 (foolRes r ps).2]) ∧ Below w.heap.size w w' := by
  obtain ⟨is, his, hzs0, hzs1, hzs2⟩ := info_parts infoStr
  obtain ⟨A, c, B, d, rfl⟩ := h.shape
  have hbox := Row.new w [.int .i64 r.L, .int .i64 r.S, .slice A r.acc.length c, .slice B r.next.length d] 29
  have HB0 := Lib.hid (below_alloc w (.cells #[.int .i64 r.L, .int .i64 r.S, .slice A r.acc.length c, .slice B r.next.length d] 29))
  have HR0 := Lib.hid hbox
  have HK := Lib.hid (fun W (hb : Below w.heap.size w W) => keepsR _ _ _ _ h hb)
  have HKF := Lib.hid (fun W (hb : Below w.heap.size w W) => keepsF _ _ _ _ h1 hb)
  obtain ⟨A1, k1, rfl, a1, a2, a3⟩ := RdF.open h1
  unfold maxLen at a2
  have HSM := Lib.hid (show _ ∧ _ from ⟨small_fst s1, small_snd s1⟩)
  have HSZ := Lib.hid (show w.heap.size < (w.alloc (.cells #[.int .i64 r.L, .int .i64 r.S, .slice A r.acc.length c, .slice B r.next.length d] 29)).heap.size by simp)
  have hpl : (ps.length : Int) ≤ 8796093022208 := by have := s1.1; omega
  clear hbox h h1 s1
  go_enter Try.func51, Try.ntmps51
  go_wp2
  generalize w.alloc (.cells #[.int .i64 r.L, .int .i64 r.S, .slice A r.acc.length c, .slice B r.next.length d] 29) = w0 at *
  go_loopw [6, 7, 15] (fun ul ur i wr => ∃ k : Nat, ∃ Bl kl Br kr, k ≤ ps.length ∧ i = .int .i64 k ∧ ul = .slice Bl k kl ∧ ur = .slice Br k kr ∧ LrI w0 (.slice Bl k kl) (.slice Br k kr) ((ps.take k).map Prod.fst) ((ps.take k).map Prod.snd) wr) (fun _ _ i _ => ps.length - (intOf i).toNat)
  case atStart => exact ⟨0, none, 0, none, 0, Nat.zero_le _, rfl, rfl, rfl, LrI.start w0⟩
  case round =>
    obtain ⟨k, Bl, kl, Br, kr, hk, rfl, rfl, rfl, hI⟩ := hrel
    have HI := Lib.hid hI
    by_cases hlt : k < ps.length
    · obtain ⟨b, off, x, y, rfl, hx, hc0, hc1⟩ := a3 k hlt
      have hc0' := below_keep (below_step HB0.out hI.1) hc0
      have hc1' := below_keep (below_step HB0.out hI.1) hc1
      have hsz := hI.1.size
      have HX := Lib.hid (show (ps.take (k + 1)).map Prod.fst = (ps.take k).map Prod.fst ++ [x] ∧ (ps.take (k + 1)).map Prod.snd = (ps.take k).map Prod.snd ++ [y] from ⟨by rw [take_succ_of hx]; simp, by rw [take_succ_of hx]; simp⟩)
      have hlk : ((ps.take k).map Prod.fst).length = k ∧ ((ps.take k).map Prod.snd).length = k := ⟨by simp; omega, by simp; omega⟩
      have HLK := Lib.hid hlk
      have HI1 := Lib.hid (hI.below (below_alloc wr (.cells #[.string x, .string y] 110)))
      have i1 : (0 : Int) ≤ k := by omega
      have i2 : (k : Int) < ps.length := by omega
      clear hc0 hc1 a3 hI hx hlk
      go_wp2_with (at_builtin; first
        | (refine wpList_append_lies _ rfl _ _ 35 rfl w0.heap.size 9 is _ 1 16 Try.underlying35 his hzs0 hzs1 hzs2 rfl (by decide) (.slice Bl k kl) k _ rfl (rows_below (HI1.out.rows HLK.out.1.symm) (below_alloc _ _)) ⟨wr.heap.size + 1, 0, none⟩ 1 1 [.string x] rfl rfl (World.news_of_block (cs := #[.string x]) (t := 9) (fr := (0, 0)) (by simpa using heap_alloc_new (wr.alloc (.cells #[.string x, .string y] 110)) (.cells #[.string x] 9))) (by simp [Value.oneCell']) (by omega) (by unfold maxLen; omega) (by omega) (by simp; omega) (wr.heap.size + 1 + 1) (by simp) ?_; intro g cap w2 hown hgrow hat hlt2;
           have HE1 := Lib.hid (HI1.out.snoc (x := x) HLK.out.1.symm hgrow hown (by simpa using hat)); have p1 := grown_cell hgrow (HI.out.old (Nat.le_refl wr.heap.size)) (below_keep (below_alloc _ _) (by exact (Row.new wr [.string x, .string y] 110).two.1.2 : (wr.alloc (.cells #[.string x, .string y] 110)).cell? ⟨wr.heap.size, 1, none⟩ = some (.string y))); have p0 := grown_cell hgrow (HI.out.old (Nat.le_refl wr.heap.size)) (below_keep (below_alloc _ _) (by exact (Row.new wr [.string x, .string y] 110).two.1.1 : (wr.alloc (.cells #[.string x, .string y] 110)).cell? ⟨wr.heap.size, 0, none⟩ = some (.string x))); have sz2 := HE1.out.1.size; clear hown hgrow hat hlt2)
        | (refine wpList_append_lies _ rfl _ _ 35 rfl w0.heap.size 9 is _ 1 16 Try.underlying35 his hzs0 hzs1 hzs2 rfl (by decide) (.slice Br k kr) k _ rfl (rows_below (HE1.out.swap.rows HLK.out.2.symm) (below_alloc _ _)) ⟨w2.heap.size, 0, none⟩ 1 1 [.string y] rfl rfl (World.news_of_block (cs := #[.string y]) (t := 9) (fr := (0, 0)) (heap_alloc_new w2 _)) (by simp [Value.oneCell']) (by omega) (by unfold maxLen; omega) (by omega) (by simp; omega) (w2.heap.size + 1) (by simp) ?_; intro g3 cap3 w3 hown hgrow hat hlt2;
           have HE2 := Lib.hid ((HE1.out.swap.snoc (x := y) HLK.out.2.symm hgrow hown hat).swap); clear hown hgrow hat hlt2))
      go_roundw
      case rel => exact ⟨k + 1, _, _, _, _, by omega, by go_num, rfl, rfl, by rw [HX.out.1, HX.out.2]; exact HE2.out⟩
      case measure => simp [intOf]; omega
    · have ek : k = ps.length := by omega
      subst ek
      rw [List.take_length] at hI
      have hl1 : (ps.map Prod.fst).length = ps.length := by simp
      have hl2 : (ps.map Prod.snd).length = ps.length := by simp
      have hrl : RdS wr (.slice Bl ps.length kl) (ps.map Prod.fst) := by obtain ⟨_, bl, br, h2, h3, _⟩ := hI; exact h2.1.rd
      have hrr : RdS wr (.slice Br ps.length kr) (ps.map Prod.snd) := by obtain ⟨_, bl, br, h2, h3, _⟩ := hI; exact h3.1.rd
      have HQ := Lib.hid (below_step HB0.out hI.1)
      have HJ := Lib.hid (joinCode_any _ _ _ r (ps.map Prod.fst) (ps.map Prod.snd) wr (HK.out wr HQ.out) hrl hrr HSM.out.1 HSM.out.2)
      have HR1 := Lib.hid (HR0.out.below hI.1 HR0.out.lt)
      obtain ⟨⟨c0, c1, c2, c3⟩, -⟩ := HR1.out.four
      have lt1 := HR1.out.lt
      clear hI HI hl1 hl2 hrl hrr
      go_wp2_with fail
      refine HJ.out.mono ?_
      rintro e w1 ⟨rfl, hb1⟩
      have HB1 := Lib.hid (below_step HQ.out hb1)
      have HR2 := Lib.hid (HR1.out.below hb1 HR1.out.lt)
      clear hb1 c0 c1 c2 c3 lt1 HJ
      by_cases hc : rowsCode r (ps.map Prod.fst) (ps.map Prod.snd) = 0
      · have HE0 := Lib.hid (show foolRes r ps = (foolB r ps, 0) by rw [foolRes, if_pos hc])
        have HFO := Lib.hid (fool_ok hc)
        rw [hc]
        clear hc
        go_wp2
        go_loopw [39] (fun i wr => ∃ k : Nat, k ≤ ps.length ∧ i = .int .i64 k ∧ Below w1.heap.size w1 wr ∧ (List.range k).all (fun i => goesB r (ps.getD i (⟨#[]⟩, ⟨#[]⟩)) (ps.take i)) = true) (fun i _ => ps.length - (intOf i).toNat)
        case atStart => exact ⟨0, Nat.zero_le _, rfl, Below.refl _ _, by simp⟩
        case round =>
          obtain ⟨k, hk2, rfl, hb, hp⟩ := hrel
          have HP := Lib.hid hp; clear hp
          have HQ2 := Lib.hid hb
          by_cases hlt2 : k < ps.length
          · obtain ⟨b, off, x, y, rfl, hx, hc0, hc1⟩ := a3 k hlt2
            have hc0' := below_keep (below_step HB1.out hb) hc0
            have hc1' := below_keep (below_step HB1.out hb) hc1
            have HX := Lib.hid hx
            have i1 : (0 : Int) ≤ k := by omega
            have i2 : (k : Int) < ps.length := by omega
            have i3 : (k : Int) ≤ k1 := by omega
            have HRW := Lib.hid ((HR2.out.below hb HR2.out.lt).alloc (.cells #[.string x, .string y] 110))
            have HPB := Lib.hid (show _ ∧ _ from ⟨Row.new wr [.string x, .string y] 110, below_step HQ2.out (below_alloc wr (.cells #[.string x, .string y] 110))⟩)
            have HG := Lib.hid (fun (W : World) (hb : Below w1.heap.size w1 W) => goesWith_any _ _ r x y (ps.take k) W (HK.out W (below_step HB1.out hb)) ((HKF.out W (below_step HB1.out hb)).take (Nat.le_of_lt hlt2)) HFO.out.1 (HFO.out.2.1.sub hx))
            obtain ⟨z, hz⟩ : ∃ z, goesB r (x, y) (ps.take k) = z := ⟨_, rfl⟩
            rw [hz] at HG
            have HZ := Lib.hid hz
            clear hc0 hc1 a3 hb hx hz
            go_upto_region 14 with fail
            generalize wr.alloc (.cells #[.string x, .string y] 110) = w4 at *
            obtain ⟨⟨c0, c1, c2, c3⟩, -⟩ := HRW.out.four
            obtain ⟨⟨d0, d1⟩, -⟩ := HPB.out.1.two
            generalize wr.heap.size = pb at *
            go_region_held3 (fun W => W.cell? ⟨w.heap.size, 0, none⟩ = some (.int .i64 r.L) ∧ W.cell? ⟨w.heap.size, 1, none⟩ = some (.int .i64 r.S) ∧ W.cell? ⟨w.heap.size, 2, none⟩ = some (.slice A r.acc.length c) ∧ W.cell? ⟨w.heap.size, 3, none⟩ = some (.slice B r.next.length d) ∧ W.cell? ⟨pb, 0, none⟩ = some (.string x) ∧ W.cell? ⟨pb, 1, none⟩ = some (.string y))
              (first | go_keep | (go_split_ands; refine ⟨?_, ?_, ?_, ?_, ?_, ?_⟩ <;> (first | assumption | exact below_keep hbk (by assumption))))
              (first
                | (go_at_call 98; (with_reducible refine (HG.out _ ?_).mono ?_); (first | exact HPB.out.2 | exact HPB.out.2.drew | exact below_drewN HPB.out.2 _); rintro e wz ⟨rfl, hbk⟩; have HCz := Lib.hid (show Below w4.heap.size w4 wz from below_step (by first | exact Below.refl _ _ | exact below_drew _ | exact below_drewN' _ _) hbk)))
            have HW := Lib.hid (below_step HPB.out.2 HCz.out)
            cases z
            · have HE := Lib.hid (show foolRes r ps = (false, 0) by rw [HE0.out, fool_not HX.out HZ.out])
              go_wp2
              go_ret2
              exact ⟨ret_bi (by rw [HE.out]) (by rw [HE.out]), below_step HB1.out HW.out⟩
            · go_wp2
              go_roundw
              case rel => exact ⟨k + 1, by omega, by go_num, HW.out, fool_range HP.out HX.out HZ.out⟩
              case measure => simp [intOf]; omega
          · have HE := Lib.hid (show foolRes r ps = (true, 0) by rw [HE0.out, foolB, show ps.length = k by omega, HP.out])
            clear hb a3
            go_wp2
            go_ret2
            exact ⟨ret_bi (by rw [HE.out]) (by rw [HE.out]), below_step HB1.out HQ2.out⟩
      · have HE := Lib.hid (show foolRes r ps = (false, rowsCode r (ps.map Prod.fst) (ps.map Prod.snd)) by rw [foolRes, if_neg hc])
        have hne : (rowsCode r (ps.map Prod.fst) (ps.map Prod.snd) != 0) = true := by simpa using hc
        clear hc a3
        generalize rowsCode r (ps.map Prod.fst) (ps.map Prod.snd) = cd at *
        go_wp2
        go_ret2
        exact ⟨ret_bi (by rw [HE.out]) (by rw [HE.out]), HB1.out⟩
end Go.Proofs.Ytjojmlaipcbmkaa
