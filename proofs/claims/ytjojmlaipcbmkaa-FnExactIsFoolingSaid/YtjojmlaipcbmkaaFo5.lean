/-
  IsFooling: the model's answer.
-/
import Derived.Test.YtjojmlaipcbmkaaFo4
namespace Go.Proofs.Ytjojmlaipcbmkaa
open Go.RowKit

set_option maxRecDepth 100000 in
set_option maxHeartbeats 1600000 in
theorem l05Pairs_rd (v : Value) (ps : List (ByteArray × ByteArray)) (w : World) (h : RdF w v ps) (s1 : FSmall ps) :
    Calls Try.prog 95 #[v] w fun e w' => ∃ ul ur, e = .returned (.tuple #[ul, ur]) ∧ RdS w' ul (ps.map Prod.fst) ∧ RdS w' ur (ps.map Prod.snd) ∧ Below w.heap.size w w' := by
  obtain ⟨is, his, hzs0, hzs1, hzs2⟩ := info_parts infoStr
  obtain ⟨A1, k1, rfl, a1, a2, a3⟩ := RdF.open h
  unfold maxLen at a2
  have hpl : (ps.length : Int) ≤ 8796093022208 := by have := s1.1; omega
  have hA : OwV strs 9 (w.alloc (.cells #[] 9)) w.heap.size (.slice (some ⟨w.heap.size, 0, none⟩) 0 0) [] [w.heap.size] := ⟨Row.own (xs := []) (Row.new w [] 9) (Nat.le_refl _) (by simp), by simp [blks, Value.ownBlock]⟩
  have hB : OwV strs 9 ((w.alloc (.cells #[] 9)).alloc (.cells #[] 9)) w.heap.size (.slice (some ⟨w.heap.size + 1, 0, none⟩) 0 0) [] [w.heap.size + 1] := ⟨Row.own (xs := []) (by simpa using Row.new (w.alloc (.cells #[] 9)) [] 9) (by omega) (by simp), by simp [blks, Value.ownBlock]⟩
  have HS := Lib.hid (show LrI w (.slice (some ⟨w.heap.size, 0, none⟩) 0 0) (.slice (some ⟨w.heap.size + 1, 0, none⟩) 0 0) [] [] ((w.alloc (.cells #[] 9)).alloc (.cells #[] 9)) from
    ⟨below_step (below_alloc _ _) (below_alloc _ _), _, _, (goodV strs 9).below hA (below_alloc _ _), hB, by simp⟩)
  clear h s1 hA hB
  go_enter Try.func95, Try.ntmps95
  go_wp2
  go_loopw [4, 5, 6] (fun ul ur i wr => ∃ k : Nat, ∃ Bl kl Br kr, k ≤ ps.length ∧ i = .int .i64 k ∧ ul = .slice Bl k kl ∧ ur = .slice Br k kr ∧ LrI w (.slice Bl k kl) (.slice Br k kr) ((ps.take k).map Prod.fst) ((ps.take k).map Prod.snd) wr) (fun _ _ i _ => ps.length - (intOf i).toNat)
  case atStart => exact ⟨0, _, _, _, _, Nat.zero_le _, rfl, rfl, rfl, HS.out⟩
  case round =>
    obtain ⟨k, Bl, kl, Br, kr, hk, rfl, rfl, rfl, hI⟩ := hrel
    have HI := Lib.hid hI
    by_cases hlt : k < ps.length
    · obtain ⟨b, off, x, y, rfl, hx, hc0, hc1⟩ := a3 k hlt
      have hc0' := below_keep hI.1 hc0
      have hc1' := below_keep hI.1 hc1
      have hc1w := hc1
      have hsz := hI.1.size
      have hbl : b < w.heap.size := World.block_lt_of_cell? _ _ hc0
      have HX := Lib.hid (show (ps.take (k + 1)).map Prod.fst = (ps.take k).map Prod.fst ++ [x] ∧ (ps.take (k + 1)).map Prod.snd = (ps.take k).map Prod.snd ++ [y] from ⟨by rw [take_succ_of hx]; simp, by rw [take_succ_of hx]; simp⟩)
      have HLK := Lib.hid (show ((ps.take k).map Prod.fst).length = k ∧ ((ps.take k).map Prod.snd).length = k from ⟨by simp; omega, by simp; omega⟩)
      have i1 : (0 : Int) ≤ k := by omega
      have i2 : (k : Int) < ps.length := by omega
      have HC1 := Lib.hid hc1
      clear hc0 hc1 a3 hI hx hc1w
      go_wp2_with (at_builtin; first
        | (refine wpList_append_lies _ rfl _ _ 35 rfl w.heap.size 9 is _ 1 16 Try.underlying35 his hzs0 hzs1 hzs2 rfl (by decide) (.slice Bl k kl) k _ rfl (rows_below (HI.out.rows HLK.out.1.symm) (below_alloc _ _)) ⟨wr.heap.size, 0, none⟩ 1 1 [.string x] rfl rfl (World.news_of_block (cs := #[.string x]) (t := 9) (fr := (0, 0)) (heap_alloc_new wr _)) (by simp [Value.oneCell']) (by omega) (by unfold maxLen; omega) (by omega) (by simp; omega) (wr.heap.size + 1) (by simp) ?_; intro g cap w2 hown hgrow hat hlt2;
           have HE1 := Lib.hid (HI.out.snoc (x := x) HLK.out.1.symm hgrow hown hat); have p1 := below_keep HE1.out.1 HC1.out; have sz2 := HE1.out.1.size; clear hown hgrow hat hlt2 hc0' hc1')
        | (refine wpList_append_lies _ rfl _ _ 35 rfl w.heap.size 9 is _ 1 16 Try.underlying35 his hzs0 hzs1 hzs2 rfl (by decide) (.slice Br k kr) k _ rfl (rows_below (HE1.out.swap.rows HLK.out.2.symm) (below_alloc _ _)) ⟨w2.heap.size, 0, none⟩ 1 1 [.string y] rfl rfl (World.news_of_block (cs := #[.string y]) (t := 9) (fr := (0, 0)) (heap_alloc_new w2 _)) (by simp [Value.oneCell']) (by omega) (by unfold maxLen; omega) (by omega) (by simp; omega) (w2.heap.size + 1) (by simp) ?_; intro g3 cap3 w3 hown hgrow hat hlt2;
           have HE2 := Lib.hid ((HE1.out.swap.snoc (x := y) HLK.out.2.symm hgrow hown hat).swap); clear hown hgrow hat hlt2))
      go_roundw
      case rel => exact ⟨k + 1, _, _, _, _, by omega, by go_num, rfl, rfl, by rw [HX.out.1, HX.out.2]; exact HE2.out⟩
      case measure => simp [intOf]; omega
    · have ek : k = ps.length := by omega
      subst ek
      rw [List.take_length] at hI
      have hrl : RdS wr (.slice Bl ps.length kl) (ps.map Prod.fst) := by obtain ⟨_, bl, br, h2, h3, _⟩ := hI; exact h2.1.rd
      have hrr : RdS wr (.slice Br ps.length kr) (ps.map Prod.snd) := by obtain ⟨_, bl, br, h2, h3, _⟩ := hI; exact h3.1.rd
      have HH := Lib.hid (show _ ∧ _ ∧ _ from ⟨hrl, hrr, hI.1⟩)
      clear hI HI hrl hrr a3
      go_wp2
      go_ret2
      exact ⟨_, _, rfl, HH.out.1, HH.out.2.1, HH.out.2.2⟩

set_option maxRecDepth 100000 in
set_option maxHeartbeats 3200000 in
theorem l05Fools_any (p0 : Nat) (v1 : Value) (r : RData) (ps : List (ByteArray × ByteArray)) (w : World) (h : AtR w p0 r) (h1 : RdF w v1 ps) (ok : okR r = true) (fo : FoOk r ps) (hn : ps.length ≤ 20) :
    Calls Try.prog 96 #[.pointer (some ⟨p0, 0, none⟩), v1] w fun e w' => e = .returned (.bool (foolB r ps)) ∧ Qt w w' := by
  have HT := Lib.hid (fun (W : World) (hq : Qt w W) (p q : ByteArray × ByteArray) (hp : p ∈ ps) (hq2 : q ∈ ps) => l05Takes_any p0 r (p.1 ++ q.2) W (h.below hq.below) ok (okWord_parts (fo.word hp hq2)).2 (by have := (okWord_parts (fo.word hp hq2)).1; unfold maxLen; omega))
  have HSZ := Lib.hid (fun p (hp : p ∈ ps) q (hq : q ∈ ps) => (fo p hp q hq).2.2)
  obtain ⟨A1, k1, rfl, a1, a2, a3⟩ := RdF.open h1
  unfold maxLen at a2
  clear h h1 ok fo
  go_enter Try.func96, Try.ntmps96
  go_wp2
  go_loopw [5] (fun i wr => ∃ k : Nat, k ≤ ps.length ∧ i = .int .i64 k ∧ Qt w wr ∧ (List.range k).all (fun i => goesB r (ps.getD i (⟨#[]⟩, ⟨#[]⟩)) (ps.take i)) = true) (fun i _ => ps.length - (intOf i).toNat)
  case atStart => exact ⟨0, Nat.zero_le _, rfl, Qt.refl _, by simp⟩
  case round =>
    obtain ⟨k, hk, rfl, hb, hp⟩ := hrel
    have HP := Lib.hid hp; clear hp
    have HQ := Lib.hid hb
    by_cases hlt : k < ps.length
    · obtain ⟨b, off, x, y, rfl, hx, hc0, hc1⟩ := a3 k hlt
      have hc0' := (hb.cell _).trans hc0
      have hc1' := (hb.cell _).trans hc1
      have hmx := List.mem_of_getElem? hx
      have hs60 : x.size + y.size ≤ 60 := HSZ.out (x, y) hmx (x, y) hmx
      have hsum : (x ++ y).size = x.size + y.size := ByteArray.size_append
      have HX := Lib.hid hx
      have HC := Lib.hid (fun m => HT.out (wr.drewN m) (hb.drewN m) (x, y) (x, y) hmx hmx)
      simp only at HC
      have i1 : (0 : Int) ≤ k := by omega
      have i2 : (k : Int) < ps.length := by omega
      obtain ⟨z, hz⟩ : ∃ z, takeB r (x ++ y) = z := ⟨_, rfl⟩
      rw [hz] at HC
      have HZ := Lib.hid hz
      clear hc0 hc1 hb hz hx
      cases z
      · have HE := Lib.hid (show foolB r ps = false from fool_not HX.out (by simp only [goesB, HZ.out, Bool.false_and]))
        clear a3 hmx
        go_wp2_with fail
        go_quiet ((go_at_call 106; exact Calls.quiet_of (HC.out _)))
        go_wp2
        go_ret
        exact ⟨ret_bool HE.out.symm, HQ.out.drewN _⟩
      · have HMX := Lib.hid hmx
        clear hmx
        go_wp2_with fail
        go_quiet ((go_at_call 106; exact Calls.quiet_of (HC.out _)))
        go_wp2
        clear hc0' hc1' HC hsum
        obtain ⟨wo, hwo, hqo⟩ : ∃ wo, wo = wr ∧ Qt w wo := ⟨wr, rfl, HQ.out⟩
        subst hwo
        go_loopw [6] (fun i wr => ∃ k2 : Nat, k2 ≤ k ∧ i = .int .i64 k2 ∧ Qt w wr ∧ ((ps.take k).take k2).any (crossB r (x, y)) = false) (fun i _ => k - (intOf i).toNat)
        case atStart => exact ⟨0, Nat.zero_le _, rfl, HQ.out.drewN _, by simp⟩
        case round =>
          obtain ⟨k2, hk2, rfl, hb, hp⟩ := hrel
          have HP2 := Lib.hid hp; clear hp
          have HQ2 := Lib.hid hb
          by_cases hlt2 : k2 < k
          · obtain ⟨b', off', qx, qy, hA, hq, hd0, hd1⟩ := a3 k2 (by omega)
            cases hA
            obtain ⟨b2, off2, x', y', hA, hx', he0, he1⟩ := a3 k hlt
            cases hA
            obtain ⟨e1, e2⟩ : x = x' ∧ y = y' := by have := Option.some.inj (HX.out.symm.trans hx'); simpa using this
            subst e1; subst e2
            have hd0' := (hb.cell _).trans hd0
            have hd1' := (hb.cell _).trans hd1
            have he0' := (hb.cell _).trans he0
            have he1' := (hb.cell _).trans he1
            have hmq := List.mem_of_getElem? hq
            have hg : (ps.take k)[k2]? = some (qx, qy) := by rw [List.getElem?_take_of_lt hlt2]; exact hq
            have HGQ := Lib.hid hg
            have s1 : x.size + qy.size ≤ 60 := HSZ.out (x, y) HMX.out (qx, qy) hmq
            have s2 : qx.size + y.size ≤ 60 := HSZ.out (qx, qy) hmq (x, y) HMX.out
            have hsum1 : (x ++ qy).size = x.size + qy.size := ByteArray.size_append
            have hsum2 : (qx ++ y).size = qx.size + y.size := ByteArray.size_append
            have HC1 := Lib.hid (fun W (hq : Qt w W) => HT.out W hq (x, y) (qx, qy) HMX.out hmq)
            have HC2 := Lib.hid (fun W (hq : Qt w W) => HT.out W hq (qx, qy) (x, y) hmq HMX.out)
            simp only at HC1 HC2
            have j1 : (0 : Int) ≤ k2 := by omega
            have j2 : (k2 : Int) < ps.length := by omega
            have j3 : (k2 : Int) < k := by omega
            obtain ⟨z1, hz1⟩ : ∃ z, takeB r (x ++ qy) = z := ⟨_, rfl⟩
            obtain ⟨z2, hz2⟩ : ∃ z, takeB r (qx ++ y) = z := ⟨_, rfl⟩
            rw [hz1] at HC1
            rw [hz2] at HC2
            have HCR := Lib.hid (show crossB r (x, y) (qx, qy) = (z1 && z2) by simp only [crossB, hz1, hz2])
            clear hd0 hd1 he0 he1 hb hq hx' hmq hg hz1 hz2 a3
            cases z1
            · have HC1' := Lib.hid (fun m => HC1.out (wr.drewN m) (HQ2.out.drewN m))
              go_wp2_with fail
              go_quiet ((go_at_call 106; exact Calls.quiet_of (HC1'.out _)))
              go_wp2
              go_roundw
              case rel => exact ⟨k2 + 1, by omega, by go_num, HQ2.out.drewN _, any_take_succ' HP2.out HGQ.out (by rw [HCR.out]; rfl)⟩
              case measure => simp [intOf]; omega
            · have HC1' := Lib.hid (fun m => HC1.out (wr.drewN m) (HQ2.out.drewN m))
              have HC2' := Lib.hid (fun m => HC2.out (wr.drewN m) (HQ2.out.drewN m))
              go_wp2_with fail
              go_quiet ((go_at_call 106; first | (with_reducible exact Calls.quiet_of (HC1'.out _)) | (with_reducible exact Calls.quiet_of (HC2'.out _))))
              cases z2
              · go_wp2
                go_roundw
                case rel => exact ⟨k2 + 1, by omega, by go_num, HQ2.out.drewN _, any_take_succ' HP2.out HGQ.out (by rw [HCR.out]; rfl)⟩
                case measure => simp [intOf]; omega
              · have HE := Lib.hid (show foolB r ps = false from fool_not HX.out (by simp only [goesB]; rw [any_yes' HGQ.out (by rw [HCR.out]; rfl)]; simp))
                go_wp2
                go_ret
                exact ⟨ret_bool HE.out.symm, HQ2.out.drewN _⟩
          · have HG := Lib.hid (show goesB r (x, y) (ps.take k) = true by
              have h3 := HP2.out
              rw [List.take_of_length_le (by rw [List.length_take]; omega)] at h3
              simp only [goesB, HZ.out, h3]; rfl)
            clear hb
            go_wp2
            go_roundw
            case rel => exact ⟨k + 1, by omega, by go_num, HQ2.out, fool_range HP.out HX.out HG.out⟩
            case measure => simp [intOf]; omega
    · have HE := Lib.hid (show foolB r ps = true by rw [foolB, show ps.length = k by omega, HP.out])
      clear hb a3
      go_wp2
      go_ret
      exact ⟨ret_bool HE.out.symm, HQ.out⟩

set_option maxRecDepth 100000 in
set_option maxHeartbeats 1600000 in
theorem specIsFooling_any (v v1 : Value) (r : RData) (ps : List (ByteArray × ByteArray)) (w : World) (h : RdR w v r) (h1 : RdF w v1 ps) (s1 : FSmall ps) :
    Calls Try.prog 49 #[v, v1] w fun e w' => e = .returned (.tuple #[.bool (foolRes r ps).1, .int .i64 (foolRes r ps).2]) ∧ Below w.heap.size w w' := by
  obtain ⟨a, n, rfl, hA⟩ := atR_box h 29
  have HB0 := Lib.hid (below_alloc w (.cells #[.int .i64 r.L, .int .i64 r.S, a, n] 29))
  have HA := Lib.hid hA
  have HKF := Lib.hid (fun W (hb : Below w.heap.size w W) => keepsF _ _ _ _ h1 hb)
  have HP := Lib.hid (l05Pairs_rd v1 ps _ (HKF.out _ HB0.out) s1)
  have HSM := Lib.hid (show _ ∧ _ from ⟨small_fst s1, small_snd s1⟩)
  obtain ⟨A1, k1, rfl⟩ := h1.shape
  clear h h1 s1 hA
  go_enter Try.func49, Try.ntmps49
  go_wp2_with fail
  refine HP.out.mono ?_
  generalize w.alloc (.cells #[.int .i64 r.L, .int .i64 r.S, a, n] 29) = w0 at *
  rintro e w1 ⟨ul, ur, rfl, hl, hr, hb⟩
  have HJ := Lib.hid (l05Rows_any w.heap.size ul ur r (ps.map Prod.fst) (ps.map Prod.snd) w1 (HA.out.below hb) hl hr HSM.out.1 HSM.out.2)
  have HB1 := Lib.hid (below_step HB0.out hb)
  have HA1 := Lib.hid (HA.out.below hb)
  obtain ⟨Al, kl, rfl⟩ := rdS_shape hl
  obtain ⟨Ar, kr, rfl⟩ := rdS_shape hr
  simp only [List.length_map] at HJ
  clear hl hr hb HP
  go_wp2_with fail
  refine HJ.out.mono ?_
  rintro e w2 ⟨rfl, hb⟩
  have HB2 := Lib.hid (below_step HB1.out hb)
  have HA2 := Lib.hid (HA1.out.below hb)
  clear hb HJ
  by_cases hc : rowsCode r (ps.map Prod.fst) (ps.map Prod.snd) = 0
  · have HE := Lib.hid (show foolRes r ps = (foolB r ps, 0) by rw [foolRes, if_pos hc])
    obtain ⟨ok, fo, hn⟩ := fool_ok hc
    have HF := Lib.hid (l05Fools_any w.heap.size _ r ps w2 HA2.out (HKF.out w2 HB2.out) ok fo hn)
    rw [hc]
    clear hc ok fo
    go_wp2_with (go_at_call 96; refine HF.out.mono ?_; rintro e w3 ⟨rfl, hq⟩; have HB3 := Lib.hid (below_step HB2.out hq.below); clear hq)
    go_ret2
    exact ⟨ret_bi (by rw [HE.out]) (by rw [HE.out]), HB3.out⟩
  · have HE := Lib.hid (show foolRes r ps = (false, rowsCode r (ps.map Prod.fst) (ps.map Prod.snd)) by rw [foolRes, if_neg hc])
    have hne : (rowsCode r (ps.map Prod.fst) (ps.map Prod.snd) != 0) = true := by simpa using hc
    clear hc
    generalize rowsCode r (ps.map Prod.fst) (ps.map Prod.snd) = cd at *
    go_wp2
    go_ret2
    exact ⟨ret_bi (by rw [HE.out]) (by rw [HE.out]), HB2.out⟩
end Go.Proofs.Ytjojmlaipcbmkaa
