/-
  Two lists that grow together, of moves and of texts; the model's passes through a word.
-/
import Derived.Test.YtahgekjpnmmooaaBxWr
import Derived.Test.YtahgekjpnmmooaaT6
import Derived.Laws.BytesArg
namespace Go.Proofs.Ytahgekjpnmmooaa
open Go.RowKit

structure PsI (w : World) (pe po : Nat) (e o : Int × Int) (vm vs : Value) (ms : List (Int × Int)) (xs : List ByteArray) (wr : World) : Prop where
  bel : Below w.heap.size w wr
  re : Row wr pe 55 [.int .i64 e.1, .int .i64 e.2]
  ro : Row wr po 55 [.int .i64 o.1, .int .i64 o.2]
  m : OwP 55 wr w.heap.size vm ms (blks vm)
  s : OwV strs 9 wr w.heap.size vs xs (blks vs)
  ne : pe ∉ blks vm ∧ po ∉ blks vm ∧ pe ∉ blks vs ∧ po ∉ blks vs ∧ (∀ b ∈ blks vm, b ∉ blks vs)
theorem PsI.below {w : World} {pe po : Nat} {e o : Int × Int} {vm vs : Value} {ms : List (Int × Int)} {xs : List ByteArray} {wr w' : World} (h : PsI w pe po e o vm vs ms xs wr) (hb : Below wr.heap.size wr w') : PsI w pe po e o vm vs ms xs w' :=
  ⟨below_step h.bel hb, h.re.below hb h.re.lt, h.ro.below hb h.ro.lt, (goodP _).below h.m hb, (goodV strs _).below h.s hb, h.ne⟩
theorem ne_grown {v : Value} {g n cap p N : Nat} (hp : p ∉ blks v) (hl : p < N) (hat : v.ownBlock = some g ∨ g = N) : p ∉ blks (.slice (some ⟨g, 0, none⟩) n cap) := by
  rw [blks_some, List.mem_singleton]
  rintro rfl
  rcases hat with h | h
  · exact hp (mem_blks.2 h)
  · omega
theorem PsI.growM {w : World} {pe po : Nat} {e o : Int × Int} {Bm : Option Addr} {cm km : Nat} {vs : Value} {ms : List (Int × Int)} {xs : List ByteArray} {wr : World} (h : PsI w pe po e o (.slice Bm cm km) vs ms xs wr) (hl : ms.length = cm) (ob : Obj) :
    (wr.alloc ob).ownsRow w.heap.size 55 2 (.slice Bm cm km) cm (pcells ms) ∧ ∀ (w5 : World) (g cap n : Nat) (ns : List (Int × Int)), n = cm + ns.length → (wr.alloc ob).grownBy w5 (Value.slice Bm cm km).ownBlock → w5.ownsRow w.heap.size 55 2 (.slice (some ⟨g, 0, none⟩) n cap) n (pcells ms ++ pcells ns) → ((Value.slice Bm cm km).ownBlock = some g ∨ g = wr.heap.size + 1) →
      PsI w pe po e o (.slice (some ⟨g, 0, none⟩) n cap) vs (ms ++ ns) xs w5 := by
  have hI := h.below (below_alloc wr ob)
  have hs5 : ∀ b ∈ blks vs, b < wr.heap.size := fun b hb => ((goodV strs _).lt h.s hb).2
  refine ⟨by have := hI.m.1; rwa [hl] at this, fun w5 g cap n ns hn hg hown hat => ?_⟩
  have hlt : ∀ b ∈ blks (.slice Bm cm km), w.heap.size ≤ b := fun b hb => ((goodP _).lt h.m hb).1
  have l1 := h.re.lt
  have l2 := h.ro.lt
  refine ⟨hI.bel.trans (grown_below hg hI.bel.size hlt), grown_row hg hI.re h.ne.1, grown_row hg hI.ro h.ne.2.1, ?_, grown_keep (goodV strs _) hg hI.s (fun c hc hm => h.ne.2.2.2.2 c hm hc), ?_⟩
  · rw [blks_some]; exact OwP.snoc hown (show pcells ms ++ pcells ns = pcells (ms ++ ns) by simp [pcells]) (by simp [hl, hn]) rfl
  · refine ⟨ne_grown h.ne.1 (by omega) hat, ne_grown h.ne.2.1 (by omega) hat, h.ne.2.2.1, h.ne.2.2.2.1, fun b hb hm => ?_⟩
    have := hs5 b hm
    exact ne_grown (n := n) (cap := cap) (p := b) (v := .slice Bm cm km) (fun hx => h.ne.2.2.2.2 b hx hm) (by omega) hat hb
theorem PsI.growS {w : World} {pe po : Nat} {e o : Int × Int} {Bs : Option Addr} {cs ks : Nat} {vm : Value} {ms : List (Int × Int)} {xs : List ByteArray} {wr W : World} (h : PsI w pe po e o vm (.slice Bs cs ks) ms xs wr) (hl : xs.length = cs) (hW : Below wr.heap.size wr W) :
    W.ownsRow w.heap.size 9 1 (.slice Bs cs ks) cs (strs xs) ∧ ∀ (w5 : World) (g cap n : Nat) (ns : List ByteArray), n = cs + ns.length → W.grownBy w5 (Value.slice Bs cs ks).ownBlock → w5.ownsRow w.heap.size 9 1 (.slice (some ⟨g, 0, none⟩) n cap) n (strs xs ++ strs ns) → ((Value.slice Bs cs ks).ownBlock = some g ∨ g = W.heap.size) →
      PsI w pe po e o vm (.slice (some ⟨g, 0, none⟩) n cap) ms (xs ++ ns) w5 := by
  have hI := h.below hW
  have hs5 : ∀ b ∈ blks vm, b < W.heap.size := fun b hb => ((goodP _).lt hI.m hb).2
  refine ⟨by have := hI.s.1; unfold Own at this; rwa [strs_len, hl] at this, fun w5 g cap n ns hn hg hown hat => ?_⟩
  have hlt : ∀ b ∈ blks (.slice Bs cs ks), w.heap.size ≤ b := fun b hb => ((goodV strs _).lt h.s hb).1
  have l1 := hI.re.lt
  have l2 := hI.ro.lt
  refine ⟨hI.bel.trans (grown_below hg hI.bel.size hlt), grown_row hg hI.re h.ne.2.2.1, grown_row hg hI.ro h.ne.2.2.2.1, grown_keep (goodP _) hg hI.m (fun c hc => h.ne.2.2.2.2 c hc), ?_, ?_⟩
  · rw [blks_some]; exact OwV.snoc hown (show strs xs ++ strs ns = strs (xs ++ ns) by simp [strs]) (by simp [strs, hl, hn]) rfl
  · exact ⟨h.ne.1, h.ne.2.1, ne_grown h.ne.2.2.1 (by omega) hat, ne_grown h.ne.2.2.2.1 (by omega) hat, fun b hb => ne_grown (h.ne.2.2.2.2 b hb) (hs5 b hb) hat⟩

/-- The letter a as a text. -/
def letterT (a : Nat) : ByteArray := strOfNums [97 + (a : Int)]
abbrev noT : ByteArray := ByteArray.mk #[]
def passO (L : Nat) (copies : Bool) : List ByteArray := (List.range L).map (fun a => if copies then letterT a else noT)
def passM (L : Nat) (s dir : Int) : List (Int × Int) := List.replicate L (s, dir)
theorem passO_succ (L : Nat) (c : Bool) : passO (L + 1) c = passO L c ++ [if c then letterT L else noT] := by simp [passO, List.range_succ]
theorem passM_succ (L : Nat) (s d : Int) : passM (L + 1) s d = passM L s d ++ [(s, d)] := by simp [passM, List.replicate_succ']
theorem passO_len (L : Nat) (c : Bool) : (passO L c).length = L := by simp [passO]
theorem passM_len (L : Nat) (s d : Int) : (passM L s d).length = L := by simp [passM]
def passRow (L : Nat) (s dir : Int) (e : Int × Int) : List (Int × Int) := passM L s dir ++ (if dir = 1 then [(s, dir), e] else [e, (s, dir)])
def passOut (L : Nat) (c : Bool) : List ByteArray := passO L c ++ [noT, noT]
theorem infoMs7 : (Try.prog.info? 55).map (fun i => (i.zero, i.size, i.bytes)) = some (some (.agg #[.int .i64 0, .int .i64 0]), 2, 16) := by kernel_rfl

set_option maxRecDepth 100000 in
set_option maxHeartbeats 6400000 in
theorem l07Pass_own (L : Nat) (s dir : Int) (c : Bool) (e : Int × Int) (w : World) (h2 : L ≤ 3) :
    Calls Try.prog 25 #[.int .i64 (L : Int), .int .i64 s, .int .i64 dir, .bool c, .agg #[.int .i64 e.1, .int .i64 e.2]] w fun z w' =>
      ∃ u v, z = .returned (.tuple #[u, v]) ∧ OwP 55 w' w.heap.size u (passRow L s dir e) (blks u) ∧ OwV strs 9 w' w.heap.size v (passOut L c) (blks v) ∧ (∀ b ∈ blks u, b ∉ blks v) ∧ Below w.heap.size w w' := by
  obtain ⟨x, y⟩ := e
  obtain ⟨im, him, hzm0, hzm1, hzm2⟩ := info_parts infoMs7
  obtain ⟨is, his, hzs0, hzs1, hzs2⟩ := info_parts infoStr
  have hI0 : PsI w w.heap.size (w.heap.size + 3) (x, y) (s, dir) (.slice (some ⟨w.heap.size + 1, 0, none⟩) 0 0) (.slice (some ⟨w.heap.size + 2, 0, none⟩) 0 0) [] [] ((((w.alloc (.cells #[.int .i64 x, .int .i64 y] 55)).alloc (.cells #[] 55)).alloc (.cells #[] 9)).alloc (.cells #[.int .i64 s, .int .i64 dir] 55)) := by
    have b1 := below_alloc w (.cells #[.int .i64 x, .int .i64 y] 55)
    have b2 := below_alloc (w.alloc (.cells #[.int .i64 x, .int .i64 y] 55)) (.cells #[] 55)
    have b3 := below_alloc ((w.alloc (.cells #[.int .i64 x, .int .i64 y] 55)).alloc (.cells #[] 55)) (.cells #[] 9)
    have b4 := below_alloc (((w.alloc (.cells #[.int .i64 x, .int .i64 y] 55)).alloc (.cells #[] 55)).alloc (.cells #[] 9)) (.cells #[.int .i64 s, .int .i64 dir] 55)
    have hm := movesI0 (w.alloc (.cells #[.int .i64 x, .int .i64 y] 55))
    have hs : OwV strs 9 (((w.alloc (.cells #[.int .i64 x, .int .i64 y] 55)).alloc (.cells #[] 55)).alloc (.cells #[] 9)) ((w.alloc (.cells #[.int .i64 x, .int .i64 y] 55)).alloc (.cells #[] 55)).heap.size (.slice (some ⟨((w.alloc (.cells #[.int .i64 x, .int .i64 y] 55)).alloc (.cells #[] 55)).heap.size, 0, none⟩) 0 0) [] [((w.alloc (.cells #[.int .i64 x, .int .i64 y] 55)).alloc (.cells #[] 55)).heap.size] :=
      ⟨World.ownsRow_lit (base := ((w.alloc (.cells #[.int .i64 x, .int .i64 y] 55)).alloc (.cells #[] 55)).heap.size) (e := 9) (size := 1) _ #[] 0 (Nat.le_refl _) (by unfold maxLen; omega) rfl, rfl⟩
    have e1 : (w.alloc (.cells #[.int .i64 x, .int .i64 y] 55)).heap.size = w.heap.size + 1 := by simp
    have e2 : ((w.alloc (.cells #[.int .i64 x, .int .i64 y] 55)).alloc (.cells #[] 55)).heap.size = w.heap.size + 2 := by simp
    have e3 : (((w.alloc (.cells #[.int .i64 x, .int .i64 y] 55)).alloc (.cells #[] 55)).alloc (.cells #[] 9)).heap.size = w.heap.size + 3 := by simp
    have hr := Row.new (((w.alloc (.cells #[.int .i64 x, .int .i64 y] 55)).alloc (.cells #[] 55)).alloc (.cells #[] 9)) [.int .i64 s, .int .i64 dir] 55
    rw [e3] at hr
    have hm2 := (goodP 55).mono ((goodP 55).below ((goodP 55).below hm b3) b4) (show w.heap.size ≤ _ by rw [e1]; omega)
    have hs2 := (goodV strs 9).mono ((goodV strs 9).below hs b4) (show w.heap.size ≤ _ by rw [e2]; omega)
    rw [e1] at hm2
    rw [e2] at hs2
    refine ⟨below_step (below_step (below_step b1 b2) b3) b4, ((((Row.new w _ _).alloc _).alloc _).alloc _), hr, by rw [blks_some]; exact hm2, by rw [blks_some]; exact hs2, ?_⟩
    simp only [blks_some, List.mem_singleton]
    refine ⟨by omega, by omega, by omega, by omega, fun b hb hm => by omega⟩
  have HI := Lib.hid hI0
  clear hI0
  go_enter Try.func25, Try.ntmps25
  go_wp2
  generalize (((w.alloc (.cells #[.int .i64 x, .int .i64 y] 55)).alloc (.cells #[] 55)).alloc (.cells #[] 9)).alloc (.cells #[.int .i64 s, .int .i64 dir] 55) = W0 at *
  go_loopw [12, 13, 15] (fun vm vs i wr => ∃ (a : Nat) (Bm Bs : Option Addr) (km ks : Nat), a ≤ L ∧ i = .int .i64 a ∧ vm = .slice Bm a km ∧ vs = .slice Bs a ks ∧ PsI w w.heap.size (w.heap.size + 3) (x, y) (s, dir) (.slice Bm a km) (.slice Bs a ks) (passM a s dir) (passO a c) wr) (fun _ _ i _ => L - (intOf i).toNat)
  case atStart => exact ⟨0, _, _, _, _, Nat.zero_le _, rfl, rfl, rfl, HI.out⟩
  case round =>
    clear HI
    obtain ⟨a, Bm, Bs, km, ks, ha, rfl, rfl, rfl, hI⟩ := hrel
    have HI := Lib.hid hI
    obtain ⟨⟨o0, o1⟩, -⟩ := hI.ro.two
    obtain ⟨⟨p0, p1⟩, -⟩ := hI.re.two
    simp only at o0 o1 p0 p1
    have i1 : (0 : Int) ≤ a := by omega
    by_cases hlt : a < L
    · have i2 : (a : Int) < L := by omega
      have HGM := Lib.hid (hI.growM (passM_len a s dir) (.cells #[.int .i64 s, .int .i64 dir] 55))
      have hs := hI.bel.size
      have i3 : (a : Int) ≤ 2 := by omega
      clear hI p0 p1
      cases c
      · go_wp2_with (at_builtin; first | (refine wpList_append_lies _ rfl _ _ 51 rfl w.heap.size 55 im _ 2 16 Try.underlying51 him hzm0 hzm1 hzm2 rfl (by decide) (.slice Bm a km) a _ rfl HGM.out.1 ⟨wr.heap.size, 0, none⟩ 1 1 [.int .i64 s, .int .i64 dir] rfl rfl (World.news_of_block (cs := #[.int .i64 s, .int .i64 dir]) (t := 55) (fr := (0, 0)) (heap_alloc_new wr _)) (by simp [Value.oneCell']) (by omega) (by unfold maxLen; omega) (by omega) (by simp; omega) (wr.heap.size + 1) (by simp) ?_; intro g5 cap5 w5 hown5 hgrow5 hat5 hlt5; have HE := Lib.hid (HGM.out.2 w5 g5 cap5 (a + 1) [(s, dir)] (by simp) hgrow5 (by simpa [pcells, pcell] using hown5) hat5); have hs5 := HE.out.bel.size; clear hown5 hgrow5 hat5 hlt5) | (refine wpList_append_lies _ rfl _ _ 44 rfl w.heap.size 9 is _ 1 16 Try.underlying44 his hzs0 hzs1 hzs2 rfl (by decide) (.slice Bs a ks) a _ rfl (HE.out.growS (passO_len a false) (below_alloc w5 (.cells #[.string noT] 9))).1 ⟨w5.heap.size, 0, none⟩ 1 1 [.string noT] rfl rfl (World.news_of_block (cs := #[.string noT]) (t := 9) (fr := (0, 0)) (heap_alloc_new w5 _)) (by simp [Value.oneCell']) (by omega) (by unfold maxLen; omega) (by omega) (by simp; omega) (w5.heap.size + 1) (by simp) ?_; intro g6 cap6 w6 hown6 hgrow6 hat6 hlt6; have HE2 := Lib.hid ((HE.out.growS (passO_len a false) (below_alloc w5 (.cells #[.string noT] 9))).2 w6 g6 cap6 (a + 1) [noT] (by simp) hgrow6 (by simpa [strs] using hown6) (hat6.imp id (fun h => h.trans (by simp)))); clear hown6 hgrow6 hat6 hlt6))
        go_roundw
        case rel => exact ⟨a + 1, _, _, _, _, by omega, by go_num, rfl, rfl, by rw [passM_succ, passO_succ]; exact HE2.out⟩
        case measure => simp [intOf]; omega
      · go_wp2_with (at_builtin; first | (refine wpList_append_lies _ rfl _ _ 51 rfl w.heap.size 55 im _ 2 16 Try.underlying51 him hzm0 hzm1 hzm2 rfl (by decide) (.slice Bm a km) a _ rfl HGM.out.1 ⟨wr.heap.size, 0, none⟩ 1 1 [.int .i64 s, .int .i64 dir] rfl rfl (World.news_of_block (cs := #[.int .i64 s, .int .i64 dir]) (t := 55) (fr := (0, 0)) (heap_alloc_new wr _)) (by simp [Value.oneCell']) (by omega) (by unfold maxLen; omega) (by omega) (by simp; omega) (wr.heap.size + 1) (by simp) ?_; intro g5 cap5 w5 hown5 hgrow5 hat5 hlt5; have HE := Lib.hid (HGM.out.2 w5 g5 cap5 (a + 1) [(s, dir)] (by simp) hgrow5 (by simpa [pcells, pcell] using hown5) hat5); have hs5 := HE.out.bel.size; clear hown5 hgrow5 hat5 hlt5))
        have hcv := run_convert_bytes_arg (P := Try.prog) (w5.alloc (.cells #[.int .u8 (97 + (a : Int))] 5)) 90 5 Try.underlying90 Try.underlying5 w5.heap.size 0 1 1 [97 + (a : Int)] rfl (fun i hi => by
          obtain rfl : i = 0 := by omega
          simp [(Row.new w5 [.int .u8 (97 + (a : Int))] 5).cell 0]) 9 Try.underlying9
        rw [show strOfNums [97 + (a : Int)] = letterT a from rfl] at hcv
        obtain ⟨lt, hlt2⟩ : ∃ lt, letterT a = lt := ⟨_, rfl⟩
        rw [hlt2] at hcv
        have HLT := Lib.hid hlt2
        clear hlt2
        have hsz6 : (w5.alloc (.cells #[.int .u8 (97 + (a : Int))] 5)).heap.size = w5.heap.size + 1 := by simp
        go_wp2_with fail
        rw [hcv]
        clear hcv
        go_wp2_with (at_builtin; first | (refine wpList_append_lies _ rfl _ _ 44 rfl w.heap.size 9 is _ 1 16 Try.underlying44 his hzs0 hzs1 hzs2 rfl (by decide) (.slice Bs a ks) a _ rfl (HE.out.growS (passO_len a true) (below_step (below_alloc w5 (.cells #[.int .u8 (97 + (a : Int))] 5)) (below_alloc _ (.cells #[.string lt] 9)))).1 ⟨w5.heap.size + 1, 0, none⟩ 1 1 [.string lt] rfl rfl (World.news_of_block (cs := #[.string lt]) (t := 9) (fr := (0, 0)) (by simpa using heap_alloc_new (w5.alloc (.cells #[.int .u8 (97 + (a : Int))] 5)) (.cells #[.string lt] 9))) (by simp [Value.oneCell']) (by omega) (by unfold maxLen; omega) (by omega) (by simp; omega) (w5.heap.size + 1 + 1) (by simp) ?_; intro g6 cap6 w6 hown6 hgrow6 hat6 hlt6; have HE2 := Lib.hid ((HE.out.growS (passO_len a true) (below_step (below_alloc w5 (.cells #[.int .u8 (97 + (a : Int))] 5)) (below_alloc _ (.cells #[.string lt] 9)))).2 w6 g6 cap6 (a + 1) [lt] (by simp) hgrow6 (by simpa [strs] using hown6) (hat6.imp id (fun h => h.trans (by simp)))); clear hown6 hgrow6 hat6 hlt6))
        go_roundw
        case rel => exact ⟨a + 1, _, _, _, _, by omega, by go_num, rfl, rfl, by rw [passM_succ, passO_succ]; have := HE2.out; rw [← HLT.out] at this; exact this⟩
        case measure => simp [intOf]; omega
    · obtain rfl : a = L := by omega
      have hs := hI.bel.size
      have i2 : ¬ (a : Int) < a := by omega
      by_cases hd : dir = 1
      · subst hd
        have hd1 : ((1 : Int) == 1) = true := by simp
        have HGM := Lib.hid (hI.growM (passM_len a s 1) (.cells #[.int .i64 s, .int .i64 1, .int .i64 x, .int .i64 y] 55))
        clear hI
        go_wp2_with (at_builtin; first | (refine wpList_append_lies _ rfl _ _ 51 rfl w.heap.size 55 im _ 2 16 Try.underlying51 him hzm0 hzm1 hzm2 rfl (by decide) (.slice Bm a km) a _ rfl HGM.out.1 ⟨wr.heap.size, 0, none⟩ 2 2 [.int .i64 s, .int .i64 1, .int .i64 x, .int .i64 y] rfl rfl (World.news_of_block (cs := #[.int .i64 s, .int .i64 1, .int .i64 x, .int .i64 y]) (t := 55) (fr := (0, 0)) (heap_alloc_new wr _)) (by simp [Value.oneCell']) (by omega) (by unfold maxLen; omega) (by omega) (by simp; omega) (wr.heap.size + 1) (by simp) ?_; intro g5 cap5 w5 hown5 hgrow5 hat5 hlt5; have HE := Lib.hid (HGM.out.2 w5 g5 cap5 (a + 2) [(s, 1), (x, y)] (by simp) hgrow5 (by simpa [pcells, pcell] using hown5) hat5); have hs5 := HE.out.bel.size; clear hown5 hgrow5 hat5 hlt5) | (refine wpList_append_lies _ rfl _ _ 44 rfl w.heap.size 9 is _ 1 16 Try.underlying44 his hzs0 hzs1 hzs2 rfl (by decide) (.slice Bs a ks) a _ rfl (HE.out.growS (passO_len a c) (below_alloc w5 (.cells #[.string noT, .string noT] 9))).1 ⟨w5.heap.size, 0, none⟩ 2 2 [.string noT, .string noT] rfl rfl (World.news_of_block (cs := #[.string noT, .string noT]) (t := 9) (fr := (0, 0)) (heap_alloc_new w5 _)) (by simp [Value.oneCell']) (by omega) (by unfold maxLen; omega) (by omega) (by simp; omega) (w5.heap.size + 1) (by simp) ?_; intro g6 cap6 w6 hown6 hgrow6 hat6 hlt6; have HE2 := Lib.hid ((HE.out.growS (passO_len a c) (below_alloc w5 (.cells #[.string noT, .string noT] 9))).2 w6 g6 cap6 (a + 2) [noT, noT] (by simp) hgrow6 (by simpa [strs] using hown6) (hat6.imp id (fun h => h.trans (by simp)))); clear hown6 hgrow6 hat6 hlt6))
        refine bodyPost_ret (v := .tuple #[.slice (some ⟨g5, 0, none⟩) (a + 2) cap5, .slice (some ⟨g6, 0, none⟩) (a + 2) cap6]) (by simp [results, Try.results25, go_sem]) rfl ?_
        exact ⟨_, _, rfl, HE2.out.m, HE2.out.s, HE2.out.ne.2.2.2.2, HE2.out.bel⟩
      · have hd1 : (dir == 1) = false := by simpa using hd
        have HGM := Lib.hid (hI.growM (passM_len a s dir) (.cells #[.int .i64 x, .int .i64 y, .int .i64 s, .int .i64 dir] 55))
        clear hI
        have HD := Lib.hid hd
        clear hd
        go_wp2_with (at_builtin; first | (refine wpList_append_lies _ rfl _ _ 51 rfl w.heap.size 55 im _ 2 16 Try.underlying51 him hzm0 hzm1 hzm2 rfl (by decide) (.slice Bm a km) a _ rfl HGM.out.1 ⟨wr.heap.size, 0, none⟩ 2 2 [.int .i64 x, .int .i64 y, .int .i64 s, .int .i64 dir] rfl rfl (World.news_of_block (cs := #[.int .i64 x, .int .i64 y, .int .i64 s, .int .i64 dir]) (t := 55) (fr := (0, 0)) (heap_alloc_new wr _)) (by simp [Value.oneCell']) (by omega) (by unfold maxLen; omega) (by omega) (by simp; omega) (wr.heap.size + 1) (by simp) ?_; intro g5 cap5 w5 hown5 hgrow5 hat5 hlt5; have HE := Lib.hid (HGM.out.2 w5 g5 cap5 (a + 2) [(x, y), (s, dir)] (by simp) hgrow5 (by simpa [pcells, pcell] using hown5) hat5); have hs5 := HE.out.bel.size; clear hown5 hgrow5 hat5 hlt5) | (refine wpList_append_lies _ rfl _ _ 44 rfl w.heap.size 9 is _ 1 16 Try.underlying44 his hzs0 hzs1 hzs2 rfl (by decide) (.slice Bs a ks) a _ rfl (HE.out.growS (passO_len a c) (below_alloc w5 (.cells #[.string noT, .string noT] 9))).1 ⟨w5.heap.size, 0, none⟩ 2 2 [.string noT, .string noT] rfl rfl (World.news_of_block (cs := #[.string noT, .string noT]) (t := 9) (fr := (0, 0)) (heap_alloc_new w5 _)) (by simp [Value.oneCell']) (by omega) (by unfold maxLen; omega) (by omega) (by simp; omega) (w5.heap.size + 1) (by simp) ?_; intro g6 cap6 w6 hown6 hgrow6 hat6 hlt6; have HE2 := Lib.hid ((HE.out.growS (passO_len a c) (below_alloc w5 (.cells #[.string noT, .string noT] 9))).2 w6 g6 cap6 (a + 2) [noT, noT] (by simp) hgrow6 (by simpa [strs] using hown6) (hat6.imp id (fun h => h.trans (by simp)))); clear hown6 hgrow6 hat6 hlt6))
        refine bodyPost_ret (v := .tuple #[.slice (some ⟨g5, 0, none⟩) (a + 2) cap5, .slice (some ⟨g6, 0, none⟩) (a + 2) cap6]) (by simp [results, Try.results25, go_sem]) rfl ?_
        exact ⟨_, _, rfl, by rw [passRow, if_neg HD.out]; exact HE2.out.m, HE2.out.s, HE2.out.ne.2.2.2.2, HE2.out.bel⟩
end Go.Proofs.Ytahgekjpnmmooaa
