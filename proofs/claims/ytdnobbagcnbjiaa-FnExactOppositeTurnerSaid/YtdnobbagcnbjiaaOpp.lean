/-
  The opposite reader: the program's, and the model's.
-/
import Derived.Test.YtdnobbagcnbjiaaZR
import Derived.Test.YtdnobbagcnbjiaaT8
import Derived.Test.YtdnobbagcnbjiaaCl
import Derived.Test.YtdnobbagcnbjiaaBR
import Derived.Deep.CutRange
import Derived.Deep.DrawnRows
import Derived.Deep.RegionLaw
namespace Go.Proofs.Ytdnobbagcnbjiaa
open Go.RowKit
attribute [local go_sem ↓] Go.wp_at_zero Go.wp_at_succ

structure OkR (r : RData) : Prop where
  l1 : 1 ≤ r.L
  l2 : r.L ≤ 3
  n1 : 1 ≤ (r.acc.length : Int)
  n2 : (r.acc.length : Int) ≤ 300
  s1 : 0 ≤ r.S
  s2 : r.S ≤ (r.acc.length : Int) - 1
  nl : r.next.length = r.acc.length
  len : ∀ (s : Nat) x, r.next[s]? = some x → (x.length : Int) = r.L
  dest : ∀ (s : Nat) x (k : Nat) t, r.next[s]? = some x → x[k]? = some t → 0 ≤ t ∧ t ≤ (r.acc.length : Int) - 1
theorem okR_out {r : RData} (h : okR r = true) : OkR r := by
  simp only [okR, Bool.and_eq_true, decide_eq_true_eq] at h
  obtain ⟨⟨a1, a2⟩, ⟨a3, a4⟩, ⟨a5, a6⟩, a7, a8⟩ := h
  have row : ∀ (s : Nat) x, r.next[s]? = some x → (x.length : Int) = r.L ∧ x.all (inB r.acc.length) = true := fun s x hx => by
    have := List.all_eq_true.1 a8 x (List.mem_of_getElem? hx)
    simpa only [okRow, Bool.and_eq_true, decide_eq_true_eq] using this
  exact ⟨a1, a2, a3, a4, a5, a6, by omega, fun s x hx => (row s x hx).1, fun s x k t hx ht => by
    have := List.all_eq_true.1 (row s x hx).2 t (List.mem_of_getElem? ht)
    exact of_decide_eq_true this⟩

def flip (l : List Bool) : List Bool := l.map (fun b => !b)
theorem flip_len (l : List Bool) : (flip l).length = l.length := by simp [flip]
def oppRes (r : RData) : RData × Int := if okR r then (⟨r.L, r.S, flip r.acc, r.next⟩, 0) else (⟨0, 0, [], []⟩, 1)
theorem opp_num (r : RData) (h : (cntR r : Int) ≤ 1048576) : (numR (oppRes r).1 : Int) ≤ 2305843009213693952 := by
  have := numR_le r
  unfold oppRes
  split
  · simp only [numR, cntR, flip_len] at *; omega
  · simp [numR, numL]

/-- What a call has made so far: its boxes, and a reader in one of them. -/
def MadeR (w : World) (po : Nat) (rb zb : List Value) (r : RData) (wr : World) : Prop :=
  Below w.heap.size w wr ∧ Row wr w.heap.size 27 rb ∧ Row wr (w.heap.size + 1) 27 zb ∧ w.heap.size + 2 ≤ po ∧ BoxR wr po po r
theorem MadeR.drew {w : World} {po : Nat} {rb zb : List Value} {r : RData} {wr : World} (h : MadeR w po rb zb r wr) : MadeR w po rb zb r wr.drew :=
  ⟨h.1.drew, h.2.1, h.2.2.1, h.2.2.2.1, h.2.2.2.2.drew⟩

set_option maxRecDepth 100000 in
set_option maxHeartbeats 3200000 in
theorem implOpp_any (v : Value) (r : RData) (w : World) (h : RdR w v r) :
    Calls Try.prog 12 #[v] w fun e w' => ∃ u bs, e = .returned (.tuple #[u, .int .i64 (oppRes r).2]) ∧ OwR w' w.heap.size u (oppRes r).1 bs ∧ Below w.heap.size w w' := by
  have hV := fun W (hb : Below w.heap.size w W) => ValidReader_any v r W (keepsR _ _ _ _ h hb)
  obtain ⟨ib, hib, hzb0, hzb1, hzb2⟩ := info_parts infoBool
  obtain ⟨isl, his, hzs0, hzs1, hzs2⟩ := info_parts infoIs
  obtain ⟨L, S, acc, next⟩ := r
  obtain ⟨va, vn, rfl, ha, hn⟩ := h
  obtain ⟨A, ca, rfl, a1, a2, a3⟩ := ha.open
  obtain ⟨B, cb, rfl, b1, b2, b3⟩ := RdL.open hn
  unfold maxLen at a2 b2
  simp only at *
  have HV := Lib.hid hV
  clear hV ha hn
  have hb0 := (below_alloc w (.cells #[.int .i64 L, .int .i64 S, .slice A acc.length ca, .slice B next.length cb] 27)).alloc (by simp) (.cells #[.int .i64 0, .int .i64 0, .slice none 0 0, .slice none 0 0] 27)
  have HB := Lib.hid hb0
  have HR := Lib.hid ((Row.new w [.int .i64 L, .int .i64 S, .slice A acc.length ca, .slice B next.length cb] 27).alloc (.cells #[.int .i64 0, .int .i64 0, .slice none 0 0, .slice none 0 0] 27))
  have hz := Row.new (w.alloc (.cells #[.int .i64 L, .int .i64 S, .slice A acc.length ca, .slice B next.length cb] 27)) [.int .i64 0, .int .i64 0, .slice none 0 0, .slice none 0 0] 27
  have HZ := Lib.hid (show Row _ (w.heap.size + 1) _ _ by simpa using hz)
  clear hz hb0
  by_cases hok : okR ⟨L, S, acc, next⟩ = true
  · obtain ⟨l1, l2, n1, n2, s1, s2, nl, hlen, hto⟩ := okR_out hok
    simp only at l1 l2 n1 n2 s1 s2 nl hlen hto
    have HL := Lib.hid hlen
    have HOK := Lib.hid hok
    have HNL := Lib.hid nl
    clear hlen hto nl
    go_enter Try.func12, Try.ntmps12
    go_wp2_with fail
    refine (HV.out _ HB.out).mono ?_
    generalize (w.alloc (.cells #[.int .i64 L, .int .i64 S, .slice A acc.length ca, .slice B next.length cb] 27)).alloc (.cells #[.int .i64 0, .int .i64 0, .slice none 0 0, .slice none 0 0] 27) = W0 at *
    rintro e w1 ⟨rfl, hb1⟩
    have HR1 := Lib.hid (HR.out.below hb1 HR.out.lt)
    have HZ1 := Lib.hid (HZ.out.below hb1 HZ.out.lt)
    have HB1 := Lib.hid (below_step HB.out hb1)
    have hsz : w.heap.size + 2 ≤ w1.heap.size := by have := HZ1.out.lt; omega
    have HSZ := Lib.hid hsz
    have lt1 : w.heap.size < w1.heap.size := by omega
    obtain ⟨⟨b0, b1', b2', b3'⟩, -⟩ := HR1.out.four
    clear hb1 hsz
    go_wp2
    clear hok
    go_loopw [19] (fun i wr => ∃ s : Nat, s ≤ next.length ∧ i = .int .i64 s ∧ MadeR w w1.heap.size [.int .i64 L, .int .i64 S, .slice A acc.length ca, .slice B next.length cb] [.int .i64 0, .int .i64 0, .slice none 0 0, .slice none 0 0] ⟨L, S, (flip acc).take s, next.take s⟩ wr) (fun i _ => next.length - (intOf i).toNat)
    case atStart => exact ⟨0, Nat.zero_le _, rfl, below_step HB1.out (below_alloc _ _), HR1.out.alloc _, HZ1.out.alloc _, HSZ.out, BoxR.start _ _ _⟩
    case round =>
      clear b0 b1' b2' b3'
      obtain ⟨s, hs, rfl, hI⟩ := hrel
      obtain ⟨hbw, hr, hz, hpo, va, vn, ba, bn, ho, hva, hvn, hnd, hpn⟩ := hI
      by_cases hlt : s < next.length
      · obtain ⟨b, off, u, x, rfl, hx, hc, hRx⟩ := b3 s hlt
        obtain ⟨bA, offA, z, rfl, hz0, hcA⟩ := a3 s (by have := HNL.out; omega)
        have gc := below_keep hbw hc
        have gA := below_keep hbw hcA
        have ltb : b < w.heap.size := World.block_lt_of_cell? _ _ hc
        have ltA : bA < w.heap.size := World.block_lt_of_cell? _ _ hcA
        have hlt0 : s ≤ acc.length := by have := HNL.out; omega
        obtain ⟨Aa, ka, hsa⟩ := owB_shape hva
        rw [show ((flip acc).take s).length = s by rw [List.length_take, flip_len]; omega] at hsa
        subst hsa
        obtain ⟨vs, bss, hvs, e1, e2, e3, e4, e5⟩ := hvn
        rw [show (next.take s).length = s by rw [List.length_take]; omega] at e1 e2
        obtain ⟨Bn, kn, hsn⟩ := hvs.shape
        rw [e1] at hsn
        subst hsn
        have hza : (goodV bools 4) = (goodV bools 4) := rfl
        clear hza
        have hvnL : OwL (OwV ints 2) 34 wr w1.heap.size (.slice Bn s kn) (next.take s) bn := ⟨vs, bss, hvs, by rw [e1]; simp; omega, by rw [e2]; simp; omega, e3, e4, e5⟩
        have nb1 : ∀ k, k ≤ w1.heap.size → k ∉ blks (.slice Aa s ka) := fun k hk hm => by
          have := hva.1.lt hm
          have e : k = w1.heap.size := by omega
          subst e
          exact hpn (List.mem_append_left _ (by rw [hva.2]; exact hm))
        have hown0 : wr.ownsRow w1.heap.size 4 1 (.slice Aa s ka) s (bools ((flip acc).take s)) := by
          have := hva.1
          unfold Own at this
          rwa [bools_len, show ((flip acc).take s).length = s by rw [List.length_take, flip_len]; omega] at this
        have lpo := ho.lt
        have hfz := ho.free 2
        obtain ⟨⟨o0, o1, o2, o3⟩, -⟩ := ho.four
        obtain ⟨⟨r0, r1, r2, r3⟩, -⟩ := hr.four
        have hx3 : x.length ≤ 3 := by have := HL.out s x hx; omega
        have HX := Lib.hid hx
        have HRX := Lib.hid hRx
        have HZ0 := Lib.hid hz0
        have HH := Lib.hid (show _ ∧ _ ∧ _ ∧ _ ∧ _ ∧ _ ∧ _ ∧ _ from ⟨hbw, hr, hz, ho, hva, hvnL, And.intro hnd hpn, hpo⟩)
        have i1 : (0 : Int) ≤ s := by omega
        have i2 : (s : Int) < next.length := by omega
        have i3 : (s : Int) < acc.length := by have := HNL.out; omega
        have lt0 : w.heap.size < w1.heap.size := by omega
        have lt2 : bA < w1.heap.size := by omega
        clear hbw hr hz ho hva hvnL hnd hpn hpo hvs e3 e4 e5 hx hz0 hcA hc a3 b3 r0 r1 r3 o0 o1 o3
        go_upto_region 7 with fail
        go_cut [19] from 19 to 42 (fun s19 wx => s19 = .int .i64 s ∧ MadeR w w1.heap.size [.int .i64 L, .int .i64 S, .slice (some ⟨bA, offA, none⟩) acc.length ca, .slice (some ⟨b, off, none⟩) next.length cb] [.int .i64 0, .int .i64 0, .slice none 0 0, .slice none 0 0] ⟨L, S, (flip acc).take (s + 1), next.take s⟩ wx)
        case first =>
          go_region_law
            ((refine step_append_lies _ (by rfl) _ _ _ (by rfl) w1.heap.size 4 ib _ 1 1 Try.underlying22 hib hzb0 hzb1 hzb2 rfl (by omega) (.slice Aa s ka) s (bools ((flip acc).take s)) (by rfl) (by first | exact hown0.alloc _ | exact (hown0.alloc _).drew | exact ((hown0.alloc _).drew).drew | exact (((hown0.alloc _).drew).drew).drew)
                ⟨wr.heap.size, 0, none⟩ 1 1 [.bool (!z)] (by rfl) (by rfl) (World.news_of_block (cs := #[.bool (!z)]) (t := 4) (fr := (0, 0)) (heap_alloc_new wr _)) (by simp [Value.oneCell'])
                (by omega) (by unfold maxLen; omega) (by omega) (by simp; omega) (wr.heap.size + 1) (by simp) ?_; intro g cap w2 hown1 hgrow hat hlt2;
              have p1 := grown_cell hgrow (nb1 _ (Nat.le_refl _)) (below_keep (by first | exact below_alloc _ _ | exact (below_alloc _ _).drew | exact (below_alloc _ _).drew.drew | exact (below_alloc _ _).drew.drew.drew) o2); have p2 := grown_free hgrow (nb1 _ (Nat.le_refl _)) (by simp; omega) (below_keepf (by first | exact below_alloc _ _ | exact (below_alloc _ _).drew | exact (below_alloc _ _).drew.drew | exact (below_alloc _ _).drew.drew.drew) lpo hfz)))
          all_goals
            go_wp2_with fail
            go_meet
            obtain ⟨hbw, hr, hz, ho, hva, hvnL, ⟨hnd, hpn⟩, hpo⟩ := HH.out
            have hg : (wr.alloc (.cells #[.bool (!z)] 4)).grownBy w2 (Value.slice Aa s ka).ownBlock := (by first | exact hgrow | exact undrew hgrow | exact undrew (undrew hgrow) | exact undrew (undrew (undrew hgrow)))
            have hres : MadeR w w1.heap.size [.int .i64 L, .int .i64 S, .slice (some ⟨bA, offA, none⟩) acc.length ca, .slice (some ⟨b, off, none⟩) next.length cb] [.int .i64 0, .int .i64 0, .slice none 0 0, .slice none 0 0] ⟨L, S, (flip acc).take (s + 1), next.take s⟩ (w2.setCell ⟨w1.heap.size, 2, none⟩ (.slice (some ⟨g, 0, none⟩) (s + 1) cap)) := by
              refine ⟨app_below hbw hg (fun b hb => by have := hva.1.lt hb; omega) (by omega), app_row hg hr (nb1 _ (by omega)) (by omega), app_row hg hz (nb1 _ (by omega)) (by omega), hpo, ?_⟩
              rw [take_succ_of (show (flip acc)[s]? = some (!z) by simp [flip, HZ0.out])]
              exact BoxR.snocAcc ho hva hvnL hnd hpn hg hown1 (by rw [List.length_take, flip_len]; omega) hat
            first | exact ⟨rfl, hres⟩ | exact ⟨rfl, (hres).drew⟩ | exact ⟨rfl, (hres).drew.drew⟩ | exact ⟨rfl, (hres).drew.drew.drew⟩
        case rest =>
          obtain ⟨rfl, hI2⟩ := hcut
          clear HH o2 r2 hfz hown0 gA nb1 lpo
          obtain ⟨hbw, hr, hz, hpo, va', vn', ba', bn', ho, hva, hvn, hnd, hpn⟩ := hI2
          obtain ⟨vs, bss, hvs, e1, e2, e3, rfl, e5⟩ := hvn
          rw [show (next.take s).length = s by rw [List.length_take]; omega] at e1 e2
          obtain ⟨Bn, kn, hsn⟩ := hvs.shape
          rw [e1] at hsn
          subst hsn
          have nb1 : ∀ k, k ≤ w1.heap.size → k ∉ blks (.slice Bn s kn) := fun k hk hm => by
            have := hvs.lt hm
            have e : k = w1.heap.size := by omega
            subst e
            exact hpn (List.mem_append_right _ (List.mem_append_left _ hm))
          have hown0 : wc.ownsRow w1.heap.size 34 1 (.slice Bn s kn) s vs := by
            have := hvs
            unfold Own at this
            rwa [e1] at this
          have lpo := ho.lt
          have hfz := ho.free 3
          obtain ⟨⟨o0, o1, o2, o3⟩, -⟩ := ho.four
          have HU := Lib.hid (fun W (hb : Below wc.heap.size wc W) => cloneI_own u x W (keepsI _ _ _ _ hRx (below_step hbw hb)) (by omega))
          have HH := Lib.hid (show _ ∧ _ ∧ _ ∧ _ ∧ _ ∧ _ ∧ _ ∧ _ ∧ _ ∧ _ ∧ _ from ⟨hbw, hr, hz, ho, hva, hvs, e3, e5, And.intro hnd hpn, hpo, hown0⟩)
          have HE := Lib.hid (show _ ∧ _ from ⟨e1, e2⟩)
          clear hbw hr hz ho hva hvs e3 e5 hnd hpn hpo hRx hown0 e1 e2 o0 o1 o2
          go_wp2_with fail
          go_region_law
            (first
              | (refine step_append_lies _ (by rfl) _ _ _ (by rfl) w1.heap.size 34 isl _ 1 24 Try.underlying23 his hzs0 hzs1 hzs2 rfl (by omega) (.slice Bn s kn) s vs (by rfl) (by first | exact hownC.alloc _ | exact (hownC.alloc _).drew | exact ((hownC.alloc _).drew).drew)
                  ⟨wcl.heap.size, 0, none⟩ 1 1 [.slice C x.length cc] (by rfl) (by rfl) (World.news_of_block (cs := #[.slice C x.length cc]) (t := 34) (fr := (0, 0)) (heap_alloc_new wcl _)) (by simp [Value.oneCell'])
                  (by omega) (by unfold maxLen; omega) (by omega) (by simp; omega) (wcl.heap.size + 1) (by simp) ?_; intro g cap w2 hown1 hgrow hat hlt2;
                 have p1 := grown_cell hgrow (nb1 _ (Nat.le_refl _)) (below_keep (by first | exact below_alloc _ _ | exact (below_alloc _ _).drew | exact (below_alloc _ _).drew.drew | exact (below_alloc _ _).drew.drew.drew) q3); have p2 := grown_free hgrow (nb1 _ (Nat.le_refl _)) (by simp; omega) (below_keepf (by first | exact below_alloc _ _ | exact (below_alloc _ _).drew | exact (below_alloc _ _).drew.drew | exact (below_alloc _ _).drew.drew.drew) lpoC hfzC))
              | (go_simp; go_at_call 43; (with_reducible refine (HU.out _ (by first | exact Below.refl _ _ | exact below_drew _ | exact (below_drew _).drew | exact (below_drew _).drew.drew)).mono ?_); rintro e wcl ⟨u0, b0, rfl, hu0, hbk⟩; have hbc : Below wc.heap.size wc wcl := below_step (by first | exact Below.refl _ _ | exact below_drew _ | exact (below_drew _).drew | exact (below_drew _).drew.drew) hbk; have q3 := below_keep hbc o3; have hfzC := below_keepf hbc lpo hfz; have lpoC := Nat.lt_of_lt_of_le lpo hbc.size; have hownC := rows_below HH.out.2.2.2.2.2.2.2.2.2.2 hbc; have hshp := owI_shape hu0; obtain ⟨C, cc, rfl⟩ := hshp; have HU0 := Lib.hid hu0; clear hu0))
          all_goals
            go_wp2
            obtain ⟨hbw, hr, hz, ho, hva, hvs, e3, e5, ⟨hnd, hpn⟩, hpo, -⟩ := HH.out
            obtain ⟨e1, e2⟩ := HE.out
            have hg : (wcl.alloc (.cells #[.slice C x.length cc] 34)).grownBy w2 (Value.slice Bn s kn).ownBlock := (by first | exact hgrow | exact undrew hgrow | exact undrew (undrew hgrow) | exact undrew (undrew (undrew hgrow)))
            have hres : MadeR w w1.heap.size [.int .i64 L, .int .i64 S, .slice (some ⟨bA, offA, none⟩) acc.length ca, .slice (some ⟨b, off, none⟩) next.length cb] [.int .i64 0, .int .i64 0, .slice none 0 0, .slice none 0 0] ⟨L, S, (flip acc).take (s + 1), next.take (s + 1)⟩ (w2.setCell ⟨w1.heap.size, 3, none⟩ (.slice (some ⟨g, 0, none⟩) (s + 1) cap)) := by
              refine ⟨app_below (below_step hbw hbc) hg (fun b hb => by have := hvs.lt hb; omega) (by omega), app_row hg (hr.below hbc hr.lt) (nb1 _ (by omega)) (by omega), app_row hg (hz.below hbc hz.lt) (nb1 _ (by omega)) (by omega), hpo, ?_⟩
              rw [take_succ_of (show next[s]? = some x from HX.out)]
              have hu1 := (goodV ints 2).mono HU0.out (show w1.heap.size ≤ _ from by first | exact Nat.le_of_lt lpo | (simp; exact Nat.le_of_lt lpo))
              have hlu := fun c hc => ((goodV ints 2).lt HU0.out (b := c) hc).1
              exact BoxR.snocNext (ho.below hbc ho.lt) ((goodV bools _).below hva hbc) (hvs.below hbc) (by rw [e1]; simp; omega) (by rw [e2]; simp; omega) (fun i u x b h1 h2 h3 => (goodV ints _).below (e3 i u x b h1 h2 h3) hbc) e5 hnd hpn hu1 (fun c hc hm => by
                have h1 := hlu c hc
                simp at h1
                rcases List.mem_append.1 hm with hm | hm
                · have := ((goodV bools _).lt hva hm).2; omega
                · have := ((goodL (goodV ints _) _).lt (show OwL (OwV ints 2) 34 wc w1.heap.size (.slice Bn s kn) (next.take s) _ from ⟨vs, bss, hvs, by rw [e1]; simp; omega, by rw [e2]; simp; omega, e3, rfl, e5⟩) hm).2; omega) (fun hm => by have := hlu _ hm; simp at this; omega) hg hown1 (by rw [List.length_take]; omega) hat
            go_roundw
            case rel => exact ⟨s + 1, by omega, by go_num, by first | exact hres | exact hres.drew | exact hres.drew.drew | exact hres.drew.drew.drew⟩
            case measure => simp [intOf]; omega
      · have hta : (flip acc).take s = flip acc := List.take_of_length_le (by rw [flip_len]; have := HNL.out; omega)
        have htn : next.take s = next := List.take_of_length_le (by omega)
        rw [hta] at hva
        rw [htn] at hvn
        obtain ⟨Aa, ka, rfl⟩ := owB_shape hva
        obtain ⟨An, kn, rfl⟩ := OwL.shape hvn
        obtain ⟨⟨o0, o1, o2, o3⟩, -⟩ := ho.four
        obtain ⟨⟨z0, z1, z2, z3⟩, zf⟩ := hz.four
        have hl1 := hz.lt
        have HH := Lib.hid (show _ ∧ _ ∧ _ ∧ _ ∧ _ ∧ _ from ⟨hbw, hz, hva, hvn, hnd, hpo⟩)
        clear hbw hr hz ho hva hvn hnd hpo hta htn a3 b3
        go_wp2
        obtain ⟨hbw, hz, hva, hvn, hnd, hpo⟩ := HH.out
        have hO : OwR wr w1.heap.size (.agg #[.int .i64 L, .int .i64 S, .slice Aa (flip acc).length ka, .slice An next.length kn]) ⟨L, S, flip acc, next⟩ (ba ++ bn) := ⟨_, _, ba, bn, rfl, hva, hvn, rfl, hnd⟩
        have rF := ((((hz.stored 0 (.int .i64 L)).stored 1 (.int .i64 S)).stored 2 (.slice Aa (flip acc).length ka)).stored 3 (.slice An next.length kn))
        have eO := (goodR.under (a := ⟨w.heap.size + 1, 3, none⟩) (goodR.under (a := ⟨w.heap.size + 1, 2, none⟩) (goodR.under (a := ⟨w.heap.size + 1, 1, none⟩) (goodR.under (a := ⟨w.heap.size + 1, 0, none⟩) hO (by show w.heap.size + 1 < _; omega) (.int .i64 L)) (by show w.heap.size + 1 < _; omega) (.int .i64 S)) (by show w.heap.size + 1 < _; omega) (.slice Aa (flip acc).length ka)) (by show w.heap.size + 1 < _; omega) (.slice An next.length kn))
        have eB := ((((hbw.setCell (p := ⟨w.heap.size + 1, 0, none⟩) (by show w.heap.size ≤ w.heap.size + 1; omega) (.int .i64 L)).setCell (p := ⟨w.heap.size + 1, 1, none⟩) (by show w.heap.size ≤ w.heap.size + 1; omega) (.int .i64 S)).setCell (p := ⟨w.heap.size + 1, 2, none⟩) (by show w.heap.size ≤ w.heap.size + 1; omega) (.slice Aa (flip acc).length ka)).setCell (p := ⟨w.heap.size + 1, 3, none⟩) (by show w.heap.size ≤ w.heap.size + 1; omega) (.slice An next.length kn))
        generalize ((((wr.setCell ⟨w.heap.size + 1, 0, none⟩ (.int .i64 L)).setCell ⟨w.heap.size + 1, 1, none⟩ (.int .i64 S)).setCell ⟨w.heap.size + 1, 2, none⟩ (.slice Aa (flip acc).length ka)).setCell ⟨w.heap.size + 1, 3, none⟩ (.slice An next.length kn)) = W2 at *
        obtain ⟨⟨y0, y1, y2, y3⟩, -⟩ := Row.four (a := .int .i64 L) (b := .int .i64 S) (c := .slice Aa (flip acc).length ka) (d := .slice An next.length kn) rF
        have hres : oppRes ⟨L, S, acc, next⟩ = (⟨L, S, flip acc, next⟩, 0) := by simp [oppRes, HOK.out]
        refine bodyPost_ret (v := .tuple #[.agg #[.int .i64 L, .int .i64 S, .slice Aa (flip acc).length ka, .slice An next.length kn], .int .i64 0]) (by simp [results, Try.results12, go_sem, y0, y1, y2, y3]) rfl ?_
        rw [hres]
        first | exact ⟨_, _, rfl, goodR.mono eO (by omega), eB⟩ | exact ⟨_, rfl, ⟨_, goodR.mono eO (by omega)⟩, eB⟩
  · have hok' : okR ⟨L, S, acc, next⟩ = false := by simpa using hok
    clear hok a3 b3
    have HOK := Lib.hid hok'
    go_enter Try.func12, Try.ntmps12
    go_wp2_with fail
    refine (HV.out _ HB.out).mono ?_
    generalize (w.alloc (.cells #[.int .i64 L, .int .i64 S, .slice A acc.length ca, .slice B next.length cb] 27)).alloc (.cells #[.int .i64 0, .int .i64 0, .slice none 0 0, .slice none 0 0] 27) = W0 at *
    rintro e wr ⟨rfl, hb1⟩
    have hz := HZ.out.below hb1 HZ.out.lt
    have hl1 := hz.lt
    have HH := Lib.hid (show _ ∧ _ from ⟨below_step HB.out hb1, hz⟩)
    obtain ⟨⟨z0, z1, z2, z3⟩, zf⟩ := hz.four
    clear hb1 hz
    go_wp2
    obtain ⟨hbw, hz⟩ := HH.out
    have hO : OwR wr (w.heap.size + 2) (.agg #[.int .i64 0, .int .i64 0, .slice none 0 0, .slice none 0 0]) ⟨0, 0, [], []⟩ [] := ⟨_, _, [], [], rfl, owV_nil bools [] rfl _ _ _, owL_nil _ _ _ _, rfl, by simp⟩
    have rF := ((((hz.stored 0 (.int .i64 0)).stored 1 (.int .i64 0)).stored 2 (.slice none 0 0)).stored 3 (.slice none 0 0))
    have eO := (goodR.under (a := ⟨w.heap.size + 1, 3, none⟩) (goodR.under (a := ⟨w.heap.size + 1, 2, none⟩) (goodR.under (a := ⟨w.heap.size + 1, 1, none⟩) (goodR.under (a := ⟨w.heap.size + 1, 0, none⟩) hO (by show w.heap.size + 1 < _; omega) (.int .i64 0)) (by show w.heap.size + 1 < _; omega) (.int .i64 0)) (by show w.heap.size + 1 < _; omega) (.slice none 0 0)) (by show w.heap.size + 1 < _; omega) (.slice none 0 0))
    have eB := ((((hbw.setCell (p := ⟨w.heap.size + 1, 0, none⟩) (by show w.heap.size ≤ w.heap.size + 1; omega) (.int .i64 0)).setCell (p := ⟨w.heap.size + 1, 1, none⟩) (by show w.heap.size ≤ w.heap.size + 1; omega) (.int .i64 0)).setCell (p := ⟨w.heap.size + 1, 2, none⟩) (by show w.heap.size ≤ w.heap.size + 1; omega) (.slice none 0 0)).setCell (p := ⟨w.heap.size + 1, 3, none⟩) (by show w.heap.size ≤ w.heap.size + 1; omega) (.slice none 0 0))
    generalize ((((wr.setCell ⟨w.heap.size + 1, 0, none⟩ (.int .i64 0)).setCell ⟨w.heap.size + 1, 1, none⟩ (.int .i64 0)).setCell ⟨w.heap.size + 1, 2, none⟩ (.slice none 0 0)).setCell ⟨w.heap.size + 1, 3, none⟩ (.slice none 0 0)) = W2 at *
    obtain ⟨⟨y0, y1, y2, y3⟩, -⟩ := Row.four (a := .int .i64 0) (b := .int .i64 0) (c := .slice none 0 0) (d := .slice none 0 0) rF
    have hres : oppRes ⟨L, S, acc, next⟩ = (⟨0, 0, [], []⟩, 1) := by simp [oppRes, HOK.out]
    refine bodyPost_ret (v := .tuple #[.agg #[.int .i64 0, .int .i64 0, .slice none 0 0, .slice none 0 0], .int .i64 1]) (by simp [results, Try.results12, go_sem, y0, y1, y2, y3]) rfl ?_
    rw [hres]
    first | exact ⟨_, _, rfl, goodR.mono eO (by omega), eB⟩ | exact ⟨_, rfl, ⟨_, goodR.mono eO (by omega)⟩, eB⟩
end Go.Proofs.Ytdnobbagcnbjiaa
