/- The walk of FeederSame. -/
import Derived.Test.YtabklpgimjmdlaaFdLw
import Derived.Test.YtabklpgimjmdlaaSlRun
set_option linter.unusedVariables false
namespace Go.Proofs.Ytabklpgimjmdlaa
open Go.RowKit
theorem newsT_nil (T : List UInt8) : newsT [] T = (Rs.wk false T 0).1 := by
  unfold newsT
  rw [Rs.wk_end false [] 0 (by simp)]
  rfl
theorem newsT_two (T P : List UInt8) : newsT [] (T ++ P) = newsT [] T ++ newsT T (T ++ P) := by
  rw [newsT_nil, newsT_nil]
  unfold newsT
  rw [Fd.step T P]
  simp only
  rw [List.drop_left]
def Apt (a b : Value) : Prop := ∀ q, a.ownBlock = some q → b.ownBlock ≠ some q
/-- A whole stream fed at once, and one in parts, as far as it has come; what was told of both. -/
structure SmS (g s0 : Nat) (w : World) (bs T : List UInt8) (vw vg vbw vbp : Value) (W : World) : Prop where
  fw : FdS (g + 2) g (hldT bs) bs.length false vbw W
  fp : FdS (g + 2) (g + 1) (hldT T) T.length false vbp W
  ow : FdO (g + 2) W vw (newsT [] bs) vbp
  og : FdO (g + 2) W vg (newsT [] T) vbp
  ab : Apt vbw vbp
  av : Apt vw vg
  bel : Below s0 w W
  sz : g + 2 ≤ W.heap.size
/-- The parts' feeder is fed. -/
theorem SmS.fed {g s0 N c5 : Nat} {w W w5 : World} {bs T U : List UInt8} {vw vg vbw vbp vb5 : Value} {A5 : Option Addr} (hgs : s0 ≤ g) (h : SmS g s0 w bs T vw vg vbw vbp W) (ho : FdO W.heap.size w5 (.slice A5 N c5) (newsT T U) vb5) (hf : FdS (g + 2) (g + 1) (hldT U) U.length false vb5 w5)
    (hc : Chg (fun q => q = g + 1 ∨ vbp.ownBlock = some q) W w5) (hv : vb5.ownBlock = vbp.ownBlock ∨ ∀ q, vb5.ownBlock = some q → W.heap.size ≤ q) :
    FdS (g + 2) g (hldT bs) bs.length false vbw w5 ∧ FdO (g + 2) w5 vw (newsT [] bs) vb5 ∧ FdO (g + 2) w5 vg (newsT [] T) vb5 ∧ Apt vbw vb5 ∧ Below s0 w w5 ∧ g + 2 ≤ w5.heap.size ∧ FdO (g + 2) w5 (.slice A5 N c5) (newsT T U) vb5 ∧ Apt vw (.slice A5 N c5) := by
  obtain ⟨fw, fp, ow, og, ab, av, bel, sz⟩ := h
  have hvp : ∀ q, vbp.ownBlock = some q → g + 2 ≤ q := fun q hq => (fp.row.lt q hq).1
  have hrow : ∀ (v : Value) (l : List Fnd), FdO (g + 2) W v l vbp → ∀ q, v.ownBlock = some q → ¬ (q = g + 1 ∨ vbp.ownBlock = some q) := fun v l h q hq hs => by
    obtain ⟨fs, -, h2, -⟩ := h
    rcases hs with hs | hs
    · have := (h2.lt q hq).1; omega
    · rcases own_two fp.row h2 (by decide) with h5 | h5
      · rw [h5] at hs; cases hs
      · exact h5 (hs.trans hq.symm)
  have hkeep : ∀ (v : Value) (l : List Fnd), FdO (g + 2) W v l vbp → FdO (g + 2) w5 v l vb5 := fun v l h => h.chg hc (hrow v l h) (fun b cs k hb _ hs => by rcases hs with hs | hs; omega; exact hs) hv
  refine ⟨fw.chg hc (fun hs => by rcases hs with hs | hs; omega; have := hvp _ hs; omega) (fun q hq hs => by rcases hs with hs | hs; (have := (fw.row.lt q hq).1; omega); exact ab q hq hs), hkeep vw _ ow, hkeep vg _ og, fun q hq hs => ?_, ?_, Nat.le_trans sz hc.size, ho.mono sz, fun q hq hs => ?_⟩
  · rcases hv with hv | hv
    · rw [hv] at hs; exact ab q hq hs
    · have h1 := hv q hs
      have h2 := (fw.row.lt q hq).2
      omega
  · exact bel.trans ((hc.mono (T := fun q => s0 ≤ q) (fun q _ h => by rcases h with h | h; omega; have := hvp q h; omega)).below (fun q h => h) (by omega))
  · obtain ⟨fs, -, h2, -⟩ := ow
    obtain ⟨gs, -, g2, -⟩ := ho
    have h3 := (h2.lt q hq).2
    have h4 := (g2.lt q hs).1
    omega
/-- What is told is appended. -/
theorem SmS.app {g s0 : Nat} {w w5 w6 : World} {bs T P : List UInt8} {vw vg vg6 vbw vb5 : Value} {fs gs : List FdV} (hgs : s0 ≤ g) (fw : FdS (g + 2) g (hldT bs) bs.length false vbw w5) (ow : FdO (g + 2) w5 vw (newsT [] bs) vb5) (hf : FdS (g + 2) (g + 1) (hldT (T ++ P)) (T ++ P).length false vb5 w5)
    (ab : Apt vbw vb5) (av : Apt vw vg) (bel : Below s0 w w5) (sz : g + 2 ≤ w5.heap.size)
    (h1 : fs.map FdV.f = newsT [] T) (h2 : w5.ownsRow (g + 2) 61 3 vg (newsT [] T).length (fs.flatMap fdC)) (h3 : ∀ f ∈ fs, Pay (g + 2) w5 f.A f.c f.f.pl ∧ ∀ b o, f.A = some ⟨b, o, none⟩ → vb5.ownBlock ≠ some b)
    (g1 : gs.map FdV.f = newsT T (T ++ P)) (g3 : ∀ f ∈ gs, Pay (g + 2) w5 f.A f.c f.f.pl ∧ ∀ b o, f.A = some ⟨b, o, none⟩ → vb5.ownBlock ≠ some b)
    (ho : w6.ownsRow (g + 2) 61 3 vg6 ((newsT [] T).length + (newsT T (T ++ P)).length) (fs.flatMap fdC ++ gs.flatMap fdC)) (hg : w5.grownBy w6 vg.ownBlock) (hw : vg6.ownBlock = vg.ownBlock ∨ ∀ q, vg6.ownBlock = some q → w5.heap.size ≤ q) : SmS g s0 w bs (T ++ P) vw vg6 vbw vb5 w6 := by
  have hc : Chg (fun q => vg.ownBlock = some q) w5 w6 := Chg.of_grown hg (fun q e => e)
  have hu : ∀ (B n : Nat) (v : Value) (xs : List Value), w5.ownsRow B 5 1 v n xs → ∀ q, v.ownBlock = some q → ¬ vg.ownBlock = some q := fun B n v xs hr q hq hs => by
    rcases own_two hr h2 (by decide) with h5 | h5
    · rw [h5] at hq; cases hq
    · exact h5 (hq.trans hs.symm)
  have hvg : ∀ q, vg.ownBlock = some q → g + 2 ≤ q := fun q hq => (h2.lt q hq).1
  refine ⟨fw.chg hc (fun h => by have := hvg _ h; omega) (hu _ _ _ _ fw.row), hf.chg hc (fun h => by have := hvg _ h; omega) (hu _ _ _ _ hf.row), ow.chg hc (fun q hq => av q hq) (fun b cs k hb hk hs => absurd hs (found_ne h2 b cs k hk)) (.inl rfl), ?_, ab, fun q hq hs => ?_, ?_, Nat.le_trans sz hc.size⟩
  · rw [newsT_two]
    exact FdO.join h1 h2 h3 g1 g3 (Nat.le_refl _) ho hg
  · rcases hw with hw | hw
    · rw [hw] at hs; exact av q hq hs
    · obtain ⟨f2, -, k2, -⟩ := ow
      have h5 := (k2.lt q hq).2
      have h6 := hw q hs
      omega
  · exact bel.trans ((hc.mono (T := fun q => s0 ≤ q) (fun q _ h => by have := hvg q h; omega)).below (fun q h => h) (by omega))
attribute [local go_sem high] run_cut_l run_cut_lh
set_option maxRecDepth 100000 in
set_option maxHeartbeats 32000000 in
theorem feederSame_any (bs cs : List UInt8) (n m : Nat) (A B : Option Addr) (c d : Nat) (w : World) (hn : bs.length = n) (hm : cs.length = m) (hS : Sl w A c (bs.map bv)) (hM : Sl w B d (cs.map bv)) :
    Calls Try.prog 3 #[.slice A n c, .slice B m d] w fun e w' => e = .returned (.bool true) ∧ Below w.heap.size w w' := by
  obtain ⟨i0, ii, iz0, iz1, iz2⟩ := info_parts Try.info61
  have hcap := hS.cap
  have hsma := hS.small
  rw [List.length_map, hn] at hcap
  have hcapm := hM.cap
  have hsmam := hM.small
  rw [List.length_map, hm] at hcapm
  have HL := hid (live15_any w)
  by_cases hb1 : 3000 < n
  · clear hn hS hm hM
    go_enter Try.func3, Try.ntmps3
    go_wp2_with fail
    refine HL.out.mono ?_
    rintro e w1 ⟨rfl, hb1⟩
    go_wp2_with fail
    go_ret
    exact ⟨rfl, hb1⟩
  by_cases hb2 : 100 < m
  · clear hn hS hm hM
    have h1i : ¬ (3000 : Int) < (n : Int) := by omega
    go_enter Try.func3, Try.ntmps3
    go_wp2_with fail
    refine HL.out.mono ?_
    rintro e w1 ⟨rfl, hb1⟩
    go_wp2_with fail
    go_ret
    exact ⟨rfl, hb1⟩
  have h1i : ¬ (3000 : Int) < (n : Int) := by omega
  have h2i : ¬ (100 : Int) < (m : Int) := by omega
  have hd1 : decide ((3000 : Int) < (n : Int)) = false := by simp; omega
  have hd2 : decide ((100 : Int) < (m : Int)) = false := by simp; omega
  have hd3 : decide (3000 < n) = false := by simp; omega
  have hd4 : decide (100 < m) = false := by simp; omega
  have hall := fun W (h : Sl W A c (bs.map bv)) => (sall_any bs n A c W hn (by omega) h).mono (fun e w' h => AllR.go h (l := (Rs.wk false bs 0).1) (k := (Rs.wk false bs 0).2) rfl rfl)
  rw [← newsT_nil bs] at hall
  obtain ⟨s0, hs0⟩ : ∃ s0, w.heap.size = s0 := ⟨_, rfl⟩
  have HALL := hid hall
  have HS := hid hS
  have HN := hid hn
  have HMS := hid hM
  have HMN := hid hm
  clear hn hS hm hM hall
  rw [hs0] at HL ⊢
  go_enter Try.func3, Try.ntmps3
  go_wp2_with fail
  refine HL.out.mono ?_
  rintro e w2 ⟨rfl, hb2⟩
  go_wp2_with fail
  refine (fnew_any w2).mono ?_
  rintro e w3 ⟨rfl, rfl⟩
  go_wp2_with fail
  refine (fnew_any _).mono ?_
  rintro e w3 ⟨rfl, rfl⟩
  obtain ⟨g, hg⟩ : ∃ g, w2.heap.size = g := ⟨_, rfl⟩
  have hst := (fnew_st w2 (g + 2)).below (bw_a (Below.refl _ _) (.cells #[.slice none 0 0, .int .i64 0, .bool false] 69))
  have hst2 := fnew_st (w2.alloc (.cells #[.slice none 0 0, .int .i64 0, .bool false] 69)) (g + 2)
  rw [World.size_alloc] at hst2
  rw [hg] at hst hst2
  have hsg : s0 ≤ g := by have := hb2.size; omega
  have hb0 := hb2.trans ((bw_a (bw_a (Below.refl w2.heap.size w2) (.cells #[.slice none 0 0, .int .i64 0, .bool false] 69)) (.cells #[.slice none 0 0, .int .i64 0, .bool false] 69)).mono (by omega))
  have hz : ((w2.alloc (.cells #[.slice none 0 0, .int .i64 0, .bool false] 69)).alloc (.cells #[.slice none 0 0, .int .i64 0, .bool false] 69)).heap.size = g + 2 := by simp [hg]
  have hz1 : (w2.alloc (.cells #[.slice none 0 0, .int .i64 0, .bool false] 69)).heap.size = g + 1 := by simp [hg]
  rw [hz1, hg]
  generalize ((w2.alloc (.cells #[.slice none 0 0, .int .i64 0, .bool false] 69)).alloc (.cells #[.slice none 0 0, .int .i64 0, .bool false] 69)) = w4 at *
  have hfd := ffeed_any (g + 2) g [] (.slice none 0 0) bs n A c w4 (by simpa [hldT] using hst) (by omega) (by omega) HN.out (HS.out.below (by rw [hs0]; exact hb0)) (far_arg HS.out HN.out (fun q hq => by
    rcases hq with h | h
    · omega
    · cases h)) (by simp) (by omega)
  obtain ⟨Nw, hNw⟩ : ∃ Nw, (newsT [] bs).length = Nw := ⟨_, rfl⟩
  rw [List.nil_append, hNw] at hfd
  have hnw := newsT_le [] bs
  rw [hNw, HN.out] at hnw
  rw [hNw] at HALL
  have HNW := hid hNw
  have HFD0 := hid hfd
  have HST2 := hid hst2
  have HB0 := hid hb0
  clear hb0 hst hst2 hb2 hfd hNw
  go_wp2_with fail
  refine HFD0.out.mono ?_
  rintro e w5 ⟨Aw, cw, vbw, rfl, ho5, hf5, hch5, hv5⟩
  have hsm : SmS g s0 w bs [] (.slice Aw Nw cw) (.slice none 0 0) vbw (.slice none 0 0) w5 := by
    have hs5 := hch5.size
    refine ⟨hf5, (show FdS (g + 2) (g + 1) [] 0 false (.slice none 0 0) w5 from HST2.out.chg hch5 (fun h => by rcases h with h | h; (omega); (cases h)) (fun q hq => by cases hq)), ?_, ?_, (fun q _ h => by cases h), (fun q _ h => by cases h), ?_, by omega⟩
    · obtain ⟨fs, k1, k2, k3⟩ := ho5.mono (show g + 2 ≤ w4.heap.size by omega)
      refine ⟨fs, k1, by rw [HNW.out]; rw [HNW.out] at k2; exact k2, fun f hf => ⟨(k3 f hf).1, fun b o _ h => by cases h⟩⟩
    · rw [newsT_self]; exact FdO.nil_ _ _ _
    · exact HB0.out.trans ((hch5.mono (T := fun q => s0 ≤ q) (fun q _ h => by rcases h with h | h; omega; cases h)).below (fun q h => h) (by omega))
  have HSM0 := hid hsm
  clear ho5 hf5 hch5 hv5 hsm HFD0 HST2 HB0
  go_wp2_with fail
  go_loopw [8, 9, 10] (fun vg p i wr => ∃ k a : Nat, k ≤ m ∧ a ≤ n ∧ i = .int .i64 (k : Int) ∧ p = .int .i64 (a : Int) ∧ ∃ vbp, SmS g s0 w bs (bs.take a) (.slice Aw Nw cw) vg vbw vbp wr) (fun _ _ i _ => m - (intOf i).toNat)
  case atStart => exact ⟨0, 0, by omega, by omega, rfl, rfl, _, by simpa using HSM0.out⟩
  case round =>
    obtain ⟨k, a, hk, ha, rfl, rfl, vbp, hsm⟩ := hrel
    have HSM := hid hsm
    clear hsm
    by_cases hlt : k < m
    · obtain ⟨bc, oc, rfl, hbc, t0⟩ := BRd.at_ (HMS.out.below (by rw [hs0]; exact HSM.out.bel)).rd (k := k) (by rw [HMN.out]; exact hlt)
      have hkc : k < cs.length := by rw [HMN.out]; exact hlt
      have hx := (cs[k]'hkc).toNat_lt
      generalize (cs[k]'hkc).toNat = x at *
      have hki : (k : Int) < (m : Int) := by omega
      have hk0 : (0 : Int) ≤ (k : Int) := by omega
      obtain ⟨to, hto⟩ : ∃ to, min (a + x) n = to := ⟨_, rfl⟩
      have hw0 : IntKind.i64.wrap (x : Int) = (x : Int) := IntWalk.i64_in _ (by omega)
      have hw1 : IntKind.i64.wrap ((a : Int) + (x : Int)) = (a : Int) + (x : Int) := by rw [IntWalk.i64_in _ (by omega)]
      have hmi : min ((a : Int) + (x : Int)) (n : Int) = (to : Int) := by omega
      have i1 : (a : Int) ≤ (to : Int) := by omega
      have i2 : (to : Int) ≤ (c : Int) := by omega
      have i3 : (0 : Int) ≤ (a : Int) := by omega
      have i4 : (0 : Int) ≤ (to : Int) := by omega
      obtain ⟨hps, hpl⟩ := sl_part HS.out HN.out a to (by omega) (by omega)
      have htk : bs.take a ++ (bs.drop a).take (to - a) = bs.take to := by
        have h := List.take_add (l := bs) (i := a) (j := to - a)
        rw [show a + (to - a) = to by omega] at h
        exact h.symm
      generalize (bs.drop a).take (to - a) = P at *
      have hta : (bs.take a).length = a := by rw [List.length_take, HN.out]; omega
      have hvb : ∀ q, vbp.ownBlock = some q → g + 2 ≤ q := fun q hq => (HSM.out.fp.row.lt q hq).1
      obtain ⟨NN, hNN⟩ : ∃ NN, (newsT (bs.take a) (bs.take a ++ P)).length = NN := ⟨_, rfl⟩
      have hfd := ffeed_any (g + 2) (g + 1) (bs.take a) vbp P (to - a) _ _ wr HSM.out.fp (by omega) HSM.out.sz hpl (hps.below (by rw [hs0]; exact HSM.out.bel)) (far_arg hps hpl (fun q hq => by
        rcases hq with h | h
        · omega
        · have := hvb q h; omega)) (by omega) (by omega)
      rw [hNN] at hfd
      have hn1 := newsT_le [] (bs.take a)
      have hn2 := newsT_le (bs.take a) (bs.take a ++ P)
      rw [htk] at hn2
      have hthi : (bs.take to).length = to := by rw [List.length_take, HN.out]; omega
      rw [← htk, hNN, htk, hthi] at hn2
      rw [hta] at hn1
      have HFD := hid hfd
      have HTK := hid htk
      have HNN := hid hNN
      clear hfd hps hpl htk hNN hta hthi
      have n1 : a ≤ to := by omega
      have n2 : to ≤ c := by omega
      go_wp2_with fail
      refine HFD.out.mono ?_
      rintro e w5 ⟨A5, c5, vb5, rfl, ho5, hf5, hch5, hv5⟩
      obtain ⟨fw5, ow5, og5, ab5, be5, sz5, on5, ap5⟩ := HSM.out.fed hsg ho5 hf5 hch5 hv5
      obtain ⟨fs, fs1, fs2, fs3⟩ := og5
      obtain ⟨gs, gs1, gs2, gs3⟩ := on5
      rw [HNN.out] at gs2
      have hgl := own_slg (by omega) gs2
      have hglen := hgl.len
      have HFW5 := hid fw5
      have HOW5 := hid ow5
      have HF5 := hid hf5
      have HAB5 := hid ab5
      have HBE5 := hid be5
      have HFS1 := hid fs1
      have HFS2 := hid fs2
      have HFS3 := hid fs3
      have HGS1 := hid gs1
      have HGS3 := hid gs3
      have HGL := hid hgl
      have HGEN := hid hglen
      clear fw5 ow5 ab5 be5 ap5 fs1 fs2 fs3 gs1 gs2 gs3 hgl hglen ho5 hf5 hch5 hv5
      go_wp2_with (at_builtin; refine wpList_append_rd2 rfl (.tmp 51) (.tmp 57) 26 rfl (g + 2) 61 i0 (.agg #[.int .i64 0, .int .u8 0, .slice none 0 0]) 3 40 Try.underlying26 ii iz0 iz1 iz2 rfl (by decide) _ _ _ rfl HFS2.out A5 NN c5 (gs.flatMap fdC) rfl (by rw [HGEN.out]) HGL.out.rd HGL.out.nil0 (fdC_one gs) (by simp only [maxLen]; omega) (by omega) sz5 ?_; intro vg6 w6 ho6 hg6 hw6; have hsm6 := SmS.app hsg HFW5.out HOW5.out HF5.out HAB5.out HSM.out.av HBE5.out sz5 HFS1.out HFS2.out HFS3.out HGS1.out HGS3.out (by rw [HNN.out]; exact ho6) hg6 hw6; rw [HTK.out] at hsm6; have HSM6 := hid hsm6; clear ho6 hg6 hw6 hsm6)
      go_roundw
      case rel => exact ⟨k + 1, to, by omega, by omega, by go_num, rfl, _, HSM6.out⟩
      case measure => simp [intOf]; omega
    · obtain rfl : k = m := by omega
      have hki : ¬ (k : Int) < (k : Int) := by omega
      have i1 : (a : Int) ≤ (n : Int) := by omega
      have i2 : (n : Int) ≤ (c : Int) := by omega
      have i3 : (0 : Int) ≤ (a : Int) := by omega
      have i4 : (0 : Int) ≤ (n : Int) := by omega
      obtain ⟨hps, hpl⟩ := sl_part HS.out HN.out a n (by omega) (by omega)
      have htk : bs.take a ++ (bs.drop a).take (n - a) = bs.take n := by
        have h := List.take_add (l := bs) (i := a) (j := n - a)
        rw [show a + (n - a) = n by omega] at h
        exact h.symm
      generalize (bs.drop a).take (n - a) = P at *
      have hta : (bs.take a).length = a := by rw [List.length_take, HN.out]; omega
      have hvb : ∀ q, vbp.ownBlock = some q → g + 2 ≤ q := fun q hq => (HSM.out.fp.row.lt q hq).1
      obtain ⟨NN, hNN⟩ : ∃ NN, (newsT (bs.take a) (bs.take a ++ P)).length = NN := ⟨_, rfl⟩
      have hfd := ffeed_any (g + 2) (g + 1) (bs.take a) vbp P (n - a) _ _ wr HSM.out.fp (by omega) HSM.out.sz hpl (hps.below (by rw [hs0]; exact HSM.out.bel)) (far_arg hps hpl (fun q hq => by
        rcases hq with h | h
        · omega
        · have := hvb q h; omega)) (by omega) (by omega)
      rw [hNN] at hfd
      have hn1 := newsT_le [] (bs.take a)
      have hn2 := newsT_le (bs.take a) (bs.take a ++ P)
      rw [htk] at hn2
      have hthi : (bs.take n).length = n := by rw [List.length_take, HN.out]; omega
      rw [← htk, hNN, htk, hthi] at hn2
      rw [hta] at hn1
      have HFD := hid hfd
      have HTK := hid htk
      have HNN := hid hNN
      clear hfd hps hpl htk hNN hta hthi
      have n1 : a ≤ n := by omega
      have n2 : n ≤ c := by omega
      go_wp2_with fail
      refine HFD.out.mono ?_
      rintro e w5 ⟨A5, c5, vb5, rfl, ho5, hf5, hch5, hv5⟩
      obtain ⟨fw5, ow5, og5, ab5, be5, sz5, on5, ap5⟩ := HSM.out.fed hsg ho5 hf5 hch5 hv5
      obtain ⟨fs, fs1, fs2, fs3⟩ := og5
      obtain ⟨gs, gs1, gs2, gs3⟩ := on5
      rw [HNN.out] at gs2
      have hgl := own_slg (by omega) gs2
      have hglen := hgl.len
      have HFW5 := hid fw5
      have HOW5 := hid ow5
      have HF5 := hid hf5
      have HAB5 := hid ab5
      have HBE5 := hid be5
      have HFS1 := hid fs1
      have HFS2 := hid fs2
      have HFS3 := hid fs3
      have HGS1 := hid gs1
      have HGS3 := hid gs3
      have HGL := hid hgl
      have HGEN := hid hglen
      clear fw5 ow5 ab5 be5 ap5 fs1 fs2 fs3 gs1 gs2 gs3 hgl hglen ho5 hf5 hch5 hv5
      go_wp2_with (at_builtin; refine wpList_append_rd2 rfl (.tmp 60) (.tmp 65) 26 rfl (g + 2) 61 i0 (.agg #[.int .i64 0, .int .u8 0, .slice none 0 0]) 3 40 Try.underlying26 ii iz0 iz1 iz2 rfl (by decide) _ _ _ rfl HFS2.out A5 NN c5 (gs.flatMap fdC) rfl (by rw [HGEN.out]) HGL.out.rd HGL.out.nil0 (fdC_one gs) (by simp only [maxLen]; omega) (by omega) sz5 ?_; intro vg6 w6 ho6 hg6 hw6; have hsm6 := SmS.app hsg HFW5.out HOW5.out HF5.out HAB5.out HSM.out.av HBE5.out sz5 HFS1.out HFS2.out HFS3.out HGS1.out HGS3.out (by rw [HNN.out]; exact ho6) hg6 hw6; rw [HTK.out] at hsm6; have HSM6 := hid hsm6; clear ho6 hg6 hw6 hsm6)
      have hsm := HSM6.out
      have htn : bs.take n = bs := by rw [← HN.out]; exact List.take_length
      rw [htn] at hsm
      obtain ⟨fw, fp, ow, og, ab, av, bel, sz⟩ := hsm
      obtain ⟨Ag, cg, rfl⟩ : ∃ Ag cg, vg6 = .slice Ag Nw cg := by
        obtain ⟨fs, -, h2, -⟩ := og
        rw [HNW.out] at h2
        exact row_slice_g h2
      obtain ⟨Ap, cp, rfl⟩ := row_slice_g fp.row
      obtain ⟨Aq, cq, rfl⟩ := row_slice_g fw.row
      obtain ⟨hl, hhl⟩ : ∃ hl, (hldT bs).length = hl := ⟨_, rfl⟩
      have hld := hldT_len bs
      have hbd : ∀ f ∈ newsT [] bs, f.at_ ≤ 10000000 ∧ f.pl.length ≤ 10000000 := fun f hf => by have := newsT_bd hf; rw [HN.out] at this; omega
      have hslg := og.sl HNW.out
      have hslw := ow.sl HNW.out
      have HSLA := hid (HS.out.below (by rw [hs0]; exact bel))
      have HLD := hid hld
      have HBD := hid hbd
      have HSLG := hid hslg
      have HSLW := hid hslw
      have HFW := hid fw
      have HFP := hid fp
      have HAB := hid ab
      have HBEL := hid bel
      have HHL := hid hhl
      clear hld hbd hslg hslw fw fp ab bel ow og av HSM6 HSM htn hhl
      refine (HALL.out _ HSLA.out).mono ?_
      rintro e w7 ⟨A7, c7, rfl, hrow7, hb7⟩
      have HR7 := hid hrow7
      have HB7 := hid hb7
      clear hrow7 hb7
      go_wp2_with fail
      refine (rsame14_sl (newsT [] bs) Nw Ag Aw cg cw w7 HNW.out (by omega) HBD.out (HSLG.out.below HB7.out) (HSLW.out.below HB7.out)).mono ?_
      rintro e w8 ⟨rfl, hb8⟩
      have HB8 := hid (bw_t HB7.out hb8)
      have HR8 := hid (HR7.out.below hb8)
      clear hb8
      go_wp2_with fail
      refine (rsame14_sl (newsT [] bs) Nw Ag A7 cg c7 w8 HNW.out (by omega) HBD.out (HSLG.out.below HB8.out) (HR8.out.sl HNW.out)).mono ?_
      rintro e w9 ⟨rfl, hb9⟩
      have HB9 := hid (bw_t HB8.out hb9)
      clear hb9
      have hfp9 := HFP.out.below HB9.out
      have hfw9 := HFW.out.below HB9.out
      have HFP9 := hid hfp9
      have HFW9 := hid hfw9
      have hkp := hfp9.blk
      have hkw := hfw9.blk
      rw [HHL.out, HN.out] at hkp hkw
      have HKP := hid hkp
      have HKW := hid hkw
      clear hfp9 hfw9 hkp hkw
      go_wp2_with fail
      refine (fheld_any (g + 1) hl Ap cp n false w9 HKP.out).mono ?_
      rintro e w9a ⟨rfl, rfl⟩
      go_wp2_with fail
      refine (fheld_any g hl Aq cq n false _ HKW.out).mono ?_
      rintro e w9b ⟨rfl, rfl⟩
      go_wp2_with fail
      refine (fcame_any (g + 1) (.slice Ap hl cp) n false _ HKP.out).mono ?_
      rintro e w9c ⟨rfl, rfl⟩
      have hs9 := HB9.out.size
      go_wp2_with fail
      refine (fend_any (g + 2) (g + 1) (hldT bs) bs.length _ _ HFP9.out (by omega) (by have := HLD.out; omega) (by have := HN.out; omega) (by have := HLD.out; have := HN.out; omega)).mono ?_
      rintro e w10 ⟨v10, rfl, hrow10, -, hch10⟩
      rw [show bs.length - (hldT bs).length = (Rs.wk false bs 0).2 by have := HLD.out; omega] at hrow10
      change FdRow _ _ _ (lastT bs) at hrow10
      obtain ⟨NL, hNL⟩ : ∃ NL, (lastT bs).length = NL := ⟨_, rfl⟩
      obtain ⟨A10, c10, rfl⟩ := hrow10.slice
      have hfw10 := HFW9.out.chg hch10 (by omega) (fun q hq h => by have := (HFW9.out.row.lt q hq).1; omega)
      have hs10 := hch10.size
      rw [hNL] at hrow10 ⊢
      have HR10 := hid hrow10
      have HFW10 := hid hfw10
      have HC10 := hid hch10
      have HNL := hid hNL
      clear hrow10 hfw10 hch10 hNL
      go_wp2_with fail
      refine (fend_any (g + 2) g (hldT bs) bs.length _ _ HFW10.out (by omega) (by have := HLD.out; omega) (by have := HN.out; omega) (by have := HLD.out; have := HN.out; omega)).mono ?_
      rintro e w11 ⟨v11, rfl, hrow11, -, hch11⟩
      rw [show bs.length - (hldT bs).length = (Rs.wk false bs 0).2 by have := HLD.out; omega] at hrow11
      change FdRow _ _ _ (lastT bs) at hrow11
      obtain ⟨A11, c11, rfl⟩ := hrow11.slice
      rw [HNL.out] at hrow11 ⊢
      have hr10 := HR10.out.chg hch11 (fun b hb h => by omega)
      have hb11 : Below s0 w w11 := (HBEL.out.trans (HB9.out.mono (by have := HBEL.out.size; omega))).trans (((HC10.out.mono (T := fun q => s0 ≤ q) (fun q _ h => by omega)).trans (hch11.mono (T := fun q => s0 ≤ q) (fun q _ h => by omega))).below (fun q h => h) (by omega))
      have HR11 := hid hrow11
      have HR10' := hid hr10
      have HB11 := hid hb11
      have hnll := lastT_len bs
      rw [HNL.out, HN.out] at hnll
      clear hrow11 hr10 hb11 hch11
      go_wp2_with fail
      refine (rsame14_sl (lastT bs) NL A10 A11 c10 c11 w11 HNL.out (by omega) (fun f hf => by have := lastT_bd hf; rw [HN.out] at this; omega) (HR10'.out.sl HNL.out) (HR11.out.sl HNL.out)).mono ?_
      rintro e w12 ⟨rfl, hb12⟩
      have HB12 := hid (HB11.out.trans (hb12.mono (by have := HB11.out.size; omega)))
      clear hb12
      go_wp2_with fail
      go_ret
      exact ⟨by simp, HB12.out⟩
end Go.Proofs.Ytabklpgimjmdlaa
