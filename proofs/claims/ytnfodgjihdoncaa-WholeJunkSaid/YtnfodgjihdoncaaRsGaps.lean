/- resync.Gaps. -/
import Derived.Test.YtnfodgjihdoncaaRsGap
import Derived.Test.YtnfodgjihdoncaaRsM2
import Derived.Laws.EntriesVeiled
set_option linter.unusedVariables false
namespace Go.Proofs.Ytnfodgjihdoncaa
open Go.RowKit Go.Shelf
attribute [local go_sem] Oper.semAt_some
theorem Rs.gs_le' (n : Nat) (l : List Fnd) : ∀ s : List (Nat × Nat) × Nat, s.2 ≤ n → (∀ f ∈ l, f.at_ + f.size ≤ n) → (l.foldl Rs.gstep s).2 ≤ n := by
  induction l with
  | nil => intro s h _; exact h
  | cons f l ih =>
    intro s h hf
    rw [List.foldl_cons]
    exact ih _ (hf f (List.mem_cons_self ..)) (fun g hg => hf g (List.mem_cons_of_mem _ hg))
theorem Rs.gs_le {n : Nat} {l : List Fnd} (h : ∀ f ∈ l, f.at_ + f.size ≤ n) : (Rs.gs l).2 ≤ n := Rs.gs_le' n l _ (Nat.zero_le _) h
/-- What going through the gaps keeps. -/
structure GI (s : Nat) (w : World) (l : List Fnd) (W : World) : Prop where
  fb : Blk W (s + 2) 111 #[.func (.func 93) #[] #[.pointer (some ⟨s + 1, 0, none⟩), .pointer (some ⟨s, 0, none⟩)]]
  bh : Blk W (s + 1) 3 #[.int .i64 ((Rs.gs l).2 : Nat)]
  gb : GBox s (s + 7) W (Rs.gs l).1
  pb : Blk W (s + 4) 146 #[.pointer (some ⟨s + 3, 0, none⟩)]
  bel : Below s w W
theorem GI.keep {s : Nat} {w W W' : World} {l : List Fnd} {S : Nat → Prop} (h : GI s w l W) (hs : w.heap.size = s) (hc : Chg S W W') (hS : ∀ q, S q → q = s + 3 ∨ (s + 5 ≤ q ∧ q < s + 7)) : GI s w l W' :=
  ⟨hc.blk h.fb (fun hx => by have := hS _ hx; omega), hc.blk h.bh (fun hx => by have := hS _ hx; omega), h.gb.chg hc (fun hx => by have := hS _ hx; omega) (fun q hq hx => by have := hS _ hx; omega), hc.blk h.pb (fun hx => by have := hS _ hx; omega),
    h.bel.trans (hc.below (B := s) (fun k hk => by have := hS k hk; omega) (by have := h.bel.size; omega))⟩
set_option maxRecDepth 100000 in
set_option maxHeartbeats 4000000 in
theorem sgaps_in (m : Nat) (hm : 7 ≤ m) (bs : List UInt8) (n : Nat) (A : Option Addr) (c : Nat) (w : World) (hn : bs.length = n) (hl : n ≤ 1000000) (hs : Sl w A c (bs.map bv)) :
    CallsIn Fence.wide m Try.prog 69 #[.slice A n c] w fun e w' => ∃ v, e = .returned v ∧ w'.ownsRow w.heap.size 125 2 v (Rs.gaps (Rs.wk false bs 0).1 (Rs.wk false bs 0).2).length ((Rs.gaps (Rs.wk false bs 0).1 (Rs.wk false bs 0).2).flatMap gC) ∧ Below w.heap.size w w' := by
  have h1 : 1 ≤ m := by omega
  obtain ⟨s, hsz⟩ : ∃ s, w.heap.size = s := ⟨_, rfl⟩
  rw [hsz]
  have hfr := fun W q => sframes_in (m - 1) q W
  have hlen := Rs.wk_len false bs 0
  have hfacts := Rs.wk_facts false bs 0
  have hit := fun l J W1 h2 h3 h4 h5 h6 h7 => frames1_in (m - 1) (by omega) false bs n A c l (s + 4) (s + 3) (s + 5 + 2) J W1 hn hl h2 (by omega) h3 h4 h5 h6 h7
  have HFR := hid hfr
  have HIT := hid hit
  have HS := hid hs
  have HN := hid hn
  have HLEN := hid hlen
  have HFA := hid hfacts
  have HSZ := hid hsz
  clear hfr hit hs hn hlen hfacts hsz
  refine callsIn_of_wp_marks Try.func69 rfl trivial ?_ rfl
  simp only [Try.ntmps69, List.size_toArray, List.length_cons, List.length_nil, Nat.reduceAdd, Nat.reduceSub, Array.replicate_succ, Array.replicate_zero, List.push_toArray, List.append_toArray, List.nil_append, List.cons_append]
  gi_wp2_with (refine ⟨trivial, ?_⟩; gi_at_call 61; refine (HFR.out _ _).mono ?_; rintro e w1 ⟨rfl, rfl⟩)
  simp only [HSZ.out, Nat.add_assoc, Nat.reduceAdd]
  have hk0 := ((((Blk.new w 123 #[.slice none 0 0]).alloc (.cells #[.int .i64 0] 3)).alloc (.cells #[.func (.func 93) #[] #[.pointer (some ⟨s + 1, 0, none⟩), .pointer (some ⟨s, 0, none⟩)]] 111)).alloc (.cells #[.slice A n c, .bool false, .int .i64 0] 113)).alloc (.cells #[.pointer (some ⟨s + 3, 0, none⟩)] 146)
  have hk1 := (((Blk.new (w.alloc (.cells #[.slice none 0 0] 123)) 3 #[.int .i64 0]).alloc (.cells #[.func (.func 93) #[] #[.pointer (some ⟨s + 1, 0, none⟩), .pointer (some ⟨s, 0, none⟩)]] 111)).alloc (.cells #[.slice A n c, .bool false, .int .i64 0] 113)).alloc (.cells #[.pointer (some ⟨s + 3, 0, none⟩)] 146)
  have hk2 := ((Blk.new ((w.alloc (.cells #[.slice none 0 0] 123)).alloc (.cells #[.int .i64 0] 3)) 111 #[.func (.func 93) #[] #[.pointer (some ⟨s + 1, 0, none⟩), .pointer (some ⟨s, 0, none⟩)]]).alloc (.cells #[.slice A n c, .bool false, .int .i64 0] 113)).alloc (.cells #[.pointer (some ⟨s + 3, 0, none⟩)] 146)
  have hk3 := (Blk.new (((w.alloc (.cells #[.slice none 0 0] 123)).alloc (.cells #[.int .i64 0] 3)).alloc (.cells #[.func (.func 93) #[] #[.pointer (some ⟨s + 1, 0, none⟩), .pointer (some ⟨s, 0, none⟩)]] 111)) 113 #[.slice A n c, .bool false, .int .i64 0]).alloc (.cells #[.pointer (some ⟨s + 3, 0, none⟩)] 146)
  have hk4 := Blk.new ((((w.alloc (.cells #[.slice none 0 0] 123)).alloc (.cells #[.int .i64 0] 3)).alloc (.cells #[.func (.func 93) #[] #[.pointer (some ⟨s + 1, 0, none⟩), .pointer (some ⟨s, 0, none⟩)]] 111)).alloc (.cells #[.slice A n c, .bool false, .int .i64 0] 113)) 146 #[.pointer (some ⟨s + 3, 0, none⟩)]
  simp only [World.size_alloc, HSZ.out, Nat.add_assoc, Nat.reduceAdd] at hk0 hk1 hk2 hk3 hk4
  have hz : (((((w.alloc (.cells #[.slice none 0 0] 123)).alloc (.cells #[.int .i64 0] 3)).alloc (.cells #[.func (.func 93) #[] #[.pointer (some ⟨s + 1, 0, none⟩), .pointer (some ⟨s, 0, none⟩)]] 111)).alloc (.cells #[.slice A n c, .bool false, .int .i64 0] 113)).alloc (.cells #[.pointer (some ⟨s + 3, 0, none⟩)] 146)).heap.size = s + 5 := by simp only [World.size_alloc, HSZ.out]
  have hb0 := bw_a (bw_a (bw_a (bw_a (bw_a (Below.refl _ w) (.cells #[.slice none 0 0] 123)) (.cells #[.int .i64 0] 3)) (.cells #[.func (.func 93) #[] #[.pointer (some ⟨s + 1, 0, none⟩), .pointer (some ⟨s, 0, none⟩)]] 111)) (.cells #[.slice A n c, .bool false, .int .i64 0] 113)) (.cells #[.pointer (some ⟨s + 3, 0, none⟩)] 146)
  rw [HSZ.out] at hb0
  generalize (((((w.alloc (.cells #[.slice none 0 0] 123)).alloc (.cells #[.int .i64 0] 3)).alloc (.cells #[.func (.func 93) #[] #[.pointer (some ⟨s + 1, 0, none⟩), .pointer (some ⟨s, 0, none⟩)]] 111)).alloc (.cells #[.slice A n c, .bool false, .int .i64 0] 113)).alloc (.cells #[.pointer (some ⟨s + 3, 0, none⟩)] 146)) = W0 at *
  have hgi : GI s w [] W0 := ⟨hk2, hk1, ⟨none, 0, hk0, World.ownsRow_nil _ _ _ _⟩, hk4, hb0⟩
  have hs0 := HS.out.below (show Below w.heap.size w W0 by rw [HSZ.out]; exact hb0)
  have hfar : FarS A n (fun q => q = s + 3) := far_newS HS.out HN.out (s + 3) (by have := HSZ.out; omega)
  have HGI := hid hgi
  have HK3 := hid hk3
  have HZ := hid hz
  have HFAR := hid hfar
  clear hk0 hk1 hk2 hk3 hk4 hz hb0 hgi hs0 hfar
  refine range_g m (by omega) (s + 5) HZ.out (gf := 86) (lb := #[.pointer (some ⟨s + 4, 0, none⟩)]) rfl (enters_of Try.func86 (by kernel_rfl) rfl) (Rs.wk false bs 0).1.length (FArg false bs n A c (s + 3) (s + 5 + 2)) ?_ (s + 3) (by omega)
    (fun j W' => GI s w ((Rs.wk false bs 0).1.take j) W') (fun W' => Blk W' (s + 3) 113 #[.slice A n c, .bool false, .int .i64 ((Rs.wk false bs 0).2 : Nat)] ∧ s + 7 ≤ W'.heap.size) ?_ ?_ ?_ ?_ ?_ ?_
  · rintro j xs W ⟨f, Ap, cp, -, rfl, -⟩
    rfl
  · intro j W1 W2 h hc
    exact h.keep HSZ.out hc (fun q hq => by omega)
  · intro W1 W2 h hc
    exact ⟨hc.blk h.1 (by omega), Nat.le_trans h.2 hc.size⟩
  · exact HGI.out
  · intro l2 J2 W1 hw1 hB1 hJI hJn2 hJ0 hy
    refine (HIT.out l2 J2 W1 (by omega) (fun j W h => ⟨(hJI j W h).1.pb, HS.out.below (by rw [HSZ.out]; exact (hJI j W h).1.bel), (hJI j W h).2⟩) hJn2 hJ0 ?_ hy).mono fun e w' h => ⟨h.1, h.2.1, h.2.2, (hJI _ _ h.2.1).2⟩
    exact HK3.out.below hB1 (by omega)
  · rintro l2 j W1 xs hj hzw a1 ⟨f, Ap, cp, hfj, rfl, hp, hgf⟩ hlo
    have htk : (Rs.wk false bs 0).1.take (j + 1) = (Rs.wk false bs 0).1.take j ++ [f] := by
      obtain ⟨hjl, hfe⟩ := List.getElem?_eq_some_iff.1 hfj
      rw [List.take_succ_eq_append_getElem hjl, hfe]
    have hff := HFA.out.1 f (List.mem_of_getElem? hfj)
    have hgsl := Rs.gs_len ((Rs.wk false bs 0).1.take j)
    have hll : ((Rs.wk false bs 0).1.take j).length ≤ n := by rw [List.length_take]; have := HLEN.out; have := HN.out; omega
    have hbl : (Rs.gs ((Rs.wk false bs 0).1.take j)).2 ≤ n := Rs.gs_le (fun g hg => by have := (HFA.out.1 g (List.mem_of_mem_take hg)).2.1.2.2.2; have := HN.out; omega)
    have hfl : f.at_ + f.size ≤ n := by have := hff.2.1.2.2.2; have := HN.out; omega
    generalize (Rs.wk false bs 0).1.take j = lj at *
    obtain ⟨fa, fty, fpl⟩ := f
    simp only at hp hgf hfl
    generalize fpl.length = pl at *
    have hsn := Rs.gs_snoc lj ⟨fa, fty, fpl⟩
    simp only at hsn
    have HTK := hid htk
    have HSN := hid hsn
    have HA1 := hid a1
    have HGF := hid hgf
    clear htk hfj hp hgf a1 hsn hff
    gi_wp2
    have hca := (Chg.refl (fun _ => False) W1).alloc (.cells #[.int .i64 (fa : Int), .int .u8 (fty.toNat : Int), .slice Ap pl cp] 80)
    refine ⟨KBg.of_chg hca hzw (fun _ _ _ h => h), hca.block (s + 3) (by omega) (fun h => h), fun W2 hc2 => ?_⟩
    have hj2 := (HA1.out.keep HSZ.out hca (fun q h => h.elim)).keep HSZ.out hc2 (fun q hq => by omega)
    have hkb := hc2.blk (Blk.new W1 80 #[.int .i64 (fa : Int), .int .u8 (fty.toNat : Int), .slice Ap pl cp]) (by omega)
    have hg2 := hc2.blk (hca.blk HGF.out (fun h => h)) (by omega)
    have c0 := hj2.fb.cell 0
    have c1 := hj2.bh.cell 0
    have f1 := hj2.bh.frozen 0
    have b0 := hkb.cell 0
    have g2 := hg2.cell 2
    simp only [List.getElem?_toArray, List.getElem?_cons_zero, List.getElem?_cons_succ] at c0 c1 b0 g2
    have hbl2 := hkb.lt
    have hgl2 := hg2.lt
    have hfl2 := hj2.fb.lt
    have hz2 : s + 7 ≤ W2.heap.size := by have := hc2.size; rw [World.size_alloc] at this; omega
    have hgp := sgap_any (Rs.gs lj).2 fa (Rs.gs lj).1 s (s + 1) (s + 7) W2 (by omega) (by omega) (by omega) (by omega) (by omega) (by omega) hz2 hj2.bh hj2.gb
    have HGP := hid hgp
    have HJ2 := hid hj2
    have HG2 := hid hg2
    clear hca hc2 hj2 hkb hg2 hlo hgp
    gi_wp2
    refine ⟨trivial, (fun _ => by omega), ?_⟩
    refine (CallsIn.inRound l2 ((callsIn_wide (n := m - 1 - 1 - 1)).2 HGP.out)).mono ?_
    rintro e w3 ⟨⟨v, rfl⟩, hg3, hc3⟩
    have hG3 := hc3.blk HG2.out (by omega)
    have hB3 := hc3.blk HJ2.out.bh (by omega)
    have c3 := hB3.cell 0
    have f3 := hB3.frozen 0
    have g3 := hG3.cell 2
    simp only [List.getElem?_toArray, List.getElem?_cons_zero, List.getElem?_cons_succ] at c3 g3
    have hl3 := hB3.lt
    have hl4 := hG3.lt
    have hc5 := (hc3.mono (T := fun k => k = s + 1 ∨ k = s ∨ s + 7 ≤ k) (fun k _ hk => .inr hk)).set_ (g := s + 1) (.inl (.inl rfl)) 0 (.int .i64 ((fa + (⟨fa, fty, fpl⟩ : Fnd).size : Nat) : Int))
    have hbh5 := Blk.set_ hB3 0 (.int .i64 ((fa + (⟨fa, fty, fpl⟩ : Fnd).size : Nat) : Int))
    have hgb5 := hg3.chg ((Chg.refl (fun k => k = s + 1) w3).set_ (.inl rfl) 0 (.int .i64 ((fa + (⟨fa, fty, fpl⟩ : Fnd).size : Nat) : Int))) (by omega) (fun q hq => by omega)
    have HC5 := hid hc5
    have HBH5 := hid hbh5
    have HGB5 := hid hgb5
    clear hG3 hB3 hg3 hc3 hc5 hbh5 hgb5
    gi_wp2
    refine ⟨KBg.of_chg HC5.out hz2 (fun q g1 g2 h => by omega), HC5.out.block (s + 3) (by omega) (fun h => by omega), ⟨HC5.out.blk HJ2.out.fb (by omega), ?_, ?_, HC5.out.blk HJ2.out.pb (by omega), HJ2.out.bel.trans (HC5.out.below (B := s) (fun k hk => by omega) (by omega))⟩⟩
    · rw [HTK.out, HSN.out]; exact HBH5.out
    · rw [HTK.out, HSN.out]; exact HGB5.out
  · intro W1 a1 ⟨hf, hz7⟩ hd
    rw [List.take_of_length_le (Nat.le_refl _)] at a1
    have hgl := Rs.gs_len (Rs.wk false bs 0).1
    have hbl : (Rs.gs (Rs.wk false bs 0).1).2 ≤ n := Rs.gs_le (fun g hg => by have := (HFA.out.1 g hg).2.1.2.2.2; have := HN.out; omega)
    have hel : (Rs.wk false bs 0).2 ≤ n := by have := HFA.out.2.2 (Nat.zero_le _); have := HN.out; omega
    have hln : (Rs.wk false bs 0).1.length ≤ n := by have := HLEN.out; have := HN.out; omega
    have hgd : Rs.gaps (Rs.wk false bs 0).1 (Rs.wk false bs 0).2 = (Rs.gs (Rs.wk false bs 0).1).1 ++ Rs.gap (Rs.gs (Rs.wk false bs 0).1).2 (Rs.wk false bs 0).2 := rfl
    have hz1 := (Array.getElem?_eq_some_iff.1 hd).1
    generalize hgg : Rs.gaps (Rs.wk false bs 0).1 (Rs.wk false bs 0).2 = gg at *
    have HGG := hid hgg
    clear hgg
    generalize (Rs.wk false bs 0).1 = L at hgl hbl hln hgd a1
    generalize (Rs.wk false bs 0).2 = E at hel hgd hf
    have c0 := a1.fb.cell 0
    have g2 := Blk.cell hf 2
    simp only [List.getElem?_toArray, List.getElem?_cons_zero, List.getElem?_cons_succ] at c0 g2
    have hl0 := a1.fb.lt
    have hl1 := Blk.lt hf
    have hgp := sgap_any (Rs.gs L).2 E (Rs.gs L).1 s (s + 1) (s + 7) W1 (by omega) (by omega) (by omega) (by omega) (by omega) (by omega) hz7 a1.bh a1.gb
    rw [← hgd] at hgp
    have HGP := hid hgp
    have HB := hid a1.bel
    have HD := hid hd
    clear hgp a1 hf hd hgd
    gi_wp2
    refine ⟨trivial, ?_⟩
    refine ((callsIn_wide (n := m - 1)).2 HGP.out).mono ?_
    rintro e w3 ⟨⟨v, rfl⟩, ⟨Ao, co, hk3, ho3⟩, hc3⟩
    have c3 := hk3.cell 0
    simp only [List.getElem?_toArray, List.getElem?_cons_zero] at c3
    have hd3 := (hc3.block (s + 5) hz1 (by omega)).trans HD.out
    have HO3 := hid ho3
    have HC3 := hid hc3
    have HD3 := hid hd3
    have hl3 := hk3.lt
    clear hk3 ho3 hc3 hd3
    gi_wp2
    have hM : Marks (s + 5) w3 [s + 5] := (Marks.nil_ _ _).cons_ (Nat.le_refl _) (by simp) HD3.out
    refine leaves_marks (s + 5) [s + 5] _ hM fun W6 h6 => ?_
    refine ⟨.slice Ao gg.length co, by simp [results, Try.results69, go_sem], ?_⟩
    have ho6 := own_chgS HO3.out h6 (fun g hg hk => by simp at hk; have := (HO3.out.lt g hg).1; omega)
    rw [HGG.out]
    refine ⟨_, rfl, own_mono (base := s + 7) ho6 (by omega), ?_⟩
    exact (HB.out.trans (HC3.out.below (B := s) (fun k hk => by omega) (Nat.le_trans (by omega) hz7))).trans (h6.below (B := s) (fun k hk => by simp at hk; omega) (Nat.le_of_lt hl3))
theorem sgaps_any (bs : List UInt8) (n : Nat) (A : Option Addr) (c : Nat) (w : World) (hn : bs.length = n) (hl : n ≤ 1000000) (hs : Sl w A c (bs.map bv)) :
    Calls Try.prog 69 #[.slice A n c] w fun e w' => ∃ v, e = .returned v ∧ w'.ownsRow w.heap.size 125 2 v (Rs.gaps (Rs.wk false bs 0).1 (Rs.wk false bs 0).2).length ((Rs.gaps (Rs.wk false bs 0).1 (Rs.wk false bs 0).2).flatMap gC) ∧ Below w.heap.size w w' := (callsIn_wide (n := 8)).1 (sgaps_in 8 (by omega) bs n A c w hn hl hs)
end Go.Proofs.Ytnfodgjihdoncaa
