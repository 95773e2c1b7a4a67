/- What happens to a stream: bytes put in, bytes moved, nothing. -/
import Derived.Test.YtgiealcfhlcpoaaStmB
import Derived.Test.YtgiealcfhlcpoaaSlRun
set_option linter.unusedVariables false
namespace Go.Proofs.Ytgiealcfhlcpoaa
open Go.RowKit
theorem scat3 (A1 A2 A3 : Option Addr) (n1 n2 n3 c1 c2 c3 : Nat) (xs1 xs2 xs3 : List UInt8) (N g : Nat) (w W : World) (hg : w.heap.size = g) (hn1 : xs1.length = n1) (hn2 : xs2.length = n2) (hn3 : xs3.length = n3) (hN : n1 + n2 + n3 = N) (hN2 : N ≤ 10000000) (h1 : Sl w A1 c1 (xs1.map bv)) (h2 : Sl w A2 c2 (xs2.map bv)) (h3 : Sl w A3 c3 (xs3.map bv)) (hW : W = w.alloc (.cells #[.slice A1 n1 c1, .slice A2 n2 c2, .slice A3 n3 c3] 25)) :
    Calls Try.prog 25 #[.slice (some ⟨g, 0, none⟩) 3 3] W fun e w' => ∃ v, e = .returned v ∧ w'.ownsRow w.heap.size 5 1 v N ((xs1 ++ (xs2 ++ xs3)).map bv) ∧ Below w.heap.size w w' := by
  subst hn1; subst hn2; subst hn3
  subst hW
  have hb := bw_a (Below.refl w.heap.size w) (.cells #[.slice A1 xs1.length c1, .slice A2 xs2.length c2, .slice A3 xs3.length c3] 25)
  refine (sconcat_any [⟨A1, c1, xs1⟩, ⟨A2, c2, xs2⟩, ⟨A3, c3, xs3⟩] 3 (some ⟨g, 0, none⟩) 3 N _ rfl (by simp [lenC]; omega) hN2 ⟨by simp, by omega, (fun h => by cases h), ?_⟩ ?_).mono ?_
  · have h := Rd.new w 25 #[.slice A1 xs1.length c1, .slice A2 xs2.length c2, .slice A3 xs3.length c3]
    rw [hg] at h
    exact h
  · intro x hx
    simp only [List.mem_cons, List.not_mem_nil, or_false] at hx
    rcases hx with rfl | rfl | rfl
    · exact h1.below hb
    · exact h2.below hb
    · exact h3.below hb
  · rintro e w' ⟨v, rfl, ho, hb2⟩
    exact ⟨v, rfl, own_mono (by simpa using ho) (by simp), hb.trans (hb2.mono (by simp))⟩
attribute [local go_sem high] run_cut_l run_cut_lh
set_option maxRecDepth 100000 in
set_option maxHeartbeats 2000000 in
theorem sedit_put (bs : List UInt8) (ys : List UInt8) (at_ nn to_ : Int) (A2 : Option Addr) (m2 c2 : Nat) (A : Option Addr) (n c p k en N : Nat) (w : World) (hn : bs.length = n) (hl : n ≤ 1048576) (hs : Sl w A c (bs.map bv)) (h1 : -9223372036854775808 ≤ at_) (h2 : at_ ≤ 9223372036854775807) (h3 : -9223372036854775808 ≤ nn) (h4 : nn ≤ 9223372036854775807) (hp : at_ % ((n : Int) + 1) = (p : Int)) (hk : nn % (((n - p : Nat) : Int) + 1) = (k : Int)) (hpk : p + k = en) (hen : en ≤ n) (hs2 : Sl w A2 c2 (ys.map bv)) (hm2 : ys.length = m2) (q : Nat) (hq : min m2 10000 = q) (hNN : p + q + (n - p) = N) (hNl : N ≤ 1048576) :
    Calls Try.prog 18 #[.slice A n c, .agg #[.int .i64 4, .int .i64 at_, .int .i64 nn, .int .i64 to_, .slice A2 m2 c2]] w fun e w' => ∃ A' c', e = .returned (.slice A' N c') ∧ EdS w.heap.size w' A' N c' (bs.take p ++ (ys.take q ++ bs.drop p)) ∧ Below w.heap.size w w' := by
  obtain ⟨s, hws⟩ : ∃ s, w.heap.size = s := ⟨_, rfl⟩
  have hcap := hs.cap
  have hsm := hs.small
  rw [List.length_map, hn] at hcap
  have hr1 := fun W => srest_any at_ ((n : Int) + 1) W h1 h2 (by omega) (by omega)
  rw [hp] at hr1
  have hr2 := fun W => srest_any nn (((n - p : Nat) : Int) + 1) W h3 h4 (by omega) (by omega)
  rw [hk] at hr2
  have e1 : IntKind.i64.wrap ((n : Int) + 1) = (n : Int) + 1 := IntWalk.i64_in _ (by omega)
  have e2 : IntKind.i64.wrap ((n : Int) - (p : Int)) = ((n - p : Nat) : Int) := by rw [IntWalk.i64_in _ (by omega)]; omega
  have e3 : IntKind.i64.wrap (((n - p : Nat) : Int) + 1) = ((n - p : Nat) : Int) + 1 := IntWalk.i64_in _ (by omega)
  have e4 : IntKind.i64.wrap ((p : Int) + (k : Int)) = (en : Int) := by rw [IntWalk.i64_in _ (by omega)]; omega
  have hc2 := hs2.cap
  have hs2m := hs2.small
  rw [List.length_map, hm2] at hc2
  have HS2 := hid hs2
  have HM2 := hid hm2
  have hmq : min (m2 : Int) 10000 = (q : Int) := by omega
  clear hs2 hm2
  have HR1 := hid hr1
  have HR2 := hid hr2
  have HS := hid hs
  have HN := hid hn
  clear hr1 hr2 hs hn hp hk
  have hb0 := bw_a (Below.refl w.heap.size w) (.cells #[.int .i64 4, .int .i64 at_, .int .i64 nn, .int .i64 to_, .slice A2 m2 c2] 32)
  go_enter Try.func18, Try.ntmps18
  go_wp2_with fail
  refine (HR1.out _).mono ?_
  rintro e w1 ⟨rfl, rfl⟩
  go_wp2_with fail
  refine (HR2.out _).mono ?_
  rintro e w1 ⟨rfl, rfl⟩
  go_wp2_with fail
  have hsz0 : (w.alloc (.cells #[.int .i64 4, .int .i64 at_, .int .i64 nn, .int .i64 to_, .slice A2 m2 c2] 32)).heap.size = s + 1 := by simp [hws]
  have hsb := HS.out.below hb0
  have hbk : Blk (w.alloc (.cells #[.int .i64 4, .int .i64 at_, .int .i64 nn, .int .i64 to_, .slice A2 m2 c2] 32)) s 32 #[.int .i64 4, .int .i64 at_, .int .i64 nn, .int .i64 to_, .slice A2 m2 c2] := by have h := Blk.new w 32 #[.int .i64 4, .int .i64 at_, .int .i64 nn, .int .i64 to_, .slice A2 m2 c2]; rw [hws] at h; exact h
  have c0 := hbk.cell 0
  have c4 := hbk.cell 4
  simp only [List.getElem?_toArray, List.getElem?_cons_zero, List.getElem?_cons_succ] at c0 c4
  have hsy := HS2.out.below hb0
  generalize hW0 : (w.alloc (.cells #[.int .i64 4, .int .i64 at_, .int .i64 nn, .int .i64 to_, .slice A2 m2 c2] 32)) = W0 at *
  have HSB := hid hsb
  have HB0 := hid hb0
  have HBK := hid hbk
  clear hsb hb0 hW0 hbk
  have i1 : (p : Int) ≤ (c : Int) := by omega
  have i2 : p ≤ n := by omega
  have i3 : (0 : Int) ≤ (p : Int) := by omega
  have i4 : (0 : Int) ≤ (q : Int) := by omega
  have i5 : (q : Int) ≤ (c2 : Int) := by omega
  have HP1 := hid (take_sl HSB.out p)
  have HP2 := hid (take_sl hsy q)
  have HP3 := hid (HSB.out.cut p (by rw [HN.out]; omega))
  clear hsy
  go_region_held3 (fun w' => w'.cell? ⟨s, 0, none⟩ = some (.int .i64 4) ∧ w'.cell? ⟨s, 4, none⟩ = some (.slice A2 m2 c2)) (first | exact ⟨d0, d4⟩ | exact ⟨c0, c4⟩ | go_keep) ((go_at_call 25; refine (scat3 A A2 (cutA A c p) p q (n - p) c c2 (c - p) (bs.take p) (ys.take q) (bs.drop p) N (s + 1) W0.drew _ (show W0.drew.heap.size = s + 1 from hsz0) (by rw [List.length_take, HN.out]; omega) (by rw [List.length_take, HM2.out]; omega) (by rw [List.length_drop, HN.out]) hNN (by omega) (HP1.out.drewN 1) (HP2.out.drewN 1) (HP3.out.drewN 1) rfl).mono ?_; rintro e w8 ⟨v8, rfl, ho8, hb8⟩; have d0 := (Blk.below (show Blk W0.drew s _ _ from HBK.out) hb8 (show s < W0.drew.heap.size from HBK.out.lt)).cell 0; have d4 := (Blk.below (show Blk W0.drew s _ _ from HBK.out) hb8 (show s < W0.drew.heap.size from HBK.out.lt)).cell 4; simp only [List.getElem?_toArray, List.getElem?_cons_zero, List.getElem?_cons_succ] at d0 d4; obtain ⟨A8, c8, rfl⟩ := row_slice_g ho8; have HO8 := hid ho8; have HB8 := hid hb8; clear ho8 hb8))
  have hq := HO8.out
  have hq1 : N ≤ c8 ∧ c8 ≤ 9223372036854775807 := by
    rcases hq.2 with ⟨h8, h9⟩ | ⟨g8, cap, cur, h8, -, -, h9, h10, -⟩
    · injection h8 with e1 e2 e3
      omega
    · injection h8 with e1 e2 e3
      simp only [maxLen] at h10
      omega
  have hmn : min (N : Int) 1048576 = (N : Int) := by omega
  have hN1 : ¬ (1048576 : Int) < (N : Int) := by omega
  have j1 : (N : Int) ≤ (c8 : Int) := by omega
  have j2 : (0 : Int) ≤ (N : Int) := by omega
  clear hq
  go_wp2_with fail
  go_ret
  have hsz8 : s ≤ W0.heap.size := by omega
  exact ⟨_, _, rfl, ed_fin (own_mono HO8.out (by show s ≤ W0.heap.size; exact hsz8)) (by omega), (show Below s w W0 by rw [← hws]; exact HB0.out).trans (Below.mono (show Below W0.heap.size W0 w8 from ⟨HB8.out.os, HB8.out.tape, HB8.out.output, HB8.out.size, HB8.out.block⟩) (by omega))⟩
set_option maxRecDepth 100000 in
set_option maxHeartbeats 2000000 in
theorem sedit_move (bs : List UInt8) (at_ nn to_ : Int) (A2 : Option Addr) (m2 c2 : Nat) (A : Option Addr) (n c p k en : Nat) (w : World) (hn : bs.length = n) (hl : n ≤ 1048576) (hs : Sl w A c (bs.map bv)) (h1 : -9223372036854775808 ≤ at_) (h2 : at_ ≤ 9223372036854775807) (h3 : -9223372036854775808 ≤ nn) (h4 : nn ≤ 9223372036854775807) (hp : at_ % ((n : Int) + 1) = (p : Int)) (hk : nn % (((n - p : Nat) : Int) + 1) = (k : Int)) (hpk : p + k = en) (hen : en ≤ n) (h5 : -9223372036854775808 ≤ to_) (h6 : to_ ≤ 9223372036854775807) (L t : Nat) (hL : p + (n - en) = L) (ht : to_ % ((L : Int) + 1) = (t : Int)) :
    Calls Try.prog 18 #[.slice A n c, .agg #[.int .i64 5, .int .i64 at_, .int .i64 nn, .int .i64 to_, .slice A2 m2 c2]] w fun e w' => ∃ A' c', e = .returned (.slice A' n c') ∧ EdS w.heap.size w' A' n c' ((bs.take p ++ bs.drop en).take t ++ ((bs.drop p).take k ++ (bs.take p ++ bs.drop en).drop t)) ∧ Below w.heap.size w w' := by
  obtain ⟨s, hws⟩ : ∃ s, w.heap.size = s := ⟨_, rfl⟩
  have hcap := hs.cap
  have hsm := hs.small
  rw [List.length_map, hn] at hcap
  have hr1 := fun W => srest_any at_ ((n : Int) + 1) W h1 h2 (by omega) (by omega)
  rw [hp] at hr1
  have hr2 := fun W => srest_any nn (((n - p : Nat) : Int) + 1) W h3 h4 (by omega) (by omega)
  rw [hk] at hr2
  have e1 : IntKind.i64.wrap ((n : Int) + 1) = (n : Int) + 1 := IntWalk.i64_in _ (by omega)
  have e2 : IntKind.i64.wrap ((n : Int) - (p : Int)) = ((n - p : Nat) : Int) := by rw [IntWalk.i64_in _ (by omega)]; omega
  have e3 : IntKind.i64.wrap (((n - p : Nat) : Int) + 1) = ((n - p : Nat) : Int) + 1 := IntWalk.i64_in _ (by omega)
  have e4 : IntKind.i64.wrap ((p : Int) + (k : Int)) = (en : Int) := by rw [IntWalk.i64_in _ (by omega)]; omega
  have htL : t ≤ L := by have := rest_in to_ ((L : Int) + 1) (by omega); rw [ht] at this; omega
  have hr3 := fun W => srest_any to_ ((L : Int) + 1) W h5 h6 (by omega) (by omega)
  rw [ht] at hr3
  have HR3 := hid hr3
  have e5 : IntKind.i64.wrap ((L : Int) + 1) = (L : Int) + 1 := IntWalk.i64_in _ (by omega)
  clear hr3 ht
  have HR1 := hid hr1
  have HR2 := hid hr2
  have HS := hid hs
  have HN := hid hn
  clear hr1 hr2 hs hn hp hk
  have hb0 := bw_a (Below.refl w.heap.size w) (.cells #[.int .i64 5, .int .i64 at_, .int .i64 nn, .int .i64 to_, .slice A2 m2 c2] 32)
  go_enter Try.func18, Try.ntmps18
  go_wp2_with fail
  refine (HR1.out _).mono ?_
  rintro e w1 ⟨rfl, rfl⟩
  go_wp2_with fail
  refine (HR2.out _).mono ?_
  rintro e w1 ⟨rfl, rfl⟩
  go_wp2_with fail
  have hsz0 : (w.alloc (.cells #[.int .i64 5, .int .i64 at_, .int .i64 nn, .int .i64 to_, .slice A2 m2 c2] 32)).heap.size = s + 1 := by simp [hws]
  have hsb := HS.out.below hb0
  have hbk : Blk (w.alloc (.cells #[.int .i64 5, .int .i64 at_, .int .i64 nn, .int .i64 to_, .slice A2 m2 c2] 32)) s 32 #[.int .i64 5, .int .i64 at_, .int .i64 nn, .int .i64 to_, .slice A2 m2 c2] := by have h := Blk.new w 32 #[.int .i64 5, .int .i64 at_, .int .i64 nn, .int .i64 to_, .slice A2 m2 c2]; rw [hws] at h; exact h
  have c0 := hbk.cell 0
  have c3 := hbk.cell 3
  simp only [List.getElem?_toArray, List.getElem?_cons_zero, List.getElem?_cons_succ] at c0 c3
  generalize hW0 : (w.alloc (.cells #[.int .i64 5, .int .i64 at_, .int .i64 nn, .int .i64 to_, .slice A2 m2 c2] 32)) = W0 at *
  have HSB := hid hsb
  have HB0 := hid hb0
  have HBK := hid hbk
  clear hsb hb0 hW0 hbk
  have i1 : (p : Int) ≤ (c : Int) := by omega
  have i2 : en ≤ n := by omega
  have i3 : (0 : Int) ≤ (p : Int) := by omega
  have HP1 := hid (take_sl HSB.out p)
  have HP2 := hid (HSB.out.cut en (by rw [HN.out]; omega))
  go_region_held3 (fun w' => w'.cell? ⟨s, 0, none⟩ = some (.int .i64 5) ∧ w'.cell? ⟨s, 3, none⟩ = some (.int .i64 to_)) (first | exact ⟨d0, d3⟩ | exact ⟨c0, c3⟩ | go_keep) ((go_at_call 25; refine (scat2 A (cutA A c en) p (n - en) c (c - en) (bs.take p) (bs.drop en) L (s + 1) W0.drew _ (show W0.drew.heap.size = s + 1 from hsz0) (by rw [List.length_take, HN.out]; omega) (by rw [List.length_drop, HN.out]) hL (by omega) (HP1.out.drewN 1) (HP2.out.drewN 1) rfl).mono ?_; rintro e w8 ⟨v8, rfl, ho8, hb8⟩; have d0 := (Blk.below (show Blk W0.drew s _ _ from HBK.out) hb8 (show s < W0.drew.heap.size from HBK.out.lt)).cell 0; have d3 := (Blk.below (show Blk W0.drew s _ _ from HBK.out) hb8 (show s < W0.drew.heap.size from HBK.out.lt)).cell 3; simp only [List.getElem?_toArray, List.getElem?_cons_zero, List.getElem?_cons_succ] at d0 d3; obtain ⟨A8, c8, rfl⟩ := row_slice_g ho8; have HO8 := hid ho8; have HB8 := hid hb8; have HK8 := hid (Blk.below (show Blk W0.drew s _ _ from HBK.out) hb8 (show s < W0.drew.heap.size from HBK.out.lt)); have HS8 := hid (HSB.out.below (show Below W0.heap.size W0 w8 from ⟨hb8.os, hb8.tape, hb8.output, hb8.size, hb8.block⟩)); clear ho8 hb8))
  go_wp2_with fail
  refine (HR3.out _).mono ?_
  rintro e w9 ⟨rfl, rfl⟩
  have hsl := Sl.of_own' HO8.out
  have hc8 := hsl.cap
  have hs8 := hsl.small
  have hlen8 : (bs.take p ++ bs.drop en).length = L := by rw [List.length_append, List.length_take, List.length_drop, HN.out]; omega
  rw [List.length_map, hlen8] at hc8
  have HL8 := hid hlen8
  have HP5 := hid (take_sl hsl t)
  have HP7 := hid (hsl.cut t (by rw [hlen8]; exact htL))
  have HP6 := hid (take_sl (HS8.out.cut p (by rw [HN.out]; omega)) k)
  have k1 : (t : Int) ≤ (c8 : Int) := by omega
  have k2 : t ≤ L := htL
  have k3 : (0 : Int) ≤ (t : Int) := by omega
  have k4 : p ≤ en := by omega
  have k5 : en ≤ c := by omega
  have k6 : en - p = k := by omega
  have c0 := HK8.out.cell 0
  simp only [List.getElem?_toArray, List.getElem?_cons_zero] at c0
  clear hsl hlen8
  go_wp2_with fail
  go_region_held3 (fun w' => w'.cell? ⟨s, 0, none⟩ = some (.int .i64 5)) (first | exact dd0 | exact c0 | go_keep) ((go_at_call 25; refine (scat3 A8 (cutA A c p) (cutA A8 c8 t) t k (L - t) c8 (c - p) (c8 - t) ((bs.take p ++ bs.drop en).take t) ((bs.drop p).take k) ((bs.take p ++ bs.drop en).drop t) n w9.heap.size w9.drew _ rfl (by rw [List.length_take, HL8.out]; omega) (by rw [List.length_take, List.length_drop, HN.out]; omega) (by rw [List.length_drop, HL8.out]) (by omega) (by omega) (HP5.out.drewN 1) (HP6.out.drewN 1) (HP7.out.drewN 1) rfl).mono ?_; rintro e wx ⟨vx, rfl, hox, hbx⟩; have dd0 := (Blk.below (show Blk w9.drew s _ _ from HK8.out) hbx (show s < w9.drew.heap.size from HK8.out.lt)).cell 0; simp only [List.getElem?_toArray, List.getElem?_cons_zero] at dd0; obtain ⟨Ax, cx, rfl⟩ := row_slice_g hox; have HOX := hid hox; have HBX := hid hbx; clear hox hbx))
  have hq := HOX.out
  have hq1 : n ≤ cx ∧ cx ≤ 9223372036854775807 := by
    rcases hq.2 with ⟨h8, h9⟩ | ⟨g8, cap, cur, h8, -, -, h9, h10, -⟩
    · injection h8 with e1 e2 e3
      omega
    · injection h8 with e1 e2 e3
      simp only [maxLen] at h10
      omega
  have hmn : min (n : Int) 1048576 = (n : Int) := by omega
  have hN1 : ¬ (1048576 : Int) < (n : Int) := by omega
  have j1 : (n : Int) ≤ (cx : Int) := by omega
  have j2 : (0 : Int) ≤ (n : Int) := by omega
  clear hq
  go_wp2_with fail
  go_ret
  have hsz8 : s ≤ W0.heap.size := by omega
  have hsz9 : s ≤ w9.heap.size := by have := HK8.out.lt; omega
  exact ⟨_, _, rfl, ed_fin (own_mono HOX.out (by show s ≤ w9.heap.size; exact hsz9)) (by omega), ((show Below s w W0 by rw [← hws]; exact HB0.out).trans (Below.mono (show Below W0.heap.size W0 w9 from ⟨HB8.out.os, HB8.out.tape, HB8.out.output, HB8.out.size, HB8.out.block⟩) (by omega))).trans (Below.mono (show Below w9.heap.size w9 wx from ⟨HBX.out.os, HBX.out.tape, HBX.out.output, HBX.out.size, HBX.out.block⟩) hsz9)⟩
end Go.Proofs.Ytgiealcfhlcpoaa
