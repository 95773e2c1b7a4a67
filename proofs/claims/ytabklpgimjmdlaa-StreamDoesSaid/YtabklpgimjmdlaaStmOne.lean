/- A stream to which one thing happened: the document's answer. -/
import Derived.Test.YtabklpgimjmdlaaStmEdA
import Derived.StillTailTactics
set_option linter.unusedVariables false
namespace Go.Proofs.Ytabklpgimjmdlaa
open Go.RowKit
attribute [local go_sem high] run_cut_l run_cut_lh
theorem rj2 (xs ys : List UInt8) (n m N : Nat) (A B : Option Addr) (c d : Nat) (w : World) (hn : xs.length = n) (hm : ys.length = m) (hN : n + m = N) (hl : N ≤ 10000000) (hs : Sl w A c (xs.map bv)) (ht : Sl w B d (ys.map bv)) :
    Calls Try.prog 20 #[.slice A n c, .slice B m d] w fun e w' => ∃ A' c', e = .returned (.slice A' N c') ∧ w'.ownsRow w.heap.size 5 1 (.slice A' N c') N ((xs ++ ys).map bv) ∧ Below w.heap.size w w' := by
  subst hN
  refine (rjoin2_own xs ys n m A B c d w hn hm hl hs ht).mono ?_
  rintro e w' ⟨v, rfl, ho, hb⟩
  obtain ⟨A', c', rfl⟩ := row_slice_g ho
  exact ⟨A', c', rfl, ho, hb⟩
set_option maxRecDepth 100000 in
set_option maxHeartbeats 4000000 in
theorem r16_lose (bs : List UInt8) (at_ nn to_ : Int) (A2 : Option Addr) (m2 c2 : Nat) (A : Option Addr) (n c p k en N : Nat) (w : World) (hn : bs.length = n) (hl : n ≤ 1048576) (hs : Sl w A c (bs.map bv)) (h1 : -9223372036854775808 ≤ at_) (h2 : at_ ≤ 9223372036854775807) (h3 : -9223372036854775808 ≤ nn) (h4 : nn ≤ 9223372036854775807) (hp : at_ % ((n : Int) + 1) = (p : Int)) (hk : nn % (((n - p : Nat) : Int) + 1) = (k : Int)) (hpk : p + k = en) (hen : en ≤ n) (hNN : p + (n - en) = N) (hNl : N ≤ 1048576) :
    Calls Try.prog 19 #[.slice A n c, .int .i64 2, .int .i64 at_, .int .i64 nn, .int .i64 to_, .slice A2 m2 c2] w fun e w' => ∃ A' c', e = .returned (.slice A' N c') ∧ Sl w' A' c' ((bs.take p ++ bs.drop en).map bv) ∧ Below w.heap.size w w' := by
  obtain ⟨s, hws⟩ : ∃ s, w.heap.size = s := ⟨_, rfl⟩
  have hcap := hs.cap
  have hsm := hs.small
  rw [List.length_map, hn] at hcap
  have hr1 := fun W => rrest_any at_ ((n : Int) + 1) W h1 h2 (by omega) (by omega)
  rw [hp] at hr1
  have hr2 := fun W => rrest_any nn (((n - p : Nat) : Int) + 1) W h3 h4 (by omega) (by omega)
  rw [hk] at hr2
  have e1 : IntKind.i64.wrap ((n : Int) + 1) = (n : Int) + 1 := IntWalk.i64_in _ (by omega)
  have e2 : IntKind.i64.wrap ((n : Int) - (p : Int)) = ((n - p : Nat) : Int) := by rw [IntWalk.i64_in _ (by omega)]; omega
  have e3 : IntKind.i64.wrap (((n - p : Nat) : Int) + 1) = ((n - p : Nat) : Int) + 1 := IntWalk.i64_in _ (by omega)
  have e4 : IntKind.i64.wrap ((p : Int) + (k : Int)) = (en : Int) := by rw [IntWalk.i64_in _ (by omega)]; omega
  have HR1 := hid hr1
  have HR2 := hid hr2
  have HS := hid hs
  have HN := hid hn
  have HWS := hid hws
  clear hr1 hr2 hs hn hp hk hws
  rw [HWS.out]
  go_enter Try.func19, Try.ntmps19
  go_wp2_with fail
  refine (HR1.out _).mono ?_
  rintro e w1 ⟨rfl, hw1⟩
  obtain rfl : w = w1 := hw1.symm
  go_wp2_with fail
  refine (HR2.out _).mono ?_
  rintro e w1 ⟨rfl, hw1⟩
  obtain rfl : w = w1 := hw1.symm
  have i1 : (p : Int) ≤ (c : Int) := by omega
  have i2 : en ≤ n := hen
  have i2b : p ≤ n := by omega
  have i3 : (0 : Int) ≤ (p : Int) := by omega
  have i4 : (0 : Int) ≤ (en : Int) := by omega
  have i5 : (en : Int) ≤ (c : Int) := by omega
  have i6 : en ≤ c := by omega
  have i7 : p ≤ en := by omega
  have hB0 := Below.refl s w
  have HJ := hid (fun W (hW : Below s w W) => rj2 (bs.take p) (bs.drop en) (p) (n - en) N A (cutA A c en) c (c - en) W (by rw [List.length_take, HN.out]; omega) (by rw [List.length_drop, HN.out]) (by omega) (by omega) (take_sl (HS.out.below (by rw [HWS.out]; exact hW)) _) ((HS.out.below (by rw [HWS.out]; exact hW)).cut _ (by rw [HN.out]; omega)))
  go_wp2_with fail
  go_still_tail 8, (by kernel_rfl)
  change wpList _ _ _ _ _ w.drew
  go_wp2_with fail
  refine (HJ.out _ (below_drewN hB0 1)).mono ?_
  rintro e w5 ⟨A5, c5, rfl, ho5, hb5⟩
  have HO5 := hid ho5
  have HB5 := hid (show Below s w w5 from ⟨hb5.os, hb5.tape, hb5.output, hb5.size, fun q hq => hb5.block q (by show q < w.heap.size; rw [HWS.out]; exact hq)⟩)
  clear ho5 hb5
  have hq : N ≤ c5 ∧ c5 ≤ 9223372036854775807 := by
    rcases HO5.out.2 with ⟨h8, h9⟩ | ⟨g8, cap, cur, h8, -, -, h9, h10, -⟩
    · injection h8 with e1 e2 e3
      omega
    · injection h8 with e1 e2 e3
      simp only [maxLen] at h10
      omega
  have hmn : min (N : Int) 1048576 = (N : Int) := by omega
  have j1 : (N : Int) ≤ (c5 : Int) := by omega
  have j2 : (0 : Int) ≤ (N : Int) := by omega
  go_wp2_with fail
  go_ret
  exact ⟨_, _, rfl, Sl.of_own' HO5.out, HB5.out⟩
set_option maxRecDepth 100000 in
set_option maxHeartbeats 4000000 in
theorem r16_copy (bs : List UInt8) (at_ nn to_ : Int) (A2 : Option Addr) (m2 c2 : Nat) (A : Option Addr) (n c p k en N : Nat) (w : World) (hn : bs.length = n) (hl : n ≤ 1048576) (hs : Sl w A c (bs.map bv)) (h1 : -9223372036854775808 ≤ at_) (h2 : at_ ≤ 9223372036854775807) (h3 : -9223372036854775808 ≤ nn) (h4 : nn ≤ 9223372036854775807) (hp : at_ % ((n : Int) + 1) = (p : Int)) (hk : nn % (((n - p : Nat) : Int) + 1) = (k : Int)) (hpk : p + k = en) (hen : en ≤ n) (hNN : en + (n - p) = N) (hNl : N ≤ 1048576) :
    Calls Try.prog 19 #[.slice A n c, .int .i64 3, .int .i64 at_, .int .i64 nn, .int .i64 to_, .slice A2 m2 c2] w fun e w' => ∃ A' c', e = .returned (.slice A' N c') ∧ Sl w' A' c' ((bs.take en ++ bs.drop p).map bv) ∧ Below w.heap.size w w' := by
  obtain ⟨s, hws⟩ : ∃ s, w.heap.size = s := ⟨_, rfl⟩
  have hcap := hs.cap
  have hsm := hs.small
  rw [List.length_map, hn] at hcap
  have hr1 := fun W => rrest_any at_ ((n : Int) + 1) W h1 h2 (by omega) (by omega)
  rw [hp] at hr1
  have hr2 := fun W => rrest_any nn (((n - p : Nat) : Int) + 1) W h3 h4 (by omega) (by omega)
  rw [hk] at hr2
  have e1 : IntKind.i64.wrap ((n : Int) + 1) = (n : Int) + 1 := IntWalk.i64_in _ (by omega)
  have e2 : IntKind.i64.wrap ((n : Int) - (p : Int)) = ((n - p : Nat) : Int) := by rw [IntWalk.i64_in _ (by omega)]; omega
  have e3 : IntKind.i64.wrap (((n - p : Nat) : Int) + 1) = ((n - p : Nat) : Int) + 1 := IntWalk.i64_in _ (by omega)
  have e4 : IntKind.i64.wrap ((p : Int) + (k : Int)) = (en : Int) := by rw [IntWalk.i64_in _ (by omega)]; omega
  have HR1 := hid hr1
  have HR2 := hid hr2
  have HS := hid hs
  have HN := hid hn
  have HWS := hid hws
  clear hr1 hr2 hs hn hp hk hws
  rw [HWS.out]
  go_enter Try.func19, Try.ntmps19
  go_wp2_with fail
  refine (HR1.out _).mono ?_
  rintro e w1 ⟨rfl, hw1⟩
  obtain rfl : w = w1 := hw1.symm
  go_wp2_with fail
  refine (HR2.out _).mono ?_
  rintro e w1 ⟨rfl, hw1⟩
  obtain rfl : w = w1 := hw1.symm
  have i1 : (p : Int) ≤ (c : Int) := by omega
  have i2 : en ≤ n := hen
  have i2b : p ≤ n := by omega
  have i3 : (0 : Int) ≤ (p : Int) := by omega
  have i4 : (0 : Int) ≤ (en : Int) := by omega
  have i5 : (en : Int) ≤ (c : Int) := by omega
  have i6 : en ≤ c := by omega
  have i7 : p ≤ en := by omega
  have hB0 := Below.refl s w
  have HJ := hid (fun W (hW : Below s w W) => rj2 (bs.take en) (bs.drop p) (en) (n - p) N A (cutA A c p) c (c - p) W (by rw [List.length_take, HN.out]; omega) (by rw [List.length_drop, HN.out]) (by omega) (by omega) (take_sl (HS.out.below (by rw [HWS.out]; exact hW)) _) ((HS.out.below (by rw [HWS.out]; exact hW)).cut _ (by rw [HN.out]; omega)))
  go_wp2_with fail
  go_still_tail 8, (by kernel_rfl)
  change wpList _ _ _ _ _ w.drew
  go_wp2_with fail
  refine (HJ.out _ (below_drewN hB0 1)).mono ?_
  rintro e w5 ⟨A5, c5, rfl, ho5, hb5⟩
  have HO5 := hid ho5
  have HB5 := hid (show Below s w w5 from ⟨hb5.os, hb5.tape, hb5.output, hb5.size, fun q hq => hb5.block q (by show q < w.heap.size; rw [HWS.out]; exact hq)⟩)
  clear ho5 hb5
  have hq : N ≤ c5 ∧ c5 ≤ 9223372036854775807 := by
    rcases HO5.out.2 with ⟨h8, h9⟩ | ⟨g8, cap, cur, h8, -, -, h9, h10, -⟩
    · injection h8 with e1 e2 e3
      omega
    · injection h8 with e1 e2 e3
      simp only [maxLen] at h10
      omega
  have hmn : min (N : Int) 1048576 = (N : Int) := by omega
  have j1 : (N : Int) ≤ (c5 : Int) := by omega
  have j2 : (0 : Int) ≤ (N : Int) := by omega
  go_wp2_with fail
  go_ret
  exact ⟨_, _, rfl, Sl.of_own' HO5.out, HB5.out⟩
set_option maxRecDepth 100000 in
set_option maxHeartbeats 4000000 in
theorem r16_put (bs : List UInt8) (ys : List UInt8) (at_ nn to_ : Int) (A2 : Option Addr) (m2 c2 : Nat) (A : Option Addr) (n c p k en N : Nat) (w : World) (hn : bs.length = n) (hl : n ≤ 1048576) (hs : Sl w A c (bs.map bv)) (h1 : -9223372036854775808 ≤ at_) (h2 : at_ ≤ 9223372036854775807) (h3 : -9223372036854775808 ≤ nn) (h4 : nn ≤ 9223372036854775807) (hp : at_ % ((n : Int) + 1) = (p : Int)) (hk : nn % (((n - p : Nat) : Int) + 1) = (k : Int)) (hpk : p + k = en) (hen : en ≤ n) (hs2 : Sl w A2 c2 (ys.map bv)) (hm2 : ys.length = m2) (q : Nat) (hq : min m2 10000 = q) (hNN : p + q + (n - p) = N) (hNl : N ≤ 1048576) :
    Calls Try.prog 19 #[.slice A n c, .int .i64 4, .int .i64 at_, .int .i64 nn, .int .i64 to_, .slice A2 m2 c2] w fun e w' => ∃ A' c', e = .returned (.slice A' N c') ∧ Sl w' A' c' ((bs.take p ++ (ys.take q ++ bs.drop p)).map bv) ∧ Below w.heap.size w w' := by
  obtain ⟨s, hws⟩ : ∃ s, w.heap.size = s := ⟨_, rfl⟩
  have hcap := hs.cap
  have hsm := hs.small
  rw [List.length_map, hn] at hcap
  have hr1 := fun W => rrest_any at_ ((n : Int) + 1) W h1 h2 (by omega) (by omega)
  rw [hp] at hr1
  have hr2 := fun W => rrest_any nn (((n - p : Nat) : Int) + 1) W h3 h4 (by omega) (by omega)
  rw [hk] at hr2
  have e1 : IntKind.i64.wrap ((n : Int) + 1) = (n : Int) + 1 := IntWalk.i64_in _ (by omega)
  have e2 : IntKind.i64.wrap ((n : Int) - (p : Int)) = ((n - p : Nat) : Int) := by rw [IntWalk.i64_in _ (by omega)]; omega
  have e3 : IntKind.i64.wrap (((n - p : Nat) : Int) + 1) = ((n - p : Nat) : Int) + 1 := IntWalk.i64_in _ (by omega)
  have e4 : IntKind.i64.wrap ((p : Int) + (k : Int)) = (en : Int) := by rw [IntWalk.i64_in _ (by omega)]; omega
  have hc2 := hs2.cap
  have hs2m := hs2.small
  rw [List.length_map, hm2] at hc2
  have HS2 := hid hs2
  have HM2 := hid hm2
  have hmq : min (m2 : Int) 10000 = (q : Int) := by omega
  clear hs2 hm2
  have HR1 := hid hr1
  have HR2 := hid hr2
  have HS := hid hs
  have HN := hid hn
  have HWS := hid hws
  clear hr1 hr2 hs hn hp hk hws
  rw [HWS.out]
  go_enter Try.func19, Try.ntmps19
  go_wp2_with fail
  refine (HR1.out _).mono ?_
  rintro e w1 ⟨rfl, hw1⟩
  obtain rfl : w = w1 := hw1.symm
  go_wp2_with fail
  refine (HR2.out _).mono ?_
  rintro e w1 ⟨rfl, hw1⟩
  obtain rfl : w = w1 := hw1.symm
  have i1 : (p : Int) ≤ (c : Int) := by omega
  have i2 : en ≤ n := hen
  have i2b : p ≤ n := by omega
  have i3 : (0 : Int) ≤ (p : Int) := by omega
  have i4 : (0 : Int) ≤ (en : Int) := by omega
  have i5 : (en : Int) ≤ (c : Int) := by omega
  have i6 : en ≤ c := by omega
  have i7 : p ≤ en := by omega
  have hB0 := Below.refl s w
  obtain ⟨N1, hN1⟩ : ∃ N1, p + q = N1 := ⟨_, rfl⟩
  have i8 : (0 : Int) ≤ (q : Int) := by omega
  have i9 : (q : Int) ≤ (c2 : Int) := by omega
  have HJ := hid (fun W (hW : Below s w W) => rj2 (bs.take p) (ys.take q) p q N1 A A2 c c2 W (by rw [List.length_take, HN.out]; omega) (by rw [List.length_take, HM2.out]; omega) hN1 (by omega) (take_sl (HS.out.below (by rw [HWS.out]; exact hW)) _) (take_sl (HS2.out.below (by rw [HWS.out]; exact hW)) _))
  have HJ2 := hid (fun W A5 c5 (hW : Below s w W) (h5 : Sl W A5 c5 ((bs.take p ++ ys.take q).map bv)) => rj2 (bs.take p ++ ys.take q) (bs.drop p) N1 (n - p) N A5 (cutA A c p) c5 (c - p) W (by rw [List.length_append, List.length_take, List.length_take, HN.out, HM2.out]; omega) (by rw [List.length_drop, HN.out]) (by omega) (by omega) h5 ((HS.out.below (by rw [HWS.out]; exact hW)).cut _ (by rw [HN.out]; omega)))
  clear hN1
  go_wp2_with fail
  go_region_held3 (fun w' => w'.heap.size = w'.heap.size) (exact rfl) (first | (go_at_call 20; ((with_reducible refine (HJ.out _ (below_drew' hB0)).mono ?_)); rintro e w4 ⟨A4, c4, rfl, ho4, hb4⟩; have HS4 := hid (Sl.of_own' ho4); have HB4 := hid (show Below s w w4 from ⟨hb4.os, hb4.tape, hb4.output, hb4.size, fun q hq => hb4.block q (by show q < w.heap.size; rw [HWS.out]; exact hq)⟩); clear ho4 hb4) | (go_at_call 20; refine (HJ2.out _ _ _ HB4.out HS4.out).mono ?_; rintro e w5 ⟨A5, c5, rfl, ho5, hb5⟩; have HO5 := hid ho5; have HB5 := hid (HB4.out.trans (hb5.mono (by have := HB4.out.size; have := HWS.out; omega))); clear ho5 hb5))
  have hq : N ≤ c5 ∧ c5 ≤ 9223372036854775807 := by
    rcases HO5.out.2 with ⟨h8, h9⟩ | ⟨g8, cap, cur, h8, -, -, h9, h10, -⟩
    · injection h8 with e1 e2 e3
      omega
    · injection h8 with e1 e2 e3
      simp only [maxLen] at h10
      omega
  have hmn : min (N : Int) 1048576 = (N : Int) := by omega
  have j1 : (N : Int) ≤ (c5 : Int) := by omega
  have j2 : (0 : Int) ≤ (N : Int) := by omega
  go_wp2_with fail
  go_ret
  exact ⟨_, _, rfl, by rw [← List.append_assoc]; exact Sl.of_own' HO5.out, HB5.out⟩
set_option maxRecDepth 100000 in
set_option maxHeartbeats 4000000 in
theorem r16_move (bs : List UInt8) (at_ nn to_ : Int) (A2 : Option Addr) (m2 c2 : Nat) (A : Option Addr) (n c p k en : Nat) (w : World) (hn : bs.length = n) (hl : n ≤ 1048576) (hs : Sl w A c (bs.map bv)) (h1 : -9223372036854775808 ≤ at_) (h2 : at_ ≤ 9223372036854775807) (h3 : -9223372036854775808 ≤ nn) (h4 : nn ≤ 9223372036854775807) (hp : at_ % ((n : Int) + 1) = (p : Int)) (hk : nn % (((n - p : Nat) : Int) + 1) = (k : Int)) (hpk : p + k = en) (hen : en ≤ n) (h5 : -9223372036854775808 ≤ to_) (h6 : to_ ≤ 9223372036854775807) (L t : Nat) (hL : p + (n - en) = L) (ht : to_ % ((L : Int) + 1) = (t : Int)) :
    Calls Try.prog 19 #[.slice A n c, .int .i64 5, .int .i64 at_, .int .i64 nn, .int .i64 to_, .slice A2 m2 c2] w fun e w' => ∃ A' c', e = .returned (.slice A' n c') ∧ Sl w' A' c' (((bs.take p ++ bs.drop en).take t ++ ((bs.drop p).take k ++ (bs.take p ++ bs.drop en).drop t)).map bv) ∧ Below w.heap.size w w' := by
  obtain ⟨s, hws⟩ : ∃ s, w.heap.size = s := ⟨_, rfl⟩
  have hcap := hs.cap
  have hsm := hs.small
  rw [List.length_map, hn] at hcap
  have hr1 := fun W => rrest_any at_ ((n : Int) + 1) W h1 h2 (by omega) (by omega)
  rw [hp] at hr1
  have hr2 := fun W => rrest_any nn (((n - p : Nat) : Int) + 1) W h3 h4 (by omega) (by omega)
  rw [hk] at hr2
  have e1 : IntKind.i64.wrap ((n : Int) + 1) = (n : Int) + 1 := IntWalk.i64_in _ (by omega)
  have e2 : IntKind.i64.wrap ((n : Int) - (p : Int)) = ((n - p : Nat) : Int) := by rw [IntWalk.i64_in _ (by omega)]; omega
  have e3 : IntKind.i64.wrap (((n - p : Nat) : Int) + 1) = ((n - p : Nat) : Int) + 1 := IntWalk.i64_in _ (by omega)
  have e4 : IntKind.i64.wrap ((p : Int) + (k : Int)) = (en : Int) := by rw [IntWalk.i64_in _ (by omega)]; omega
  have htL : t ≤ L := by have := rest_in to_ ((L : Int) + 1) (by omega); rw [ht] at this; omega
  have hr3 := fun W => rrest_any to_ ((L : Int) + 1) W h5 h6 (by omega) (by omega)
  rw [ht] at hr3
  have HR3 := hid hr3
  have e5 : IntKind.i64.wrap ((L : Int) + 1) = (L : Int) + 1 := IntWalk.i64_in _ (by omega)
  have hlen8 : (bs.take p ++ bs.drop en).length = L := by rw [List.length_append, List.length_take, List.length_drop, hn]; omega
  have HL8 := hid hlen8
  clear hr3 ht hlen8
  have HR1 := hid hr1
  have HR2 := hid hr2
  have HS := hid hs
  have HN := hid hn
  have HWS := hid hws
  clear hr1 hr2 hs hn hp hk hws
  rw [HWS.out]
  go_enter Try.func19, Try.ntmps19
  go_wp2_with fail
  refine (HR1.out _).mono ?_
  rintro e w1 ⟨rfl, hw1⟩
  obtain rfl : w = w1 := hw1.symm
  go_wp2_with fail
  refine (HR2.out _).mono ?_
  rintro e w1 ⟨rfl, hw1⟩
  obtain rfl : w = w1 := hw1.symm
  have i1 : (p : Int) ≤ (c : Int) := by omega
  have i2 : en ≤ n := hen
  have i2b : p ≤ n := by omega
  have i3 : (0 : Int) ≤ (p : Int) := by omega
  have i4 : (0 : Int) ≤ (en : Int) := by omega
  have i5 : (en : Int) ≤ (c : Int) := by omega
  have i6 : en ≤ c := by omega
  have i7 : p ≤ en := by omega
  have hB0 := Below.refl s w
  have HJ := hid (fun W (hW : Below s w W) => rj2 (bs.take p) (bs.drop en) p (n - en) L A (cutA A c en) c (c - en) W (by rw [List.length_take, HN.out]; omega) (by rw [List.length_drop, HN.out]) hL (by omega) (take_sl (HS.out.below (by rw [HWS.out]; exact hW)) _) ((HS.out.below (by rw [HWS.out]; exact hW)).cut _ (by rw [HN.out]; omega)))
  have hek : en - p = k := by omega
  obtain ⟨N1, hN1⟩ : ∃ N1, t + k = N1 := ⟨_, rfl⟩
  have HN1 := hid hN1
  have HJ2 := hid (fun W A5 c5 (hW : Below s w W) (h5 : Sl W A5 c5 ((bs.take p ++ bs.drop en).map bv)) => rj2 ((bs.take p ++ bs.drop en).take t) ((bs.drop p).take k) t k N1 A5 (cutA A c p) c5 (c - p) W (by rw [List.length_take, HL8.out]; omega) (by rw [List.length_take, List.length_drop, HN.out]; omega) HN1.out (by omega) (take_sl h5 t) (take_sl ((HS.out.below (by rw [HWS.out]; exact hW)).cut p (by rw [HN.out]; omega)) k))
  have HJ3 := hid (fun W A5 c5 A6 c6 (hW : Below s w W) (h5 : Sl W A5 c5 ((bs.take p ++ bs.drop en).map bv)) (h6 : Sl W A6 c6 (((bs.take p ++ bs.drop en).take t ++ (bs.drop p).take k).map bv)) => rj2 ((bs.take p ++ bs.drop en).take t ++ (bs.drop p).take k) ((bs.take p ++ bs.drop en).drop t) N1 (L - t) n A6 (cutA A5 c5 t) c6 (c5 - t) W (by rw [List.length_append, List.length_take, List.length_take, List.length_drop, HN.out, HL8.out]; have := HN1.out; omega) (by rw [List.length_drop, HL8.out]) (by have := HN1.out; omega) (by omega) h6 (h5.cut t (by rw [HL8.out]; exact htL)))
  clear hN1
  go_wp2_with fail
  go_still_tail 8, (by kernel_rfl)
  change wpList _ _ _ _ _ w.drew
  go_wp2_with fail
  refine (HJ.out _ (below_drewN hB0 1)).mono ?_
  rintro e w3 ⟨A3, c3, rfl, ho3, hb3⟩
  have HS3 := hid (Sl.of_own' ho3)
  have hq3 := (Sl.of_own' ho3).cap
  have hq4 := (Sl.of_own' ho3).small
  rw [List.length_map, HL8.out] at hq3
  have HB3 := hid (show Below s w w3 from ⟨hb3.os, hb3.tape, hb3.output, hb3.size, fun q hq => hb3.block q (by show q < w.heap.size; rw [HWS.out]; exact hq)⟩)
  clear ho3 hb3
  go_wp2_with fail
  refine (HR3.out _).mono ?_
  rintro e w9 ⟨rfl, hw9⟩
  obtain rfl := hw9
  have k1 : (t : Int) ≤ (c3 : Int) := by omega
  have k3 : (0 : Int) ≤ (t : Int) := by omega
  have HS3D := hid (show Sl w9.drew A3 c3 ((bs.take p ++ bs.drop en).map bv) from HS3.out.drewN 1)
  go_wp2_with fail
  go_region_held3 (fun w' => w'.heap.size = w'.heap.size) (exact rfl) (first | (go_at_call 20; ((with_reducible refine (HJ2.out _ _ _ (below_drew' HB3.out) HS3D.out).mono ?_)); rintro e w4 ⟨A4, c4, rfl, ho4, hb4⟩; have HS4 := hid (Sl.of_own' ho4); have HB4 := hid (show Below s w w4 from (below_drew' HB3.out).trans (hb4.mono (by have := HB3.out.size; have := HWS.out; show s ≤ w9.heap.size; omega))); have HS34 := hid (HS3D.out.below hb4); clear ho4 hb4) | (go_at_call 20; refine (HJ3.out _ _ _ _ _ HB4.out HS34.out HS4.out).mono ?_; rintro e w5 ⟨A5, c5, rfl, ho5, hb5⟩; have HO5 := hid ho5; have HB5 := hid (HB4.out.trans (hb5.mono (by have := HB4.out.size; have := HWS.out; omega))); clear ho5 hb5))
  have hq : n ≤ c5 ∧ c5 ≤ 9223372036854775807 := by
    rcases HO5.out.2 with ⟨h8, h9⟩ | ⟨g8, cap, cur, h8, -, -, h9, h10, -⟩
    · injection h8 with e1 e2 e3
      omega
    · injection h8 with e1 e2 e3
      simp only [maxLen] at h10
      omega
  have hmn : min (n : Int) 1048576 = (n : Int) := by omega
  have j1 : (n : Int) ≤ (c5 : Int) := by omega
  have j2 : (0 : Int) ≤ (n : Int) := by omega
  go_wp2_with fail
  go_ret
  exact ⟨_, _, rfl, by rw [← List.append_assoc]; exact Sl.of_own' HO5.out, HB5.out⟩
end Go.Proofs.Ytabklpgimjmdlaa
