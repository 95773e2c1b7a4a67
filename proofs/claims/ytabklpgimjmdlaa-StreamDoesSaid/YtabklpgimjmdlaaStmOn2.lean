/- A stream to which one thing happened: the document: bits, and all kinds in one. -/
import Derived.Test.YtabklpgimjmdlaaStmOne
set_option linter.unusedVariables false
namespace Go.Proofs.Ytabklpgimjmdlaa
open Go.RowKit
set_option maxRecDepth 100000 in
set_option maxHeartbeats 4000000 in
theorem r16_none (bs : List UInt8) (kd : Int) (at_ nn to_ : Int) (A2 : Option Addr) (m2 c2 : Nat) (A : Option Addr) (n c p k en : Nat) (w : World) (hn : bs.length = n) (hl : n ≤ 1048576) (hs : Sl w A c (bs.map bv)) (h1 : -9223372036854775808 ≤ at_) (h2 : at_ ≤ 9223372036854775807) (h3 : -9223372036854775808 ≤ nn) (h4 : nn ≤ 9223372036854775807) (hp : at_ % ((n : Int) + 1) = (p : Int)) (hk : nn % (((n - p : Nat) : Int) + 1) = (k : Int)) (hpk : p + k = en) (hen : en ≤ n) (hkd : kd < 1 ∨ 5 < kd) :
    Calls Try.prog 19 #[.slice A n c, .int .i64 kd, .int .i64 at_, .int .i64 nn, .int .i64 to_, .slice A2 m2 c2] w fun e w' => ∃ A' c', e = .returned (.slice A' n c') ∧ Sl w' A' c' ((bs).map bv) ∧ Below w.heap.size w w' := by
  obtain ⟨s, hws⟩ : ∃ s, w.heap.size = s := ⟨_, rfl⟩
  have hcap := hs.cap
  have hsm := hs.small
  rw [List.length_map, hn] at hcap
  have hr1 := fun W => rrest_any at_ ((n : Int) + 1) W h1 h2 (by omega) (by omega)
  rw [hp] at hr1
  have hr2 := fun W => rrest_any nn (((n - p : Nat) : Int) + 1) W h3 h4 (by omega) (by omega)
  rw [hk] at hr2
  have e1 : IntKind.i64.wrap ((n : Int) + 1) = (n : Int) + 1 := IntWalk.i64_in _ (by omega)
  have e2 : IntKind.i64.wrap ((n : Int) - (p : Int)) = ((n - p : Nat) : Int) := by rw [IntWalk.i64_in _ (by omega)]; omega
  have e3 : IntKind.i64.wrap (((n - p : Nat) : Int) + 1) = ((n - p : Nat) : Int) + 1 := IntWalk.i64_in _ (by omega)
  have e4 : IntKind.i64.wrap ((p : Int) + (k : Int)) = (en : Int) := by rw [IntWalk.i64_in _ (by omega)]; omega
  have x1 : (kd == 1) = false := by simp; omega
  have x2 : (kd == 2) = false := by simp; omega
  have x3 : (kd == 3) = false := by simp; omega
  have x4 : (kd == 4) = false := by simp; omega
  have x5 : (kd == 5) = false := by simp; omega
  clear hkd
  have HR1 := hid hr1
  have HR2 := hid hr2
  have HS := hid hs
  have HN := hid hn
  have HWS := hid hws
  clear hr1 hr2 hs hn hp hk hws
  rw [HWS.out]
  go_enter Try.func19, Try.ntmps19
  go_wp2_with fail
  refine (HR1.out _).mono ?_
  rintro e w1 ⟨rfl, hw1⟩
  obtain rfl : w = w1 := hw1.symm
  go_wp2_with fail
  refine (HR2.out _).mono ?_
  rintro e w1 ⟨rfl, hw1⟩
  obtain rfl : w = w1 := hw1.symm
  have i1 : (p : Int) ≤ (c : Int) := by omega
  have i2 : en ≤ n := hen
  have i2b : p ≤ n := by omega
  have i3 : (0 : Int) ≤ (p : Int) := by omega
  have i4 : (0 : Int) ≤ (en : Int) := by omega
  have i5 : (en : Int) ≤ (c : Int) := by omega
  have i6 : en ≤ c := by omega
  have i7 : p ≤ en := by omega
  have hB0 := Below.refl s w
  have hmn : min (n : Int) 1048576 = (n : Int) := by omega
  have j1 : (n : Int) ≤ (c : Int) := by omega
  have j2 : (0 : Int) ≤ (n : Int) := by omega
  go_wp2_with fail
  go_ret
  exact ⟨_, _, rfl, HS.out, hB0⟩
theorem EdS.drew1 {B n c : Nat} {w : World} {A : Option Addr} {bs : List UInt8} (h : EdS B w A n c bs) : EdS B w.drew A n c bs := ⟨h.sl.drewN 1, h.len, h.own⟩
set_option maxRecDepth 100000 in
set_option maxHeartbeats 4000000 in
theorem r16_flip (bs : List UInt8) (at_ nn to_ : Int) (A2 : Option Addr) (m2 c2 : Nat) (A : Option Addr) (n c p k en : Nat) (w : World) (hn : bs.length = n) (hl : n ≤ 1048576) (hs : Sl w A c (bs.map bv)) (h1 : -9223372036854775808 ≤ at_) (h2 : at_ ≤ 9223372036854775807) (h3 : -9223372036854775808 ≤ nn) (h4 : nn ≤ 9223372036854775807) (hp : at_ % ((n : Int) + 1) = (p : Int)) (hk : nn % (((n - p : Nat) : Int) + 1) = (k : Int)) (hpk : p + k = en) (hen : en ≤ n) (t : Nat) (h5 : -9223372036854775808 ≤ to_) (h6 : to_ ≤ 9223372036854775807) (ht : to_ % 8 = (t : Int)) :
    Calls Try.prog 19 #[.slice A n c, .int .i64 1, .int .i64 at_, .int .i64 nn, .int .i64 to_, .slice A2 m2 c2] w fun e w' => ∃ A' c', e = .returned (.slice A' n c') ∧ Sl w' A' c' ((flipL bs p t).map bv) ∧ Below w.heap.size w w' := by
  obtain ⟨s, hws⟩ : ∃ s, w.heap.size = s := ⟨_, rfl⟩
  have hcap := hs.cap
  have hsm := hs.small
  rw [List.length_map, hn] at hcap
  have hr1 := fun W => rrest_any at_ ((n : Int) + 1) W h1 h2 (by omega) (by omega)
  rw [hp] at hr1
  have hr2 := fun W => rrest_any nn (((n - p : Nat) : Int) + 1) W h3 h4 (by omega) (by omega)
  rw [hk] at hr2
  have e1 : IntKind.i64.wrap ((n : Int) + 1) = (n : Int) + 1 := IntWalk.i64_in _ (by omega)
  have e2 : IntKind.i64.wrap ((n : Int) - (p : Int)) = ((n - p : Nat) : Int) := by rw [IntWalk.i64_in _ (by omega)]; omega
  have e3 : IntKind.i64.wrap (((n - p : Nat) : Int) + 1) = ((n - p : Nat) : Int) + 1 := IntWalk.i64_in _ (by omega)
  have e4 : IntKind.i64.wrap ((p : Int) + (k : Int)) = (en : Int) := by rw [IntWalk.i64_in _ (by omega)]; omega
  have htm := rest_in to_ 8 (by omega)
  rw [ht] at htm
  have hr3 := fun W => rrest_any to_ 8 W h5 h6 (by omega) (by omega)
  rw [ht] at hr3
  have HR3 := hid hr3
  clear hr3 ht
  have HR1 := hid hr1
  have HR2 := hid hr2
  have HS := hid hs
  have HN := hid hn
  have HWS := hid hws
  clear hr1 hr2 hs hn hp hk hws
  rw [HWS.out]
  go_enter Try.func19, Try.ntmps19
  go_wp2_with fail
  refine (HR1.out _).mono ?_
  rintro e w1 ⟨rfl, hw1⟩
  obtain rfl : w = w1 := hw1.symm
  go_wp2_with fail
  refine (HR2.out _).mono ?_
  rintro e w1 ⟨rfl, hw1⟩
  obtain rfl : w = w1 := hw1.symm
  have i1 : (p : Int) ≤ (c : Int) := by omega
  have i2 : en ≤ n := hen
  have i2b : p ≤ n := by omega
  have i3 : (0 : Int) ≤ (p : Int) := by omega
  have i4 : (0 : Int) ≤ (en : Int) := by omega
  have i5 : (en : Int) ≤ (c : Int) := by omega
  have i6 : en ≤ c := by omega
  have i7 : p ≤ en := by omega
  have hB0 := Below.refl s w
  have HJ := hid (rj2 bs [] n 0 n A none c 0 w HN.out rfl (by omega) (by omega) HS.out (Sl.nil_ _))
  go_wp2_with fail
  refine HJ.out.mono ?_
  rintro e w5 ⟨A5, c5, rfl, ho5, hb5⟩
  rw [List.append_nil] at ho5
  have hed := EdS.of_row ho5
  rw [HWS.out] at hed hb5
  have HED := hid hed
  have HB5 := hid hb5
  have hq0 := hed.sl.cap
  have hq1 := hed.sl.small
  rw [List.length_map, HN.out] at hq0
  have hmn : min (n : Int) 1048576 = (n : Int) := by omega
  have j1 : (n : Int) ≤ (c5 : Int) := by omega
  have j2 : (0 : Int) ≤ (n : Int) := by omega
  clear hed hb5 ho5 HJ
  by_cases hpn : p < n
  · have hpi : (p : Int) < (n : Int) := by omega
    have hpb : p < bs.length := by rw [HN.out]; exact hpn
    obtain ⟨g, cs, rfl, hBg, hkg⟩ : ∃ g cs, A5 = some ⟨g, 0, none⟩ ∧ s ≤ g ∧ Blk w5 g 5 cs := by
      rcases HED.out.own with e | h
      · subst e
        have := HED.out.sl.nil0 rfl
        omega
      · exact h
    have cp : w5.drew.cell? ⟨g, p, none⟩ = some (.int .u8 (bs[p].toNat : Int)) := by
      obtain ⟨b, o, e, hb, hc⟩ := BRd.at_ HED.out.sl.rd (k := p) hpb
      injection e with e
      injection e with e1 e2
      subst e1; subst e2
      rw [Nat.zero_add] at hc
      exact hc
    have fp : w5.drew.frozen? ⟨g, p, none⟩ = false := hkg.frozen p
    have hv2 : Go.bits .xor .u8 (bs[p].toNat : Int) (2 ^ t % 256) = ((flipB bs[p] t).toNat : Int) := by
      have hv := bits_flip bs[p] t (by omega)
      injection hv
    have HST := hid (ed_set (x := flipB bs[p] t) HED.out.drew1 hBg (show Blk w5.drew g 5 cs from hkg) hpb)
    have HFL := hid (show flipL bs p t = bs.set p (flipB bs[p] t) by unfold flipL; rw [dif_pos hpb])
    have HBS := hid (show Below s w (w5.drew.setCell ⟨g, p, none⟩ (bv (flipB bs[p] t))) from (below_drew' HB5.out).setCell hBg _)
    generalize bs[p] = X at *
    go_wp2_with fail
    go_still_tail 11, (by kernel_rfl)
    still_call (HR3.out _)
    repeat still_step
    refine wpStill_nil ?_
    change wpList _ _ _ _ _ w5.drew
    generalize w5.drew = w6 at *
    go_wp2_with fail
    go_ret
    exact ⟨_, _, rfl, by rw [HFL.out]; exact HST.out.sl, HBS.out⟩
  · have hpi : ¬ (p : Int) < (n : Int) := by omega
    have HFL := hid (show flipL bs p t = bs by unfold flipL; rw [dif_neg (by rw [HN.out]; exact hpn)])
    go_wp2_with fail
    go_ret
    exact ⟨_, _, rfl, by rw [HFL.out]; exact HED.out.sl, HB5.out⟩
theorem r16_any (x : EdV) (bs : List UInt8) (A : Option Addr) (n c : Nat) (w : World) (hn : bs.length = n) (hs : Sl w A c (bs.map bv)) (hl : 2 * n + x.s.xs.length ≤ 1048576) (hk0 : -9223372036854775808 ≤ x.p ∧ x.p ≤ 9223372036854775807) (hk1 : -9223372036854775808 ≤ x.n ∧ x.n ≤ 9223372036854775807) (hk2 : -9223372036854775808 ≤ x.t ∧ x.t ≤ 9223372036854775807) (hs2 : Sl w x.s.A x.s.c (x.s.xs.map bv)) :
    Calls Try.prog 19 #[.slice A n c, .int .i64 x.k, .int .i64 x.p, .int .i64 x.n, .int .i64 x.t, .slice x.s.A x.s.xs.length x.s.c] w fun e w' => ∃ A' c', e = .returned (.slice A' (edF x.k x.p x.n x.t x.s.xs bs).length c') ∧ Sl w' A' c' ((edF x.k x.p x.n x.t x.s.xs bs).map bv) ∧ Below w.heap.size w w' := by
  obtain ⟨kd, at_, nn, to_, yA, yc, ys⟩ := x
  simp only at *
  obtain ⟨p, k, hp, hk, hpk⟩ := ed_pk at_ nn n
  have hF : edF kd at_ nn to_ ys bs = if kd = 1 then flipL bs p (to_ % 8).toNat
      else if kd = 2 then bs.take p ++ bs.drop (p + k)
      else if kd = 3 then bs.take (p + k) ++ bs.drop p
      else if kd = 4 then bs.take p ++ (ys.take (min ys.length 10000) ++ bs.drop p)
      else if kd = 5 then (bs.take p ++ bs.drop (p + k)).take (to_ % (((bs.take p ++ bs.drop (p + k)).length : Int) + 1)).toNat ++ ((bs.drop p).take k ++ (bs.take p ++ bs.drop (p + k)).drop (to_ % (((bs.take p ++ bs.drop (p + k)).length : Int) + 1)).toNat)
      else bs := by
    unfold edF
    simp only [hn, hp, Int.toNat_natCast, hk]
  rw [hF]
  have hL : (bs.take p ++ bs.drop (p + k)).length = p + (n - (p + k)) := by rw [List.length_append, List.length_take, List.length_drop]; omega
  by_cases k1 : kd = 1
  · subst k1
    have ht := rest_in to_ 8 (by omega)
    refine (r16_flip bs at_ nn to_ yA ys.length yc A n c p k (p + k) w hn (by omega) hs hk0.1 hk0.2 hk1.1 hk1.2 hp hk rfl hpk (to_ % 8).toNat hk2.1 hk2.2 (Int.toNat_of_nonneg ht.1).symm).mono ?_
    rintro e w' ⟨A', c', rfl, e1, e2⟩
    exact ⟨_, _, by rw [if_pos rfl, flipL_len', hn], by simpa using e1, e2⟩
  by_cases k2 : kd = 2
  · subst k2
    refine (r16_lose bs at_ nn to_ yA ys.length yc A n c p k (p + k) (p + (n - (p + k))) w hn (by omega) hs hk0.1 hk0.2 hk1.1 hk1.2 hp hk rfl hpk rfl (by omega)).mono ?_
    rintro e w' ⟨A', c', rfl, e1, e2⟩
    exact ⟨_, _, by rw [if_neg (by omega), if_pos rfl, hL], by simpa using e1, e2⟩
  by_cases k3 : kd = 3
  · subst k3
    refine (r16_copy bs at_ nn to_ yA ys.length yc A n c p k (p + k) (p + k + (n - p)) w hn (by omega) hs hk0.1 hk0.2 hk1.1 hk1.2 hp hk rfl hpk rfl (by omega)).mono ?_
    rintro e w' ⟨A', c', rfl, e1, e2⟩
    exact ⟨_, _, by rw [if_neg (by omega), if_neg (by omega), if_pos rfl, List.length_append, List.length_take, List.length_drop, hn, Nat.min_eq_left hpk], by simpa using e1, e2⟩
  by_cases k4 : kd = 4
  · subst k4
    refine (r16_put bs ys at_ nn to_ yA ys.length yc A n c p k (p + k) (p + min ys.length 10000 + (n - p)) w hn (by omega) hs hk0.1 hk0.2 hk1.1 hk1.2 hp hk rfl hpk hs2 rfl _ rfl rfl (by omega)).mono ?_
    rintro e w' ⟨A', c', rfl, e1, e2⟩
    refine ⟨_, _, ?_, by simpa using e1, e2⟩
    rw [if_neg (by omega), if_neg (by omega), if_neg (by omega), if_pos rfl, List.length_append, List.length_append, List.length_take, List.length_take, List.length_drop, hn]
    congr 2
    omega
  by_cases k5 : kd = 5
  · subst k5
    have ht := rest_in to_ (((p + (n - (p + k)) : Nat) : Int) + 1) (by omega)
    rw [hL]
    refine (r16_move bs at_ nn to_ yA ys.length yc A n c p k (p + k) w hn (by omega) hs hk0.1 hk0.2 hk1.1 hk1.2 hp hk rfl hpk hk2.1 hk2.2 (p + (n - (p + k))) _ rfl (Int.toNat_of_nonneg ht.1).symm).mono ?_
    rintro e w' ⟨A', c', rfl, e1, e2⟩
    refine ⟨_, _, ?_, by simpa using e1, e2⟩
    rw [if_neg (by omega), if_neg (by omega), if_neg (by omega), if_neg (by omega), if_pos rfl, List.length_append, List.length_append, List.length_take, List.length_take, List.length_drop, List.length_drop, hL, hn]
    congr 2
    omega
  · refine (r16_none bs kd at_ nn to_ yA ys.length yc A n c p k (p + k) w hn (by omega) hs hk0.1 hk0.2 hk1.1 hk1.2 hp hk rfl hpk (by omega)).mono ?_
    rintro e w' ⟨A', c', rfl, e1, e2⟩
    exact ⟨_, _, by rw [if_neg k1, if_neg k2, if_neg k3, if_neg k4, if_neg k5, hn], by simpa [k1, k2, k3, k4, k5] using e1, e2⟩
end Go.Proofs.Ytabklpgimjmdlaa
