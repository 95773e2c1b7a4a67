/- What happens to a stream (begun: lost bytes). · What happens to a stream: bytes copied. -/
import Derived.Test.YtgiealcfhlcpoaaStmA
import Derived.Test.YtgiealcfhlcpoaaM4
import Derived.Test.YtgiealcfhlcpoaaRsM5
import Derived.Deep.RegionHeld3
set_option linter.unusedVariables false
namespace Go.Proofs.Ytgiealcfhlcpoaa
open Go.RowKit
theorem scat2 (A1 A2 : Option Addr) (n1 n2 c1 c2 : Nat) (xs1 xs2 : List UInt8) (N g : Nat) (w W : World) (hg : w.heap.size = g) (hn1 : xs1.length = n1) (hn2 : xs2.length = n2) (hN : n1 + n2 = N) (hN2 : N ≤ 10000000) (h1 : Sl w A1 c1 (xs1.map bv)) (h2 : Sl w A2 c2 (xs2.map bv)) (hW : W = w.alloc (.cells #[.slice A1 n1 c1, .slice A2 n2 c2] 25)) :
    Calls Try.prog 25 #[.slice (some ⟨g, 0, none⟩) 2 2] W fun e w' => ∃ v, e = .returned v ∧ w'.ownsRow w.heap.size 5 1 v N ((xs1 ++ xs2).map bv) ∧ Below w.heap.size w w' := by
  subst hn1; subst hn2
  subst hW
  have hb := bw_a (Below.refl w.heap.size w) (.cells #[.slice A1 xs1.length c1, .slice A2 xs2.length c2] 25)
  refine (sconcat_any [⟨A1, c1, xs1⟩, ⟨A2, c2, xs2⟩] 2 (some ⟨g, 0, none⟩) 2 N _ rfl (by simp [lenC]; omega) hN2 ⟨by simp, by omega, (fun h => by cases h), ?_⟩ ?_).mono ?_
  · have h := Rd.new w 25 #[.slice A1 xs1.length c1, .slice A2 xs2.length c2]
    rw [hg] at h
    exact h
  · intro x hx
    simp only [List.mem_cons, List.not_mem_nil, or_false] at hx
    rcases hx with rfl | rfl
    · exact h1.below hb
    · exact h2.below hb
  · rintro e w' ⟨v, rfl, ho, hb2⟩
    exact ⟨v, rfl, own_mono (by simpa using ho) (by simp), hb.trans (hb2.mono (by simp))⟩
/-- A stream's bytes, in memory of the call's own. -/
structure EdS (B : Nat) (w : World) (A : Option Addr) (n c : Nat) (bs : List UInt8) : Prop where
  sl : Sl w A c (bs.map bv)
  len : bs.length = n
  own : A = none ∨ ∃ g cs, A = some ⟨g, 0, none⟩ ∧ B ≤ g ∧ Blk w g 5 cs
theorem take_sl {w : World} {A : Option Addr} {c : Nat} {bs : List UInt8} (h : Sl w A c (bs.map bv)) (k : Nat) : Sl w A c ((bs.take k).map bv) := by
  have h1 := h.cap
  rw [List.length_map] at h1
  refine ⟨by rw [List.length_map, List.length_take]; omega, h.small, h.nil0, fun j v hj => h.rd j v ?_⟩
  rw [List.map_take, List.getElem?_take] at hj
  by_cases hk : j < k
  · rw [if_pos hk] at hj; exact hj
  · rw [if_neg hk] at hj; cases hj
/-- What Concat made, cut to its length. -/
theorem ed_fin {w' : World} {B N : Nat} {A : Option Addr} {c : Nat} {xs : List UInt8} (h : w'.ownsRow B 5 1 (.slice A N c) N (xs.map bv)) (hN : N ≤ 10000000) : EdS B w' A N N xs := by
  have hl := h.1
  rw [List.length_map, Nat.mul_one] at hl
  have hs := Sl.of_own' h
  have hA : A = none ∧ N = 0 ∨ ∃ g cs, A = some ⟨g, 0, none⟩ ∧ B ≤ g ∧ Blk w' g 5 cs := by
    rcases h.2 with ⟨h1, h2⟩ | ⟨g, cap, cur, h1, h2, h3, -⟩
    · injection h1 with e1
      exact .inl ⟨e1, h2⟩
    · injection h1 with e1
      exact .inr ⟨g, cur, e1, h2, h3⟩
  refine ⟨⟨by rw [List.length_map]; omega, by omega, fun hn => ?_, hs.rd⟩, hl, hA.imp (fun h => h.1) id⟩
  rcases hA with ⟨-, h0⟩ | ⟨g, cs, h1, -⟩
  · exact h0
  · rw [hn] at h1; cases h1
set_option maxRecDepth 100000 in
set_option maxHeartbeats 2000000 in
theorem sedit_lose (bs : List UInt8) (at_ nn to_ : Int) (A2 : Option Addr) (m2 c2 : Nat) (A : Option Addr) (n c p k en N : Nat) (w : World) (hn : bs.length = n) (hl : n ≤ 1048576) (hs : Sl w A c (bs.map bv)) (hA : A = none ∨ ∃ ga oa, A = some (⟨ga, oa, none⟩ : Addr)) (h1 : -9223372036854775808 ≤ at_) (h2 : at_ ≤ 9223372036854775807) (h3 : -9223372036854775808 ≤ nn) (h4 : nn ≤ 9223372036854775807) (hp : at_ % ((n : Int) + 1) = (p : Int)) (hk : nn % (((n - p : Nat) : Int) + 1) = (k : Int)) (hpk : p + k = en) (hen : en ≤ n) (hNN : p + (n - en) = N) :
    Calls Try.prog 18 #[.slice A n c, .agg #[.int .i64 2, .int .i64 at_, .int .i64 nn, .int .i64 to_, .slice A2 m2 c2]] w fun e w' => ∃ A' c', e = .returned (.slice A' N c') ∧ EdS w.heap.size w' A' N c' (bs.take p ++ bs.drop en) ∧ Below w.heap.size w w' := by
  obtain ⟨s, hws⟩ : ∃ s, w.heap.size = s := ⟨_, rfl⟩
  have hcap := hs.cap
  have hsm := hs.small
  rw [List.length_map, hn] at hcap
  have hr1 := fun W => srest_any at_ ((n : Int) + 1) W h1 h2 (by omega) (by omega)
  rw [hp] at hr1
  have hr2 := fun W => srest_any nn (((n - p : Nat) : Int) + 1) W h3 h4 (by omega) (by omega)
  rw [hk] at hr2
  have e1 : IntKind.i64.wrap ((n : Int) + 1) = (n : Int) + 1 := IntWalk.i64_in _ (by omega)
  have e2 : IntKind.i64.wrap ((n : Int) - (p : Int)) = ((n - p : Nat) : Int) := by rw [IntWalk.i64_in _ (by omega)]; omega
  have e3 : IntKind.i64.wrap (((n - p : Nat) : Int) + 1) = ((n - p : Nat) : Int) + 1 := IntWalk.i64_in _ (by omega)
  have e4 : IntKind.i64.wrap ((p : Int) + (k : Int)) = (en : Int) := by rw [IntWalk.i64_in _ (by omega)]; omega
  have HR1 := hid hr1
  have HR2 := hid hr2
  have HS := hid hs
  have HN := hid hn
  clear hr1 hr2 hs hn hp hk
  have hb0 := bw_a (Below.refl w.heap.size w) (.cells #[.int .i64 2, .int .i64 at_, .int .i64 nn, .int .i64 to_, .slice A2 m2 c2] 32)
  go_enter Try.func18, Try.ntmps18
  go_wp2_with fail
  refine (HR1.out _).mono ?_
  rintro e w1 ⟨rfl, rfl⟩
  go_wp2_with fail
  refine (HR2.out _).mono ?_
  rintro e w1 ⟨rfl, rfl⟩
  go_wp2_with fail
  have hsz0 : (w.alloc (.cells #[.int .i64 2, .int .i64 at_, .int .i64 nn, .int .i64 to_, .slice A2 m2 c2] 32)).heap.size = s + 1 := by simp [hws]
  have hsb := HS.out.below hb0
  have hbk : Blk (w.alloc (.cells #[.int .i64 2, .int .i64 at_, .int .i64 nn, .int .i64 to_, .slice A2 m2 c2] 32)) s 32 #[.int .i64 2, .int .i64 at_, .int .i64 nn, .int .i64 to_, .slice A2 m2 c2] := by have h := Blk.new w 32 #[.int .i64 2, .int .i64 at_, .int .i64 nn, .int .i64 to_, .slice A2 m2 c2]; rw [hws] at h; exact h
  have c0 := hbk.cell 0
  simp only [List.getElem?_toArray, List.getElem?_cons_zero] at c0
  generalize hW0 : (w.alloc (.cells #[.int .i64 2, .int .i64 at_, .int .i64 nn, .int .i64 to_, .slice A2 m2 c2] 32)) = W0 at *
  have HSB := hid hsb
  have HB0 := hid hb0
  have HBK := hid hbk
  clear hsb hb0 hW0 hbk
  rcases hA with rfl | ⟨ga, oa, rfl⟩
  · have hc0 : c = 0 := HS.out.nil0 rfl
    have hen0 : en = 0 := by omega
    have hp0 : p = 0 := by omega
    have hn0 : n = 0 := by omega
    subst hc0
    subst hen0
    subst hp0
    subst hn0
    have i1 : ((0 : Nat) : Int) ≤ ((0 : Nat) : Int) := by omega
    have i2 : (0 : Int) ≤ ((0 : Nat) : Int) := by omega
    have i3 : (0 : Int) ≤ ((0 : Nat) : Int) := by omega
    have i4 : (0 : Int) ≤ (0 : Int) := by omega
    have hs1 : Sl W0 none 0 ((bs.take 0).map bv) := take_sl HSB.out 0
    have hs2 : Sl W0 none (0) ((bs.drop 0).map bv) := by
      have h0 : bs = [] := List.eq_nil_of_length_eq_zero HN.out
      subst h0
      simpa using Sl.nil_ W0
    have HS1 := hid hs1
    have HS2 := hid hs2
    clear hs1 hs2
    go_region_held3 (fun w' => w'.cell? ⟨s, 0, none⟩ = some (.int .i64 2)) (first | exact d0 | exact c0 | go_keep) ((go_at_call 25; refine (scat2 none none 0 0 0 0 (bs.take 0) (bs.drop 0) N (s + 1) W0.drew _ (show W0.drew.heap.size = s + 1 from hsz0) (by rw [List.length_take, HN.out]; omega) (by rw [List.length_drop, HN.out]; try omega) (by omega) (by omega) (HS1.out.drewN 1) (HS2.out.drewN 1) rfl).mono ?_; rintro e w8 ⟨v8, rfl, ho8, hb8⟩; have d0 := (Blk.below (show Blk W0.drew s _ _ from HBK.out) hb8 (show s < W0.drew.heap.size from HBK.out.lt)).cell 0; simp only [List.getElem?_toArray, List.getElem?_cons_zero] at d0; obtain ⟨A8, c8, rfl⟩ := row_slice_g ho8; have HO8 := hid ho8; have HB8 := hid hb8; clear ho8 hb8))
    have hq := HO8.out
    have hq1 : N ≤ c8 ∧ c8 ≤ 9223372036854775807 := by
      rcases hq.2 with ⟨h8, h9⟩ | ⟨g8, cap, cur, h8, -, -, h9, h10, -⟩
      · injection h8 with e1 e2 e3
        omega
      · injection h8 with e1 e2 e3
        simp only [maxLen] at h10
        omega
    have hmn : min (N : Int) 1048576 = (N : Int) := by omega
    have hN1 : ¬ (1048576 : Int) < (N : Int) := by omega
    have j1 : (N : Int) ≤ (c8 : Int) := by omega
    have j2 : (0 : Int) ≤ (N : Int) := by omega
    clear hq
    go_wp2_with fail
    go_ret
    have hsz8 : s ≤ W0.heap.size := by omega
    exact ⟨_, _, rfl, ed_fin (own_mono HO8.out (by show s ≤ W0.heap.size; exact hsz8)) (by omega), (show Below s w W0 by rw [← hws]; exact HB0.out).trans (Below.mono (show Below W0.heap.size W0 w8 from ⟨HB8.out.os, HB8.out.tape, HB8.out.output, HB8.out.size, HB8.out.block⟩) (by omega))⟩
  by_cases hce : c = en
  · have hnc : n = c := by omega
    subst hnc
    subst hce
    have i1 : (p : Int) ≤ (n : Int) := by omega
    have i2 : (n : Int) ≤ (n : Int) := by omega
    have i3 : (0 : Int) ≤ (p : Int) := by omega
    have i4 : (0 : Int) ≤ (n : Int) := by omega
    have hs1 : Sl W0 (some ⟨ga, oa, none⟩) n ((bs.take p).map bv) := take_sl HSB.out p
    have hs2 : Sl W0 (some ⟨ga, oa, none⟩) (0) ((bs.drop n).map bv) := by
      have h0 : bs.drop n = [] := List.drop_eq_nil_of_le (by rw [HN.out]; omega)
      rw [h0]
      exact ⟨by simp, by omega, (fun h => by cases h), fun k u h => by simp at h⟩
    have HS1 := hid hs1
    have HS2 := hid hs2
    clear hs1 hs2
    go_region_held3 (fun w' => w'.cell? ⟨s, 0, none⟩ = some (.int .i64 2)) (first | exact d0 | exact c0 | go_keep) ((go_at_call 25; refine (scat2 (some ⟨ga, oa, none⟩) (some ⟨ga, oa, none⟩) p 0 n 0 (bs.take p) (bs.drop n) N (s + 1) W0.drew _ (show W0.drew.heap.size = s + 1 from hsz0) (by rw [List.length_take, HN.out]; omega) (by rw [List.length_drop, HN.out]; try omega) (by omega) (by omega) (HS1.out.drewN 1) (HS2.out.drewN 1) rfl).mono ?_; rintro e w8 ⟨v8, rfl, ho8, hb8⟩; have d0 := (Blk.below (show Blk W0.drew s _ _ from HBK.out) hb8 (show s < W0.drew.heap.size from HBK.out.lt)).cell 0; simp only [List.getElem?_toArray, List.getElem?_cons_zero] at d0; obtain ⟨A8, c8, rfl⟩ := row_slice_g ho8; have HO8 := hid ho8; have HB8 := hid hb8; clear ho8 hb8))
    have hq := HO8.out
    have hq1 : N ≤ c8 ∧ c8 ≤ 9223372036854775807 := by
      rcases hq.2 with ⟨h8, h9⟩ | ⟨g8, cap, cur, h8, -, -, h9, h10, -⟩
      · injection h8 with e1 e2 e3
        omega
      · injection h8 with e1 e2 e3
        simp only [maxLen] at h10
        omega
    have hmn : min (N : Int) 1048576 = (N : Int) := by omega
    have hN1 : ¬ (1048576 : Int) < (N : Int) := by omega
    have j1 : (N : Int) ≤ (c8 : Int) := by omega
    have j2 : (0 : Int) ≤ (N : Int) := by omega
    clear hq
    go_wp2_with fail
    go_ret
    have hsz8 : s ≤ W0.heap.size := by omega
    exact ⟨_, _, rfl, ed_fin (own_mono HO8.out (by show s ≤ W0.heap.size; exact hsz8)) (by omega), (show Below s w W0 by rw [← hws]; exact HB0.out).trans (Below.mono (show Below W0.heap.size W0 w8 from ⟨HB8.out.os, HB8.out.tape, HB8.out.output, HB8.out.size, HB8.out.block⟩) (by omega))⟩
  · have hce2 : ¬ en = c := fun h => hce h.symm
    have i5 : ¬ c = p := by omega
    have i1 : (p : Int) ≤ (c : Int) := by omega
    have i2 : (en : Int) ≤ (n : Int) := by omega
    have i3 : (0 : Int) ≤ (p : Int) := by omega
    have i4 : (0 : Int) ≤ (en : Int) := by omega
    have hs1 : Sl W0 (some ⟨ga, oa, none⟩) c ((bs.take p).map bv) := take_sl HSB.out p
    have hs2 : Sl W0 (some ⟨ga, oa + en, none⟩) (c - en) ((bs.drop en).map bv) := by
      have h := HSB.out.cut en (by rw [HN.out]; exact hen)
      unfold cutA at h
      rw [if_neg hce] at h
      simpa [addr_add] using h
    have HS1 := hid hs1
    have HS2 := hid hs2
    clear hs1 hs2
    go_region_held3 (fun w' => w'.cell? ⟨s, 0, none⟩ = some (.int .i64 2)) (first | exact d0 | exact c0 | go_keep) ((go_at_call 25; refine (scat2 (some ⟨ga, oa, none⟩) (some ⟨ga, oa + en, none⟩) p (n - en) c (c - en) (bs.take p) (bs.drop en) N (s + 1) W0.drew _ (show W0.drew.heap.size = s + 1 from hsz0) (by rw [List.length_take, HN.out]; omega) (by rw [List.length_drop, HN.out]; try omega) (by omega) (by omega) (HS1.out.drewN 1) (HS2.out.drewN 1) rfl).mono ?_; rintro e w8 ⟨v8, rfl, ho8, hb8⟩; have d0 := (Blk.below (show Blk W0.drew s _ _ from HBK.out) hb8 (show s < W0.drew.heap.size from HBK.out.lt)).cell 0; simp only [List.getElem?_toArray, List.getElem?_cons_zero] at d0; obtain ⟨A8, c8, rfl⟩ := row_slice_g ho8; have HO8 := hid ho8; have HB8 := hid hb8; clear ho8 hb8))
    have hq := HO8.out
    have hq1 : N ≤ c8 ∧ c8 ≤ 9223372036854775807 := by
      rcases hq.2 with ⟨h8, h9⟩ | ⟨g8, cap, cur, h8, -, -, h9, h10, -⟩
      · injection h8 with e1 e2 e3
        omega
      · injection h8 with e1 e2 e3
        simp only [maxLen] at h10
        omega
    have hmn : min (N : Int) 1048576 = (N : Int) := by omega
    have hN1 : ¬ (1048576 : Int) < (N : Int) := by omega
    have j1 : (N : Int) ≤ (c8 : Int) := by omega
    have j2 : (0 : Int) ≤ (N : Int) := by omega
    clear hq
    go_wp2_with fail
    go_ret
    have hsz8 : s ≤ W0.heap.size := by omega
    exact ⟨_, _, rfl, ed_fin (own_mono HO8.out (by show s ≤ W0.heap.size; exact hsz8)) (by omega), (show Below s w W0 by rw [← hws]; exact HB0.out).trans (Below.mono (show Below W0.heap.size W0 w8 from ⟨HB8.out.os, HB8.out.tape, HB8.out.output, HB8.out.size, HB8.out.block⟩) (by omega))⟩
end Go.Proofs.Ytgiealcfhlcpoaa
set_option linter.unusedVariables false
namespace Go.Proofs.Ytgiealcfhlcpoaa
open Go.RowKit
set_option maxRecDepth 100000 in
set_option maxHeartbeats 2000000 in
theorem sedit_copy (bs : List UInt8) (at_ nn to_ : Int) (A2 : Option Addr) (m2 c2 : Nat) (A : Option Addr) (n c p k en N : Nat) (w : World) (hn : bs.length = n) (hl : n ≤ 1048576) (hs : Sl w A c (bs.map bv)) (hA : A = none ∨ ∃ ga oa, A = some (⟨ga, oa, none⟩ : Addr)) (h1 : -9223372036854775808 ≤ at_) (h2 : at_ ≤ 9223372036854775807) (h3 : -9223372036854775808 ≤ nn) (h4 : nn ≤ 9223372036854775807) (hp : at_ % ((n : Int) + 1) = (p : Int)) (hk : nn % (((n - p : Nat) : Int) + 1) = (k : Int)) (hpk : p + k = en) (hen : en ≤ n) (hNN : en + (n - p) = N) (hNl : N ≤ 1048576) :
    Calls Try.prog 18 #[.slice A n c, .agg #[.int .i64 3, .int .i64 at_, .int .i64 nn, .int .i64 to_, .slice A2 m2 c2]] w fun e w' => ∃ A' c', e = .returned (.slice A' N c') ∧ EdS w.heap.size w' A' N c' (bs.take en ++ bs.drop p) ∧ Below w.heap.size w w' := by
  obtain ⟨s, hws⟩ : ∃ s, w.heap.size = s := ⟨_, rfl⟩
  have hcap := hs.cap
  have hsm := hs.small
  rw [List.length_map, hn] at hcap
  have hr1 := fun W => srest_any at_ ((n : Int) + 1) W h1 h2 (by omega) (by omega)
  rw [hp] at hr1
  have hr2 := fun W => srest_any nn (((n - p : Nat) : Int) + 1) W h3 h4 (by omega) (by omega)
  rw [hk] at hr2
  have e1 : IntKind.i64.wrap ((n : Int) + 1) = (n : Int) + 1 := IntWalk.i64_in _ (by omega)
  have e2 : IntKind.i64.wrap ((n : Int) - (p : Int)) = ((n - p : Nat) : Int) := by rw [IntWalk.i64_in _ (by omega)]; omega
  have e3 : IntKind.i64.wrap (((n - p : Nat) : Int) + 1) = ((n - p : Nat) : Int) + 1 := IntWalk.i64_in _ (by omega)
  have e4 : IntKind.i64.wrap ((p : Int) + (k : Int)) = (en : Int) := by rw [IntWalk.i64_in _ (by omega)]; omega
  have HR1 := hid hr1
  have HR2 := hid hr2
  have HS := hid hs
  have HN := hid hn
  clear hr1 hr2 hs hn hp hk
  have hb0 := bw_a (Below.refl w.heap.size w) (.cells #[.int .i64 3, .int .i64 at_, .int .i64 nn, .int .i64 to_, .slice A2 m2 c2] 32)
  go_enter Try.func18, Try.ntmps18
  go_wp2_with fail
  refine (HR1.out _).mono ?_
  rintro e w1 ⟨rfl, rfl⟩
  go_wp2_with fail
  refine (HR2.out _).mono ?_
  rintro e w1 ⟨rfl, rfl⟩
  go_wp2_with fail
  have hsz0 : (w.alloc (.cells #[.int .i64 3, .int .i64 at_, .int .i64 nn, .int .i64 to_, .slice A2 m2 c2] 32)).heap.size = s + 1 := by simp [hws]
  have hsb := HS.out.below hb0
  have hbk : Blk (w.alloc (.cells #[.int .i64 3, .int .i64 at_, .int .i64 nn, .int .i64 to_, .slice A2 m2 c2] 32)) s 32 #[.int .i64 3, .int .i64 at_, .int .i64 nn, .int .i64 to_, .slice A2 m2 c2] := by have h := Blk.new w 32 #[.int .i64 3, .int .i64 at_, .int .i64 nn, .int .i64 to_, .slice A2 m2 c2]; rw [hws] at h; exact h
  have c0 := hbk.cell 0
  simp only [List.getElem?_toArray, List.getElem?_cons_zero] at c0
  generalize hW0 : (w.alloc (.cells #[.int .i64 3, .int .i64 at_, .int .i64 nn, .int .i64 to_, .slice A2 m2 c2] 32)) = W0 at *
  have HSB := hid hsb
  have HB0 := hid hb0
  have HBK := hid hbk
  clear hsb hb0 hW0 hbk
  rcases hA with rfl | ⟨ga, oa, rfl⟩
  · have hc0 : c = 0 := HS.out.nil0 rfl
    have hen0 : p = 0 := by omega
    have hp0 : en = 0 := by omega
    have hn0 : n = 0 := by omega
    subst hc0
    subst hen0
    subst hp0
    subst hn0
    have i1 : ((0 : Nat) : Int) ≤ ((0 : Nat) : Int) := by omega
    have i2 : (0 : Int) ≤ ((0 : Nat) : Int) := by omega
    have i3 : (0 : Int) ≤ ((0 : Nat) : Int) := by omega
    have i4 : (0 : Int) ≤ (0 : Int) := by omega
    have hs1 : Sl W0 none 0 ((bs.take 0).map bv) := take_sl HSB.out 0
    have hs2 : Sl W0 none (0) ((bs.drop 0).map bv) := by
      have h0 : bs = [] := List.eq_nil_of_length_eq_zero HN.out
      subst h0
      simpa using Sl.nil_ W0
    have HS1 := hid hs1
    have HS2 := hid hs2
    clear hs1 hs2
    go_region_held3 (fun w' => w'.cell? ⟨s, 0, none⟩ = some (.int .i64 3)) (first | exact d0 | exact c0 | go_keep) ((go_at_call 25; refine (scat2 none none 0 0 0 0 (bs.take 0) (bs.drop 0) N (s + 1) W0.drew _ (show W0.drew.heap.size = s + 1 from hsz0) (by rw [List.length_take, HN.out]; omega) (by rw [List.length_drop, HN.out]; try omega) (by omega) (by omega) (HS1.out.drewN 1) (HS2.out.drewN 1) rfl).mono ?_; rintro e w8 ⟨v8, rfl, ho8, hb8⟩; have d0 := (Blk.below (show Blk W0.drew s _ _ from HBK.out) hb8 (show s < W0.drew.heap.size from HBK.out.lt)).cell 0; simp only [List.getElem?_toArray, List.getElem?_cons_zero] at d0; obtain ⟨A8, c8, rfl⟩ := row_slice_g ho8; have HO8 := hid ho8; have HB8 := hid hb8; clear ho8 hb8))
    have hq := HO8.out
    have hq1 : N ≤ c8 ∧ c8 ≤ 9223372036854775807 := by
      rcases hq.2 with ⟨h8, h9⟩ | ⟨g8, cap, cur, h8, -, -, h9, h10, -⟩
      · injection h8 with e1 e2 e3
        omega
      · injection h8 with e1 e2 e3
        simp only [maxLen] at h10
        omega
    have hmn : min (N : Int) 1048576 = (N : Int) := by omega
    have hN1 : ¬ (1048576 : Int) < (N : Int) := by omega
    have j1 : (N : Int) ≤ (c8 : Int) := by omega
    have j2 : (0 : Int) ≤ (N : Int) := by omega
    clear hq
    go_wp2_with fail
    go_ret
    have hsz8 : s ≤ W0.heap.size := by omega
    exact ⟨_, _, rfl, ed_fin (own_mono HO8.out (by show s ≤ W0.heap.size; exact hsz8)) (by omega), (show Below s w W0 by rw [← hws]; exact HB0.out).trans (Below.mono (show Below W0.heap.size W0 w8 from ⟨HB8.out.os, HB8.out.tape, HB8.out.output, HB8.out.size, HB8.out.block⟩) (by omega))⟩
  by_cases hce : c = p
  · have hnc : n = c := by omega
    subst hnc
    subst hce
    have i1 : (en : Int) ≤ (n : Int) := by omega
    have i2 : (n : Int) ≤ (n : Int) := by omega
    have i3 : (0 : Int) ≤ (en : Int) := by omega
    have i4 : (0 : Int) ≤ (n : Int) := by omega
    have hs1 : Sl W0 (some ⟨ga, oa, none⟩) n ((bs.take en).map bv) := take_sl HSB.out en
    have hs2 : Sl W0 (some ⟨ga, oa, none⟩) (0) ((bs.drop n).map bv) := by
      have h0 : bs.drop n = [] := List.drop_eq_nil_of_le (by rw [HN.out]; omega)
      rw [h0]
      exact ⟨by simp, by omega, (fun h => by cases h), fun k u h => by simp at h⟩
    have HS1 := hid hs1
    have HS2 := hid hs2
    clear hs1 hs2
    go_region_held3 (fun w' => w'.cell? ⟨s, 0, none⟩ = some (.int .i64 3)) (first | exact d0 | exact c0 | go_keep) ((go_at_call 25; refine (scat2 (some ⟨ga, oa, none⟩) (some ⟨ga, oa, none⟩) en 0 n 0 (bs.take en) (bs.drop n) N (s + 1) W0.drew _ (show W0.drew.heap.size = s + 1 from hsz0) (by rw [List.length_take, HN.out]; omega) (by rw [List.length_drop, HN.out]; try omega) (by omega) (by omega) (HS1.out.drewN 1) (HS2.out.drewN 1) rfl).mono ?_; rintro e w8 ⟨v8, rfl, ho8, hb8⟩; have d0 := (Blk.below (show Blk W0.drew s _ _ from HBK.out) hb8 (show s < W0.drew.heap.size from HBK.out.lt)).cell 0; simp only [List.getElem?_toArray, List.getElem?_cons_zero] at d0; obtain ⟨A8, c8, rfl⟩ := row_slice_g ho8; have HO8 := hid ho8; have HB8 := hid hb8; clear ho8 hb8))
    have hq := HO8.out
    have hq1 : N ≤ c8 ∧ c8 ≤ 9223372036854775807 := by
      rcases hq.2 with ⟨h8, h9⟩ | ⟨g8, cap, cur, h8, -, -, h9, h10, -⟩
      · injection h8 with e1 e2 e3
        omega
      · injection h8 with e1 e2 e3
        simp only [maxLen] at h10
        omega
    have hmn : min (N : Int) 1048576 = (N : Int) := by omega
    have hN1 : ¬ (1048576 : Int) < (N : Int) := by omega
    have j1 : (N : Int) ≤ (c8 : Int) := by omega
    have j2 : (0 : Int) ≤ (N : Int) := by omega
    clear hq
    go_wp2_with fail
    go_ret
    have hsz8 : s ≤ W0.heap.size := by omega
    exact ⟨_, _, rfl, ed_fin (own_mono HO8.out (by show s ≤ W0.heap.size; exact hsz8)) (by omega), (show Below s w W0 by rw [← hws]; exact HB0.out).trans (Below.mono (show Below W0.heap.size W0 w8 from ⟨HB8.out.os, HB8.out.tape, HB8.out.output, HB8.out.size, HB8.out.block⟩) (by omega))⟩
  · have hce2 : ¬ p = c := fun h => hce h.symm
    have i1 : (en : Int) ≤ (c : Int) := by omega
    have i2 : (p : Int) ≤ (n : Int) := by omega
    have i3 : (0 : Int) ≤ (en : Int) := by omega
    have i4 : (0 : Int) ≤ (p : Int) := by omega
    have hs1 : Sl W0 (some ⟨ga, oa, none⟩) c ((bs.take en).map bv) := take_sl HSB.out en
    have hs2 : Sl W0 (some ⟨ga, oa + p, none⟩) (c - p) ((bs.drop p).map bv) := by
      have h := HSB.out.cut p (by rw [HN.out]; omega)
      unfold cutA at h
      rw [if_neg hce] at h
      simpa [addr_add] using h
    have HS1 := hid hs1
    have HS2 := hid hs2
    clear hs1 hs2
    go_region_held3 (fun w' => w'.cell? ⟨s, 0, none⟩ = some (.int .i64 3)) (first | exact d0 | exact c0 | go_keep) ((go_at_call 25; refine (scat2 (some ⟨ga, oa, none⟩) (some ⟨ga, oa + p, none⟩) en (n - p) c (c - p) (bs.take en) (bs.drop p) N (s + 1) W0.drew _ (show W0.drew.heap.size = s + 1 from hsz0) (by rw [List.length_take, HN.out]; omega) (by rw [List.length_drop, HN.out]; try omega) (by omega) (by omega) (HS1.out.drewN 1) (HS2.out.drewN 1) rfl).mono ?_; rintro e w8 ⟨v8, rfl, ho8, hb8⟩; have d0 := (Blk.below (show Blk W0.drew s _ _ from HBK.out) hb8 (show s < W0.drew.heap.size from HBK.out.lt)).cell 0; simp only [List.getElem?_toArray, List.getElem?_cons_zero] at d0; obtain ⟨A8, c8, rfl⟩ := row_slice_g ho8; have HO8 := hid ho8; have HB8 := hid hb8; clear ho8 hb8))
    have hq := HO8.out
    have hq1 : N ≤ c8 ∧ c8 ≤ 9223372036854775807 := by
      rcases hq.2 with ⟨h8, h9⟩ | ⟨g8, cap, cur, h8, -, -, h9, h10, -⟩
      · injection h8 with e1 e2 e3
        omega
      · injection h8 with e1 e2 e3
        simp only [maxLen] at h10
        omega
    have hmn : min (N : Int) 1048576 = (N : Int) := by omega
    have hN1 : ¬ (1048576 : Int) < (N : Int) := by omega
    have j1 : (N : Int) ≤ (c8 : Int) := by omega
    have j2 : (0 : Int) ≤ (N : Int) := by omega
    clear hq
    go_wp2_with fail
    go_ret
    have hsz8 : s ≤ W0.heap.size := by omega
    exact ⟨_, _, rfl, ed_fin (own_mono HO8.out (by show s ≤ W0.heap.size; exact hsz8)) (by omega), (show Below s w W0 by rw [← hws]; exact HB0.out).trans (Below.mono (show Below W0.heap.size W0 w8 from ⟨HB8.out.os, HB8.out.tape, HB8.out.output, HB8.out.size, HB8.out.block⟩) (by omega))⟩
end Go.Proofs.Ytgiealcfhlcpoaa
