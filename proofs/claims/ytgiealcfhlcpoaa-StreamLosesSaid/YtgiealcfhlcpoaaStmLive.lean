/- What must be whatever is asked: layer 16. Rows read back. -/
import Derived.Test.YtgiealcfhlcpoaaStmDo
import Derived.Test.YtgiealcfhlcpoaaStmC
import Derived.Test.YtgiealcfhlcpoaaStmSwap
import Derived.Test.YtgiealcfhlcpoaaStmFr
set_option linter.unusedVariables false
namespace Go.Proofs.Ytgiealcfhlcpoaa
open Go.RowKit
theorem CtO.get {B n c : Nat} {w : World} {A : Option Addr} {L : List (List UInt8)} (h : CtO B w (.slice A n c) L) : n = L.length ∧ n ≤ c ∧ c ≤ 9223372036854775807 ∧ ∀ (j : Nat) (hj : j < L.length), ∃ b o P q, A = some ⟨b, o, none⟩ ∧ b < w.heap.size ∧ w.cell? ⟨b, o + j, none⟩ = some (.slice P L[j].length q) ∧ Pay B w P q L[j] := by
  obtain ⟨ps, rfl, ho, hp⟩ := h
  obtain ⟨A', c', he, hs⟩ := SlN.of_own (by omega) ho
  injection he with e1 e2 e3
  subst e1; subst e2; subst e3
  refine ⟨by simp, hs.cap, hs.small, fun j hj => ?_⟩
  have hj' : j < ps.length := by simpa using hj
  have hn0 : (ps.flatMap pcsR)[j * 1 + 0]? = _ := flatMap_get pcsR 1 ps j 0 hj' (fun _ _ => rfl) (by omega)
  obtain ⟨b, off, rfl, hb, t0⟩ := hs.rd _ _ hn0
  simp only [Nat.mul_one, Nat.add_zero, List.getElem_map] at t0 ⊢
  exact ⟨b, off, _, _, rfl, hb, t0, hp _ (List.getElem_mem hj')⟩
theorem SwO.get {B n c : Nat} {w : World} {A : Option Addr} {L : List (Nat × List UInt8)} (h : SwO B w (.slice A n c) L) : n = L.length ∧ n ≤ c ∧ c ≤ 9223372036854775807 ∧ ∀ (j : Nat) (hj : j < L.length), ∃ b o P q, A = some ⟨b, o, none⟩ ∧ b < w.heap.size ∧ w.cell? ⟨b, o + j * 2, none⟩ = some (.int .u8 (L[j].1 : Int)) ∧ w.cell? ⟨b, o + j * 2 + 1, none⟩ = some (.slice P L[j].2.length q) ∧ Pay B w P q L[j].2 := by
  obtain ⟨ps, rfl, ho, hp⟩ := h
  obtain ⟨A', c', he, hs⟩ := SlN.of_own (by omega) ho
  injection he with e1 e2 e3
  subst e1; subst e2; subst e3
  refine ⟨by simp, hs.cap, hs.small, fun j hj => ?_⟩
  have hj' : j < ps.length := by simpa using hj
  obtain ⟨b, off, rfl, hb, t0, t1⟩ := frRow_get rfl hs j hj'
  simp only [List.getElem_map]
  exact ⟨b, off, _, _, rfl, hb, t0, t1, hp _ (List.getElem_mem hj')⟩
theorem l16_fl : flipL [128] 0 7 = [0] := by kernel_rfl
theorem l16_do (W : World) (N : Nat) (hN : W.heap.size = N) : Calls Try.prog 8 #[.slice (some ⟨N, 0, none⟩) 1 1, .slice (some ⟨N + 1, 0, none⟩) 1 1] ((W.alloc (.cells #[.int .u8 128] 5)).alloc (.cells #[.int .i64 1, .int .i64 0, .int .i64 0, .int .i64 7, .slice none 0 0] 32)) fun e w' => ∃ A2 c2, e = .returned (.slice A2 1 c2) ∧ Sl w' A2 c2 (([0] : List UInt8).map bv) ∧ Below W.heap.size W w' := by
  subst hN
  have hb := bw_a (bw_a (Below.refl _ W) (.cells #[.int .u8 128] 5)) (.cells #[.int .i64 1, .int .i64 0, .int .i64 0, .int .i64 7, .slice none 0 0] 32)
  have hl := (lit_sl W 5 [128] #[.int .u8 128] 1 rfl (by omega) rfl).below (bw_a (Below.refl _ _) (.cells #[.int .i64 1, .int .i64 0, .int .i64 0, .int .i64 7, .slice none 0 0] 32))
  have hr := Rd.new (W.alloc (.cells #[.int .u8 128] 5)) 32 #[.int .i64 1, .int .i64 0, .int .i64 0, .int .i64 7, .slice none 0 0]
  rw [World.size_alloc] at hr
  refine (sdo_any [⟨1, 0, 0, 7, ⟨none, 0, []⟩⟩] 1 _ 1 [128] 1 _ 1 _ rfl ⟨rfl, by omega, by omega, (fun h => by cases h), hr⟩ rfl (by omega) hl (fun j => if j = 0 then [128] else [0]) rfl ?_).mono ?_
  · intro j hj W1 A' n' c' hE hB
    have hj0 : j = 0 := by simpa using hj
    subst hj0
    have hn' : n' = 1 := hE.len.symm
    subst hn'
    refine (sedit_flip [128] 0 0 7 none 0 0 _ A' 1 c' 0 0 7 W1 hE (by omega) (by omega) (by omega) (by omega) (by omega) (by omega) (by omega) (by decide) (by decide) (by decide)).mono ?_
    rintro e w' ⟨rfl, h1, h2⟩
    rw [l16_fl] at h1
    exact ⟨_, _, _, rfl, h1, h2⟩
  · rintro e w' ⟨A2, n2, c2, rfl, hE, hB⟩
    have hn2 : n2 = 1 := hE.len.symm
    subst hn2
    exact ⟨_, _, rfl, hE.sl, hb.trans (hB.mono (by simp; omega))⟩
theorem l16_pl : pcL [1, 2, 3, 4, 5] [2, 1] 5 3 = [[1, 2], [3], [4, 5]] := by kernel_rfl
theorem l16_cut (W : World) (N : Nat) (hN : W.heap.size = N) : Calls Try.prog 11 #[.slice (some ⟨N, 0, none⟩) 5 5, .slice (some ⟨N + 1, 0, none⟩) 2 2] ((W.alloc (.cells #[.int .u8 1, .int .u8 2, .int .u8 3, .int .u8 4, .int .u8 5] 5)).alloc (.cells #[.int .i64 2, .int .i64 1] 3)) fun e w' => ∃ b o c P q P2 q2, e = .returned (.slice (some ⟨b, o, none⟩) 3 c) ∧ 3 ≤ c ∧ b < w'.heap.size ∧ w'.cell? ⟨b, o, none⟩ = some (.slice P 2 q) ∧ w'.cell? ⟨b, o + 2, none⟩ = some (.slice P2 2 q2) ∧ Below W.heap.size W w' := by
  subst hN
  have hb := bw_a (bw_a (Below.refl _ W) (.cells #[.int .u8 1, .int .u8 2, .int .u8 3, .int .u8 4, .int .u8 5] 5)) (.cells #[.int .i64 2, .int .i64 1] 3)
  have hl := (lit_sl W 5 [1, 2, 3, 4, 5] #[.int .u8 1, .int .u8 2, .int .u8 3, .int .u8 4, .int .u8 5] 5 rfl (by omega) rfl).below (bw_a (Below.refl _ _) (.cells #[.int .i64 2, .int .i64 1] 3))
  have hr := Rd.new (W.alloc (.cells #[.int .u8 1, .int .u8 2, .int .u8 3, .int .u8 4, .int .u8 5] 5)) 3 #[.int .i64 2, .int .i64 1]
  rw [World.size_alloc] at hr
  have hs2 : Sl ((W.alloc (.cells #[.int .u8 1, .int .u8 2, .int .u8 3, .int .u8 4, .int .u8 5] 5)).alloc (.cells #[.int .i64 2, .int .i64 1] 3)) (some ⟨W.heap.size + 1, 0, none⟩) 2 (([2, 1] : List Int).map ivP) := ⟨by simp, by omega, (fun h => by cases h), hr⟩
  obtain ⟨K, h1, h2, h3, h4⟩ := scut_any [1, 2, 3, 4, 5] 5 _ 5 [2, 1] 2 _ 2 _ rfl (by omega) hl rfl (by omega) (by simp) hs2
  have hK : K = 3 := by
    have h30 : pcO 5 [2, 1] 3 = 5 := by decide +kernel
    have hle : ¬ 3 < K := fun h => by have := h3 3 h; omega
    have h0 : pcO 5 [2, 1] 0 = 0 := by decide +kernel
    have h1 : pcO 5 [2, 1] 1 = 2 := by decide +kernel
    have h2' : pcO 5 [2, 1] 2 = 3 := by decide +kernel
    have n0 : ¬ K = 0 := fun h => by rw [h, h0] at h2; omega
    have n1 : ¬ K = 1 := fun h => by rw [h, h1] at h2; omega
    have n2 : ¬ K = 2 := fun h => by rw [h, h2'] at h2; omega
    omega
  subst hK
  refine h4.mono ?_
  rintro e w' ⟨A', c', rfl, hC, hB⟩
  rw [l16_pl] at hC
  obtain ⟨-, g1, g2, hg⟩ := hC.get
  obtain ⟨b, o, P, q, rfl, hbl, t0, -⟩ := hg 0 (by decide)
  obtain ⟨b', o', P2, q2, he, -, t2, -⟩ := hg 2 (by decide)
  injection he with he
  injection he with he1 he2
  subst he1; subst he2
  exact ⟨b, o, c', P, q, P2, q2, rfl, g1, hbl, t0, t2, hb.trans (hB.mono (by simp; omega))⟩
theorem l16_cut0 (W : World) (N : Nat) (hN : W.heap.size = N) : Calls Try.prog 11 #[.slice none 0 0, .slice (some ⟨N, 0, none⟩) 1 1] (W.alloc (.cells #[.int .i64 1] 3)) fun e w' => ∃ A c, e = .returned (.slice A 0 c) ∧ Below W.heap.size W w' := by
  subst hN
  have hb := bw_a (Below.refl _ W) (.cells #[.int .i64 1] 3)
  have hs2 : Sl (W.alloc (.cells #[.int .i64 1] 3)) (some ⟨W.heap.size, 0, none⟩) 1 (([1] : List Int).map ivP) := ⟨by simp, by omega, (fun h => by cases h), Rd.new W 3 #[.int .i64 1]⟩
  obtain ⟨K, h1, h2, h3, h4⟩ := scut_any [] 0 none 0 [1] 1 _ 1 _ rfl (by omega) (Sl.nil_ _) rfl (by omega) (by simp) hs2
  have hK : K = 0 := by omega
  subst hK
  refine h4.mono ?_
  rintro e w' ⟨A', c', rfl, hC, hB⟩
  exact ⟨A', c', rfl, hb.trans (hB.mono (by simp))⟩
theorem l16_fr (W : World) (N : Nat) (hN : W.heap.size = N) : Calls Try.prog 12 #[.slice (some ⟨N, 0, none⟩) 1 1] (W.alloc (.cells #[.int .u8 1, .slice none 0 0] 29)) fun e w' => ∃ A' c', e = .returned (.tuple #[.slice A' 9 c', .agg #[.int .i64 0, .int .i64 0]]) ∧ Below W.heap.size W w' := by
  subst hN
  have hb := bw_a (Below.refl _ W) (.cells #[.int .u8 1, .slice none 0 0] 29)
  refine (stframes_any [⟨1, ⟨none, 0, []⟩⟩] 1 _ 1 9 _ rfl ?_ ⟨rfl, by omega, by omega, (fun h => by cases h), Rd.new W 29 #[.int .u8 1, .slice none 0 0]⟩ ?_ (by omega) (by kernel_rfl)).mono ?_
  · intro f hf
    obtain rfl := List.mem_singleton.1 hf
    exact ⟨by show (1 : Nat) ≤ 255; omega, Sl.nil_ _⟩
  · intro f hf
    obtain rfl := List.mem_singleton.1 hf
    simp
  · rintro e w' ⟨A', c', rfl, ho, hb2⟩
    exact ⟨A', c', rfl, hb.trans (hb2.mono (by simp))⟩
theorem l16_sw (W : World) (N : Nat) (hN : W.heap.size = N) : Calls Try.prog 13 #[.slice (some ⟨N, 0, none⟩) 2 2, .slice (some ⟨N + 1, 0, none⟩) 3 3] ((W.alloc (.cells #[.int .u8 1, .slice none 0 0, .int .u8 2, .slice none 0 0] 29)).alloc (.cells #[.int .i64 1, .int .i64 0, .int .i64 3] 3)) fun e w' => ∃ b o c, e = .returned (.slice (some ⟨b, o, none⟩) 3 c) ∧ 3 ≤ c ∧ b < w'.heap.size ∧ w'.cell? ⟨b, o, none⟩ = some (.int .u8 2) ∧ w'.cell? ⟨b, o + 4, none⟩ = some (.int .u8 2) ∧ Below W.heap.size W w' := by
  subst hN
  have hb := bw_a (bw_a (Below.refl _ W) (.cells #[.int .u8 1, .slice none 0 0, .int .u8 2, .slice none 0 0] 29)) (.cells #[.int .i64 1, .int .i64 0, .int .i64 3] 3)
  have hl := (Rd.new W 29 #[.int .u8 1, .slice none 0 0, .int .u8 2, .slice none 0 0]).below (bw_a (Below.refl _ _) (.cells #[.int .i64 1, .int .i64 0, .int .i64 3] 3))
  have hr := Rd.new (W.alloc (.cells #[.int .u8 1, .slice none 0 0, .int .u8 2, .slice none 0 0] 29)) 3 #[.int .i64 1, .int .i64 0, .int .i64 3]
  rw [World.size_alloc] at hr
  refine (sswap_any [⟨1, ⟨none, 0, []⟩⟩, ⟨2, ⟨none, 0, []⟩⟩] 2 _ 2 [1, 0, 3] 3 _ 3 _ rfl ?_ ⟨rfl, by omega, by omega, (fun h => by cases h), hl⟩ ?_ (by omega) (by omega) rfl (by omega) ⟨by simp, by omega, (fun h => by cases h), hr⟩ (by simp)).mono ?_
  · intro f hf
    simp only [List.mem_cons, List.not_mem_nil, or_false] at hf
    rcases hf with rfl | rfl
    · exact ⟨by show (1 : Nat) ≤ 255; omega, Sl.nil_ _⟩
    · exact ⟨by show (2 : Nat) ≤ 255; omega, Sl.nil_ _⟩
  · intro f hf
    simp only [List.mem_cons, List.not_mem_nil, or_false] at hf
    rcases hf with rfl | rfl <;> simp
  · rintro e w' ⟨A', c', rfl, ho, hb2⟩
    rw [show swL [⟨1, ⟨none, 0, []⟩⟩, ⟨2, ⟨none, 0, []⟩⟩] [1, 0, 3] 3 = [(2, []), (1, []), (2, [])] from by kernel_rfl] at ho
    obtain ⟨-, g1, g2, hg⟩ := ho.get
    obtain ⟨b, o, P, q, rfl, hbl, t0, -⟩ := hg 0 (by decide)
    obtain ⟨b', o', P2, q2, he, -, t2, -⟩ := hg 2 (by decide)
    injection he with he
    injection he with he1 he2
    subst he1; subst he2
    exact ⟨b, o, c', rfl, g1, hbl, t0, t2, hb.trans (hb2.mono (by simp; omega))⟩
set_option maxRecDepth 100000 in
set_option maxHeartbeats 4000000 in
theorem live16_any (w : World) : Calls Try.prog 4 #[] w fun e w' => e = .returned (.bool true) ∧ Below w.heap.size w w' := by
  obtain ⟨s0, hs0⟩ : ∃ s0, w.heap.size = s0 := ⟨_, rfl⟩
  have HDO := hid (l16_do w s0 hs0)
  rw [hs0] at HDO ⊢
  go_enter Try.func4, Try.ntmps4
  go_wp2_with fail
  refine HDO.out.mono ?_
  rintro e w1 ⟨A1, c1, rfl, hs1, hb1⟩
  obtain ⟨s1, hz1⟩ : ∃ s1, w1.heap.size = s1 := ⟨_, rfl⟩
  have HS1 := hid hs1
  have HB1 := hid hb1
  have HCU := hid (l16_cut w1 s1 hz1)
  have HZ1 := hid hz1
  rw [HZ1.out] at HCU
  clear hs1 hb1 HDO
  go_wp2_with fail
  try rw [HZ1.out]
  clear hz1
  refine HCU.out.mono ?_
  rintro e w2 ⟨b2, o2, c2, P2, q2, P3, q3, rfl, hc2, hbl2, t0, t2, hb2⟩
  have HS2 := hid (HS1.out.below (by rw [HZ1.out]; exact hb2))
  have HB2 := hid (HB1.out.trans (hb2.mono (by have := HB1.out.size; have := HZ1.out; omega)))
  have HT0 := hid t0
  have HT2 := hid t2
  clear t0 t2 hb2 HCU
  go_wp2_with fail
  refine (l16_fr w2 _ rfl).mono ?_
  rintro e w3 ⟨A3, c3, rfl, hb3⟩
  have hk3 := Blk.new w3 44 #[.int .i64 0, .int .i64 0]
  have HS3 := hid (HS2.out.below (bw_a hb3 (.cells #[.int .i64 0, .int .i64 0] 44)))
  have HB3 := hid (HB2.out.trans ((bw_a hb3 (.cells #[.int .i64 0, .int .i64 0] 44)).mono (by have := HB2.out.size; omega)))
  have HT03 := hid ((hb3.cell (p := ⟨b2, o2, none⟩) hbl2).trans HT0.out)
  have HT23 := hid ((hb3.cell (p := ⟨b2, o2 + 2, none⟩) hbl2).trans HT2.out)
  have hbl3 := Nat.lt_of_lt_of_le hbl2 hb3.size
  obtain ⟨s3, hz3⟩ : ∃ s3, w3.heap.size = s3 := ⟨_, rfl⟩
  have HZ3 := hid hz3
  have HK3 := hid hk3
  clear hb3 hk3 hz3
  go_wp2_with fail
  refine (l16_sw (w3.alloc (.cells #[.int .i64 0, .int .i64 0] 44)) _ (by simp)).mono ?_
  rintro e w4 ⟨b4, o4, c4, rfl, hc4, hbl4, u0, u4, hb4⟩
  have hb4' := hb4.mono (B' := w3.heap.size + 1) (by simp)
  have hk4 := (HK3.out.below hb4 (by simp))
  have k0 := hk4.cell 0
  have k1 := hk4.cell 1
  simp only [List.getElem?_toArray, List.getElem?_cons_zero, List.getElem?_cons_succ] at k0 k1
  have HS4 := hid (HS3.out.below hb4)
  have HB4 := hid (HB3.out.trans (hb4.mono (by have := HB3.out.size; omega)))
  have t0 := (hb4.cell (p := ⟨b2, o2, none⟩) (by simp; omega)).trans ((bw_a (Below.refl _ w3) (.cells #[.int .i64 0, .int .i64 0] 44)).cell (p := ⟨b2, o2, none⟩) hbl3 |>.trans HT03.out)
  have t2 := (hb4.cell (p := ⟨b2, o2 + 2, none⟩) (by simp; omega)).trans ((bw_a (Below.refl _ w3) (.cells #[.int .i64 0, .int .i64 0] 44)).cell (p := ⟨b2, o2 + 2, none⟩) hbl3 |>.trans HT23.out)
  have hs4 := hb4.size
  have hbl24 : b2 < w4.heap.size := by simp at hs4; omega
  have hs34 : w3.heap.size < w4.heap.size := by simp at hs4; omega
  have hbx := bw_a (Below.refl _ w4) (.cells #[.int .u8 0] 5)
  have HSA := hid (HS4.out.below hbx)
  have HSL := hid (lit_sl w4 5 [0] #[.int .u8 0] 1 rfl (by omega) rfl)
  have HBA := hid (HB4.out.trans (hbx.mono (by have := HB4.out.size; omega)))
  clear hb4 hb4' hk4 hbx hs4
  go_wp2_with fail
  refine (same_any [0] [0] A1 (some ⟨w4.heap.size, 0, none⟩) c1 1 _ (by simp) HSA.out.rd HSL.out.rd).mono ?_
  rintro e w5 ⟨rfl, n5, rfl⟩
  have i1 : (3 : Int) ≤ (c2 : Int) := by omega
  have i2 : (3 : Int) ≤ (c4 : Int) := by omega
  go_wp2_with fail
  refine (l16_cut0 _ _ (by simp)).mono ?_
  rintro e w6 ⟨A6, c6, rfl, hb6⟩
  have HB6 := hid ((bw_dqs HBA.out n5).trans (hb6.mono (by have := HBA.out.size; simp at this; simp; omega)))
  clear hb6
  go_wp2_with fail
  go_ret
  exact ⟨by simp, HB6.out⟩
end Go.Proofs.Ytgiealcfhlcpoaa
