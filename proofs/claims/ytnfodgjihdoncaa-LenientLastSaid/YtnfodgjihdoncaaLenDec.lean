/- lenient.Decode and lenient.Unknown. -/
import Derived.Test.YtnfodgjihdoncaaLenRd2
set_option linter.unusedVariables false
namespace Go.Proofs.Ytnfodgjihdoncaa
open Go.RowKit
theorem lread_any (k : Nat) (v : Int) (bs : List UInt8) (n : Nat) (A : Option Addr) (c : Nat) (w : World) (hk : k ≤ 255) (hv1 : -9223372036854775808 ≤ v) (hv2 : v ≤ 9223372036854775807) (hn : bs.length = n) (hs : Sl w A c (bs.map bv)) :
    Calls Try.prog 53 #[.int .u8 (k : Int), .int .i64 v, .slice A n c] w (ReadR w (readR k v bs)) := by
  refine (callsIn_wide (n := 12)).1 ?_
  by_cases hL : (ofL (k : Int) v).length = 0
  · exact lread_none 12 (by omega) k v bs n A c w hk hv1 hv2 hL
  · by_cases hl : 8192 < n
    · exact lread_long 12 (by omega) k v bs n A c w hk hv1 hv2 hL hn hl
    · by_cases hF : (flds bs n 0).2.1 = 0
      · exact lread_main 12 (by omega) k v bs n A c w hk hv1 hv2 hL hn (by omega) hs hF
      · exact lread_bad 12 (by omega) k v bs n A c w hk hv1 hv2 hL hn (by omega) hs hF
/-- What Decode answers. -/
def DecR (w : World) (R : MV × List (RF × Nat) × Int × Nat) (e : Ending) (w' : World) : Prop :=
  ∃ (A' : Option Addr) (c' : Nat), e = .returned (.tuple #[mvV { R.1 with A := A', c := c' }, .agg #[.int .i64 R.2.2.1, .int .i64 (R.2.2.2 : Nat)]]) ∧ w'.ownsRow w.heap.size 9 1 (.slice A' R.1.l.length c') R.1.l.length (R.1.l.map sv) ∧ Below w.heap.size w w'
def DcR2 (s q : Nat) (mk n0 n1 n2 n3 n4 n5 : Nat) (s0 s1 : ByteArray) (mA : Option Addr) (ml mc : Nat) (E P : Int) (a0 : Act) (w0 : World) (f : Nat → Bool) (a : Act) (w : World) : Prop := ∃ x0 x1 : Value, a = ((a0.put (some 19) x0).put (some 20) x1) ∧ (f 0 = true → x0 = .agg #[.int .u8 (mk : Int), .int .u64 (n0 : Int), .int .u64 (n1 : Int), .int .u64 (n2 : Int), .int .u64 (n3 : Int), .int .u64 (n4 : Int), .int .u64 (n5 : Int), .string s0, .string s1, .slice mA ml mc]) ∧ (f 1 = true → x1 = .agg #[.int .i64 E, .int .i64 P]) ∧ Blk w (s) 27 (if f 2 = true then #[.int .u8 (mk : Int), .int .u64 (n0 : Int), .int .u64 (n1 : Int), .int .u64 (n2 : Int), .int .u64 (n3 : Int), .int .u64 (n4 : Int), .int .u64 (n5 : Int), .string s0, .string s1, .slice mA ml mc] else #[.int .u8 0, .int .u64 0, .int .u64 0, .int .u64 0, .int .u64 0, .int .u64 0, .int .u64 0, .string ⟨#[]⟩, .string ⟨#[]⟩, .slice none 0 0]) ∧ Blk w (s + 1) 33 (if f 3 = true then #[.int .i64 E, .int .i64 P] else #[.int .i64 0, .int .i64 0]) ∧ Chg (fun q => q = s ∨ q = s + 1) w0 w
set_option maxRecDepth 100000 in
set_option maxHeartbeats 4000000 in
theorem ldec_any (k : Nat) (v : Int) (bs : List UInt8) (n : Nat) (A : Option Addr) (c : Nat) (w : World) (hk : k ≤ 255) (hv1 : -9223372036854775808 ≤ v) (hv2 : v ≤ 9223372036854775807) (hn : bs.length = n) (hs : Sl w A c (bs.map bv)) :
    Calls Try.prog 17 #[.int .u8 (k : Int), .int .i64 v, .slice A n c] w (DecR w (readR k v bs)) := by
  have hrd := fun W (hW : Below w.heap.size w W) => lread_any k v bs n A c W hk hv1 hv2 hn (hs.below hW)
  obtain ⟨R, hR⟩ : ∃ R, readR k v bs = R := ⟨_, rfl⟩
  rw [hR]
  obtain ⟨M, oth, E, P⟩ := R
  rw [hR] at hrd
  obtain ⟨Q, hQ⟩ : ∃ Q, Q = DecR w (M, oth, E, P) := ⟨_, rfl⟩
  rw [← hQ]
  obtain ⟨s, hsz⟩ : ∃ s, w.heap.size = s := ⟨_, rfl⟩
  have hq : ∀ A' c' w' , True → w'.ownsRow s 9 1 (.slice A' M.l.length c') M.l.length (M.l.map sv) → Below s w w' → Q (.returned (.tuple #[mvV { M with A := A', c := c' }, .agg #[.int .i64 E, .int .i64 (P : Nat)]])) w' := fun A' c' w' _ h1 h2 => by rw [hQ]; exact ⟨A', c', rfl, by rw [hsz]; exact h1, by rw [hsz]; exact h2⟩
  have hrd2 := fun W (hW : Below s w W) => (hrd W (by rw [hsz]; exact hW)).mono (R' := fun e w' => ∃ (A' : Option Addr) (c' : Nat) (uv : Value), e = .returned (.tuple #[mvV { M with A := A', c := c' }, uv, .agg #[.int .i64 E, .int .i64 (P : Nat)]]) ∧ w'.ownsRow W.heap.size 9 1 (.slice A' M.l.length c') M.l.length (M.l.map sv) ∧ Below W.heap.size W w') (by
    rintro e w' ⟨A', c', pre, Ao, co, rfl, h1, -, -, -, h2⟩
    exact ⟨A', c', _, rfl, h1, h2⟩)
  clear hrd hR hQ
  obtain ⟨mk, n0, n1, n2, n3, n4, n5, s0, s1, A0, c0, l⟩ := M
  unfold mvV mvA at hq hrd2
  simp only at hq hrd2
  generalize hlm : l.map sv = lm at *
  generalize hml : l.length = ml at *
  generalize ((P : Nat) : Int) = P at *
  have HQ := hid (fun A' c' w' => hq A' c' w' trivial)
  have HRD := hid hrd2
  clear hq hrd2 hlm hml
  have hk0 : Blk ((w.alloc (.cells #[.int .u8 0, .int .u64 0, .int .u64 0, .int .u64 0, .int .u64 0, .int .u64 0, .int .u64 0, .string ⟨#[]⟩, .string ⟨#[]⟩, .slice none 0 0] 27)).alloc (.cells #[.int .i64 0, .int .i64 0] 33)) s 27 #[.int .u8 0, .int .u64 0, .int .u64 0, .int .u64 0, .int .u64 0, .int .u64 0, .int .u64 0, .string ⟨#[]⟩, .string ⟨#[]⟩, .slice none 0 0] := by rw [← hsz]; exact (Blk.new w _ _).alloc _
  have hk1 : Blk ((w.alloc (.cells #[.int .u8 0, .int .u64 0, .int .u64 0, .int .u64 0, .int .u64 0, .int .u64 0, .int .u64 0, .string ⟨#[]⟩, .string ⟨#[]⟩, .slice none 0 0] 27)).alloc (.cells #[.int .i64 0, .int .i64 0] 33)) (s + 1) 33 #[.int .i64 0, .int .i64 0] := by
    have h := Blk.new (w.alloc (.cells #[.int .u8 0, .int .u64 0, .int .u64 0, .int .u64 0, .int .u64 0, .int .u64 0, .int .u64 0, .string ⟨#[]⟩, .string ⟨#[]⟩, .slice none 0 0] 27)) 33 #[.int .i64 0, .int .i64 0]
    rw [World.size_alloc, hsz] at h; exact h
  have hb0 : Below s w ((w.alloc (.cells #[.int .u8 0, .int .u64 0, .int .u64 0, .int .u64 0, .int .u64 0, .int .u64 0, .int .u64 0, .string ⟨#[]⟩, .string ⟨#[]⟩, .slice none 0 0] 27)).alloc (.cells #[.int .i64 0, .int .i64 0] 33)) := by rw [← hsz]; exact bw_a (bw_a (Below.refl _ w) _) _
  have hz0 : (((w.alloc (.cells #[.int .u8 0, .int .u64 0, .int .u64 0, .int .u64 0, .int .u64 0, .int .u64 0, .int .u64 0, .string ⟨#[]⟩, .string ⟨#[]⟩, .slice none 0 0] 27)).alloc (.cells #[.int .i64 0, .int .i64 0] 33))).heap.size = s + 2 := by simp [hsz]
  have HK0 := hid hk0
  have HK1 := hid hk1
  have HB0 := hid hb0
  have HZ0 := hid hz0
  clear hk0 hk1 hb0 hz0 hs
  go_enter Try.func17, Try.ntmps17
  go_wp2_with fail
  refine (HRD.out _ HB0.out).mono ?_
  rintro e w1 ⟨A', c', uv, rfl, hom, hb1⟩
  rw [HZ0.out] at hom hb1
  have hk0 := HK0.out.below hb1 (by omega)
  have hk1 := HK1.out.below hb1 (by omega)
  have hbe := HB0.out.trans (hb1.mono (by omega))
  have hs1 : s + 2 ≤ w1.heap.size := by have := hb1.size; rw [HZ0.out] at this; exact this
  have HK2 := hid hk0
  have HK3 := hid hk1
  have HOM := hid hom
  have HB1 := hid hbe
  clear HK0 HK1 HB0 HZ0 hom hb1 hbe hk0 hk1 HRD
  go_wp2_with fail
  obtain ⟨q, hq⟩ : ∃ q, w1.heap.size = q := ⟨_, rfl⟩
  have hkm : Blk ((w1.alloc (.cells #[.int .u8 (mk : Int), .int .u64 (n0 : Int), .int .u64 (n1 : Int), .int .u64 (n2 : Int), .int .u64 (n3 : Int), .int .u64 (n4 : Int), .int .u64 (n5 : Int), .string s0, .string s1, .slice A' ml c'] 27)).alloc (.cells #[.int .i64 E, .int .i64 P] 33)) q 27 #[.int .u8 (mk : Int), .int .u64 (n0 : Int), .int .u64 (n1 : Int), .int .u64 (n2 : Int), .int .u64 (n3 : Int), .int .u64 (n4 : Int), .int .u64 (n5 : Int), .string s0, .string s1, .slice A' ml c'] := by rw [← hq]; exact (Blk.new w1 _ _).alloc _
  have hkf : Blk ((w1.alloc (.cells #[.int .u8 (mk : Int), .int .u64 (n0 : Int), .int .u64 (n1 : Int), .int .u64 (n2 : Int), .int .u64 (n3 : Int), .int .u64 (n4 : Int), .int .u64 (n5 : Int), .string s0, .string s1, .slice A' ml c'] 27)).alloc (.cells #[.int .i64 E, .int .i64 P] 33)) (q + 1) 33 #[.int .i64 E, .int .i64 P] := by
    have h := Blk.new (w1.alloc (.cells #[.int .u8 (mk : Int), .int .u64 (n0 : Int), .int .u64 (n1 : Int), .int .u64 (n2 : Int), .int .u64 (n3 : Int), .int .u64 (n4 : Int), .int .u64 (n5 : Int), .string s0, .string s1, .slice A' ml c'] 27)) 33 #[.int .i64 E, .int .i64 P]
    rw [World.size_alloc, hq] at h; exact h
  have hk0 := (HK2.out.alloc (.cells #[.int .u8 (mk : Int), .int .u64 (n0 : Int), .int .u64 (n1 : Int), .int .u64 (n2 : Int), .int .u64 (n3 : Int), .int .u64 (n4 : Int), .int .u64 (n5 : Int), .string s0, .string s1, .slice A' ml c'] 27)).alloc (.cells #[.int .i64 E, .int .i64 P] 33)
  have hk1 := (HK3.out.alloc (.cells #[.int .u8 (mk : Int), .int .u64 (n0 : Int), .int .u64 (n1 : Int), .int .u64 (n2 : Int), .int .u64 (n3 : Int), .int .u64 (n4 : Int), .int .u64 (n5 : Int), .string s0, .string s1, .slice A' ml c'] 27)).alloc (.cells #[.int .i64 E, .int .i64 P] 33)
  have hom := (HOM.out.alloc (.cells #[.int .u8 (mk : Int), .int .u64 (n0 : Int), .int .u64 (n1 : Int), .int .u64 (n2 : Int), .int .u64 (n3 : Int), .int .u64 (n4 : Int), .int .u64 (n5 : Int), .string s0, .string s1, .slice A' ml c'] 27)).alloc (.cells #[.int .i64 E, .int .i64 P] 33)
  have hbe := ((HB1.out.alloc (by omega) (.cells #[.int .u8 (mk : Int), .int .u64 (n0 : Int), .int .u64 (n1 : Int), .int .u64 (n2 : Int), .int .u64 (n3 : Int), .int .u64 (n4 : Int), .int .u64 (n5 : Int), .string s0, .string s1, .slice A' ml c'] 27)).alloc (by simp; omega) (.cells #[.int .i64 E, .int .i64 P] 33))
  rw [hq] at hs1
  try rw [hq]
  generalize ((w1.alloc (.cells #[.int .u8 (mk : Int), .int .u64 (n0 : Int), .int .u64 (n1 : Int), .int .u64 (n2 : Int), .int .u64 (n3 : Int), .int .u64 (n4 : Int), .int .u64 (n5 : Int), .string s0, .string s1, .slice A' ml c'] 27)).alloc (.cells #[.int .i64 E, .int .i64 P] 33)) = W4 at *
  have HKM := hid hkm
  have HKF := hid hkf
  have HO := hid hom
  have HBE := hid hbe
  have HD0 := hid hk0
  have HD1 := hid hk1
  clear hkm hkf hom hbe hk0 hk1 HK2 HK3 HOM HB1 hq
  refine wp_region_invB (by kernel_rfl) (by kernel_rfl) (DcR2 s q mk n0 n1 n2 n3 n4 n5 s0 s1 A' ml c' E P) ?_ ?_ ?_
  · exact ⟨undef, undef, (by first | (simp only [Act.put, List.setIfInBounds_toArray, List.set_cons_succ, List.set_cons_zero]; done) | rfl), by simp, by simp, (by simp; exact (HD0.out)), (by simp; exact (HD1.out)), ⟨rfl, rfl, rfl, Nat.le_refl _, fun _ _ _ => rfl⟩⟩
  · intro f a' wx i o ho hf hdep hI
    have hi : i < 4 := (Array.getElem?_eq_some_iff.1 ho).1
    have hcase : i = 0 ∨ i = 1 ∨ i = 2 ∨ i = 3 := by omega
    clear hi
    rcases hcase with rfl | rfl | rfl | rfl
    all_goals
      simp only [List.getElem?_toArray, List.getElem?_cons_zero, List.getElem?_cons_succ, Option.some.injEq] at ho
      subst ho
    · -- 0
      obtain ⟨x0, x1, rfl, h0, h1, k2, k3, hC⟩ := hI
      have hb := hC.blk HKM.out (by omega)
      have t0 := hb.cell 0; have t1 := hb.cell 1; have t2 := hb.cell 2; have t3 := hb.cell 3; have t4 := hb.cell 4; have t5 := hb.cell 5; have t6 := hb.cell 6; have t7 := hb.cell 7; have t8 := hb.cell 8; have t9 := hb.cell 9
      simp only [List.getElem?_toArray, List.getElem?_cons_zero, List.getElem?_cons_succ] at t0 t1 t2 t3 t4 t5 t6 t7 t8 t9
      clear hb
      have H0' := hid h0; have H1' := hid h1; have K2' := hid k2; have K3' := hid k3; have HC' := hid hC; clear h0 h1 k2 k3 hC
      try simp only [Act.put, List.setIfInBounds_toArray, List.set_cons_succ, List.set_cons_zero]
      go_wp2_with fail
      have h0 := H0'.out; have h1 := H1'.out; have k2 := K2'.out; have k3 := K3'.out; have hC := HC'.out
      exact ⟨_, x1, (by first | (simp only [Act.put, List.setIfInBounds_toArray, List.set_cons_succ, List.set_cons_zero]; done) | rfl), (fun _ => rfl), (fun h => h1 (by simpa using h)), (by simpa using k2), (by simpa using k3), hC⟩
    · -- 1
      obtain ⟨x0, x1, rfl, h0, h1, k2, k3, hC⟩ := hI
      have hb := hC.blk HKF.out (by omega)
      have t0 := hb.cell 0
      have t1 := hb.cell 1
      simp only [List.getElem?_toArray, List.getElem?_cons_zero, List.getElem?_cons_succ] at t0 t1
      clear hb
      have H0' := hid h0; have H1' := hid h1; have K2' := hid k2; have K3' := hid k3; have HC' := hid hC; clear h0 h1 k2 k3 hC
      try simp only [Act.put, List.setIfInBounds_toArray, List.set_cons_succ, List.set_cons_zero]
      go_wp2_with fail
      have h0 := H0'.out; have h1 := H1'.out; have k2 := K2'.out; have k3 := K3'.out; have hC := HC'.out
      exact ⟨x0, _, (by first | (simp only [Act.put, List.setIfInBounds_toArray, List.set_cons_succ, List.set_cons_zero]; done) | rfl), (fun h => h0 (by simpa using h)), (fun _ => rfl), (by simpa using k2), (by simpa using k3), hC⟩
    · -- 2
      obtain ⟨x0, x1, rfl, h0, h1, k2, k3, hC⟩ := hI
      simp [Region.binds] at hdep
      obtain rfl := h0 (by first | exact hdep | exact hdep.1 | exact hdep.2 | exact hdep.2.1 | exact hdep.2.2 | exact hdep.2.2.1 | exact hdep.2.2.2 | simp_all)
      have hko : Blk wx (s) 27 #[.int .u8 0, .int .u64 0, .int .u64 0, .int .u64 0, .int .u64 0, .int .u64 0, .int .u64 0, .string ⟨#[]⟩, .string ⟨#[]⟩, .slice none 0 0] := by have h := k2; rw [hf] at h; simpa using h
      have y0 := hko.cell 0; have z0 := hko.frozen 0
      have y1 := hko.cell 1; have z1 := hko.frozen 1
      have y2 := hko.cell 2; have z2 := hko.frozen 2
      have y3 := hko.cell 3; have z3 := hko.frozen 3
      have y4 := hko.cell 4; have z4 := hko.frozen 4
      have y5 := hko.cell 5; have z5 := hko.frozen 5
      have y6 := hko.cell 6; have z6 := hko.frozen 6
      have y7 := hko.cell 7; have z7 := hko.frozen 7
      have y8 := hko.cell 8; have z8 := hko.frozen 8
      have y9 := hko.cell 9; have z9 := hko.frozen 9
      simp only [List.getElem?_toArray, List.getElem?_cons_zero, List.getElem?_cons_succ] at y0 y1 y2 y3 y4 y5 y6 y7 y8 y9
      have HKO := hid hko; clear hko
      have H0' := hid h0; have H1' := hid h1; have K2' := hid k2; have K3' := hid k3; have HC' := hid hC; clear h0 h1 k2 k3 hC
      try simp only [Act.put, List.setIfInBounds_toArray, List.set_cons_succ, List.set_cons_zero]
      go_wp2_with fail
      have h0 := H0'.out; have h1 := H1'.out; have k2 := K2'.out; have k3 := K3'.out; have hC := HC'.out
      obtain ⟨hkn, hcn⟩ := mstore HKO.out _ _ _ _ _ _ _ _ _ _
      exact ⟨_, x1, (by first | (simp only [Act.put, List.setIfInBounds_toArray, List.set_cons_succ, List.set_cons_zero]; done) | rfl), (fun _ => rfl), (fun h => h1 (by simpa using h)), (by simpa using hkn), (hcn.blk (by simpa using k3) (by omega)), (hC.trans (hcn.mono (fun q _ hq => by subst hq; simp)))⟩
    · -- 3
      obtain ⟨x0, x1, rfl, h0, h1, k2, k3, hC⟩ := hI
      simp [Region.binds] at hdep
      obtain rfl := h1 (by first | exact hdep | exact hdep.1 | exact hdep.2 | exact hdep.2.1 | exact hdep.2.2 | exact hdep.2.2.1 | exact hdep.2.2.2 | simp_all)
      have hko : Blk wx (s + 1) 33 #[.int .i64 0, .int .i64 0] := by have h := k3; rw [hf] at h; simpa using h
      have y0 := hko.cell 0; have z0 := hko.frozen 0
      have y1 := hko.cell 1; have z1 := hko.frozen 1
      simp only [List.getElem?_toArray, List.getElem?_cons_zero, List.getElem?_cons_succ] at y0 y1
      have HKO := hid hko; clear hko
      have H0' := hid h0; have H1' := hid h1; have K2' := hid k2; have K3' := hid k3; have HC' := hid hC; clear h0 h1 k2 k3 hC
      try simp only [Act.put, List.setIfInBounds_toArray, List.set_cons_succ, List.set_cons_zero]
      go_wp2_with fail
      have h0 := H0'.out; have h1 := H1'.out; have k2 := K2'.out; have k3 := K3'.out; have hC := HC'.out
      obtain ⟨hkn, hcn⟩ := fstore HKO.out _ _
      exact ⟨x0, _, (by first | (simp only [Act.put, List.setIfInBounds_toArray, List.set_cons_succ, List.set_cons_zero]; done) | rfl), (fun h => h0 (by simpa using h)), (fun _ => rfl), (hcn.blk (by simpa using k2) (by omega)), (by simpa using hkn), (hC.trans (hcn.mono (fun q _ hq => by subst hq; simp)))⟩
  · intro f a' wx hall hI
    obtain ⟨x0, x1, rfl, h0, h1, k2, k3, hC⟩ := hI
    obtain rfl := h0 (hall 0 (by simp))
    obtain rfl := h1 (hall 1 (by simp))
    have kf2 := k2; rw [hall 2 (by simp), if_pos rfl] at kf2
    have kf3 := k3; rw [hall 3 (by simp), if_pos rfl] at kf3
    clear h0 h1 k2 k3 hall f
    try simp only [Act.put, List.setIfInBounds_toArray, List.set_cons_succ, List.set_cons_zero]
    go_wp2_with fail
    have r0 := kf2.cell 0; have r1 := kf2.cell 1; have r2 := kf2.cell 2; have r3 := kf2.cell 3; have r4 := kf2.cell 4; have r5 := kf2.cell 5; have r6 := kf2.cell 6; have r7 := kf2.cell 7; have r8 := kf2.cell 8; have r9 := kf2.cell 9
    have y0 := kf3.cell 0
    have y1 := kf3.cell 1
    simp only [List.getElem?_toArray, List.getElem?_cons_zero, List.getElem?_cons_succ] at r0 r1 r2 r3 r4 r5 r6 r7 r8 r9 y0 y1
    have hbR := HBE.out.trans (hC.below (B := s) (fun x hx => by omega) (by have := HKM.out.lt; omega))
    have hoR := own_chgS HO.out hC (fun g hg hx => by have := (HO.out.lt g hg).1; omega)
    refine bodyPost_ret (v := .tuple #[.agg #[.int .u8 (mk : Int), .int .u64 (n0 : Int), .int .u64 (n1 : Int), .int .u64 (n2 : Int), .int .u64 (n3 : Int), .int .u64 (n4 : Int), .int .u64 (n5 : Int), .string s0, .string s1, .slice A' ml c'], .agg #[.int .i64 E, .int .i64 P]]) (by simp [results, Try.results17, go_sem, r0, r1, r2, r3, r4, r5, r6, r7, r8, r9, y0, y1]) rfl ?_
    exact HQ.out _ _ _ (own_mono hoR (by omega)) hbR
/-- What Unknown answers. -/
def UnkR (w : World) (R : MV × List (RF × Nat) × Int × Nat) (e : Ending) (w' : World) : Prop :=
  ∃ (pre : List FV) (Ao : Option Addr) (co : Nat), e = .returned (.tuple #[.slice Ao pre.length co, .agg #[.int .i64 R.2.2.1, .int .i64 (R.2.2.2 : Nat)]]) ∧ w'.ownsRow w.heap.size 95 5 (.slice Ao pre.length co) pre.length (pre.flatMap fvC) ∧ fvAll pre R.2.1 ∧ (∀ f ∈ pre, Sl w' f.s.A f.s.c (f.s.xs.map bv)) ∧ Below w.heap.size w w'
theorem far_flt {w : World} {A : Option Addr} {c s : Nat} {xs : List UInt8} {t : TypeId} {a b : Int} (h : Sl w A c (xs.map bv)) (hb : Blk w s t #[.int .i64 a, .int .i64 b]) : FarS A xs.length (fun q => q = s) := fun hp b0 o0 e hx => by
  obtain ⟨b2, o2, e2, hlt2, hc⟩ := h.rd 0 (bv (xs[0]'hp)) (by simp [List.getElem?_eq_getElem hp])
  rw [e] at e2
  injection e2 with e2
  injection e2 with e2 e3
  subst e2
  subst hx
  rw [hb.cell] at hc
  unfold bv at hc
  rcases Nat.lt_or_ge (o2 + 0) 2 with h2 | h2
  · have : o2 + 0 = 0 ∨ o2 + 0 = 1 := by omega
    rcases this with h3 | h3 <;> rw [h3] at hc <;> simp at hc
  · rw [show (#[Value.int .i64 a, .int .i64 b] : Array Value)[o2 + 0]? = none from by simp; omega] at hc
    cases hc
def UnR2 (s q : Nat) (uA : Option Addr) (ul uc : Nat) (E P : Int) (a0 : Act) (w0 : World) (f : Nat → Bool) (a : Act) (w : World) : Prop := ∃ x0 x1 x2 : Value, a = (((a0.put (some 19) x0).put (some 20) x1).put (some 6) x2) ∧ (f 0 = true → x0 = .slice uA ul uc) ∧ (f 1 = true → x1 = .agg #[.int .i64 E, .int .i64 P]) ∧ (f 2 = true → x2 = .slice uA ul uc) ∧ Blk w (s) 33 (if f 3 = true then #[.int .i64 E, .int .i64 P] else #[.int .i64 0, .int .i64 0]) ∧ Chg (fun q => q = s) w0 w
set_option maxRecDepth 100000 in
set_option maxHeartbeats 4000000 in
theorem lunk_any (k : Nat) (v : Int) (bs : List UInt8) (n : Nat) (A : Option Addr) (c : Nat) (w : World) (hk : k ≤ 255) (hv1 : -9223372036854775808 ≤ v) (hv2 : v ≤ 9223372036854775807) (hn : bs.length = n) (hs : Sl w A c (bs.map bv)) :
    Calls Try.prog 49 #[.int .u8 (k : Int), .int .i64 v, .slice A n c] w (UnkR w (readR k v bs)) := by
  have hrd := fun W (hW : Below w.heap.size w W) => lread_any k v bs n A c W hk hv1 hv2 hn (hs.below hW)
  obtain ⟨R, hR⟩ : ∃ R, readR k v bs = R := ⟨_, rfl⟩
  rw [hR]
  obtain ⟨M, oth, E, P⟩ := R
  rw [hR] at hrd
  obtain ⟨Q, hQ⟩ : ∃ Q, Q = UnkR w (M, oth, E, P) := ⟨_, rfl⟩
  rw [← hQ]
  obtain ⟨s, hsz⟩ : ∃ s, w.heap.size = s := ⟨_, rfl⟩
  have hq : ∀ (pre : List FV) Ao co w' ul, pre.length = ul → w'.ownsRow s 95 5 (.slice Ao ul co) ul (pre.flatMap fvC) → fvAll pre oth → (∀ f ∈ pre, Sl w' f.s.A f.s.c (f.s.xs.map bv)) → Below s w w' → Q (.returned (.tuple #[.slice Ao ul co, .agg #[.int .i64 E, .int .i64 (P : Nat)]])) w' := fun pre Ao co w' ul h0 h1 h2 h3 h4 => by rw [hQ]; subst h0; exact ⟨pre, Ao, co, rfl, by rw [hsz]; exact h1, h2, h3, by rw [hsz]; exact h4⟩
  have hrd2 := fun W (hW : Below s w W) => (hrd W (by rw [hsz]; exact hW)).mono (R' := fun e w' => ∃ (A' : Option Addr) (c' : Nat) (pre : List FV) (Ao : Option Addr) (co : Nat), e = .returned (.tuple #[mvV { M with A := A', c := c' }, .slice Ao pre.length co, .agg #[.int .i64 E, .int .i64 (P : Nat)]]) ∧ w'.ownsRow W.heap.size 95 5 (.slice Ao pre.length co) pre.length (pre.flatMap fvC) ∧ fvAll pre oth ∧ (∀ f ∈ pre, Sl w' f.s.A f.s.c (f.s.xs.map bv)) ∧ Below W.heap.size W w') (by
    rintro e w' ⟨A', c', pre, Ao, co, rfl, -, h1, h2, h3, h4⟩
    exact ⟨A', c', pre, Ao, co, rfl, h1, h2, h3, h4⟩)
  clear hrd hR hQ
  obtain ⟨mk, n0, n1, n2, n3, n4, n5, s0, s1, A0, c0, l⟩ := M
  unfold mvV mvA at hrd2
  simp only at hrd2
  generalize hml : l.length = ml at *
  generalize ((P : Nat) : Int) = P at *
  have HQ := hid (fun pre Ao co w' => hq pre Ao co w')
  have HRD := hid hrd2
  clear hq hrd2 hml
  have hk1 : Blk (w.alloc (.cells #[.int .i64 0, .int .i64 0] 33)) s 33 #[.int .i64 0, .int .i64 0] := by rw [← hsz]; exact (Blk.new w _ _)
  have hb0 : Below s w (w.alloc (.cells #[.int .i64 0, .int .i64 0] 33)) := by rw [← hsz]; exact bw_a (Below.refl _ w) _
  have hz0 : ((w.alloc (.cells #[.int .i64 0, .int .i64 0] 33))).heap.size = s + 1 := by simp [hsz]
  have HK1 := hid hk1
  have HB0 := hid hb0
  have HZ0 := hid hz0
  clear hk1 hb0 hz0 hs
  go_enter Try.func49, Try.ntmps49
  go_wp2_with fail
  refine (HRD.out _ HB0.out).mono ?_
  rintro e w1 ⟨A', c', pre, Ao, co, rfl, hom, hfa, hsf, hb1⟩
  rw [HZ0.out] at hom hb1
  have hk1 := HK1.out.below hb1 (by omega)
  have hbe := HB0.out.trans (hb1.mono (by omega))
  have hs1 : s + 1 ≤ w1.heap.size := by have := hb1.size; rw [HZ0.out] at this; exact this
  obtain ⟨ul, hul⟩ : ∃ ul, pre.length = ul := ⟨_, rfl⟩
  rw [hul] at hom
  rw [hul]
  have HK3 := hid hk1
  have HOM := hid hom
  have HB1 := hid hbe
  have HFA := hid hfa
  have HS0 := hid hsf
  have HUL := hid hul
  clear HK1 HB0 HZ0 hom hb1 hbe hk1 HRD hfa hsf hul
  go_wp2_with fail
  obtain ⟨q, hq⟩ : ∃ q, w1.heap.size = q := ⟨_, rfl⟩
  have hkf : Blk ((w1.alloc (.cells #[.int .u8 (mk : Int), .int .u64 (n0 : Int), .int .u64 (n1 : Int), .int .u64 (n2 : Int), .int .u64 (n3 : Int), .int .u64 (n4 : Int), .int .u64 (n5 : Int), .string s0, .string s1, .slice A' ml c'] 27)).alloc (.cells #[.int .i64 E, .int .i64 P] 33)) (q + 1) 33 #[.int .i64 E, .int .i64 P] := by
    have h := Blk.new (w1.alloc (.cells #[.int .u8 (mk : Int), .int .u64 (n0 : Int), .int .u64 (n1 : Int), .int .u64 (n2 : Int), .int .u64 (n3 : Int), .int .u64 (n4 : Int), .int .u64 (n5 : Int), .string s0, .string s1, .slice A' ml c'] 27)) 33 #[.int .i64 E, .int .i64 P]
    rw [World.size_alloc, hq] at h; exact h
  have hk1 := (HK3.out.alloc (.cells #[.int .u8 (mk : Int), .int .u64 (n0 : Int), .int .u64 (n1 : Int), .int .u64 (n2 : Int), .int .u64 (n3 : Int), .int .u64 (n4 : Int), .int .u64 (n5 : Int), .string s0, .string s1, .slice A' ml c'] 27)).alloc (.cells #[.int .i64 E, .int .i64 P] 33)
  have hom := (HOM.out.alloc (.cells #[.int .u8 (mk : Int), .int .u64 (n0 : Int), .int .u64 (n1 : Int), .int .u64 (n2 : Int), .int .u64 (n3 : Int), .int .u64 (n4 : Int), .int .u64 (n5 : Int), .string s0, .string s1, .slice A' ml c'] 27)).alloc (.cells #[.int .i64 E, .int .i64 P] 33)
  have hbe := ((HB1.out.alloc (by omega) (.cells #[.int .u8 (mk : Int), .int .u64 (n0 : Int), .int .u64 (n1 : Int), .int .u64 (n2 : Int), .int .u64 (n3 : Int), .int .u64 (n4 : Int), .int .u64 (n5 : Int), .string s0, .string s1, .slice A' ml c'] 27)).alloc (by simp; omega) (.cells #[.int .i64 E, .int .i64 P] 33))
  have hsf := fun f hf => (HS0.out f hf).below (bw_a (bw_a (Below.refl _ w1) (.cells #[.int .u8 (mk : Int), .int .u64 (n0 : Int), .int .u64 (n1 : Int), .int .u64 (n2 : Int), .int .u64 (n3 : Int), .int .u64 (n4 : Int), .int .u64 (n5 : Int), .string s0, .string s1, .slice A' ml c'] 27)) (.cells #[.int .i64 E, .int .i64 P] 33))
  rw [hq] at hs1
  try rw [hq]
  generalize ((w1.alloc (.cells #[.int .u8 (mk : Int), .int .u64 (n0 : Int), .int .u64 (n1 : Int), .int .u64 (n2 : Int), .int .u64 (n3 : Int), .int .u64 (n4 : Int), .int .u64 (n5 : Int), .string s0, .string s1, .slice A' ml c'] 27)).alloc (.cells #[.int .i64 E, .int .i64 P] 33)) = W4 at *
  have HKF := hid hkf
  have HO := hid hom
  have HBE := hid hbe
  have HD1 := hid hk1
  have HSF := hid hsf
  clear hkf hom hbe hk1 HK3 HOM HB1 hq hsf HS0
  refine wp_region_invB (by kernel_rfl) (by kernel_rfl) (UnR2 s q Ao ul co E P) ?_ ?_ ?_
  · exact ⟨undef, undef, (.slice none 0 0), (by first | (simp only [Act.put, List.setIfInBounds_toArray, List.set_cons_succ, List.set_cons_zero]; done) | rfl), by simp, by simp, by simp, (by simp; exact (HD1.out)), ⟨rfl, rfl, rfl, Nat.le_refl _, fun _ _ _ => rfl⟩⟩
  · intro f a' wx i o ho hf hdep hI
    have hi : i < 4 := (Array.getElem?_eq_some_iff.1 ho).1
    have hcase : i = 0 ∨ i = 1 ∨ i = 2 ∨ i = 3 := by omega
    clear hi
    rcases hcase with rfl | rfl | rfl | rfl
    all_goals
      simp only [List.getElem?_toArray, List.getElem?_cons_zero, List.getElem?_cons_succ, Option.some.injEq] at ho
      subst ho
    · -- 0
      obtain ⟨x0, x1, x2, rfl, h0, h1, h2, k3, hC⟩ := hI
      have H0' := hid h0; have H1' := hid h1; have H2' := hid h2; have K3' := hid k3; have HC' := hid hC; clear h0 h1 h2 k3 hC
      try simp only [Act.put, List.setIfInBounds_toArray, List.set_cons_succ, List.set_cons_zero]
      go_wp2_with fail
      have h0 := H0'.out; have h1 := H1'.out; have h2 := H2'.out; have k3 := K3'.out; have hC := HC'.out
      exact ⟨_, x1, x2, (by first | (simp only [Act.put, List.setIfInBounds_toArray, List.set_cons_succ, List.set_cons_zero]; done) | rfl), (fun _ => rfl), (fun h => h1 (by simpa using h)), (fun h => h2 (by simpa using h)), (by simpa using k3), hC⟩
    · -- 1
      obtain ⟨x0, x1, x2, rfl, h0, h1, h2, k3, hC⟩ := hI
      have hb := hC.blk HKF.out (by omega)
      have t0 := hb.cell 0
      have t1 := hb.cell 1
      simp only [List.getElem?_toArray, List.getElem?_cons_zero, List.getElem?_cons_succ] at t0 t1
      clear hb
      have H0' := hid h0; have H1' := hid h1; have H2' := hid h2; have K3' := hid k3; have HC' := hid hC; clear h0 h1 h2 k3 hC
      try simp only [Act.put, List.setIfInBounds_toArray, List.set_cons_succ, List.set_cons_zero]
      go_wp2_with fail
      have h0 := H0'.out; have h1 := H1'.out; have h2 := H2'.out; have k3 := K3'.out; have hC := HC'.out
      exact ⟨x0, _, x2, (by first | (simp only [Act.put, List.setIfInBounds_toArray, List.set_cons_succ, List.set_cons_zero]; done) | rfl), (fun h => h0 (by simpa using h)), (fun _ => rfl), (fun h => h2 (by simpa using h)), (by simpa using k3), hC⟩
    · -- 2
      obtain ⟨x0, x1, x2, rfl, h0, h1, h2, k3, hC⟩ := hI
      simp [Region.binds] at hdep
      obtain rfl := h0 (by first | exact hdep | exact hdep.1 | exact hdep.2 | exact hdep.2.1 | exact hdep.2.2 | exact hdep.2.2.1 | exact hdep.2.2.2 | simp_all)
      have H0' := hid h0; have H1' := hid h1; have H2' := hid h2; have K3' := hid k3; have HC' := hid hC; clear h0 h1 h2 k3 hC
      try simp only [Act.put, List.setIfInBounds_toArray, List.set_cons_succ, List.set_cons_zero]
      go_wp2_with fail
      have h0 := H0'.out; have h1 := H1'.out; have h2 := H2'.out; have k3 := K3'.out; have hC := HC'.out
      exact ⟨_, x1, _, (by first | (simp only [Act.put, List.setIfInBounds_toArray, List.set_cons_succ, List.set_cons_zero]; done) | rfl), (fun _ => rfl), (fun h => h1 (by simpa using h)), (fun _ => rfl), (by simpa using k3), hC⟩
    · -- 3
      obtain ⟨x0, x1, x2, rfl, h0, h1, h2, k3, hC⟩ := hI
      simp [Region.binds] at hdep
      obtain rfl := h1 (by first | exact hdep | exact hdep.1 | exact hdep.2 | exact hdep.2.1 | exact hdep.2.2 | exact hdep.2.2.1 | exact hdep.2.2.2 | simp_all)
      have hko : Blk wx (s) 33 #[.int .i64 0, .int .i64 0] := by have h := k3; rw [hf] at h; simpa using h
      have y0 := hko.cell 0; have z0 := hko.frozen 0
      have y1 := hko.cell 1; have z1 := hko.frozen 1
      simp only [List.getElem?_toArray, List.getElem?_cons_zero, List.getElem?_cons_succ] at y0 y1
      have HKO := hid hko; clear hko
      have H0' := hid h0; have H1' := hid h1; have H2' := hid h2; have K3' := hid k3; have HC' := hid hC; clear h0 h1 h2 k3 hC
      try simp only [Act.put, List.setIfInBounds_toArray, List.set_cons_succ, List.set_cons_zero]
      go_wp2_with fail
      have h0 := H0'.out; have h1 := H1'.out; have h2 := H2'.out; have k3 := K3'.out; have hC := HC'.out
      obtain ⟨hkn, hcn⟩ := fstore HKO.out _ _
      exact ⟨x0, _, x2, (by first | (simp only [Act.put, List.setIfInBounds_toArray, List.set_cons_succ, List.set_cons_zero]; done) | rfl), (fun h => h0 (by simpa using h)), (fun _ => rfl), (fun h => h2 (by simpa using h)), (by simpa using hkn), (hC.trans (hcn.mono (fun q _ hq => by subst hq; simp)))⟩
  · intro f a' wx hall hI
    obtain ⟨x0, x1, x2, rfl, h0, h1, h2, k3, hC⟩ := hI
    obtain rfl := h0 (hall 0 (by simp))
    obtain rfl := h1 (hall 1 (by simp))
    obtain rfl := h2 (hall 2 (by simp))
    have kf3 := k3; rw [hall 3 (by simp), if_pos rfl] at kf3
    clear h0 h1 h2 k3 hall f
    try simp only [Act.put, List.setIfInBounds_toArray, List.set_cons_succ, List.set_cons_zero]
    go_wp2_with fail
    have y0 := kf3.cell 0
    have y1 := kf3.cell 1
    simp only [List.getElem?_toArray, List.getElem?_cons_zero, List.getElem?_cons_succ] at y0 y1
    have hbR := HBE.out.trans (hC.below (B := s) (fun x hx => by omega) (by have := HKF.out.lt; omega))
    refine bodyPost_ret (v := .tuple #[.slice Ao ul co, .agg #[.int .i64 E, .int .i64 P]]) (by simp [results, Try.results49, go_sem, y0, y1]) rfl ?_
    exact HQ.out pre Ao co _ _ HUL.out (own_mono (own_chgS HO.out hC (fun g hg hx => by have := (HO.out.lt g hg).1; omega)) (by omega)) HFA.out (fun f hf => hC.sl (HSF.out f hf) (n := f.s.xs.length) (far_flt (HSF.out f hf) HD1.out) (by simp)) hbR
end Go.Proofs.Ytnfodgjihdoncaa
