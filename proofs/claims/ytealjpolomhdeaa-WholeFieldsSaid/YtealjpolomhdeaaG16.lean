/- lenient.Decode and lenient.Unknown. · strict.unlike: where bytes are unlike. · What strict tells: mathematics. · A message read in another version, and with its fields in another order: mathematics. -/
import Derived.Test.YtealjpolomhdeaaLenRd2
import Derived.BigQuiet
import Derived.Deep.QuietTactic
import Derived.Test.YtealjpolomhdeaaLenBm
import Derived.Test.YtealjpolomhdeaaG5
set_option linter.unusedVariables false
namespace Go.Proofs.Ytealjpolomhdeaa
open Go.RowKit
theorem lread_any (k : Nat) (v : Int) (bs : List UInt8) (n : Nat) (A : Option Addr) (c : Nat) (w : World) (hk : k ≤ 255) (hv1 : -9223372036854775808 ≤ v) (hv2 : v ≤ 9223372036854775807) (hn : bs.length = n) (hs : Sl w A c (bs.map bv)) :
    Calls Try.prog 33 #[.int .u8 (k : Int), .int .i64 v, .slice A n c] w (ReadR w (readR k v bs)) := by
  refine (callsIn_wide (n := 12)).1 ?_
  by_cases hL : (ofL (k : Int) v).length = 0
  · exact lread_none 12 (by omega) k v bs n A c w hk hv1 hv2 hL
  · by_cases hl : 8192 < n
    · exact lread_long 12 (by omega) k v bs n A c w hk hv1 hv2 hL hn hl
    · by_cases hF : (flds bs n 0).2.1 = 0
      · exact lread_main 12 (by omega) k v bs n A c w hk hv1 hv2 hL hn (by omega) hs hF
      · exact lread_bad 12 (by omega) k v bs n A c w hk hv1 hv2 hL hn (by omega) hs hF
/-- What Decode answers. -/
def DecR (w : World) (R : MV × List (RF × Nat) × Int × Nat) (e : Ending) (w' : World) : Prop :=
  ∃ (A' : Option Addr) (c' : Nat), e = .returned (.tuple #[mvV { R.1 with A := A', c := c' }, .agg #[.int .i64 R.2.2.1, .int .i64 (R.2.2.2 : Nat)]]) ∧ w'.ownsRow w.heap.size 9 1 (.slice A' R.1.l.length c') R.1.l.length (R.1.l.map sv) ∧ Below w.heap.size w w'
def DcR2 (s q : Nat) (mk n0 n1 n2 n3 n4 n5 : Nat) (s0 s1 : ByteArray) (mA : Option Addr) (ml mc : Nat) (E P : Int) (a0 : Act) (w0 : World) (f : Nat → Bool) (a : Act) (w : World) : Prop := ∃ x0 x1 : Value, a = ((a0.put (some 19) x0).put (some 20) x1) ∧ (f 0 = true → x0 = .agg #[.int .u8 (mk : Int), .int .u64 (n0 : Int), .int .u64 (n1 : Int), .int .u64 (n2 : Int), .int .u64 (n3 : Int), .int .u64 (n4 : Int), .int .u64 (n5 : Int), .string s0, .string s1, .slice mA ml mc]) ∧ (f 1 = true → x1 = .agg #[.int .i64 E, .int .i64 P]) ∧ Blk w (s) 29 (if f 2 = true then #[.int .u8 (mk : Int), .int .u64 (n0 : Int), .int .u64 (n1 : Int), .int .u64 (n2 : Int), .int .u64 (n3 : Int), .int .u64 (n4 : Int), .int .u64 (n5 : Int), .string s0, .string s1, .slice mA ml mc] else #[.int .u8 0, .int .u64 0, .int .u64 0, .int .u64 0, .int .u64 0, .int .u64 0, .int .u64 0, .string ⟨#[]⟩, .string ⟨#[]⟩, .slice none 0 0]) ∧ Blk w (s + 1) 32 (if f 3 = true then #[.int .i64 E, .int .i64 P] else #[.int .i64 0, .int .i64 0]) ∧ Chg (fun q => q = s ∨ q = s + 1) w0 w
set_option maxRecDepth 100000 in
set_option maxHeartbeats 4000000 in
theorem ldec_any (k : Nat) (v : Int) (bs : List UInt8) (n : Nat) (A : Option Addr) (c : Nat) (w : World) (hk : k ≤ 255) (hv1 : -9223372036854775808 ≤ v) (hv2 : v ≤ 9223372036854775807) (hn : bs.length = n) (hs : Sl w A c (bs.map bv)) :
    Calls Try.prog 11 #[.int .u8 (k : Int), .int .i64 v, .slice A n c] w (DecR w (readR k v bs)) := by
  have hrd := fun W (hW : Below w.heap.size w W) => lread_any k v bs n A c W hk hv1 hv2 hn (hs.below hW)
  obtain ⟨R, hR⟩ : ∃ R, readR k v bs = R := ⟨_, rfl⟩
  rw [hR]
  obtain ⟨M, oth, E, P⟩ := R
  rw [hR] at hrd
  obtain ⟨Q, hQ⟩ : ∃ Q, Q = DecR w (M, oth, E, P) := ⟨_, rfl⟩
  rw [← hQ]
  obtain ⟨s, hsz⟩ : ∃ s, w.heap.size = s := ⟨_, rfl⟩
  have hq : ∀ A' c' w' , True → w'.ownsRow s 9 1 (.slice A' M.l.length c') M.l.length (M.l.map sv) → Below s w w' → Q (.returned (.tuple #[mvV { M with A := A', c := c' }, .agg #[.int .i64 E, .int .i64 (P : Nat)]])) w' := fun A' c' w' _ h1 h2 => by rw [hQ]; exact ⟨A', c', rfl, by rw [hsz]; exact h1, by rw [hsz]; exact h2⟩
  have hrd2 := fun W (hW : Below s w W) => (hrd W (by rw [hsz]; exact hW)).mono (R' := fun e w' => ∃ (A' : Option Addr) (c' : Nat) (uv : Value), e = .returned (.tuple #[mvV { M with A := A', c := c' }, uv, .agg #[.int .i64 E, .int .i64 (P : Nat)]]) ∧ w'.ownsRow W.heap.size 9 1 (.slice A' M.l.length c') M.l.length (M.l.map sv) ∧ Below W.heap.size W w') (by
    rintro e w' ⟨A', c', pre, Ao, co, rfl, h1, -, -, -, h2⟩
    exact ⟨A', c', _, rfl, h1, h2⟩)
  clear hrd hR hQ
  obtain ⟨mk, n0, n1, n2, n3, n4, n5, s0, s1, A0, c0, l⟩ := M
  unfold mvV mvA at hq hrd2
  simp only at hq hrd2
  generalize hlm : l.map sv = lm at *
  generalize hml : l.length = ml at *
  generalize ((P : Nat) : Int) = P at *
  have HQ := hid (fun A' c' w' => hq A' c' w' trivial)
  have HRD := hid hrd2
  clear hq hrd2 hlm hml
  have hk0 : Blk ((w.alloc (.cells #[.int .u8 0, .int .u64 0, .int .u64 0, .int .u64 0, .int .u64 0, .int .u64 0, .int .u64 0, .string ⟨#[]⟩, .string ⟨#[]⟩, .slice none 0 0] 29)).alloc (.cells #[.int .i64 0, .int .i64 0] 32)) s 29 #[.int .u8 0, .int .u64 0, .int .u64 0, .int .u64 0, .int .u64 0, .int .u64 0, .int .u64 0, .string ⟨#[]⟩, .string ⟨#[]⟩, .slice none 0 0] := by rw [← hsz]; exact (Blk.new w _ _).alloc _
  have hk1 : Blk ((w.alloc (.cells #[.int .u8 0, .int .u64 0, .int .u64 0, .int .u64 0, .int .u64 0, .int .u64 0, .int .u64 0, .string ⟨#[]⟩, .string ⟨#[]⟩, .slice none 0 0] 29)).alloc (.cells #[.int .i64 0, .int .i64 0] 32)) (s + 1) 32 #[.int .i64 0, .int .i64 0] := by
    have h := Blk.new (w.alloc (.cells #[.int .u8 0, .int .u64 0, .int .u64 0, .int .u64 0, .int .u64 0, .int .u64 0, .int .u64 0, .string ⟨#[]⟩, .string ⟨#[]⟩, .slice none 0 0] 29)) 32 #[.int .i64 0, .int .i64 0]
    rw [World.size_alloc, hsz] at h; exact h
  have hb0 : Below s w ((w.alloc (.cells #[.int .u8 0, .int .u64 0, .int .u64 0, .int .u64 0, .int .u64 0, .int .u64 0, .int .u64 0, .string ⟨#[]⟩, .string ⟨#[]⟩, .slice none 0 0] 29)).alloc (.cells #[.int .i64 0, .int .i64 0] 32)) := by rw [← hsz]; exact bw_a (bw_a (Below.refl _ w) _) _
  have hz0 : (((w.alloc (.cells #[.int .u8 0, .int .u64 0, .int .u64 0, .int .u64 0, .int .u64 0, .int .u64 0, .int .u64 0, .string ⟨#[]⟩, .string ⟨#[]⟩, .slice none 0 0] 29)).alloc (.cells #[.int .i64 0, .int .i64 0] 32))).heap.size = s + 2 := by simp [hsz]
  have HK0 := hid hk0
  have HK1 := hid hk1
  have HB0 := hid hb0
  have HZ0 := hid hz0
  clear hk0 hk1 hb0 hz0 hs
  go_enter Try.func11, Try.ntmps11
  go_wp2_with fail
  refine (HRD.out _ HB0.out).mono ?_
  rintro e w1 ⟨A', c', uv, rfl, hom, hb1⟩
  rw [HZ0.out] at hom hb1
  have hk0 := HK0.out.below hb1 (by omega)
  have hk1 := HK1.out.below hb1 (by omega)
  have hbe := HB0.out.trans (hb1.mono (by omega))
  have hs1 : s + 2 ≤ w1.heap.size := by have := hb1.size; rw [HZ0.out] at this; exact this
  have HK2 := hid hk0
  have HK3 := hid hk1
  have HOM := hid hom
  have HB1 := hid hbe
  clear HK0 HK1 HB0 HZ0 hom hb1 hbe hk0 hk1 HRD
  go_wp2_with fail
  obtain ⟨q, hq⟩ : ∃ q, w1.heap.size = q := ⟨_, rfl⟩
  have hkm : Blk ((w1.alloc (.cells #[.int .u8 (mk : Int), .int .u64 (n0 : Int), .int .u64 (n1 : Int), .int .u64 (n2 : Int), .int .u64 (n3 : Int), .int .u64 (n4 : Int), .int .u64 (n5 : Int), .string s0, .string s1, .slice A' ml c'] 29)).alloc (.cells #[.int .i64 E, .int .i64 P] 32)) q 29 #[.int .u8 (mk : Int), .int .u64 (n0 : Int), .int .u64 (n1 : Int), .int .u64 (n2 : Int), .int .u64 (n3 : Int), .int .u64 (n4 : Int), .int .u64 (n5 : Int), .string s0, .string s1, .slice A' ml c'] := by rw [← hq]; exact (Blk.new w1 _ _).alloc _
  have hkf : Blk ((w1.alloc (.cells #[.int .u8 (mk : Int), .int .u64 (n0 : Int), .int .u64 (n1 : Int), .int .u64 (n2 : Int), .int .u64 (n3 : Int), .int .u64 (n4 : Int), .int .u64 (n5 : Int), .string s0, .string s1, .slice A' ml c'] 29)).alloc (.cells #[.int .i64 E, .int .i64 P] 32)) (q + 1) 32 #[.int .i64 E, .int .i64 P] := by
    have h := Blk.new (w1.alloc (.cells #[.int .u8 (mk : Int), .int .u64 (n0 : Int), .int .u64 (n1 : Int), .int .u64 (n2 : Int), .int .u64 (n3 : Int), .int .u64 (n4 : Int), .int .u64 (n5 : Int), .string s0, .string s1, .slice A' ml c'] 29)) 32 #[.int .i64 E, .int .i64 P]
    rw [World.size_alloc, hq] at h; exact h
  have hk0 := (HK2.out.alloc (.cells #[.int .u8 (mk : Int), .int .u64 (n0 : Int), .int .u64 (n1 : Int), .int .u64 (n2 : Int), .int .u64 (n3 : Int), .int .u64 (n4 : Int), .int .u64 (n5 : Int), .string s0, .string s1, .slice A' ml c'] 29)).alloc (.cells #[.int .i64 E, .int .i64 P] 32)
  have hk1 := (HK3.out.alloc (.cells #[.int .u8 (mk : Int), .int .u64 (n0 : Int), .int .u64 (n1 : Int), .int .u64 (n2 : Int), .int .u64 (n3 : Int), .int .u64 (n4 : Int), .int .u64 (n5 : Int), .string s0, .string s1, .slice A' ml c'] 29)).alloc (.cells #[.int .i64 E, .int .i64 P] 32)
  have hom := (HOM.out.alloc (.cells #[.int .u8 (mk : Int), .int .u64 (n0 : Int), .int .u64 (n1 : Int), .int .u64 (n2 : Int), .int .u64 (n3 : Int), .int .u64 (n4 : Int), .int .u64 (n5 : Int), .string s0, .string s1, .slice A' ml c'] 29)).alloc (.cells #[.int .i64 E, .int .i64 P] 32)
  have hbe := ((HB1.out.alloc (by omega) (.cells #[.int .u8 (mk : Int), .int .u64 (n0 : Int), .int .u64 (n1 : Int), .int .u64 (n2 : Int), .int .u64 (n3 : Int), .int .u64 (n4 : Int), .int .u64 (n5 : Int), .string s0, .string s1, .slice A' ml c'] 29)).alloc (by simp; omega) (.cells #[.int .i64 E, .int .i64 P] 32))
  rw [hq] at hs1
  try rw [hq]
  generalize ((w1.alloc (.cells #[.int .u8 (mk : Int), .int .u64 (n0 : Int), .int .u64 (n1 : Int), .int .u64 (n2 : Int), .int .u64 (n3 : Int), .int .u64 (n4 : Int), .int .u64 (n5 : Int), .string s0, .string s1, .slice A' ml c'] 29)).alloc (.cells #[.int .i64 E, .int .i64 P] 32)) = W4 at *
  have HKM := hid hkm
  have HKF := hid hkf
  have HO := hid hom
  have HBE := hid hbe
  have HD0 := hid hk0
  have HD1 := hid hk1
  clear hkm hkf hom hbe hk0 hk1 HK2 HK3 HOM HB1 hq
  refine wp_region_invB (by kernel_rfl) (by kernel_rfl) (DcR2 s q mk n0 n1 n2 n3 n4 n5 s0 s1 A' ml c' E P) ?_ ?_ ?_
  · exact ⟨undef, undef, (by first | (simp only [Act.put, List.setIfInBounds_toArray, List.set_cons_succ, List.set_cons_zero]; done) | rfl), by simp, by simp, (by simp; exact (HD0.out)), (by simp; exact (HD1.out)), ⟨rfl, rfl, rfl, Nat.le_refl _, fun _ _ _ => rfl⟩⟩
  · intro f a' wx i o ho hf hdep hI
    have hi : i < 4 := (Array.getElem?_eq_some_iff.1 ho).1
    have hcase : i = 0 ∨ i = 1 ∨ i = 2 ∨ i = 3 := by omega
    clear hi
    rcases hcase with rfl | rfl | rfl | rfl
    all_goals
      simp only [List.getElem?_toArray, List.getElem?_cons_zero, List.getElem?_cons_succ, Option.some.injEq] at ho
      subst ho
    · -- 0
      obtain ⟨x0, x1, rfl, h0, h1, k2, k3, hC⟩ := hI
      have hb := hC.blk HKM.out (by omega)
      have t0 := hb.cell 0; have t1 := hb.cell 1; have t2 := hb.cell 2; have t3 := hb.cell 3; have t4 := hb.cell 4; have t5 := hb.cell 5; have t6 := hb.cell 6; have t7 := hb.cell 7; have t8 := hb.cell 8; have t9 := hb.cell 9
      simp only [List.getElem?_toArray, List.getElem?_cons_zero, List.getElem?_cons_succ] at t0 t1 t2 t3 t4 t5 t6 t7 t8 t9
      clear hb
      have H0' := hid h0; have H1' := hid h1; have K2' := hid k2; have K3' := hid k3; have HC' := hid hC; clear h0 h1 k2 k3 hC
      try simp only [Act.put, List.setIfInBounds_toArray, List.set_cons_succ, List.set_cons_zero]
      go_wp2_with fail
      have h0 := H0'.out; have h1 := H1'.out; have k2 := K2'.out; have k3 := K3'.out; have hC := HC'.out
      exact ⟨_, x1, (by first | (simp only [Act.put, List.setIfInBounds_toArray, List.set_cons_succ, List.set_cons_zero]; done) | rfl), (fun _ => rfl), (fun h => h1 (by simpa using h)), (by simpa using k2), (by simpa using k3), hC⟩
    · -- 1
      obtain ⟨x0, x1, rfl, h0, h1, k2, k3, hC⟩ := hI
      have hb := hC.blk HKF.out (by omega)
      have t0 := hb.cell 0
      have t1 := hb.cell 1
      simp only [List.getElem?_toArray, List.getElem?_cons_zero, List.getElem?_cons_succ] at t0 t1
      clear hb
      have H0' := hid h0; have H1' := hid h1; have K2' := hid k2; have K3' := hid k3; have HC' := hid hC; clear h0 h1 k2 k3 hC
      try simp only [Act.put, List.setIfInBounds_toArray, List.set_cons_succ, List.set_cons_zero]
      go_wp2_with fail
      have h0 := H0'.out; have h1 := H1'.out; have k2 := K2'.out; have k3 := K3'.out; have hC := HC'.out
      exact ⟨x0, _, (by first | (simp only [Act.put, List.setIfInBounds_toArray, List.set_cons_succ, List.set_cons_zero]; done) | rfl), (fun h => h0 (by simpa using h)), (fun _ => rfl), (by simpa using k2), (by simpa using k3), hC⟩
    · -- 2
      obtain ⟨x0, x1, rfl, h0, h1, k2, k3, hC⟩ := hI
      simp [Region.binds] at hdep
      obtain rfl := h0 (by first | exact hdep | exact hdep.1 | exact hdep.2 | exact hdep.2.1 | exact hdep.2.2 | exact hdep.2.2.1 | exact hdep.2.2.2 | simp_all)
      have hko : Blk wx (s) 29 #[.int .u8 0, .int .u64 0, .int .u64 0, .int .u64 0, .int .u64 0, .int .u64 0, .int .u64 0, .string ⟨#[]⟩, .string ⟨#[]⟩, .slice none 0 0] := by have h := k2; rw [hf] at h; simpa using h
      have y0 := hko.cell 0; have z0 := hko.frozen 0
      have y1 := hko.cell 1; have z1 := hko.frozen 1
      have y2 := hko.cell 2; have z2 := hko.frozen 2
      have y3 := hko.cell 3; have z3 := hko.frozen 3
      have y4 := hko.cell 4; have z4 := hko.frozen 4
      have y5 := hko.cell 5; have z5 := hko.frozen 5
      have y6 := hko.cell 6; have z6 := hko.frozen 6
      have y7 := hko.cell 7; have z7 := hko.frozen 7
      have y8 := hko.cell 8; have z8 := hko.frozen 8
      have y9 := hko.cell 9; have z9 := hko.frozen 9
      simp only [List.getElem?_toArray, List.getElem?_cons_zero, List.getElem?_cons_succ] at y0 y1 y2 y3 y4 y5 y6 y7 y8 y9
      have HKO := hid hko; clear hko
      have H0' := hid h0; have H1' := hid h1; have K2' := hid k2; have K3' := hid k3; have HC' := hid hC; clear h0 h1 k2 k3 hC
      try simp only [Act.put, List.setIfInBounds_toArray, List.set_cons_succ, List.set_cons_zero]
      go_wp2_with fail
      have h0 := H0'.out; have h1 := H1'.out; have k2 := K2'.out; have k3 := K3'.out; have hC := HC'.out
      obtain ⟨hkn, hcn⟩ := mstore HKO.out _ _ _ _ _ _ _ _ _ _
      exact ⟨_, x1, (by first | (simp only [Act.put, List.setIfInBounds_toArray, List.set_cons_succ, List.set_cons_zero]; done) | rfl), (fun _ => rfl), (fun h => h1 (by simpa using h)), (by simpa using hkn), (hcn.blk (by simpa using k3) (by omega)), (hC.trans (hcn.mono (fun q _ hq => by subst hq; simp)))⟩
    · -- 3
      obtain ⟨x0, x1, rfl, h0, h1, k2, k3, hC⟩ := hI
      simp [Region.binds] at hdep
      obtain rfl := h1 (by first | exact hdep | exact hdep.1 | exact hdep.2 | exact hdep.2.1 | exact hdep.2.2 | exact hdep.2.2.1 | exact hdep.2.2.2 | simp_all)
      have hko : Blk wx (s + 1) 32 #[.int .i64 0, .int .i64 0] := by have h := k3; rw [hf] at h; simpa using h
      have y0 := hko.cell 0; have z0 := hko.frozen 0
      have y1 := hko.cell 1; have z1 := hko.frozen 1
      simp only [List.getElem?_toArray, List.getElem?_cons_zero, List.getElem?_cons_succ] at y0 y1
      have HKO := hid hko; clear hko
      have H0' := hid h0; have H1' := hid h1; have K2' := hid k2; have K3' := hid k3; have HC' := hid hC; clear h0 h1 k2 k3 hC
      try simp only [Act.put, List.setIfInBounds_toArray, List.set_cons_succ, List.set_cons_zero]
      go_wp2_with fail
      have h0 := H0'.out; have h1 := H1'.out; have k2 := K2'.out; have k3 := K3'.out; have hC := HC'.out
      obtain ⟨hkn, hcn⟩ := fstore HKO.out _ _
      exact ⟨x0, _, (by first | (simp only [Act.put, List.setIfInBounds_toArray, List.set_cons_succ, List.set_cons_zero]; done) | rfl), (fun h => h0 (by simpa using h)), (fun _ => rfl), (hcn.blk (by simpa using k2) (by omega)), (by simpa using hkn), (hC.trans (hcn.mono (fun q _ hq => by subst hq; simp)))⟩
  · intro f a' wx hall hI
    obtain ⟨x0, x1, rfl, h0, h1, k2, k3, hC⟩ := hI
    obtain rfl := h0 (hall 0 (by simp))
    obtain rfl := h1 (hall 1 (by simp))
    have kf2 := k2; rw [hall 2 (by simp), if_pos rfl] at kf2
    have kf3 := k3; rw [hall 3 (by simp), if_pos rfl] at kf3
    clear h0 h1 k2 k3 hall f
    try simp only [Act.put, List.setIfInBounds_toArray, List.set_cons_succ, List.set_cons_zero]
    go_wp2_with fail
    have r0 := kf2.cell 0; have r1 := kf2.cell 1; have r2 := kf2.cell 2; have r3 := kf2.cell 3; have r4 := kf2.cell 4; have r5 := kf2.cell 5; have r6 := kf2.cell 6; have r7 := kf2.cell 7; have r8 := kf2.cell 8; have r9 := kf2.cell 9
    have y0 := kf3.cell 0
    have y1 := kf3.cell 1
    simp only [List.getElem?_toArray, List.getElem?_cons_zero, List.getElem?_cons_succ] at r0 r1 r2 r3 r4 r5 r6 r7 r8 r9 y0 y1
    have hbR := HBE.out.trans (hC.below (B := s) (fun x hx => by omega) (by have := HKM.out.lt; omega))
    have hoR := own_chgS HO.out hC (fun g hg hx => by have := (HO.out.lt g hg).1; omega)
    refine bodyPost_ret (v := .tuple #[.agg #[.int .u8 (mk : Int), .int .u64 (n0 : Int), .int .u64 (n1 : Int), .int .u64 (n2 : Int), .int .u64 (n3 : Int), .int .u64 (n4 : Int), .int .u64 (n5 : Int), .string s0, .string s1, .slice A' ml c'], .agg #[.int .i64 E, .int .i64 P]]) (by simp [results, Try.results11, go_sem, r0, r1, r2, r3, r4, r5, r6, r7, r8, r9, y0, y1]) rfl ?_
    exact HQ.out _ _ _ (own_mono hoR (by omega)) hbR
end Go.Proofs.Ytealjpolomhdeaa
set_option linter.unusedVariables false
namespace Go.Proofs.Ytealjpolomhdeaa
open Go.RowKit
def unl : List UInt8 → List UInt8 → Nat
  | a :: ta, b :: tb => if a = b then unl ta tb + 1 else 0
  | _, _ => 0
theorem unl_eq : ∀ (k : Nat) (xs ys : List UInt8), k ≤ xs.length → k ≤ ys.length → xs.take k = ys.take k → (xs.length = k ∨ ys.length = k ∨ ∃ a b, xs[k]? = some a ∧ ys[k]? = some b ∧ a ≠ b) → unl xs ys = k
  | 0, [], _, _, _, _, _ => by unfold unl; rfl
  | 0, a :: ta, [], _, _, _, _ => by unfold unl; rfl
  | 0, a :: ta, b :: tb, _, _, _, h => by
    rcases h with h | h | ⟨x, y, h1, h2, h3⟩
    · simp at h
    · simp at h
    · simp at h1 h2; subst h1; subst h2; unfold unl; rw [if_neg h3]
  | k + 1, [], _, h, _, _, _ => by simp at h
  | k + 1, a :: ta, [], _, h, _, _ => by simp at h
  | k + 1, a :: ta, b :: tb, h1, h2, h3, h4 => by
    simp only [List.take_succ_cons, List.cons.injEq] at h3
    obtain ⟨rfl, h3⟩ := h3
    unfold unl
    rw [if_pos rfl, unl_eq k ta tb (by simpa using h1) (by simpa using h2) h3 (by
      rcases h4 with h | h | ⟨x, y, g1, g2, g3⟩
      · exact .inl (by simpa using h)
      · exact .inr (.inl (by simpa using h))
      · exact .inr (.inr ⟨x, y, by simpa using g1, by simpa using g2, g3⟩))]
theorem unl_le : ∀ xs ys : List UInt8, unl xs ys ≤ xs.length ∧ unl xs ys ≤ ys.length
  | [], ys => by unfold unl; simp
  | a :: ta, [] => by unfold unl; simp
  | a :: ta, b :: tb => by
    have := unl_le ta tb
    unfold unl
    split <;> simp <;> omega
theorem unl_max : ∀ xs ys : List UInt8, unl xs ys < max xs.length ys.length ↔ xs ≠ ys
  | [], [] => by unfold unl; simp
  | [], b :: tb => by unfold unl; simp
  | a :: ta, [] => by unfold unl; simp
  | a :: ta, b :: tb => by
    have h := unl_max ta tb
    unfold unl
    by_cases hab : a = b
    · subst hab
      rw [if_pos rfl]
      simp only [List.length_cons, ne_eq, List.cons.injEq, true_and]
      exact ⟨fun g => h.1 (by omega), fun g => by have := h.2 g; omega⟩
    · rw [if_neg hab]
      simp [hab]
set_option maxRecDepth 100000 in
set_option maxHeartbeats 1000000 in
theorem sunl_any (xs ys : List UInt8) (nx ny : Nat) (A B : Option Addr) (c d : Nat) (w : World) (hnx : xs.length = nx) (hny : ys.length = ny) (hl : nx ≤ 9223372036854775807) (hl2 : ny ≤ 9223372036854775807) (hA : BRd w A xs) (hB : BRd w B ys) :
    Calls Try.prog 43 #[.slice A nx c, .slice B ny d] w fun e w' => e = .returned (.int .i64 (unl xs ys : Nat)) ∧ ∃ n, w' = w.drewN n := by
  have HX := hid hnx
  have HY := hid hny
  clear hnx hny
  obtain ⟨U, hU⟩ : ∃ U, unl xs ys = U := ⟨_, rfl⟩
  rw [hU]
  have HU := hid hU
  clear hU
  go_enter Try.func43, Try.ntmps43
  go_wp2
  go_step3
  go_wp2
  go_step3
  go_wp2
  go_loopw [5] (fun i wr => ∃ k n : Nat, k ≤ nx ∧ k ≤ ny ∧ i = .int .i64 k ∧ wr = w.drewN n ∧ xs.take k = ys.take k) (fun i _ => nx - (intOf i).toNat)
  case atStart => exact ⟨0, 0, by omega, by omega, rfl, rfl, by simp⟩
  case round =>
    obtain ⟨k, n, hk, hk2, rfl, rfl, ht⟩ := hrel
    have HT := hid ht
    clear ht
    by_cases hlt : k < nx
    · by_cases hlt2 : k < ny
      · have g1 : k < xs.length := by have := HX.out; omega
        have g2 : k < ys.length := by have := HY.out; omega
        have hki : (k : Int) < (nx : Int) := by omega
        have hkj : (k : Int) < (ny : Int) := by omega
        obtain ⟨b1, o1, rfl, hb1, hc1⟩ := hA.at_ g1
        obtain ⟨b2, o2, rfl, hb2, hc2⟩ := hB.at_ g2
        by_cases hxy : xs[k] = ys[k]
        · have htk : xs.take (k + 1) = ys.take (k + 1) := by rw [List.take_succ_eq_append_getElem g1, List.take_succ_eq_append_getElem g2, HT.out, hxy]
          have HTK := hid htk
          rw [hxy] at hc1
          generalize hy : (ys[k].toNat : Int) = y at hc1 hc2
          clear hy hxy htk
          go_wp2
          go_quiet (fail)
          go_wp2
          go_roundw
          case rel => exact ⟨k + 1, _, by omega, by omega, by go_num, rfl, HTK.out⟩
          case measure => simp [intOf]; omega
        · have hne : ((xs[k].toNat : Int) != (ys[k].toNat : Int)) = true := by
            rw [bne_iff_ne]; intro h; exact hxy (UInt8.toNat_inj.1 (by omega))
          have hun := unl_eq k xs ys (by omega) (by omega) HT.out (.inr (.inr ⟨xs[k], ys[k], List.getElem?_eq_getElem g1, List.getElem?_eq_getElem g2, hxy⟩))
          have HUN := hid hun
          clear hxy hun
          generalize (xs[k].toNat : Int) = x at *
          generalize (ys[k].toNat : Int) = y at *
          go_wp2
          go_quiet (fail)
          go_wp2
          try simp only [Exit.noGoto]
          try go_wp2
          go_ret
          exact ⟨by rw [← HU.out, HUN.out]; rfl, _, World.drewN_drewN ..⟩
      · have hun := unl_eq k xs ys (by have := HX.out; omega) (by have := HY.out; omega) HT.out (.inr (.inl (by have := HY.out; omega)))
        have HUN := hid hun
        have hki : (k : Int) < (nx : Int) := by omega
        have hkj : ¬ (k : Int) < (ny : Int) := by omega
        clear hun
        go_wp2
        go_ret
        exact ⟨by rw [← HU.out, HUN.out]; rfl, _, rfl⟩
    · have hun := unl_eq k xs ys (by have := HX.out; omega) (by have := HY.out; omega) HT.out (.inl (by have := HX.out; omega))
      have HUN := hid hun
      have hki : ¬ (k : Int) < (nx : Int) := by omega
      clear hun
      go_wp2
      go_ret
      exact ⟨by rw [← HU.out, HUN.out]; rfl, _, rfl⟩
end Go.Proofs.Ytealjpolomhdeaa
set_option linter.unusedVariables false
namespace Go.Proofs.Ytealjpolomhdeaa
open Go.RowKit
/-- The message of bytes, and its own bytes; or what is wrong, and where. -/
def strR (k : Nat) (v : Int) (bs : List UInt8) : MV × List UInt8 × Int × Nat :=
  if (readR k v bs).2.2.1 = 0 then ((readR k v bs).1, encB (readR k v bs).1 (ofL (k : Int) v), 0, 0) else (ZM, [], (readR k v bs).2.2)
/-- The message of bytes that are its own; or what is wrong, and where. -/
def strD (k : Nat) (v : Int) (bs : List UInt8) : MV × Int × Nat :=
  if (readR k v bs).2.2.1 = 0 then (if encB (readR k v bs).1 (ofL (k : Int) v) = bs then ((readR k v bs).1, 0, 0) else (ZM, 3, unl bs (encB (readR k v bs).1 (ofL (k : Int) v)))) else (ZM, (readR k v bs).2.2)
theorem good_sm {k : Nat} {v : Int} {m : MV} (h : Good k v m) : MvSm m := by
  have ht := good_texts h
  refine ⟨?_, fun i => Nat.le_trans (ht.1 i) (by omega), fun s hs => Nat.le_trans (ht.2 s hs) (by omega)⟩
  cases hm : mkL (ofL (k : Int) v) with
  | false => rw [h.l hm]; simp
  | true =>
    unfold mkL at hm
    obtain ⟨r, hr, hp⟩ := List.any_eq_true.1 hm
    simp only [decide_eq_true_eq] at hp
    have := (fldE_list hp (h.f r hr)).1
    omega
/-- The two ways of reading strictly. -/
theorem str_ways (k : Nat) (v : Int) (bs : List UInt8) :
    (∃ E P, E ≠ 0 ∧ readR k v bs = (ZM, [], E, P) ∧ strR k v bs = (ZM, [], E, P) ∧ strD k v bs = (ZM, E, P)) ∨
    (∃ M O, readR k v bs = (M, O, 0, 0) ∧ Good k v M ∧ (ofL (k : Int) v).length ≠ 0 ∧ chkV M (ofL (k : Int) v) = (0, 0) ∧ strR k v bs = (M, encB M (ofL (k : Int) v), 0, 0) ∧ strD k v bs = if encB M (ofL (k : Int) v) = bs then (M, 0, 0) else (ZM, 3, unl bs (encB M (ofL (k : Int) v)))) := by
  rcases read_good k v bs with ⟨h1, h2, h3⟩ | ⟨h1, h2, h3⟩
  · left
    obtain ⟨R, hR⟩ : ∃ R, readR k v bs = R := ⟨_, rfl⟩
    unfold strR strD
    rw [hR] at h1 h2 h3 ⊢
    obtain ⟨M, O, E, P⟩ := R
    simp only at h1 h2 h3 ⊢
    subst h2; subst h3
    exact ⟨E, P, h1, rfl, by rw [if_neg h1], by rw [if_neg h1]⟩
  · right
    obtain ⟨R, hR⟩ : ∃ R, readR k v bs = R := ⟨_, rfl⟩
    unfold strR strD
    rw [hR] at h1 h2 ⊢
    obtain ⟨M, O, E, P⟩ := R
    simp only [Prod.mk.injEq] at h1 h2 ⊢
    obtain ⟨rfl, rfl⟩ := h1
    exact ⟨M, O, ⟨rfl, rfl, rfl, rfl⟩, h2, h3, good_chk h2 h3, by first | (rw [if_pos rfl]; done) | simp, by first | (rw [if_pos rfl]; done) | simp⟩
end Go.Proofs.Ytealjpolomhdeaa
set_option linter.unusedVariables false
namespace Go.Proofs.Ytealjpolomhdeaa
open Go.RowKit
theorem rows_place : (ROWS.all fun a => ROWS.all fun b => !(decide (a.kind = b.kind) && ((decide (a.typ ≤ 6) && decide (b.typ ≤ 6) && decide (a.slot = b.slot)) || (decide (7 ≤ a.typ ∧ a.typ ≤ 9) && decide (7 ≤ b.typ ∧ b.typ ≤ 9) && decide (a.slot = b.slot)) || (decide (a.typ = 10) && decide (b.typ = 10)))) || decide (a = b)) = true := by decide +kernel
/-- No two rows of a kind have one place. -/
theorem place_uni {a b : SRow} (ha : a ∈ ROWS) (hb : b ∈ ROWS) (hk : a.kind = b.kind) (h : (a.typ ≤ 6 ∧ b.typ ≤ 6 ∧ a.slot = b.slot) ∨ ((7 ≤ a.typ ∧ a.typ ≤ 9) ∧ (7 ≤ b.typ ∧ b.typ ≤ 9) ∧ a.slot = b.slot) ∨ (a.typ = 10 ∧ b.typ = 10)) : a = b := by
  have g := List.all_eq_true.1 (List.all_eq_true.1 rows_place a ha) b hb
  rw [Bool.or_eq_true] at g
  rcases g with g | g
  · exfalso
    rw [decide_eq_true hk] at g
    rcases h with ⟨h1, h2, h3⟩ | ⟨h1, h2, h3⟩ | ⟨h1, h2⟩
    · rw [decide_eq_true h1, decide_eq_true h2, decide_eq_true h3] at g; simp at g
    · rw [decide_eq_true h1, decide_eq_true h2, decide_eq_true h3] at g; simp at g
    · rw [decide_eq_true h1, decide_eq_true h2] at g; simp at g
  · simpa using g
section
variable {k v : Int} {M : MV}
end
/-- What is read of parts of a message in any order, in any version. -/
theorem read_rows {M : MV} (v o : Int) (hn : ∀ i, M.num i ≤ 18446744073709551615) (hsm : MvSm M) (hc : (chkV M (ofL (M.k : Int) v)).1 = 0) (ho : (ofL (M.k : Int) o).length ≠ 0) (R : List SRow) (hR : R.Perm (ofL (M.k : Int) v)) :
    ∃ M2 oth, readR M.k o ((allP M R).flatMap wB) = (M2, oth, 0, 0) ∧ sameB M2 (keptM (ofL (M.k : Int) o) M) = true ∧ oth.map keyF = allP M (R.filter fun r => decide (r ∉ ofL (M.k : Int) o)) := by
  have hz := chkV_zero hc
  have hmem : ∀ r, r ∈ R ↔ r ∈ ofL (M.k : Int) v := fun r => hR.mem_iff
  have hL : ∀ r ∈ R, r ∈ ROWS := fun r hr => ofL_mem _ _ ((hmem r).1 hr)
  have hE0 := chkL_all _ hz.2.2.1
  have hE : ∀ r ∈ R, fldE M r = 0 := fun r hr => hE0 r ((hmem r).1 hr)
  have hok : ∀ x ∈ allP M R, pErrF (ptF x) = 0 ∧ (ptF x).n ≤ 18446744073709551615 ∧ 0 ≤ (ptF x).w ∧ (ptF x).w ≤ 255 := fun x hx => by
    obtain ⟨r, hr, hp⟩ := allP_ok hn hsm hL hx
    exact hp.put (hL r hr)
  have hf := flat_flds (allP M R) hok
  have hcap : ((allP M R).flatMap wB).length ≤ 8192 := by
    have h1 := enc_cap v hn hsm
    rw [encB_allP hsm (fun r hr => ofL_mem _ _ hr) hc] at h1
    have hp : (allP M R).Perm (allP M (ofL (M.k : Int) v)) := by unfold allP; exact hR.flatMap_right _
    have hp2 := hp.flatMap_right wB
    rw [hp2.length_eq]
    exact h1
  have hkeys : (putL ((allP M R).map ptF) 0).map keyF = allP M R := by
    have h := putL_map (allP M R) 0
    have hb : (allP M R).map bareP = allP M R := by
      conv => rhs; rw [← List.map_id (allP M R)]
      refine List.map_congr_left fun x hx => ?_
      unfold allP at hx
      obtain ⟨r, hr, hx⟩ := List.mem_flatMap.1 hx
      exact rowP_bare (hL r hr) (hE r hr) hx
    rw [hb] at h
    exact h
  obtain ⟨sN, sS, sL⟩ := same_kept hz.2.2.2
  have hl64 : M.l.length ≤ 64 := by
    cases hm : mkL (ofL (M.k : Int) v) with
    | false => rw [sL hm]; simp
    | true =>
      unfold mkL at hm
      obtain ⟨r, hr, h10⟩ := List.any_eq_true.1 hm
      simp only [decide_eq_true_eq] at h10
      exact (fldE_list h10 (hE0 r hr)).1
  have hS : ({ ZM with k := M.k } : MV).l.length + M.l.length ≤ 64 := by simpa [ZM] using hl64
  have hnd : R.Nodup := hR.nodup_iff.2 (nodup_ofL M.k v)
  obtain ⟨oth, e1, e2⟩ := up_gen (k := (M.k : Int)) (o := o) (b := M) (S := { ZM with k := M.k }) hn hS R [] (fun r hr => ⟨hL r hr, ofL_kindN ((hmem r).1 hr), hE r hr⟩) (fun p hp => by simp at hp) (by simpa using hnd) _ hkeys
  rw [up_nil, List.nil_append] at e1
  refine ⟨updM (R.filter fun r => decide (r ∈ ofL (M.k : Int) o)) { ZM with k := M.k } M, oth, ?_, ?_, e2⟩
  · unfold readR
    rw [if_neg ho, if_neg (by omega), hf]
    simp only
    rw [if_neg (by simp), e1, if_neg (by simp)]
  · obtain ⟨F, hF⟩ : ∃ F, R.filter (fun r => decide (r ∈ ofL (M.k : Int) o)) = F := ⟨_, rfl⟩
    have hFm : ∀ r, r ∈ F ↔ r ∈ ofL (M.k : Int) v ∧ r ∈ ofL (M.k : Int) o := fun r => by rw [← hF, List.mem_filter, hmem]; simp
    rw [hF]
    have kN : ∀ i : Nat, i ≤ 5 → up (mkN F i) (M.num (i : Int)) 0 = if mkN (ofL (M.k : Int) o) i then M.num (i : Int) else 0 := fun i hi => by
      unfold up
      cases ho : mkN (ofL (M.k : Int) o) i with
      | false =>
        have : mkN F i = false := any_mono (fun r hr => ((hFm r).1 hr).2) ho
        rw [this]; simp
      | true =>
        by_cases c : M.num (i : Int) = 0
        · simp [c]
        · have hv : mkN (ofL (M.k : Int) v) i = true := by
            cases hq : mkN (ofL (M.k : Int) v) i with
            | true => rfl
            | false => exact absurd (sN i hi hq) c
          have : mkN F i = true := by
            unfold mkN at ho hv ⊢
            obtain ⟨r, hr, h1⟩ := List.any_eq_true.1 ho
            obtain ⟨q, hq, h2⟩ := List.any_eq_true.1 hv
            simp only [decide_eq_true_eq] at h1 h2
            have e3 := ofL_kindN hr
            have e4 := ofL_kindN hq
            have := place_uni (ofL_mem _ _ hr) (ofL_mem _ _ hq) (by omega) (.inl ⟨h1.1, h2.1, by omega⟩)
            subst this
            exact List.any_eq_true.2 ⟨r, (hFm r).2 ⟨hq, hr⟩, by simpa using h1⟩
          rw [this]; simp [c]
    have kS : ∀ i : Nat, i ≤ 1 → us (mkS F i) (M.text (i : Int)) ⟨#[]⟩ = if mkS (ofL (M.k : Int) o) i then M.text (i : Int) else ⟨#[]⟩ := fun i hi => by
      unfold us
      cases ho : mkS (ofL (M.k : Int) o) i with
      | false =>
        have : mkS F i = false := any_mono (fun r hr => ((hFm r).1 hr).2) ho
        rw [this]; simp
      | true =>
        by_cases c : M.text (i : Int) = ⟨#[]⟩
        · simp [c]
        · have hv : mkS (ofL (M.k : Int) v) i = true := by
            cases hq : mkS (ofL (M.k : Int) v) i with
            | true => rfl
            | false => exact absurd (sS i hi hq) c
          have : mkS F i = true := by
            unfold mkS at ho hv ⊢
            obtain ⟨r, hr, h1⟩ := List.any_eq_true.1 ho
            obtain ⟨q, hq, h2⟩ := List.any_eq_true.1 hv
            simp only [decide_eq_true_eq] at h1 h2
            have e3 := ofL_kindN hr
            have e4 := ofL_kindN hq
            have := place_uni (ofL_mem _ _ hr) (ofL_mem _ _ hq) (by omega) (.inr (.inl ⟨h1.1, h2.1, by omega⟩))
            subst this
            exact List.any_eq_true.2 ⟨r, (hFm r).2 ⟨hq, hr⟩, by simpa using h1⟩
          rw [this]; simp [c]
    have kL : (if mkL F then ([] : List ByteArray) ++ M.l else []) = if mkL (ofL (M.k : Int) o) then M.l else [] := by
      cases ho : mkL (ofL (M.k : Int) o) with
      | false =>
        have : mkL F = false := any_mono (fun r hr => ((hFm r).1 hr).2) ho
        rw [this]; simp
      | true =>
        cases hq : mkL (ofL (M.k : Int) v) with
        | false => rw [sL hq]; simp
        | true =>
          have : mkL F = true := by
            unfold mkL at ho hq ⊢
            obtain ⟨r, hr, h1⟩ := List.any_eq_true.1 ho
            obtain ⟨q, hq, h2⟩ := List.any_eq_true.1 hq
            simp only [decide_eq_true_eq] at h1 h2
            have e3 := ofL_kindN hr
            have e4 := ofL_kindN hq
            have := place_uni (ofL_mem _ _ hr) (ofL_mem _ _ hq) (by omega) (.inr (.inr ⟨h1, h2⟩))
            subst this
            exact List.any_eq_true.2 ⟨r, (hFm r).2 ⟨hq, hr⟩, by simpa using h1⟩
          rw [this]; simp
    rw [sameB_iff]
    refine ⟨rfl, ⟨?_, ?_, ?_, ?_, ?_, ?_⟩, ⟨?_, ?_⟩, ?_⟩
    · exact kN 0 (by omega)
    · exact kN 1 (by omega)
    · exact kN 2 (by omega)
    · exact kN 3 (by omega)
    · exact kN 4 (by omega)
    · exact kN 5 (by omega)
    · exact kS 0 (by omega)
    · exact kS 1 (by omega)
    · rw [kept_l]; exact kL
end Go.Proofs.Ytealjpolomhdeaa
