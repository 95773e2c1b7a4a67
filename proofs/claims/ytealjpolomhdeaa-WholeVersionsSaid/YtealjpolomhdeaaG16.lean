/- lenient.Decode and lenient.Unknown. · strict.unlike: where bytes are unlike. · What strict tells: mathematics. · A message read in another version, and with its fields in another order: mathematics. · A message's own bytes are no longer than what it was read from; unknown fields behind: mathematics. -/
import Derived.Test.YtealjpolomhdeaaLenRd2
import Derived.BigQuiet
import Derived.Deep.QuietTactic
import Derived.Test.YtealjpolomhdeaaLenBm
import Derived.Test.YtealjpolomhdeaaG5
set_option linter.unusedVariables false
namespace Go.Proofs.Ytealjpolomhdeaa
open Go.RowKit
theorem lread_any (k : Nat) (v : Int) (bs : List UInt8) (n : Nat) (A : Option Addr) (c : Nat) (w : World) (hk : k ≤ 255) (hv1 : -9223372036854775808 ≤ v) (hv2 : v ≤ 9223372036854775807) (hn : bs.length = n) (hs : Sl w A c (bs.map bv)) :
    Calls Try.prog 33 #[.int .u8 (k : Int), .int .i64 v, .slice A n c] w (ReadR w (readR k v bs)) := by
  refine (callsIn_wide (n := 12)).1 ?_
  by_cases hL : (ofL (k : Int) v).length = 0
  · exact lread_none 12 (by omega) k v bs n A c w hk hv1 hv2 hL
  · by_cases hl : 8192 < n
    · exact lread_long 12 (by omega) k v bs n A c w hk hv1 hv2 hL hn hl
    · by_cases hF : (flds bs n 0).2.1 = 0
      · exact lread_main 12 (by omega) k v bs n A c w hk hv1 hv2 hL hn (by omega) hs hF
      · exact lread_bad 12 (by omega) k v bs n A c w hk hv1 hv2 hL hn (by omega) hs hF
/-- What Decode answers. -/
def DecR (w : World) (R : MV × List (RF × Nat) × Int × Nat) (e : Ending) (w' : World) : Prop :=
  ∃ (A' : Option Addr) (c' : Nat), e = .returned (.tuple #[mvV { R.1 with A := A', c := c' }, .agg #[.int .i64 R.2.2.1, .int .i64 (R.2.2.2 : Nat)]]) ∧ w'.ownsRow w.heap.size 9 1 (.slice A' R.1.l.length c') R.1.l.length (R.1.l.map sv) ∧ Below w.heap.size w w'
def DcR2 (s q : Nat) (mk n0 n1 n2 n3 n4 n5 : Nat) (s0 s1 : ByteArray) (mA : Option Addr) (ml mc : Nat) (E P : Int) (a0 : Act) (w0 : World) (f : Nat → Bool) (a : Act) (w : World) : Prop := ∃ x0 x1 : Value, a = ((a0.put (some 19) x0).put (some 20) x1) ∧ (f 0 = true → x0 = .agg #[.int .u8 (mk : Int), .int .u64 (n0 : Int), .int .u64 (n1 : Int), .int .u64 (n2 : Int), .int .u64 (n3 : Int), .int .u64 (n4 : Int), .int .u64 (n5 : Int), .string s0, .string s1, .slice mA ml mc]) ∧ (f 1 = true → x1 = .agg #[.int .i64 E, .int .i64 P]) ∧ Blk w (s) 29 (if f 2 = true then #[.int .u8 (mk : Int), .int .u64 (n0 : Int), .int .u64 (n1 : Int), .int .u64 (n2 : Int), .int .u64 (n3 : Int), .int .u64 (n4 : Int), .int .u64 (n5 : Int), .string s0, .string s1, .slice mA ml mc] else #[.int .u8 0, .int .u64 0, .int .u64 0, .int .u64 0, .int .u64 0, .int .u64 0, .int .u64 0, .string ⟨#[]⟩, .string ⟨#[]⟩, .slice none 0 0]) ∧ Blk w (s + 1) 32 (if f 3 = true then #[.int .i64 E, .int .i64 P] else #[.int .i64 0, .int .i64 0]) ∧ Chg (fun q => q = s ∨ q = s + 1) w0 w
set_option maxRecDepth 100000 in
set_option maxHeartbeats 4000000 in
theorem ldec_any (k : Nat) (v : Int) (bs : List UInt8) (n : Nat) (A : Option Addr) (c : Nat) (w : World) (hk : k ≤ 255) (hv1 : -9223372036854775808 ≤ v) (hv2 : v ≤ 9223372036854775807) (hn : bs.length = n) (hs : Sl w A c (bs.map bv)) :
    Calls Try.prog 11 #[.int .u8 (k : Int), .int .i64 v, .slice A n c] w (DecR w (readR k v bs)) := by
  have hrd := fun W (hW : Below w.heap.size w W) => lread_any k v bs n A c W hk hv1 hv2 hn (hs.below hW)
  obtain ⟨R, hR⟩ : ∃ R, readR k v bs = R := ⟨_, rfl⟩
  rw [hR]
  obtain ⟨M, oth, E, P⟩ := R
  rw [hR] at hrd
  obtain ⟨Q, hQ⟩ : ∃ Q, Q = DecR w (M, oth, E, P) := ⟨_, rfl⟩
  rw [← hQ]
  obtain ⟨s, hsz⟩ : ∃ s, w.heap.size = s := ⟨_, rfl⟩
  have hq : ∀ A' c' w' , True → w'.ownsRow s 9 1 (.slice A' M.l.length c') M.l.length (M.l.map sv) → Below s w w' → Q (.returned (.tuple #[mvV { M with A := A', c := c' }, .agg #[.int .i64 E, .int .i64 (P : Nat)]])) w' := fun A' c' w' _ h1 h2 => by rw [hQ]; exact ⟨A', c', rfl, by rw [hsz]; exact h1, by rw [hsz]; exact h2⟩
  have hrd2 := fun W (hW : Below s w W) => (hrd W (by rw [hsz]; exact hW)).mono (R' := fun e w' => ∃ (A' : Option Addr) (c' : Nat) (uv : Value), e = .returned (.tuple #[mvV { M with A := A', c := c' }, uv, .agg #[.int .i64 E, .int .i64 (P : Nat)]]) ∧ w'.ownsRow W.heap.size 9 1 (.slice A' M.l.length c') M.l.length (M.l.map sv) ∧ Below W.heap.size W w') (by
    rintro e w' ⟨A', c', pre, Ao, co, rfl, h1, -, -, -, h2⟩
    exact ⟨A', c', _, rfl, h1, h2⟩)
  clear hrd hR hQ
  obtain ⟨mk, n0, n1, n2, n3, n4, n5, s0, s1, A0, c0, l⟩ := M
  unfold mvV mvA at hq hrd2
  simp only at hq hrd2
  generalize hlm : l.map sv = lm at *
  generalize hml : l.length = ml at *
  generalize ((P : Nat) : Int) = P at *
  have HQ := hid (fun A' c' w' => hq A' c' w' trivial)
  have HRD := hid hrd2
  clear hq hrd2 hlm hml
  have hk0 : Blk ((w.alloc (.cells #[.int .u8 0, .int .u64 0, .int .u64 0, .int .u64 0, .int .u64 0, .int .u64 0, .int .u64 0, .string ⟨#[]⟩, .string ⟨#[]⟩, .slice none 0 0] 29)).alloc (.cells #[.int .i64 0, .int .i64 0] 32)) s 29 #[.int .u8 0, .int .u64 0, .int .u64 0, .int .u64 0, .int .u64 0, .int .u64 0, .int .u64 0, .string ⟨#[]⟩, .string ⟨#[]⟩, .slice none 0 0] := by rw [← hsz]; exact (Blk.new w _ _).alloc _
  have hk1 : Blk ((w.alloc (.cells #[.int .u8 0, .int .u64 0, .int .u64 0, .int .u64 0, .int .u64 0, .int .u64 0, .int .u64 0, .string ⟨#[]⟩, .string ⟨#[]⟩, .slice none 0 0] 29)).alloc (.cells #[.int .i64 0, .int .i64 0] 32)) (s + 1) 32 #[.int .i64 0, .int .i64 0] := by
    have h := Blk.new (w.alloc (.cells #[.int .u8 0, .int .u64 0, .int .u64 0, .int .u64 0, .int .u64 0, .int .u64 0, .int .u64 0, .string ⟨#[]⟩, .string ⟨#[]⟩, .slice none 0 0] 29)) 32 #[.int .i64 0, .int .i64 0]
    rw [World.size_alloc, hsz] at h; exact h
  have hb0 : Below s w ((w.alloc (.cells #[.int .u8 0, .int .u64 0, .int .u64 0, .int .u64 0, .int .u64 0, .int .u64 0, .int .u64 0, .string ⟨#[]⟩, .string ⟨#[]⟩, .slice none 0 0] 29)).alloc (.cells #[.int .i64 0, .int .i64 0] 32)) := by rw [← hsz]; exact bw_a (bw_a (Below.refl _ w) _) _
  have hz0 : (((w.alloc (.cells #[.int .u8 0, .int .u64 0, .int .u64 0, .int .u64 0, .int .u64 0, .int .u64 0, .int .u64 0, .string ⟨#[]⟩, .string ⟨#[]⟩, .slice none 0 0] 29)).alloc (.cells #[.int .i64 0, .int .i64 0] 32))).heap.size = s + 2 := by simp [hsz]
  have HK0 := hid hk0
  have HK1 := hid hk1
  have HB0 := hid hb0
  have HZ0 := hid hz0
  clear hk0 hk1 hb0 hz0 hs
  go_enter Try.func11, Try.ntmps11
  go_wp2_with fail
  refine (HRD.out _ HB0.out).mono ?_
  rintro e w1 ⟨A', c', uv, rfl, hom, hb1⟩
  rw [HZ0.out] at hom hb1
  have hk0 := HK0.out.below hb1 (by omega)
  have hk1 := HK1.out.below hb1 (by omega)
  have hbe := HB0.out.trans (hb1.mono (by omega))
  have hs1 : s + 2 ≤ w1.heap.size := by have := hb1.size; rw [HZ0.out] at this; exact this
  have HK2 := hid hk0
  have HK3 := hid hk1
  have HOM := hid hom
  have HB1 := hid hbe
  clear HK0 HK1 HB0 HZ0 hom hb1 hbe hk0 hk1 HRD
  go_wp2_with fail
  obtain ⟨q, hq⟩ : ∃ q, w1.heap.size = q := ⟨_, rfl⟩
  have hkm : Blk ((w1.alloc (.cells #[.int .u8 (mk : Int), .int .u64 (n0 : Int), .int .u64 (n1 : Int), .int .u64 (n2 : Int), .int .u64 (n3 : Int), .int .u64 (n4 : Int), .int .u64 (n5 : Int), .string s0, .string s1, .slice A' ml c'] 29)).alloc (.cells #[.int .i64 E, .int .i64 P] 32)) q 29 #[.int .u8 (mk : Int), .int .u64 (n0 : Int), .int .u64 (n1 : Int), .int .u64 (n2 : Int), .int .u64 (n3 : Int), .int .u64 (n4 : Int), .int .u64 (n5 : Int), .string s0, .string s1, .slice A' ml c'] := by rw [← hq]; exact (Blk.new w1 _ _).alloc _
  have hkf : Blk ((w1.alloc (.cells #[.int .u8 (mk : Int), .int .u64 (n0 : Int), .int .u64 (n1 : Int), .int .u64 (n2 : Int), .int .u64 (n3 : Int), .int .u64 (n4 : Int), .int .u64 (n5 : Int), .string s0, .string s1, .slice A' ml c'] 29)).alloc (.cells #[.int .i64 E, .int .i64 P] 32)) (q + 1) 32 #[.int .i64 E, .int .i64 P] := by
    have h := Blk.new (w1.alloc (.cells #[.int .u8 (mk : Int), .int .u64 (n0 : Int), .int .u64 (n1 : Int), .int .u64 (n2 : Int), .int .u64 (n3 : Int), .int .u64 (n4 : Int), .int .u64 (n5 : Int), .string s0, .string s1, .slice A' ml c'] 29)) 32 #[.int .i64 E, .int .i64 P]
    rw [World.size_alloc, hq] at h; exact h
  have hk0 := (HK2.out.alloc (.cells #[.int .u8 (mk : Int), .int .u64 (n0 : Int), .int .u64 (n1 : Int), .int .u64 (n2 : Int), .int .u64 (n3 : Int), .int .u64 (n4 : Int), .int .u64 (n5 : Int), .string s0, .string s1, .slice A' ml c'] 29)).alloc (.cells #[.int .i64 E, .int .i64 P] 32)
  have hk1 := (HK3.out.alloc (.cells #[.int .u8 (mk : Int), .int .u64 (n0 : Int), .int .u64 (n1 : Int), .int .u64 (n2 : Int), .int .u64 (n3 : Int), .int .u64 (n4 : Int), .int .u64 (n5 : Int), .string s0, .string s1, .slice A' ml c'] 29)).alloc (.cells #[.int .i64 E, .int .i64 P] 32)
  have hom := (HOM.out.alloc (.cells #[.int .u8 (mk : Int), .int .u64 (n0 : Int), .int .u64 (n1 : Int), .int .u64 (n2 : Int), .int .u64 (n3 : Int), .int .u64 (n4 : Int), .int .u64 (n5 : Int), .string s0, .string s1, .slice A' ml c'] 29)).alloc (.cells #[.int .i64 E, .int .i64 P] 32)
  have hbe := ((HB1.out.alloc (by omega) (.cells #[.int .u8 (mk : Int), .int .u64 (n0 : Int), .int .u64 (n1 : Int), .int .u64 (n2 : Int), .int .u64 (n3 : Int), .int .u64 (n4 : Int), .int .u64 (n5 : Int), .string s0, .string s1, .slice A' ml c'] 29)).alloc (by simp; omega) (.cells #[.int .i64 E, .int .i64 P] 32))
  rw [hq] at hs1
  try rw [hq]
  generalize ((w1.alloc (.cells #[.int .u8 (mk : Int), .int .u64 (n0 : Int), .int .u64 (n1 : Int), .int .u64 (n2 : Int), .int .u64 (n3 : Int), .int .u64 (n4 : Int), .int .u64 (n5 : Int), .string s0, .string s1, .slice A' ml c'] 29)).alloc (.cells #[.int .i64 E, .int .i64 P] 32)) = W4 at *
  have HKM := hid hkm
  have HKF := hid hkf
  have HO := hid hom
  have HBE := hid hbe
  have HD0 := hid hk0
  have HD1 := hid hk1
  clear hkm hkf hom hbe hk0 hk1 HK2 HK3 HOM HB1 hq
  refine wp_region_invB (by kernel_rfl) (by kernel_rfl) (DcR2 s q mk n0 n1 n2 n3 n4 n5 s0 s1 A' ml c' E P) ?_ ?_ ?_
  · exact ⟨undef, undef, (by first | (simp only [Act.put, List.setIfInBounds_toArray, List.set_cons_succ, List.set_cons_zero]; done) | rfl), by simp, by simp, (by simp; exact (HD0.out)), (by simp; exact (HD1.out)), ⟨rfl, rfl, rfl, Nat.le_refl _, fun _ _ _ => rfl⟩⟩
  · intro f a' wx i o ho hf hdep hI
    have hi : i < 4 := (Array.getElem?_eq_some_iff.1 ho).1
    have hcase : i = 0 ∨ i = 1 ∨ i = 2 ∨ i = 3 := by omega
    clear hi
    rcases hcase with rfl | rfl | rfl | rfl
    all_goals
      simp only [List.getElem?_toArray, List.getElem?_cons_zero, List.getElem?_cons_succ, Option.some.injEq] at ho
      subst ho
    · -- 0
      obtain ⟨x0, x1, rfl, h0, h1, k2, k3, hC⟩ := hI
      have hb := hC.blk HKM.out (by omega)
      have t0 := hb.cell 0; have t1 := hb.cell 1; have t2 := hb.cell 2; have t3 := hb.cell 3; have t4 := hb.cell 4; have t5 := hb.cell 5; have t6 := hb.cell 6; have t7 := hb.cell 7; have t8 := hb.cell 8; have t9 := hb.cell 9
      simp only [List.getElem?_toArray, List.getElem?_cons_zero, List.getElem?_cons_succ] at t0 t1 t2 t3 t4 t5 t6 t7 t8 t9
      clear hb
      have H0' := hid h0; have H1' := hid h1; have K2' := hid k2; have K3' := hid k3; have HC' := hid hC; clear h0 h1 k2 k3 hC
      try simp only [Act.put, List.setIfInBounds_toArray, List.set_cons_succ, List.set_cons_zero]
      go_wp2_with fail
      have h0 := H0'.out; have h1 := H1'.out; have k2 := K2'.out; have k3 := K3'.out; have hC := HC'.out
      exact ⟨_, x1, (by first | (simp only [Act.put, List.setIfInBounds_toArray, List.set_cons_succ, List.set_cons_zero]; done) | rfl), (fun _ => rfl), (fun h => h1 (by simpa using h)), (by simpa using k2), (by simpa using k3), hC⟩
    · -- 1
      obtain ⟨x0, x1, rfl, h0, h1, k2, k3, hC⟩ := hI
      have hb := hC.blk HKF.out (by omega)
      have t0 := hb.cell 0
      have t1 := hb.cell 1
      simp only [List.getElem?_toArray, List.getElem?_cons_zero, List.getElem?_cons_succ] at t0 t1
      clear hb
      have H0' := hid h0; have H1' := hid h1; have K2' := hid k2; have K3' := hid k3; have HC' := hid hC; clear h0 h1 k2 k3 hC
      try simp only [Act.put, List.setIfInBounds_toArray, List.set_cons_succ, List.set_cons_zero]
      go_wp2_with fail
      have h0 := H0'.out; have h1 := H1'.out; have k2 := K2'.out; have k3 := K3'.out; have hC := HC'.out
      exact ⟨x0, _, (by first | (simp only [Act.put, List.setIfInBounds_toArray, List.set_cons_succ, List.set_cons_zero]; done) | rfl), (fun h => h0 (by simpa using h)), (fun _ => rfl), (by simpa using k2), (by simpa using k3), hC⟩
    · -- 2
      obtain ⟨x0, x1, rfl, h0, h1, k2, k3, hC⟩ := hI
      simp [Region.binds] at hdep
      obtain rfl := h0 (by first | exact hdep | exact hdep.1 | exact hdep.2 | exact hdep.2.1 | exact hdep.2.2 | exact hdep.2.2.1 | exact hdep.2.2.2 | simp_all)
      have hko : Blk wx (s) 29 #[.int .u8 0, .int .u64 0, .int .u64 0, .int .u64 0, .int .u64 0, .int .u64 0, .int .u64 0, .string ⟨#[]⟩, .string ⟨#[]⟩, .slice none 0 0] := by have h := k2; rw [hf] at h; simpa using h
      have y0 := hko.cell 0; have z0 := hko.frozen 0
      have y1 := hko.cell 1; have z1 := hko.frozen 1
      have y2 := hko.cell 2; have z2 := hko.frozen 2
      have y3 := hko.cell 3; have z3 := hko.frozen 3
      have y4 := hko.cell 4; have z4 := hko.frozen 4
      have y5 := hko.cell 5; have z5 := hko.frozen 5
      have y6 := hko.cell 6; have z6 := hko.frozen 6
      have y7 := hko.cell 7; have z7 := hko.frozen 7
      have y8 := hko.cell 8; have z8 := hko.frozen 8
      have y9 := hko.cell 9; have z9 := hko.frozen 9
      simp only [List.getElem?_toArray, List.getElem?_cons_zero, List.getElem?_cons_succ] at y0 y1 y2 y3 y4 y5 y6 y7 y8 y9
      have HKO := hid hko; clear hko
      have H0' := hid h0; have H1' := hid h1; have K2' := hid k2; have K3' := hid k3; have HC' := hid hC; clear h0 h1 k2 k3 hC
      try simp only [Act.put, List.setIfInBounds_toArray, List.set_cons_succ, List.set_cons_zero]
      go_wp2_with fail
      have h0 := H0'.out; have h1 := H1'.out; have k2 := K2'.out; have k3 := K3'.out; have hC := HC'.out
      obtain ⟨hkn, hcn⟩ := mstore HKO.out _ _ _ _ _ _ _ _ _ _
      exact ⟨_, x1, (by first | (simp only [Act.put, List.setIfInBounds_toArray, List.set_cons_succ, List.set_cons_zero]; done) | rfl), (fun _ => rfl), (fun h => h1 (by simpa using h)), (by simpa using hkn), (hcn.blk (by simpa using k3) (by omega)), (hC.trans (hcn.mono (fun q _ hq => by subst hq; simp)))⟩
    · -- 3
      obtain ⟨x0, x1, rfl, h0, h1, k2, k3, hC⟩ := hI
      simp [Region.binds] at hdep
      obtain rfl := h1 (by first | exact hdep | exact hdep.1 | exact hdep.2 | exact hdep.2.1 | exact hdep.2.2 | exact hdep.2.2.1 | exact hdep.2.2.2 | simp_all)
      have hko : Blk wx (s + 1) 32 #[.int .i64 0, .int .i64 0] := by have h := k3; rw [hf] at h; simpa using h
      have y0 := hko.cell 0; have z0 := hko.frozen 0
      have y1 := hko.cell 1; have z1 := hko.frozen 1
      simp only [List.getElem?_toArray, List.getElem?_cons_zero, List.getElem?_cons_succ] at y0 y1
      have HKO := hid hko; clear hko
      have H0' := hid h0; have H1' := hid h1; have K2' := hid k2; have K3' := hid k3; have HC' := hid hC; clear h0 h1 k2 k3 hC
      try simp only [Act.put, List.setIfInBounds_toArray, List.set_cons_succ, List.set_cons_zero]
      go_wp2_with fail
      have h0 := H0'.out; have h1 := H1'.out; have k2 := K2'.out; have k3 := K3'.out; have hC := HC'.out
      obtain ⟨hkn, hcn⟩ := fstore HKO.out _ _
      exact ⟨x0, _, (by first | (simp only [Act.put, List.setIfInBounds_toArray, List.set_cons_succ, List.set_cons_zero]; done) | rfl), (fun h => h0 (by simpa using h)), (fun _ => rfl), (hcn.blk (by simpa using k2) (by omega)), (by simpa using hkn), (hC.trans (hcn.mono (fun q _ hq => by subst hq; simp)))⟩
  · intro f a' wx hall hI
    obtain ⟨x0, x1, rfl, h0, h1, k2, k3, hC⟩ := hI
    obtain rfl := h0 (hall 0 (by simp))
    obtain rfl := h1 (hall 1 (by simp))
    have kf2 := k2; rw [hall 2 (by simp), if_pos rfl] at kf2
    have kf3 := k3; rw [hall 3 (by simp), if_pos rfl] at kf3
    clear h0 h1 k2 k3 hall f
    try simp only [Act.put, List.setIfInBounds_toArray, List.set_cons_succ, List.set_cons_zero]
    go_wp2_with fail
    have r0 := kf2.cell 0; have r1 := kf2.cell 1; have r2 := kf2.cell 2; have r3 := kf2.cell 3; have r4 := kf2.cell 4; have r5 := kf2.cell 5; have r6 := kf2.cell 6; have r7 := kf2.cell 7; have r8 := kf2.cell 8; have r9 := kf2.cell 9
    have y0 := kf3.cell 0
    have y1 := kf3.cell 1
    simp only [List.getElem?_toArray, List.getElem?_cons_zero, List.getElem?_cons_succ] at r0 r1 r2 r3 r4 r5 r6 r7 r8 r9 y0 y1
    have hbR := HBE.out.trans (hC.below (B := s) (fun x hx => by omega) (by have := HKM.out.lt; omega))
    have hoR := own_chgS HO.out hC (fun g hg hx => by have := (HO.out.lt g hg).1; omega)
    refine bodyPost_ret (v := .tuple #[.agg #[.int .u8 (mk : Int), .int .u64 (n0 : Int), .int .u64 (n1 : Int), .int .u64 (n2 : Int), .int .u64 (n3 : Int), .int .u64 (n4 : Int), .int .u64 (n5 : Int), .string s0, .string s1, .slice A' ml c'], .agg #[.int .i64 E, .int .i64 P]]) (by simp [results, Try.results11, go_sem, r0, r1, r2, r3, r4, r5, r6, r7, r8, r9, y0, y1]) rfl ?_
    exact HQ.out _ _ _ (own_mono hoR (by omega)) hbR
/-- What Unknown answers. -/
def UnkR (w : World) (R : MV × List (RF × Nat) × Int × Nat) (e : Ending) (w' : World) : Prop :=
  ∃ (pre : List FV) (Ao : Option Addr) (co : Nat), e = .returned (.tuple #[.slice Ao pre.length co, .agg #[.int .i64 R.2.2.1, .int .i64 (R.2.2.2 : Nat)]]) ∧ w'.ownsRow w.heap.size 56 5 (.slice Ao pre.length co) pre.length (pre.flatMap fvC) ∧ fvAll pre R.2.1 ∧ (∀ f ∈ pre, Sl w' f.s.A f.s.c (f.s.xs.map bv)) ∧ Below w.heap.size w w'
theorem far_flt {w : World} {A : Option Addr} {c s : Nat} {xs : List UInt8} {t : TypeId} {a b : Int} (h : Sl w A c (xs.map bv)) (hb : Blk w s t #[.int .i64 a, .int .i64 b]) : FarS A xs.length (fun q => q = s) := fun hp b0 o0 e hx => by
  obtain ⟨b2, o2, e2, hlt2, hc⟩ := h.rd 0 (bv (xs[0]'hp)) (by simp [List.getElem?_eq_getElem hp])
  rw [e] at e2
  injection e2 with e2
  injection e2 with e2 e3
  subst e2
  subst hx
  rw [hb.cell] at hc
  unfold bv at hc
  rcases Nat.lt_or_ge (o2 + 0) 2 with h2 | h2
  · have : o2 + 0 = 0 ∨ o2 + 0 = 1 := by omega
    rcases this with h3 | h3 <;> rw [h3] at hc <;> simp at hc
  · rw [show (#[Value.int .i64 a, .int .i64 b] : Array Value)[o2 + 0]? = none from by simp; omega] at hc
    cases hc
def UnR2 (s q : Nat) (uA : Option Addr) (ul uc : Nat) (E P : Int) (a0 : Act) (w0 : World) (f : Nat → Bool) (a : Act) (w : World) : Prop := ∃ x0 x1 x2 : Value, a = (((a0.put (some 19) x0).put (some 20) x1).put (some 6) x2) ∧ (f 0 = true → x0 = .slice uA ul uc) ∧ (f 1 = true → x1 = .agg #[.int .i64 E, .int .i64 P]) ∧ (f 2 = true → x2 = .slice uA ul uc) ∧ Blk w (s) 32 (if f 3 = true then #[.int .i64 E, .int .i64 P] else #[.int .i64 0, .int .i64 0]) ∧ Chg (fun q => q = s) w0 w
set_option maxRecDepth 100000 in
set_option maxHeartbeats 4000000 in
theorem lunk_any (k : Nat) (v : Int) (bs : List UInt8) (n : Nat) (A : Option Addr) (c : Nat) (w : World) (hk : k ≤ 255) (hv1 : -9223372036854775808 ≤ v) (hv2 : v ≤ 9223372036854775807) (hn : bs.length = n) (hs : Sl w A c (bs.map bv)) :
    Calls Try.prog 14 #[.int .u8 (k : Int), .int .i64 v, .slice A n c] w (UnkR w (readR k v bs)) := by
  have hrd := fun W (hW : Below w.heap.size w W) => lread_any k v bs n A c W hk hv1 hv2 hn (hs.below hW)
  obtain ⟨R, hR⟩ : ∃ R, readR k v bs = R := ⟨_, rfl⟩
  rw [hR]
  obtain ⟨M, oth, E, P⟩ := R
  rw [hR] at hrd
  obtain ⟨Q, hQ⟩ : ∃ Q, Q = UnkR w (M, oth, E, P) := ⟨_, rfl⟩
  rw [← hQ]
  obtain ⟨s, hsz⟩ : ∃ s, w.heap.size = s := ⟨_, rfl⟩
  have hq : ∀ (pre : List FV) Ao co w' ul, pre.length = ul → w'.ownsRow s 56 5 (.slice Ao ul co) ul (pre.flatMap fvC) → fvAll pre oth → (∀ f ∈ pre, Sl w' f.s.A f.s.c (f.s.xs.map bv)) → Below s w w' → Q (.returned (.tuple #[.slice Ao ul co, .agg #[.int .i64 E, .int .i64 (P : Nat)]])) w' := fun pre Ao co w' ul h0 h1 h2 h3 h4 => by rw [hQ]; subst h0; exact ⟨pre, Ao, co, rfl, by rw [hsz]; exact h1, h2, h3, by rw [hsz]; exact h4⟩
  have hrd2 := fun W (hW : Below s w W) => (hrd W (by rw [hsz]; exact hW)).mono (R' := fun e w' => ∃ (A' : Option Addr) (c' : Nat) (pre : List FV) (Ao : Option Addr) (co : Nat), e = .returned (.tuple #[mvV { M with A := A', c := c' }, .slice Ao pre.length co, .agg #[.int .i64 E, .int .i64 (P : Nat)]]) ∧ w'.ownsRow W.heap.size 56 5 (.slice Ao pre.length co) pre.length (pre.flatMap fvC) ∧ fvAll pre oth ∧ (∀ f ∈ pre, Sl w' f.s.A f.s.c (f.s.xs.map bv)) ∧ Below W.heap.size W w') (by
    rintro e w' ⟨A', c', pre, Ao, co, rfl, -, h1, h2, h3, h4⟩
    exact ⟨A', c', pre, Ao, co, rfl, h1, h2, h3, h4⟩)
  clear hrd hR hQ
  obtain ⟨mk, n0, n1, n2, n3, n4, n5, s0, s1, A0, c0, l⟩ := M
  unfold mvV mvA at hrd2
  simp only at hrd2
  generalize hml : l.length = ml at *
  generalize ((P : Nat) : Int) = P at *
  have HQ := hid (fun pre Ao co w' => hq pre Ao co w')
  have HRD := hid hrd2
  clear hq hrd2 hml
  have hk1 : Blk (w.alloc (.cells #[.int .i64 0, .int .i64 0] 32)) s 32 #[.int .i64 0, .int .i64 0] := by rw [← hsz]; exact (Blk.new w _ _)
  have hb0 : Below s w (w.alloc (.cells #[.int .i64 0, .int .i64 0] 32)) := by rw [← hsz]; exact bw_a (Below.refl _ w) _
  have hz0 : ((w.alloc (.cells #[.int .i64 0, .int .i64 0] 32))).heap.size = s + 1 := by simp [hsz]
  have HK1 := hid hk1
  have HB0 := hid hb0
  have HZ0 := hid hz0
  clear hk1 hb0 hz0 hs
  go_enter Try.func14, Try.ntmps14
  go_wp2_with fail
  refine (HRD.out _ HB0.out).mono ?_
  rintro e w1 ⟨A', c', pre, Ao, co, rfl, hom, hfa, hsf, hb1⟩
  rw [HZ0.out] at hom hb1
  have hk1 := HK1.out.below hb1 (by omega)
  have hbe := HB0.out.trans (hb1.mono (by omega))
  have hs1 : s + 1 ≤ w1.heap.size := by have := hb1.size; rw [HZ0.out] at this; exact this
  obtain ⟨ul, hul⟩ : ∃ ul, pre.length = ul := ⟨_, rfl⟩
  rw [hul] at hom
  rw [hul]
  have HK3 := hid hk1
  have HOM := hid hom
  have HB1 := hid hbe
  have HFA := hid hfa
  have HS0 := hid hsf
  have HUL := hid hul
  clear HK1 HB0 HZ0 hom hb1 hbe hk1 HRD hfa hsf hul
  go_wp2_with fail
  obtain ⟨q, hq⟩ : ∃ q, w1.heap.size = q := ⟨_, rfl⟩
  have hkf : Blk ((w1.alloc (.cells #[.int .u8 (mk : Int), .int .u64 (n0 : Int), .int .u64 (n1 : Int), .int .u64 (n2 : Int), .int .u64 (n3 : Int), .int .u64 (n4 : Int), .int .u64 (n5 : Int), .string s0, .string s1, .slice A' ml c'] 29)).alloc (.cells #[.int .i64 E, .int .i64 P] 32)) (q + 1) 32 #[.int .i64 E, .int .i64 P] := by
    have h := Blk.new (w1.alloc (.cells #[.int .u8 (mk : Int), .int .u64 (n0 : Int), .int .u64 (n1 : Int), .int .u64 (n2 : Int), .int .u64 (n3 : Int), .int .u64 (n4 : Int), .int .u64 (n5 : Int), .string s0, .string s1, .slice A' ml c'] 29)) 32 #[.int .i64 E, .int .i64 P]
    rw [World.size_alloc, hq] at h; exact h
  have hk1 := (HK3.out.alloc (.cells #[.int .u8 (mk : Int), .int .u64 (n0 : Int), .int .u64 (n1 : Int), .int .u64 (n2 : Int), .int .u64 (n3 : Int), .int .u64 (n4 : Int), .int .u64 (n5 : Int), .string s0, .string s1, .slice A' ml c'] 29)).alloc (.cells #[.int .i64 E, .int .i64 P] 32)
  have hom := (HOM.out.alloc (.cells #[.int .u8 (mk : Int), .int .u64 (n0 : Int), .int .u64 (n1 : Int), .int .u64 (n2 : Int), .int .u64 (n3 : Int), .int .u64 (n4 : Int), .int .u64 (n5 : Int), .string s0, .string s1, .slice A' ml c'] 29)).alloc (.cells #[.int .i64 E, .int .i64 P] 32)
  have hbe := ((HB1.out.alloc (by omega) (.cells #[.int .u8 (mk : Int), .int .u64 (n0 : Int), .int .u64 (n1 : Int), .int .u64 (n2 : Int), .int .u64 (n3 : Int), .int .u64 (n4 : Int), .int .u64 (n5 : Int), .string s0, .string s1, .slice A' ml c'] 29)).alloc (by simp; omega) (.cells #[.int .i64 E, .int .i64 P] 32))
  have hsf := fun f hf => (HS0.out f hf).below (bw_a (bw_a (Below.refl _ w1) (.cells #[.int .u8 (mk : Int), .int .u64 (n0 : Int), .int .u64 (n1 : Int), .int .u64 (n2 : Int), .int .u64 (n3 : Int), .int .u64 (n4 : Int), .int .u64 (n5 : Int), .string s0, .string s1, .slice A' ml c'] 29)) (.cells #[.int .i64 E, .int .i64 P] 32))
  rw [hq] at hs1
  try rw [hq]
  generalize ((w1.alloc (.cells #[.int .u8 (mk : Int), .int .u64 (n0 : Int), .int .u64 (n1 : Int), .int .u64 (n2 : Int), .int .u64 (n3 : Int), .int .u64 (n4 : Int), .int .u64 (n5 : Int), .string s0, .string s1, .slice A' ml c'] 29)).alloc (.cells #[.int .i64 E, .int .i64 P] 32)) = W4 at *
  have HKF := hid hkf
  have HO := hid hom
  have HBE := hid hbe
  have HD1 := hid hk1
  have HSF := hid hsf
  clear hkf hom hbe hk1 HK3 HOM HB1 hq hsf HS0
  refine wp_region_invB (by kernel_rfl) (by kernel_rfl) (UnR2 s q Ao ul co E P) ?_ ?_ ?_
  · exact ⟨undef, undef, (.slice none 0 0), (by first | (simp only [Act.put, List.setIfInBounds_toArray, List.set_cons_succ, List.set_cons_zero]; done) | rfl), by simp, by simp, by simp, (by simp; exact (HD1.out)), ⟨rfl, rfl, rfl, Nat.le_refl _, fun _ _ _ => rfl⟩⟩
  · intro f a' wx i o ho hf hdep hI
    have hi : i < 4 := (Array.getElem?_eq_some_iff.1 ho).1
    have hcase : i = 0 ∨ i = 1 ∨ i = 2 ∨ i = 3 := by omega
    clear hi
    rcases hcase with rfl | rfl | rfl | rfl
    all_goals
      simp only [List.getElem?_toArray, List.getElem?_cons_zero, List.getElem?_cons_succ, Option.some.injEq] at ho
      subst ho
    · -- 0
      obtain ⟨x0, x1, x2, rfl, h0, h1, h2, k3, hC⟩ := hI
      have H0' := hid h0; have H1' := hid h1; have H2' := hid h2; have K3' := hid k3; have HC' := hid hC; clear h0 h1 h2 k3 hC
      try simp only [Act.put, List.setIfInBounds_toArray, List.set_cons_succ, List.set_cons_zero]
      go_wp2_with fail
      have h0 := H0'.out; have h1 := H1'.out; have h2 := H2'.out; have k3 := K3'.out; have hC := HC'.out
      exact ⟨_, x1, x2, (by first | (simp only [Act.put, List.setIfInBounds_toArray, List.set_cons_succ, List.set_cons_zero]; done) | rfl), (fun _ => rfl), (fun h => h1 (by simpa using h)), (fun h => h2 (by simpa using h)), (by simpa using k3), hC⟩
    · -- 1
      obtain ⟨x0, x1, x2, rfl, h0, h1, h2, k3, hC⟩ := hI
      have hb := hC.blk HKF.out (by omega)
      have t0 := hb.cell 0
      have t1 := hb.cell 1
      simp only [List.getElem?_toArray, List.getElem?_cons_zero, List.getElem?_cons_succ] at t0 t1
      clear hb
      have H0' := hid h0; have H1' := hid h1; have H2' := hid h2; have K3' := hid k3; have HC' := hid hC; clear h0 h1 h2 k3 hC
      try simp only [Act.put, List.setIfInBounds_toArray, List.set_cons_succ, List.set_cons_zero]
      go_wp2_with fail
      have h0 := H0'.out; have h1 := H1'.out; have h2 := H2'.out; have k3 := K3'.out; have hC := HC'.out
      exact ⟨x0, _, x2, (by first | (simp only [Act.put, List.setIfInBounds_toArray, List.set_cons_succ, List.set_cons_zero]; done) | rfl), (fun h => h0 (by simpa using h)), (fun _ => rfl), (fun h => h2 (by simpa using h)), (by simpa using k3), hC⟩
    · -- 2
      obtain ⟨x0, x1, x2, rfl, h0, h1, h2, k3, hC⟩ := hI
      simp [Region.binds] at hdep
      obtain rfl := h0 (by first | exact hdep | exact hdep.1 | exact hdep.2 | exact hdep.2.1 | exact hdep.2.2 | exact hdep.2.2.1 | exact hdep.2.2.2 | simp_all)
      have H0' := hid h0; have H1' := hid h1; have H2' := hid h2; have K3' := hid k3; have HC' := hid hC; clear h0 h1 h2 k3 hC
      try simp only [Act.put, List.setIfInBounds_toArray, List.set_cons_succ, List.set_cons_zero]
      go_wp2_with fail
      have h0 := H0'.out; have h1 := H1'.out; have h2 := H2'.out; have k3 := K3'.out; have hC := HC'.out
      exact ⟨_, x1, _, (by first | (simp only [Act.put, List.setIfInBounds_toArray, List.set_cons_succ, List.set_cons_zero]; done) | rfl), (fun _ => rfl), (fun h => h1 (by simpa using h)), (fun _ => rfl), (by simpa using k3), hC⟩
    · -- 3
      obtain ⟨x0, x1, x2, rfl, h0, h1, h2, k3, hC⟩ := hI
      simp [Region.binds] at hdep
      obtain rfl := h1 (by first | exact hdep | exact hdep.1 | exact hdep.2 | exact hdep.2.1 | exact hdep.2.2 | exact hdep.2.2.1 | exact hdep.2.2.2 | simp_all)
      have hko : Blk wx (s) 32 #[.int .i64 0, .int .i64 0] := by have h := k3; rw [hf] at h; simpa using h
      have y0 := hko.cell 0; have z0 := hko.frozen 0
      have y1 := hko.cell 1; have z1 := hko.frozen 1
      simp only [List.getElem?_toArray, List.getElem?_cons_zero, List.getElem?_cons_succ] at y0 y1
      have HKO := hid hko; clear hko
      have H0' := hid h0; have H1' := hid h1; have H2' := hid h2; have K3' := hid k3; have HC' := hid hC; clear h0 h1 h2 k3 hC
      try simp only [Act.put, List.setIfInBounds_toArray, List.set_cons_succ, List.set_cons_zero]
      go_wp2_with fail
      have h0 := H0'.out; have h1 := H1'.out; have h2 := H2'.out; have k3 := K3'.out; have hC := HC'.out
      obtain ⟨hkn, hcn⟩ := fstore HKO.out _ _
      exact ⟨x0, _, x2, (by first | (simp only [Act.put, List.setIfInBounds_toArray, List.set_cons_succ, List.set_cons_zero]; done) | rfl), (fun h => h0 (by simpa using h)), (fun _ => rfl), (fun h => h2 (by simpa using h)), (by simpa using hkn), (hC.trans (hcn.mono (fun q _ hq => by subst hq; simp)))⟩
  · intro f a' wx hall hI
    obtain ⟨x0, x1, x2, rfl, h0, h1, h2, k3, hC⟩ := hI
    obtain rfl := h0 (hall 0 (by simp))
    obtain rfl := h1 (hall 1 (by simp))
    obtain rfl := h2 (hall 2 (by simp))
    have kf3 := k3; rw [hall 3 (by simp), if_pos rfl] at kf3
    clear h0 h1 h2 k3 hall f
    try simp only [Act.put, List.setIfInBounds_toArray, List.set_cons_succ, List.set_cons_zero]
    go_wp2_with fail
    have y0 := kf3.cell 0
    have y1 := kf3.cell 1
    simp only [List.getElem?_toArray, List.getElem?_cons_zero, List.getElem?_cons_succ] at y0 y1
    have hbR := HBE.out.trans (hC.below (B := s) (fun x hx => by omega) (by have := HKF.out.lt; omega))
    refine bodyPost_ret (v := .tuple #[.slice Ao ul co, .agg #[.int .i64 E, .int .i64 P]]) (by simp [results, Try.results14, go_sem, y0, y1]) rfl ?_
    exact HQ.out pre Ao co _ _ HUL.out (own_mono (own_chgS HO.out hC (fun g hg hx => by have := (HO.out.lt g hg).1; omega)) (by omega)) HFA.out (fun f hf => hC.sl (HSF.out f hf) (n := f.s.xs.length) (far_flt (HSF.out f hf) HD1.out) (by simp)) hbR
end Go.Proofs.Ytealjpolomhdeaa
set_option linter.unusedVariables false
namespace Go.Proofs.Ytealjpolomhdeaa
open Go.RowKit
def unl : List UInt8 → List UInt8 → Nat
  | a :: ta, b :: tb => if a = b then unl ta tb + 1 else 0
  | _, _ => 0
theorem unl_eq : ∀ (k : Nat) (xs ys : List UInt8), k ≤ xs.length → k ≤ ys.length → xs.take k = ys.take k → (xs.length = k ∨ ys.length = k ∨ ∃ a b, xs[k]? = some a ∧ ys[k]? = some b ∧ a ≠ b) → unl xs ys = k
  | 0, [], _, _, _, _, _ => by unfold unl; rfl
  | 0, a :: ta, [], _, _, _, _ => by unfold unl; rfl
  | 0, a :: ta, b :: tb, _, _, _, h => by
    rcases h with h | h | ⟨x, y, h1, h2, h3⟩
    · simp at h
    · simp at h
    · simp at h1 h2; subst h1; subst h2; unfold unl; rw [if_neg h3]
  | k + 1, [], _, h, _, _, _ => by simp at h
  | k + 1, a :: ta, [], _, h, _, _ => by simp at h
  | k + 1, a :: ta, b :: tb, h1, h2, h3, h4 => by
    simp only [List.take_succ_cons, List.cons.injEq] at h3
    obtain ⟨rfl, h3⟩ := h3
    unfold unl
    rw [if_pos rfl, unl_eq k ta tb (by simpa using h1) (by simpa using h2) h3 (by
      rcases h4 with h | h | ⟨x, y, g1, g2, g3⟩
      · exact .inl (by simpa using h)
      · exact .inr (.inl (by simpa using h))
      · exact .inr (.inr ⟨x, y, by simpa using g1, by simpa using g2, g3⟩))]
theorem unl_le : ∀ xs ys : List UInt8, unl xs ys ≤ xs.length ∧ unl xs ys ≤ ys.length
  | [], ys => by unfold unl; simp
  | a :: ta, [] => by unfold unl; simp
  | a :: ta, b :: tb => by
    have := unl_le ta tb
    unfold unl
    split <;> simp <;> omega
theorem unl_max : ∀ xs ys : List UInt8, unl xs ys < max xs.length ys.length ↔ xs ≠ ys
  | [], [] => by unfold unl; simp
  | [], b :: tb => by unfold unl; simp
  | a :: ta, [] => by unfold unl; simp
  | a :: ta, b :: tb => by
    have h := unl_max ta tb
    unfold unl
    by_cases hab : a = b
    · subst hab
      rw [if_pos rfl]
      simp only [List.length_cons, ne_eq, List.cons.injEq, true_and]
      exact ⟨fun g => h.1 (by omega), fun g => by have := h.2 g; omega⟩
    · rw [if_neg hab]
      simp [hab]
set_option maxRecDepth 100000 in
set_option maxHeartbeats 1000000 in
theorem sunl_any (xs ys : List UInt8) (nx ny : Nat) (A B : Option Addr) (c d : Nat) (w : World) (hnx : xs.length = nx) (hny : ys.length = ny) (hl : nx ≤ 9223372036854775807) (hl2 : ny ≤ 9223372036854775807) (hA : BRd w A xs) (hB : BRd w B ys) :
    Calls Try.prog 43 #[.slice A nx c, .slice B ny d] w fun e w' => e = .returned (.int .i64 (unl xs ys : Nat)) ∧ ∃ n, w' = w.drewN n := by
  have HX := hid hnx
  have HY := hid hny
  clear hnx hny
  obtain ⟨U, hU⟩ : ∃ U, unl xs ys = U := ⟨_, rfl⟩
  rw [hU]
  have HU := hid hU
  clear hU
  go_enter Try.func43, Try.ntmps43
  go_wp2
  go_step3
  go_wp2
  go_step3
  go_wp2
  go_loopw [5] (fun i wr => ∃ k n : Nat, k ≤ nx ∧ k ≤ ny ∧ i = .int .i64 k ∧ wr = w.drewN n ∧ xs.take k = ys.take k) (fun i _ => nx - (intOf i).toNat)
  case atStart => exact ⟨0, 0, by omega, by omega, rfl, rfl, by simp⟩
  case round =>
    obtain ⟨k, n, hk, hk2, rfl, rfl, ht⟩ := hrel
    have HT := hid ht
    clear ht
    by_cases hlt : k < nx
    · by_cases hlt2 : k < ny
      · have g1 : k < xs.length := by have := HX.out; omega
        have g2 : k < ys.length := by have := HY.out; omega
        have hki : (k : Int) < (nx : Int) := by omega
        have hkj : (k : Int) < (ny : Int) := by omega
        obtain ⟨b1, o1, rfl, hb1, hc1⟩ := hA.at_ g1
        obtain ⟨b2, o2, rfl, hb2, hc2⟩ := hB.at_ g2
        by_cases hxy : xs[k] = ys[k]
        · have htk : xs.take (k + 1) = ys.take (k + 1) := by rw [List.take_succ_eq_append_getElem g1, List.take_succ_eq_append_getElem g2, HT.out, hxy]
          have HTK := hid htk
          rw [hxy] at hc1
          generalize hy : (ys[k].toNat : Int) = y at hc1 hc2
          clear hy hxy htk
          go_wp2
          go_quiet (fail)
          go_wp2
          go_roundw
          case rel => exact ⟨k + 1, _, by omega, by omega, by go_num, rfl, HTK.out⟩
          case measure => simp [intOf]; omega
        · have hne : ((xs[k].toNat : Int) != (ys[k].toNat : Int)) = true := by
            rw [bne_iff_ne]; intro h; exact hxy (UInt8.toNat_inj.1 (by omega))
          have hun := unl_eq k xs ys (by omega) (by omega) HT.out (.inr (.inr ⟨xs[k], ys[k], List.getElem?_eq_getElem g1, List.getElem?_eq_getElem g2, hxy⟩))
          have HUN := hid hun
          clear hxy hun
          generalize (xs[k].toNat : Int) = x at *
          generalize (ys[k].toNat : Int) = y at *
          go_wp2
          go_quiet (fail)
          go_wp2
          try simp only [Exit.noGoto]
          try go_wp2
          go_ret
          exact ⟨by rw [← HU.out, HUN.out]; rfl, _, World.drewN_drewN ..⟩
      · have hun := unl_eq k xs ys (by have := HX.out; omega) (by have := HY.out; omega) HT.out (.inr (.inl (by have := HY.out; omega)))
        have HUN := hid hun
        have hki : (k : Int) < (nx : Int) := by omega
        have hkj : ¬ (k : Int) < (ny : Int) := by omega
        clear hun
        go_wp2
        go_ret
        exact ⟨by rw [← HU.out, HUN.out]; rfl, _, rfl⟩
    · have hun := unl_eq k xs ys (by have := HX.out; omega) (by have := HY.out; omega) HT.out (.inl (by have := HX.out; omega))
      have HUN := hid hun
      have hki : ¬ (k : Int) < (nx : Int) := by omega
      clear hun
      go_wp2
      go_ret
      exact ⟨by rw [← HU.out, HUN.out]; rfl, _, rfl⟩
end Go.Proofs.Ytealjpolomhdeaa
set_option linter.unusedVariables false
namespace Go.Proofs.Ytealjpolomhdeaa
open Go.RowKit
/-- The message of bytes, and its own bytes; or what is wrong, and where. -/
def strR (k : Nat) (v : Int) (bs : List UInt8) : MV × List UInt8 × Int × Nat :=
  if (readR k v bs).2.2.1 = 0 then ((readR k v bs).1, encB (readR k v bs).1 (ofL (k : Int) v), 0, 0) else (ZM, [], (readR k v bs).2.2)
/-- The message of bytes that are its own; or what is wrong, and where. -/
def strD (k : Nat) (v : Int) (bs : List UInt8) : MV × Int × Nat :=
  if (readR k v bs).2.2.1 = 0 then (if encB (readR k v bs).1 (ofL (k : Int) v) = bs then ((readR k v bs).1, 0, 0) else (ZM, 3, unl bs (encB (readR k v bs).1 (ofL (k : Int) v)))) else (ZM, (readR k v bs).2.2)
theorem good_sm {k : Nat} {v : Int} {m : MV} (h : Good k v m) : MvSm m := by
  have ht := good_texts h
  refine ⟨?_, fun i => Nat.le_trans (ht.1 i) (by omega), fun s hs => Nat.le_trans (ht.2 s hs) (by omega)⟩
  cases hm : mkL (ofL (k : Int) v) with
  | false => rw [h.l hm]; simp
  | true =>
    unfold mkL at hm
    obtain ⟨r, hr, hp⟩ := List.any_eq_true.1 hm
    simp only [decide_eq_true_eq] at hp
    have := (fldE_list hp (h.f r hr)).1
    omega
/-- The two ways of reading strictly. -/
theorem str_ways (k : Nat) (v : Int) (bs : List UInt8) :
    (∃ E P, E ≠ 0 ∧ readR k v bs = (ZM, [], E, P) ∧ strR k v bs = (ZM, [], E, P) ∧ strD k v bs = (ZM, E, P)) ∨
    (∃ M O, readR k v bs = (M, O, 0, 0) ∧ Good k v M ∧ (ofL (k : Int) v).length ≠ 0 ∧ chkV M (ofL (k : Int) v) = (0, 0) ∧ strR k v bs = (M, encB M (ofL (k : Int) v), 0, 0) ∧ strD k v bs = if encB M (ofL (k : Int) v) = bs then (M, 0, 0) else (ZM, 3, unl bs (encB M (ofL (k : Int) v)))) := by
  rcases read_good k v bs with ⟨h1, h2, h3⟩ | ⟨h1, h2, h3⟩
  · left
    obtain ⟨R, hR⟩ : ∃ R, readR k v bs = R := ⟨_, rfl⟩
    unfold strR strD
    rw [hR] at h1 h2 h3 ⊢
    obtain ⟨M, O, E, P⟩ := R
    simp only at h1 h2 h3 ⊢
    subst h2; subst h3
    exact ⟨E, P, h1, rfl, by rw [if_neg h1], by rw [if_neg h1]⟩
  · right
    obtain ⟨R, hR⟩ : ∃ R, readR k v bs = R := ⟨_, rfl⟩
    unfold strR strD
    rw [hR] at h1 h2 ⊢
    obtain ⟨M, O, E, P⟩ := R
    simp only [Prod.mk.injEq] at h1 h2 ⊢
    obtain ⟨rfl, rfl⟩ := h1
    exact ⟨M, O, ⟨rfl, rfl, rfl, rfl⟩, h2, h3, good_chk h2 h3, by first | (rw [if_pos rfl]; done) | simp, by first | (rw [if_pos rfl]; done) | simp⟩
/-- A message that may be is read strictly as it was written. -/
theorem str_back {M : MV} (v : Int) (hn : ∀ i, M.num i ≤ 18446744073709551615) (hsm : MvSm M) (hc : (chkV M (ofL (M.k : Int) v)).1 = 0) : ∃ M2, strD M.k v (encB M (ofL (M.k : Int) v)) = (M2, 0, 0) ∧ sameB M2 M = true := by
  obtain ⟨M2, h1, h2⟩ := read_back v hn hsm hc
  refine ⟨M2, ?_, h2⟩
  unfold strD
  rw [h1, if_pos rfl, if_pos (enc_alike h2)]
end Go.Proofs.Ytealjpolomhdeaa
set_option linter.unusedVariables false
namespace Go.Proofs.Ytealjpolomhdeaa
open Go.RowKit
theorem rows_place : (ROWS.all fun a => ROWS.all fun b => !(decide (a.kind = b.kind) && ((decide (a.typ ≤ 6) && decide (b.typ ≤ 6) && decide (a.slot = b.slot)) || (decide (7 ≤ a.typ ∧ a.typ ≤ 9) && decide (7 ≤ b.typ ∧ b.typ ≤ 9) && decide (a.slot = b.slot)) || (decide (a.typ = 10) && decide (b.typ = 10)))) || decide (a = b)) = true := by decide +kernel
/-- No two rows of a kind have one place. -/
theorem place_uni {a b : SRow} (ha : a ∈ ROWS) (hb : b ∈ ROWS) (hk : a.kind = b.kind) (h : (a.typ ≤ 6 ∧ b.typ ≤ 6 ∧ a.slot = b.slot) ∨ ((7 ≤ a.typ ∧ a.typ ≤ 9) ∧ (7 ≤ b.typ ∧ b.typ ≤ 9) ∧ a.slot = b.slot) ∨ (a.typ = 10 ∧ b.typ = 10)) : a = b := by
  have g := List.all_eq_true.1 (List.all_eq_true.1 rows_place a ha) b hb
  rw [Bool.or_eq_true] at g
  rcases g with g | g
  · exfalso
    rw [decide_eq_true hk] at g
    rcases h with ⟨h1, h2, h3⟩ | ⟨h1, h2, h3⟩ | ⟨h1, h2⟩
    · rw [decide_eq_true h1, decide_eq_true h2, decide_eq_true h3] at g; simp at g
    · rw [decide_eq_true h1, decide_eq_true h2, decide_eq_true h3] at g; simp at g
    · rw [decide_eq_true h1, decide_eq_true h2] at g; simp at g
  · simpa using g
section
variable {k v : Int} {M : MV}
theorem not_mkN {r : SRow} (hr : r ∈ ROWS) (hk : (r.kind : Int) = k) (hn : r ∉ ofL k v) (h6 : r.typ ≤ 6) : mkN (ofL k v) r.slot = false := by
  unfold mkN
  rw [List.any_eq_false]
  intro p hp h
  simp only [decide_eq_true_eq] at h
  have hpk := ofL_kindN hp
  have := place_uni (ofL_mem _ _ hp) hr (by omega) (.inl ⟨h.1, h6, h.2⟩)
  subst this
  exact hn hp
theorem not_mkS {r : SRow} (hr : r ∈ ROWS) (hk : (r.kind : Int) = k) (hn : r ∉ ofL k v) (h7 : 7 ≤ r.typ ∧ r.typ ≤ 9) : mkS (ofL k v) r.slot = false := by
  unfold mkS
  rw [List.any_eq_false]
  intro p hp h
  simp only [decide_eq_true_eq] at h
  have hpk := ofL_kindN hp
  have := place_uni (ofL_mem _ _ hp) hr (by omega) (.inr (.inl ⟨h.1, h7, h.2⟩))
  subst this
  exact hn hp
theorem not_mkL {r : SRow} (hr : r ∈ ROWS) (hk : (r.kind : Int) = k) (hn : r ∉ ofL k v) (h10 : r.typ = 10) : mkL (ofL k v) = false := by
  unfold mkL
  rw [List.any_eq_false]
  intro p hp h
  simp only [decide_eq_true_eq] at h
  have hpk := ofL_kindN hp
  have := place_uni (ofL_mem _ _ hp) hr (by omega) (.inr (.inr ⟨h, h10⟩))
  subst this
  exact hn hp
/-- What a message has nothing of. -/
theorem row_dfl (hN : ∀ i : Nat, i ≤ 5 → mkN (ofL k v) i = false → M.num (i : Int) = 0) (hS : ∀ i : Nat, i ≤ 1 → mkS (ofL k v) i = false → M.text (i : Int) = ⟨#[]⟩) (hL : mkL (ofL k v) = false → M.l = []) {r : SRow} (hr : r ∈ ROWS) (hk : (r.kind : Int) = k) (hn : r ∉ ofL k v) : dflB M (r.typ : Nat) (r.slot : Nat) = true := by
  have h1 := row_num hr
  have h2 := row_slot hr
  by_cases h6 : r.typ ≤ 6
  · rw [dfl_num _ _ _ (by omega), hN _ h2.1 (not_mkN hr hk hn h6)]; rfl
  · by_cases h9 : r.typ ≤ 9
    · rw [dfl_text _ _ _ (by omega), hS _ (h2.2 (by omega) h9) (not_mkS hr hk hn (by omega))]; rfl
    · have h10 : r.typ = 10 := by omega
      have e := hL (not_mkL hr hk hn h10)
      rw [h10, show ((10 : Nat) : Int) = 10 from rfl, dfl_list, e]; rfl
end
theorem rowP_dfl {M : MV} {r : SRow} (hr : r ∈ ROWS) (h : rowP M r = []) : dflB M (r.typ : Nat) (r.slot : Nat) = true := by
  cases hd : dflB M (r.typ : Nat) (r.slot : Nat) with
  | true => rfl
  | false =>
    unfold rowP at h
    rw [hd] at h
    simp only [Bool.false_eq_true, if_false] at h
    unfold partW at h
    by_cases h10 : ((r.typ : Nat) : Int) = 10
    · rw [if_pos h10] at h
      have hl : M.l = [] := by simpa using h
      rw [h10, dfl_list, hl] at hd
      exact absurd hd (by decide)
    · rw [if_neg h10] at h
      split at h
      · simp at h
      · split at h <;> simp at h
theorem fldR_dfl {M : MV} {r : SRow} (h : dflB M (r.typ : Nat) (r.slot : Nat) = true) : fldR M r = [] := by
  unfold fldR fldB; rw [if_pos h]
theorem flat_filter {α β : Type} (f : α → List β) (p : α → Bool) : ∀ (l : List α), (∀ a ∈ l, p a = false → f a = []) → (l.filter p).flatMap f = l.flatMap f
  | [], _ => rfl
  | a :: l, h => by
    have ih := flat_filter f p l fun b hb => h b (List.mem_cons_of_mem _ hb)
    cases hp : p a with
    | true => rw [List.filter_cons_of_pos (by simpa using hp), List.flatMap_cons, List.flatMap_cons, ih]
    | false => rw [List.filter_cons_of_neg (by simpa using hp), List.flatMap_cons, h a (List.mem_cons_self ..) hp, ih]; rfl
/-- All rows of a kind. -/
def kR (k : Int) : List SRow := ROWS.filter fun r => decide ((r.kind : Int) = k)
theorem kR_mem {k : Int} {r : SRow} (h : r ∈ kR k) : r ∈ ROWS ∧ (r.kind : Int) = k := by
  unfold kR at h
  rw [List.mem_filter] at h
  exact ⟨h.1, by simpa using h.2⟩
theorem ofL_filt (k v : Int) : ofL k v = ROWS.filter fun r => decide (r ∈ ofL k v) := by
  by_cases hv : 3 < v
  · have : ofL k v = [] := by unfold ofL kn; rw [if_pos hv]; rfl
    rw [this]; simp
  · have e : ofL k v = ROWS.filter fun r => decide ((r.kind : Int) = k) && decide ((r.since : Int) ≤ v) := by
      unfold ofL kn; rw [if_neg hv, List.filter_filter]
    conv => lhs; rw [e]
    refine List.filter_congr fun r hr => ?_
    rw [Bool.eq_iff_iff]
    simp only [Bool.and_eq_true, decide_eq_true_eq, ofL_iff]
    exact ⟨fun h => ⟨by omega, hr, h.2, h.1⟩, fun h => ⟨h.2.2.2, h.2.2.1⟩⟩
theorem ofL_kR (k v : Int) : (kR k).filter (fun r => decide (r ∈ ofL k v)) = ofL k v := by
  conv => rhs; rw [ofL_filt]
  unfold kR
  rw [List.filter_filter]
  refine List.filter_congr fun r hr => ?_
  rw [Bool.eq_iff_iff]
  simp only [Bool.and_eq_true, decide_eq_true_eq]
  exact ⟨fun h => h.1, fun h => ⟨h, ofL_kindN h⟩⟩
theorem flat_kR {k v : Int} {M : MV} (hz : ∀ r ∈ ROWS, (r.kind : Int) = k → r ∉ ofL k v → fldR M r = []) : (ofL k v).flatMap (fldR M) = (kR k).flatMap (fldR M) := by
  have h := flat_filter (fldR M) (fun r => decide (r ∈ ofL k v)) (kR k) fun r hr hp => hz r (kR_mem hr).1 (kR_mem hr).2 (by simpa using hp)
  rw [ofL_kR] at h
  exact h
theorem chk_alike {a b : MV} {L : List SRow} (h : sameB a b = true) : chkV a L = chkV b L := by
  obtain ⟨h1, ⟨a0, a1, a2, a3, a4, a5⟩, ⟨b0, b1⟩, hl⟩ := (sameB_iff a b).1 h
  obtain ⟨k, n0, n1, n2, n3, n4, n5, s0, s1, A, c, l⟩ := a
  obtain ⟨k', m0, m1, m2, m3, m4, m5, t0, t1, A', c', l'⟩ := b
  simp only at h1 a0 a1 a2 a3 a4 a5 b0 b1 hl
  subst h1 a0 a1 a2 a3 a4 a5 b0 b1 hl
  exact chkV_ac ⟨k, n0, n1, n2, n3, n4, n5, s0, s1, A', c', l⟩ A c L
/-- What is read of parts of a message in any order, in any version. -/
theorem read_rows {M : MV} (v o : Int) (hn : ∀ i, M.num i ≤ 18446744073709551615) (hsm : MvSm M) (hc : (chkV M (ofL (M.k : Int) v)).1 = 0) (ho : (ofL (M.k : Int) o).length ≠ 0) (R : List SRow) (hR : R.Perm (ofL (M.k : Int) v)) :
    ∃ M2 oth, readR M.k o ((allP M R).flatMap wB) = (M2, oth, 0, 0) ∧ sameB M2 (keptM (ofL (M.k : Int) o) M) = true ∧ oth.map keyF = allP M (R.filter fun r => decide (r ∉ ofL (M.k : Int) o)) := by
  have hz := chkV_zero hc
  have hmem : ∀ r, r ∈ R ↔ r ∈ ofL (M.k : Int) v := fun r => hR.mem_iff
  have hL : ∀ r ∈ R, r ∈ ROWS := fun r hr => ofL_mem _ _ ((hmem r).1 hr)
  have hE0 := chkL_all _ hz.2.2.1
  have hE : ∀ r ∈ R, fldE M r = 0 := fun r hr => hE0 r ((hmem r).1 hr)
  have hok : ∀ x ∈ allP M R, pErrF (ptF x) = 0 ∧ (ptF x).n ≤ 18446744073709551615 ∧ 0 ≤ (ptF x).w ∧ (ptF x).w ≤ 255 := fun x hx => by
    obtain ⟨r, hr, hp⟩ := allP_ok hn hsm hL hx
    exact hp.put (hL r hr)
  have hf := flat_flds (allP M R) hok
  have hcap : ((allP M R).flatMap wB).length ≤ 8192 := by
    have h1 := enc_cap v hn hsm
    rw [encB_allP hsm (fun r hr => ofL_mem _ _ hr) hc] at h1
    have hp : (allP M R).Perm (allP M (ofL (M.k : Int) v)) := by unfold allP; exact hR.flatMap_right _
    have hp2 := hp.flatMap_right wB
    rw [hp2.length_eq]
    exact h1
  have hkeys : (putL ((allP M R).map ptF) 0).map keyF = allP M R := by
    have h := putL_map (allP M R) 0
    have hb : (allP M R).map bareP = allP M R := by
      conv => rhs; rw [← List.map_id (allP M R)]
      refine List.map_congr_left fun x hx => ?_
      unfold allP at hx
      obtain ⟨r, hr, hx⟩ := List.mem_flatMap.1 hx
      exact rowP_bare (hL r hr) (hE r hr) hx
    rw [hb] at h
    exact h
  obtain ⟨sN, sS, sL⟩ := same_kept hz.2.2.2
  have hl64 : M.l.length ≤ 64 := by
    cases hm : mkL (ofL (M.k : Int) v) with
    | false => rw [sL hm]; simp
    | true =>
      unfold mkL at hm
      obtain ⟨r, hr, h10⟩ := List.any_eq_true.1 hm
      simp only [decide_eq_true_eq] at h10
      exact (fldE_list h10 (hE0 r hr)).1
  have hS : ({ ZM with k := M.k } : MV).l.length + M.l.length ≤ 64 := by simpa [ZM] using hl64
  have hnd : R.Nodup := hR.nodup_iff.2 (nodup_ofL M.k v)
  obtain ⟨oth, e1, e2⟩ := up_gen (k := (M.k : Int)) (o := o) (b := M) (S := { ZM with k := M.k }) hn hS R [] (fun r hr => ⟨hL r hr, ofL_kindN ((hmem r).1 hr), hE r hr⟩) (fun p hp => by simp at hp) (by simpa using hnd) _ hkeys
  rw [up_nil, List.nil_append] at e1
  refine ⟨updM (R.filter fun r => decide (r ∈ ofL (M.k : Int) o)) { ZM with k := M.k } M, oth, ?_, ?_, e2⟩
  · unfold readR
    rw [if_neg ho, if_neg (by omega), hf]
    simp only
    rw [if_neg (by simp), e1, if_neg (by simp)]
  · obtain ⟨F, hF⟩ : ∃ F, R.filter (fun r => decide (r ∈ ofL (M.k : Int) o)) = F := ⟨_, rfl⟩
    have hFm : ∀ r, r ∈ F ↔ r ∈ ofL (M.k : Int) v ∧ r ∈ ofL (M.k : Int) o := fun r => by rw [← hF, List.mem_filter, hmem]; simp
    rw [hF]
    have kN : ∀ i : Nat, i ≤ 5 → up (mkN F i) (M.num (i : Int)) 0 = if mkN (ofL (M.k : Int) o) i then M.num (i : Int) else 0 := fun i hi => by
      unfold up
      cases ho : mkN (ofL (M.k : Int) o) i with
      | false =>
        have : mkN F i = false := any_mono (fun r hr => ((hFm r).1 hr).2) ho
        rw [this]; simp
      | true =>
        by_cases c : M.num (i : Int) = 0
        · simp [c]
        · have hv : mkN (ofL (M.k : Int) v) i = true := by
            cases hq : mkN (ofL (M.k : Int) v) i with
            | true => rfl
            | false => exact absurd (sN i hi hq) c
          have : mkN F i = true := by
            unfold mkN at ho hv ⊢
            obtain ⟨r, hr, h1⟩ := List.any_eq_true.1 ho
            obtain ⟨q, hq, h2⟩ := List.any_eq_true.1 hv
            simp only [decide_eq_true_eq] at h1 h2
            have e3 := ofL_kindN hr
            have e4 := ofL_kindN hq
            have := place_uni (ofL_mem _ _ hr) (ofL_mem _ _ hq) (by omega) (.inl ⟨h1.1, h2.1, by omega⟩)
            subst this
            exact List.any_eq_true.2 ⟨r, (hFm r).2 ⟨hq, hr⟩, by simpa using h1⟩
          rw [this]; simp [c]
    have kS : ∀ i : Nat, i ≤ 1 → us (mkS F i) (M.text (i : Int)) ⟨#[]⟩ = if mkS (ofL (M.k : Int) o) i then M.text (i : Int) else ⟨#[]⟩ := fun i hi => by
      unfold us
      cases ho : mkS (ofL (M.k : Int) o) i with
      | false =>
        have : mkS F i = false := any_mono (fun r hr => ((hFm r).1 hr).2) ho
        rw [this]; simp
      | true =>
        by_cases c : M.text (i : Int) = ⟨#[]⟩
        · simp [c]
        · have hv : mkS (ofL (M.k : Int) v) i = true := by
            cases hq : mkS (ofL (M.k : Int) v) i with
            | true => rfl
            | false => exact absurd (sS i hi hq) c
          have : mkS F i = true := by
            unfold mkS at ho hv ⊢
            obtain ⟨r, hr, h1⟩ := List.any_eq_true.1 ho
            obtain ⟨q, hq, h2⟩ := List.any_eq_true.1 hv
            simp only [decide_eq_true_eq] at h1 h2
            have e3 := ofL_kindN hr
            have e4 := ofL_kindN hq
            have := place_uni (ofL_mem _ _ hr) (ofL_mem _ _ hq) (by omega) (.inr (.inl ⟨h1.1, h2.1, by omega⟩))
            subst this
            exact List.any_eq_true.2 ⟨r, (hFm r).2 ⟨hq, hr⟩, by simpa using h1⟩
          rw [this]; simp [c]
    have kL : (if mkL F then ([] : List ByteArray) ++ M.l else []) = if mkL (ofL (M.k : Int) o) then M.l else [] := by
      cases ho : mkL (ofL (M.k : Int) o) with
      | false =>
        have : mkL F = false := any_mono (fun r hr => ((hFm r).1 hr).2) ho
        rw [this]; simp
      | true =>
        cases hq : mkL (ofL (M.k : Int) v) with
        | false => rw [sL hq]; simp
        | true =>
          have : mkL F = true := by
            unfold mkL at ho hq ⊢
            obtain ⟨r, hr, h1⟩ := List.any_eq_true.1 ho
            obtain ⟨q, hq, h2⟩ := List.any_eq_true.1 hq
            simp only [decide_eq_true_eq] at h1 h2
            have e3 := ofL_kindN hr
            have e4 := ofL_kindN hq
            have := place_uni (ofL_mem _ _ hr) (ofL_mem _ _ hq) (by omega) (.inr (.inr ⟨h1, h2⟩))
            subst this
            exact List.any_eq_true.2 ⟨r, (hFm r).2 ⟨hq, hr⟩, by simpa using h1⟩
          rw [this]; simp
    rw [sameB_iff]
    refine ⟨rfl, ⟨?_, ?_, ?_, ?_, ?_, ?_⟩, ⟨?_, ?_⟩, ?_⟩
    · exact kN 0 (by omega)
    · exact kN 1 (by omega)
    · exact kN 2 (by omega)
    · exact kN 3 (by omega)
    · exact kN 4 (by omega)
    · exact kN 5 (by omega)
    · exact kS 0 (by omega)
    · exact kS 1 (by omega)
    · rw [kept_l]; exact kL
/-- A message in another version. -/
theorem read_other {M : MV} (v o : Int) (hn : ∀ i, M.num i ≤ 18446744073709551615) (hsm : MvSm M) (hc : (chkV M (ofL (M.k : Int) v)).1 = 0) (ho : (ofL (M.k : Int) o).length ≠ 0) :
    ∃ M2 oth, readR M.k o (encB M (ofL (M.k : Int) v)) = (M2, oth, 0, 0) ∧ sameB M2 (keptM (ofL (M.k : Int) o) M) = true ∧ (encB M2 (ofL (M.k : Int) o) = encB M (ofL (M.k : Int) v) ↔ oth = []) ∧ (v ≤ o → oth = [] ∧ sameB M2 M = true) := by
  have hb := encB_allP hsm (fun r hr => ofL_mem (M.k : Int) v hr) hc
  obtain ⟨M2, oth, e1, e2, e3⟩ := read_rows v o hn hsm hc ho _ (List.Perm.refl _)
  rw [← hb] at e1
  have hz := chkV_zero hc
  obtain ⟨sN, sS, sL⟩ := same_kept hz.2.2.2
  have hg : Good M.k o M2 := by
    rcases read_good M.k o (encB M (ofL (M.k : Int) v)) with ⟨h1, -, -⟩ | ⟨-, h2, -⟩
    · rw [e1] at h1; exact absurd rfl h1
    · rw [e1] at h2; exact h2
  have hc2 := good_chk hg ho
  have hns : oth = [] → sameB M2 M = true := fun hnil => by
    rw [hnil] at e3
    have hno : ∀ r ∈ ofL (M.k : Int) v, r ∉ ofL (M.k : Int) o → dflB M (r.typ : Nat) (r.slot : Nat) = true := fun r hr hro => by
      refine rowP_dfl (ofL_mem _ _ hr) ?_
      have h : allP M ((ofL (M.k : Int) v).filter fun r => decide (r ∉ ofL (M.k : Int) o)) = [] := e3.symm
      unfold allP at h
      rw [List.flatMap_eq_nil_iff] at h
      exact h r (List.mem_filter.2 ⟨hr, by simpa using hro⟩)
    have hk : sameB M (keptM (ofL (M.k : Int) o) M) = true := by
      refine kept_same (fun i hi hm => ?_) (fun i hi hm => ?_) fun hm => ?_
      · cases hq : mkN (ofL (M.k : Int) v) i with
        | false => exact sN i hi hq
        | true =>
          unfold mkN at hq
          obtain ⟨r, hr, h1⟩ := List.any_eq_true.1 hq
          simp only [decide_eq_true_eq] at h1
          have hro : r ∉ ofL (M.k : Int) o := fun h => by
            unfold mkN at hm
            rw [List.any_eq_false] at hm
            exact hm r h (by simpa using h1)
          have hd := hno r hr hro
          have := row_num (ofL_mem _ _ hr)
          rw [dfl_num _ _ _ (by omega), h1.2] at hd
          simpa using hd
      · cases hq : mkS (ofL (M.k : Int) v) i with
        | false => exact sS i hi hq
        | true =>
          unfold mkS at hq
          obtain ⟨r, hr, h1⟩ := List.any_eq_true.1 hq
          simp only [decide_eq_true_eq] at h1
          have hro : r ∉ ofL (M.k : Int) o := fun h => by
            unfold mkS at hm
            rw [List.any_eq_false] at hm
            exact hm r h (by simpa using h1)
          have hd := hno r hr hro
          rw [dfl_text _ _ _ (by omega), h1.2] at hd
          simpa using hd
      · cases hq : mkL (ofL (M.k : Int) v) with
        | false => exact sL hq
        | true =>
          unfold mkL at hq
          obtain ⟨r, hr, h1⟩ := List.any_eq_true.1 hq
          simp only [decide_eq_true_eq] at h1
          have hro : r ∉ ofL (M.k : Int) o := fun h => by
            unfold mkL at hm
            rw [List.any_eq_false] at hm
            exact hm r h (by simpa using h1)
          have hd := hno r hr hro
          rw [h1, show ((10 : Nat) : Int) = 10 from rfl, dfl_list] at hd
          simpa using hd
    obtain ⟨a1, ⟨a2, a3, a4, a5, a6, a7⟩, ⟨a8, a9⟩, a10⟩ := (sameB_iff _ _).1 e2
    obtain ⟨b1, ⟨b2, b3, b4, b5, b6, b7⟩, ⟨b8, b9⟩, b10⟩ := (sameB_iff _ _).1 (same_symm hk)
    exact (sameB_iff _ _).2 ⟨a1.trans b1, ⟨a2.trans b2, a3.trans b3, a4.trans b4, a5.trans b5, a6.trans b6, a7.trans b7⟩, ⟨a8.trans b8, a9.trans b9⟩, a10.trans b10⟩
  refine ⟨M2, oth, e1, e2, ⟨fun hown => ?_, fun hnil => ?_⟩, fun hvo => ?_⟩
  · obtain ⟨M3, r1, -⟩ := read_back (M := M2) o hg.hn (good_sm hg) (by rw [hg.hk, hc2])
    rw [hg.hk, hown, e1] at r1
    simp only [Prod.mk.injEq] at r1
    exact r1.2.1
  · have hs := hns hnil
    rw [hnil] at e3
    have h1 : encB M2 (ofL (M.k : Int) o) = encB M (ofL (M.k : Int) o) := enc_alike hs
    rw [h1]
    have c1 : (chkV M (ofL (M.k : Int) o)).1 = 0 := by rw [← chk_alike hs, hc2]
    unfold encB
    rw [if_pos c1, if_pos hc]
    have zv : ∀ r ∈ ROWS, (r.kind : Int) = (M.k : Int) → r ∉ ofL (M.k : Int) v → fldR M r = [] := fun r hr hk hn => fldR_dfl (row_dfl sN sS sL hr hk hn)
    have zo : ∀ r ∈ ROWS, (r.kind : Int) = (M.k : Int) → r ∉ ofL (M.k : Int) o → fldR M r = [] := fun r hr hk hno => by
      by_cases hv : r ∈ ofL (M.k : Int) v
      · refine fldR_dfl (rowP_dfl hr ?_)
        have h : allP M ((ofL (M.k : Int) v).filter fun r => decide (r ∉ ofL (M.k : Int) o)) = [] := e3.symm
        unfold allP at h
        rw [List.flatMap_eq_nil_iff] at h
        exact h r (List.mem_filter.2 ⟨hv, by simpa using hno⟩)
      · exact zv r hr hk hv
    rw [flat_kR zo, flat_kR zv]
  · have hsub : ∀ r ∈ ofL (M.k : Int) v, r ∈ ofL (M.k : Int) o := fun r hr => by
      have h := (ofL_iff _ _ _).1 hr
      have ho3 : o ≤ 3 := by
        by_cases c : 3 < o
        · exfalso; apply ho; unfold ofL kn; rw [if_pos c]; rfl
        · omega
      exact (ofL_iff _ _ _).2 ⟨ho3, h.2.1, by omega, h.2.2.2⟩
    have hnil : oth = [] := by
      have : (ofL (M.k : Int) v).filter (fun r => decide (r ∉ ofL (M.k : Int) o)) = [] := List.filter_eq_nil_iff.2 fun r hr => by simpa using hsub r hr
      rw [this] at e3
      simpa [allP] using e3
    exact ⟨hnil, hns hnil⟩
end Go.Proofs.Ytealjpolomhdeaa
set_option linter.unusedVariables false
namespace Go.Proofs.Ytealjpolomhdeaa
open Go.RowKit
theorem zig_zagU {n : Nat} (h : n ≤ 18446744073709551615) : (zig (wrap64 (zagU n : Nat))).toNat = n := by
  unfold zagU zig wrap64
  split <;> split <;> omega
theorem numV_less {t : Int} {n : Nat} (h : t ≠ 3) : numV t n ≤ n := by
  unfold numV
  split
  · omega
  · split
    · split <;> omega
    · first | exact Nat.le_refl _ | (rw [if_neg h]; exact Nat.le_refl _)
theorem pTail_le {x : Int} {a b : Nat} {xs : List UInt8} (hx : x ≠ 2) (h : x = 0 → a ≤ b) : (pTail x a []).length ≤ (pTail x b xs).length := by
  unfold pTail
  by_cases h0 : x = 0
  · rw [if_pos h0, if_pos h0]; exact putN_len_mono (h h0)
  · rw [if_neg h0, if_neg h0]
    by_cases h1 : x = 1
    · rw [if_pos h1, if_pos h1, length_fixN, length_fixN]; exact Nat.le_refl _
    · rw [if_neg h1, if_neg h1, if_neg hx, if_neg hx, length_fixN, length_fixN]; exact Nat.le_refl _
/-- How many bytes a field has, put. -/
def szF (f : RF × Nat) : Nat := (pB f.1.num f.1.w f.1.n f.1.xs).length
/-- How many bytes a message has of a row. -/
def rowN (M : MV) (r : SRow) : Nat := ((rowP M r).flatMap wB).length
def totN (L : List SRow) (M : MV) : Nat := (L.map (rowN M)).sum
theorem wireN_low {t : Nat} (h1 : 1 ≤ t) (h6 : t ≤ 6) : ((wireN (t : Int) : Nat) : Int) ≠ 2 := by
  have : t = 1 ∨ t = 2 ∨ t = 3 ∨ t = 4 ∨ t = 5 ∨ t = 6 := by omega
  rcases this with rfl | rfl | rfl | rfl | rfl | rfl <;> decide
theorem wireN_text {t : Nat} (h7 : 7 ≤ t) (h10 : t ≤ 10) : ((wireN (t : Int) : Nat) : Int) = 2 := by
  have : t = 7 ∨ t = 8 ∨ t = 9 ∨ t = 10 := by omega
  rcases this with rfl | rfl | rfl | rfl <;> decide
theorem rowP_keep {M M' : MV} {r : SRow} (hr : r ∈ ROWS) (hn : r.typ ≤ 6 → M'.num (r.slot : Int) = M.num (r.slot : Int)) (ht : 7 ≤ r.typ → r.typ ≤ 9 → M'.text (r.slot : Int) = M.text (r.slot : Int)) (hl : r.typ = 10 → M'.l = M.l) : rowP M' r = rowP M r := by
  have hk := row_num hr
  have h : dflB M' (r.typ : Nat) (r.slot : Nat) = dflB M (r.typ : Nat) (r.slot : Nat) ∧ partW M' (r.num : Nat) (r.typ : Nat) (r.slot : Nat) = partW M (r.num : Nat) (r.typ : Nat) (r.slot : Nat) := by
    by_cases h6 : r.typ ≤ 6
    · refine ⟨by rw [dfl_num _ _ _ (by omega), dfl_num _ _ _ (by omega), hn h6], ?_⟩
      unfold partW
      simp only [show ¬ ((r.typ : Nat) : Int) = 10 from by omega, show ¬ (7 ≤ ((r.typ : Nat) : Int) ∧ ((r.typ : Nat) : Int) ≤ 9) from by omega, if_false, hn h6]
    · by_cases h9 : r.typ ≤ 9
      · refine ⟨by rw [dfl_text _ _ _ (by omega), dfl_text _ _ _ (by omega), ht (by omega) h9], ?_⟩
        unfold partW
        simp only [show ¬ ((r.typ : Nat) : Int) = 10 from by omega, show (7 ≤ ((r.typ : Nat) : Int) ∧ ((r.typ : Nat) : Int) ≤ 9) from by omega, if_false, if_true, ht (by omega) h9, and_self]
      · have h10 : r.typ = 10 := by omega
        rw [h10, show ((10 : Nat) : Int) = 10 from rfl]
        refine ⟨by rw [dfl_list, dfl_list, hl h10], ?_⟩
        unfold partW
        rw [if_pos rfl, if_pos rfl, hl h10]
  unfold rowP
  rw [h.1, h.2]
theorem rowP_list {M : MV} {r : SRow} (h10 : r.typ = 10) : rowP M r = M.l.map (fun s => ((r.num : Int), (2 : Int), 0, s.data.toList)) := by
  unfold rowP
  rw [h10, show ((10 : Nat) : Int) = 10 from rfl, dfl_list]
  by_cases c : M.l.length = 0
  · have : M.l = [] := List.eq_nil_of_length_eq_zero c
    rw [decide_eq_true c, if_pos rfl, this]; rfl
  · rw [decide_eq_false c, if_neg (by simp)]
    unfold partW
    rw [if_pos rfl]
theorem row_set {k : Nat} {v : Int} {M : MV} {r : SRow} (hr : r ∈ ofL (k : Int) v) {f : RF × Nat} (hfn : f.1.n ≤ 18446744073709551615) (h1 : f.1.num = (r.num : Int)) (h2 : f.1.w = ((wireN (r.typ : Int) : Nat) : Int)) (he : setE M (r.typ : Int) (r.slot : Int) (rfS f) = 0) {q : SRow} (hq : q ∈ ofL (k : Int) v) :
    rowN (setM M (r.typ : Int) (r.slot : Int) f.1.n (rfS f)) q ≤ rowN M q + if q = r then szF f else 0 := by
  have hR := ofL_mem _ _ hr
  have hQ := ofL_mem _ _ hq
  have hk := row_num hR
  have hs := row_slot hR
  have hkq := row_num hQ
  have hsq := row_slot hQ
  have e1 := ofL_kindN hr
  have e2 := ofL_kindN hq
  have hnum := setM_num (n := f.1.n) he
  have htext := setM_text (n := f.1.n) he
  have hl := setM_l (n := f.1.n) he
  by_cases hqr : q = r
  · subst hqr
    rw [if_pos rfl]
    by_cases h6 : q.typ ≤ 6
    · have hv := hnum q.slot hs.1
      rw [if_pos ⟨by omega, rfl⟩] at hv
      refine Nat.le_trans ?_ (Nat.le_add_left _ _)
      unfold rowN rowP
      cases hd : dflB (setM M (q.typ : Int) (q.slot : Int) f.1.n (rfS f)) (q.typ : Nat) (q.slot : Nat) with
      | true => simp
      | false =>
        rw [if_neg (by simp)]
        unfold partW
        rw [if_neg (by omega), if_neg (by omega), hv]
        unfold szF
        rw [h1, h2]
        by_cases h3 : ((q.typ : Nat) : Int) = 3
        · rw [if_pos h3, h3]
          have e3 : numV 3 f.1.n = zagU f.1.n := by unfold numV; simp
          rw [e3, zig_zagU hfn]
          have e4 : wB ((q.num : Int), 0, f.1.n, []) = pB (q.num : Int) 0 f.1.n [] := rfl
          rw [List.flatMap_cons, List.flatMap_nil, List.append_nil, e4]
          have e5 : ((wireN (3 : Int) : Nat) : Int) = 0 := by decide
          rw [e5]
          unfold pB
          rw [List.length_append, List.length_append]
          have := pTail_le (x := 0) (a := f.1.n) (b := f.1.n) (xs := f.1.xs) (by decide) (fun _ => Nat.le_refl _)
          omega
        · rw [if_neg h3]
          have e4 : wB ((q.num : Int), ((wireN (q.typ : Int) : Nat) : Int), numV (q.typ : Int) f.1.n, []) = pB (q.num : Int) ((wireN (q.typ : Int) : Nat) : Int) (numV (q.typ : Int) f.1.n) [] := rfl
          rw [List.flatMap_cons, List.flatMap_nil, List.append_nil, e4]
          unfold pB
          rw [List.length_append, List.length_append]
          have := pTail_le (x := ((wireN (q.typ : Int) : Nat) : Int)) (a := numV (q.typ : Int) f.1.n) (b := f.1.n) (xs := f.1.xs) (wireN_low (by omega) h6) (fun _ => numV_less h3)
          omega
    · by_cases h9 : q.typ ≤ 9
      · have hv := htext q.slot (hs.2 (by omega) h9)
        rw [if_pos ⟨by omega, rfl⟩] at hv
        refine Nat.le_trans ?_ (Nat.le_add_left _ _)
        unfold rowN rowP
        cases hd : dflB (setM M (q.typ : Int) (q.slot : Int) f.1.n (rfS f)) (q.typ : Nat) (q.slot : Nat) with
        | true => simp
        | false =>
          rw [if_neg (by simp)]
          unfold partW
          rw [if_neg (by omega), if_pos (by omega), hv]
          unfold szF
          rw [h1, h2, wireN_text (by omega) (by omega)]
          have e4 : wB ((q.num : Int), 2, 0, (rfS f).data.toList) = pB (q.num : Int) 2 0 f.1.xs := by unfold rfS; rfl
          rw [List.flatMap_cons, List.flatMap_nil, List.append_nil, e4]
          exact Nat.le_refl _
      · have h10 : q.typ = 10 := by omega
        rw [if_pos (by omega)] at hl
        unfold rowN
        rw [rowP_list h10, rowP_list h10, hl, List.map_append, List.flatMap_append, List.length_append]
        unfold szF
        rw [h1, h2, wireN_text (by omega) (by omega)]
        have e4 : wB ((q.num : Int), 2, 0, (rfS f).data.toList) = pB (q.num : Int) 2 0 f.1.xs := by unfold rfS; rfl
        rw [List.map_cons, List.map_nil, List.flatMap_cons, List.flatMap_nil, List.append_nil, e4]
        exact Nat.le_refl _
  · rw [if_neg hqr]
    unfold rowN
    rw [rowP_keep (M := M) hQ (fun h6 => ?_) (fun h7 h9 => ?_) (fun h10 => ?_)]
    · exact Nat.le_refl _
    · rw [hnum q.slot hsq.1, if_neg]
      rintro ⟨g1, g2⟩
      exact hqr (place_uni hQ hR (by omega) (.inl ⟨h6, by omega, by omega⟩))
    · rw [htext q.slot (hsq.2 h7 h9), if_neg]
      rintro ⟨g1, g2⟩
      exact hqr (place_uni hQ hR (by omega) (.inr (.inl ⟨⟨h7, h9⟩, by omega, by omega⟩)))
    · rw [hl, if_neg]
      intro g
      exact hqr (place_uni hQ hR (by omega) (.inr (.inr ⟨h10, by omega⟩)))
theorem sum_row (F G : SRow → Nat) (r : SRow) (c : Nat) : ∀ (L : List SRow), L.Nodup → (∀ q ∈ L, G q ≤ F q + if q = r then c else 0) → (L.map G).sum ≤ (L.map F).sum + if r ∈ L then c else 0
  | [], _, _ => by simp
  | x :: L, hnd, h => by
    have ih := sum_row F G r c L (List.nodup_cons.1 hnd).2 fun q hq => h q (List.mem_cons_of_mem _ hq)
    have hx := h x (List.mem_cons_self ..)
    rw [List.map_cons, List.map_cons, List.sum_cons, List.sum_cons]
    by_cases hxr : x = r
    · subst hxr
      rw [if_pos rfl] at hx
      rw [if_neg (List.nodup_cons.1 hnd).1] at ih
      rw [if_pos (List.mem_cons_self ..)]
      omega
    · rw [if_neg hxr] at hx
      by_cases hm : r ∈ L
      · rw [if_pos hm] at ih
        rw [if_pos (List.mem_cons_of_mem _ hm)]
        omega
      · rw [if_neg hm] at ih
        omega
theorem dec_len {k : Nat} {v : Int} : ∀ (l : List (RF × Nat)) (M : MV), (∀ f ∈ l, RdOk f) → (decF (ofL (k : Int) v) M l).2.2.1 = 0 → totN (ofL (k : Int) v) (decF (ofL (k : Int) v) M l).1 ≤ totN (ofL (k : Int) v) M + (l.map szF).sum
  | [], M, _, _ => by simp [decF]
  | f :: l, M, hok, h => by
    rw [List.map_cons, List.sum_cons]
    cases ho : ownR (ofL (k : Int) v) f.1.num f.1.w with
    | none =>
      rw [decF_none ho] at h ⊢
      have := dec_len l M (fun g hg => hok g (List.mem_cons_of_mem _ hg)) h
      simp only
      omega
    | some r =>
      by_cases he : setE M (r.typ : Int) (r.slot : Int) (rfS f) = 0
      · rw [decF_ok ho he] at h ⊢
        have h1 := dec_len l _ (fun g hg => hok g (List.mem_cons_of_mem _ hg)) h
        obtain ⟨hr, e1, e2⟩ := own_mem ho
        have h2 := sum_row (rowN M) (rowN (setM M (r.typ : Int) (r.slot : Int) f.1.n (rfS f))) r (szF f) (ofL (k : Int) v) (nodup_ofL k v) fun q hq => row_set hr (hok f (List.mem_cons_self ..)).1 e1.symm e2.symm he hq
        rw [if_pos hr] at h2
        unfold totN at h1 ⊢
        omega
      · rw [decF_bad ho he] at h
        exact absurd h he
theorem tot_flat (M : MV) : ∀ L : List SRow, ((allP M L).flatMap wB).length = totN L M
  | [] => rfl
  | r :: L => by
    have ih := tot_flat M L
    unfold allP totN at ih ⊢
    rw [List.flatMap_cons, List.flatMap_append, List.length_append, ih, List.map_cons, List.sum_cons]
    rfl
theorem tot_zero (k : Nat) : ∀ L : List SRow, (∀ r ∈ L, r ∈ ROWS) → totN L { ZM with k := k } = 0
  | [], _ => rfl
  | r :: L, h => by
    have ih := tot_zero k L fun q hq => h q (List.mem_cons_of_mem _ hq)
    unfold totN at ih ⊢
    rw [List.map_cons, List.sum_cons, ih]
    have hR := h r (List.mem_cons_self ..)
    have hk := row_num hR
    have hd : dflB { ZM with k := k } (r.typ : Nat) (r.slot : Nat) = true := by
      by_cases h6 : r.typ ≤ 6
      · rw [dfl_num _ _ _ (by omega), ZM_num]; rfl
      · by_cases h9 : r.typ ≤ 9
        · rw [dfl_text _ _ _ (by omega), ZM_text]; rfl
        · rw [show ((r.typ : Nat) : Int) = 10 from by omega, dfl_list]; rfl
    unfold rowN rowP
    rw [hd]
    rfl
/-- A message's own bytes are no longer than those that it was read from. -/
theorem enc_short {k : Nat} {v : Int} {bs : List UInt8} {M : MV} {O : List (RF × Nat)} (h : readR k v bs = (M, O, 0, 0)) (hg : Good k v M) (hc : (chkV M (ofL (k : Int) v)).1 = 0) : (encB M (ofL (k : Int) v)).length ≤ bs.length := by
  rw [encB_allP (good_sm hg) (fun r hr => ofL_mem _ _ hr) hc, tot_flat]
  unfold readR at h
  by_cases hL : (ofL (k : Int) v).length = 0
  · rw [if_pos hL] at h; simp at h
  rw [if_neg hL] at h
  by_cases h8 : 8192 < bs.length
  · rw [if_pos h8] at h; simp at h
  rw [if_neg h8] at h
  by_cases hF : (flds bs bs.length 0).2.1 = 0
  · rw [if_neg (by rw [hF]; simp)] at h
    by_cases hD : (decF (ofL (k : Int) v) { ZM with k := k } (flds bs bs.length 0).1).2.2.1 = 0
    · rw [if_neg (by rw [hD]; simp)] at h
      have h1 := dec_len _ _ (flds_ok hF) hD
      rw [h, tot_zero k _ (fun r hr => ofL_mem _ _ hr)] at h1
      have h2 := (again_all bs bs.length 0 _ (by omega) hF (fvR_all (flds bs bs.length 0).1)).2
      have h3 : ∀ l : List (RF × Nat), ((l.map fvR).flatMap pBF).length = (l.map szF).sum := by
        intro l
        induction l with
        | nil => rfl
        | cons f l ih => rw [List.map_cons, List.flatMap_cons, List.length_append, ih, List.map_cons, List.sum_cons]; rfl
      rw [h3] at h2
      simp only at h1
      omega
    · rw [if_pos hD] at h
      simp only [Prod.mk.injEq] at h
      exact absurd (congrArg Prod.fst h.2.2) hD
  · rw [if_pos hF] at h
    simp only [Prod.mk.injEq] at h
    exfalso
    omega
/-- Fields that no message has, behind a message's bytes. -/
theorem read_more {M : MV} (v : Int) (hn : ∀ i, M.num i ≤ 18446744073709551615) (hsm : MvSm M) (hc : (chkV M (ofL (M.k : Int) v)).1 = 0) (P : List (Int × Int × Nat × List UInt8)) (hP : ∀ x ∈ P, (pErrF (ptF x) = 0 ∧ (ptF x).n ≤ 18446744073709551615 ∧ 0 ≤ (ptF x).w ∧ (ptF x).w ≤ 255) ∧ 7 < x.1) (hlen : (encB M (ofL (M.k : Int) v)).length + (P.flatMap wB).length ≤ 8192) :
    ∃ M2 oth, readR M.k v (encB M (ofL (M.k : Int) v) ++ P.flatMap wB) = (M2, oth, 0, 0) ∧ sameB M2 M = true ∧ oth.length = P.length := by
  have hz := chkV_zero hc
  have hb := encB_allP hsm (fun r hr => ofL_mem (M.k : Int) v hr) hc
  rw [hb] at hlen ⊢
  rw [← List.flatMap_append]
  have hL : ∀ r ∈ ofL (M.k : Int) v, r ∈ ROWS := fun r hr => ofL_mem _ _ hr
  have hok : ∀ x ∈ allP M (ofL (M.k : Int) v) ++ P, pErrF (ptF x) = 0 ∧ (ptF x).n ≤ 18446744073709551615 ∧ 0 ≤ (ptF x).w ∧ (ptF x).w ≤ 255 := fun x hx => by
    rcases List.mem_append.1 hx with hx | hx
    · obtain ⟨r, hr, hp⟩ := allP_ok hn hsm hL hx
      exact hp.put (hL r hr)
    · exact (hP x hx).1
  have hf := flat_flds _ hok
  have hkeys : (putL ((allP M (ofL (M.k : Int) v) ++ P).map ptF) 0).map keyF = allP M (ofL (M.k : Int) v) ++ P.map bareP := by
    have h := putL_map (allP M (ofL (M.k : Int) v) ++ P) 0
    rw [List.map_append (f := bareP), allP_bare hL hc] at h
    exact h
  obtain ⟨l1, l2, e0, k1, k2⟩ := keys_app hkeys
  obtain ⟨M2, r1, r2⟩ := read_back v hn hsm hc
  have hD : decF (ofL (M.k : Int) v) { ZM with k := M.k } l1 = (M2, [], 0, 0) := by
    unfold readR at r1
    rw [if_neg hz.2.1, if_neg (by have := enc_cap v hn hsm; omega), enc_flds M.k v hn hsm hc] at r1
    simp only at r1
    rw [if_neg (by simp)] at r1
    have hsame : ∀ (a b : List (RF × Nat)) (S : MV), a.map keyF = b.map keyF → (decF (ofL (M.k : Int) v) S a).1 = (decF (ofL (M.k : Int) v) S b).1 ∧ (decF (ofL (M.k : Int) v) S a).2.2.1 = (decF (ofL (M.k : Int) v) S b).2.2.1 ∧ (decF (ofL (M.k : Int) v) S a).2.1.length = (decF (ofL (M.k : Int) v) S b).2.1.length := by
      intro a
      induction a with
      | nil => intro b S h; have : b = [] := by simpa using h.symm
               subst this; exact ⟨rfl, rfl, rfl⟩
      | cons x a ih =>
        intro b S h
        cases b with
        | nil => simp at h
        | cons y b =>
          rw [List.map_cons, List.map_cons, List.cons.injEq] at h
          obtain ⟨hk, h⟩ := h
          unfold keyF at hk
          simp only [Prod.mk.injEq] at hk
          obtain ⟨g1, g2, g3, g4⟩ := hk
          have g5 : rfS x = rfS y := by unfold rfS; rw [g4]
          cases ho : ownR (ofL (M.k : Int) v) x.1.num x.1.w with
          | none =>
            have ho' : ownR (ofL (M.k : Int) v) y.1.num y.1.w = none := by rw [← g1, ← g2]; exact ho
            rw [decF_none ho, decF_none ho']
            have := ih b S h
            exact ⟨this.1, this.2.1, by simp [this.2.2]⟩
          | some r =>
            have ho' : ownR (ofL (M.k : Int) v) y.1.num y.1.w = some r := by rw [← g1, ← g2]; exact ho
            by_cases he : setE S (r.typ : Int) (r.slot : Int) (rfS x) = 0
            · rw [decF_ok ho he, decF_ok ho' (by rw [← g5]; exact he), ← g3, ← g5]
              exact ih b _ h
            · rw [decF_bad ho he, decF_bad ho' (by rw [← g5]; exact he), g5]
              exact ⟨rfl, rfl, rfl⟩
    have hk0 : (putL ((allP M (ofL (M.k : Int) v)).map ptF) 0).map keyF = allP M (ofL (M.k : Int) v) := by
      have h := putL_map (allP M (ofL (M.k : Int) v)) 0
      rw [allP_bare hL hc] at h
      exact h
    obtain ⟨s1, s2, s3⟩ := hsame l1 _ { ZM with k := M.k } (k1.trans hk0.symm)
    by_cases hq : (decF (ofL (M.k : Int) v) { ZM with k := M.k } (putL ((allP M (ofL (M.k : Int) v)).map ptF) 0)).2.2.1 = 0
    · rw [if_neg (by rw [hq]; simp)] at r1
      rw [r1] at s1 s2 s3
      have zz : ∀ (l : List (RF × Nat)) (S : MV), (decF (ofL (M.k : Int) v) S l).2.2.1 = 0 → (decF (ofL (M.k : Int) v) S l).2.2 = (0, 0) := by
        intro l
        induction l with
        | nil => intro S _; rfl
        | cons f l ih =>
          intro S h
          cases ho : ownR (ofL (M.k : Int) v) f.1.num f.1.w with
          | none => rw [decF_none ho] at h ⊢; exact ih S h
          | some r =>
            by_cases hs : setE S (r.typ : Int) (r.slot : Int) (rfS f) = 0
            · rw [decF_ok ho hs] at h ⊢; exact ih _ h
            · rw [decF_bad ho hs] at h; exact absurd h hs
      have s4 := zz l1 _ s2
      have s5 : (decF (ofL (M.k : Int) v) { ZM with k := M.k } l1).2.1 = [] := List.eq_nil_of_length_eq_zero s3
      exact Prod.ext s1 (Prod.ext s5 s4)
    · rw [if_pos hq] at r1
      simp only [Prod.mk.injEq] at r1
      exact absurd (congrArg Prod.fst r1.2.2) hq
  have hpass : decF (ofL (M.k : Int) v) M2 l2 = (M2, l2, 0, 0) := decF_pass M2 l2 fun f hf => by
    have hx : keyF f ∈ P.map bareP := by rw [← k2]; exact List.mem_map_of_mem hf
    obtain ⟨x, hx, hxe⟩ := List.mem_map.1 hx
    have h7 := (hP x hx).2
    unfold bareP keyF at hxe
    simp only [Prod.mk.injEq] at hxe
    exact own_big (.inr (by omega))
  refine ⟨M2, l2, ?_, r2, ?_⟩
  · unfold readR
    rw [if_neg hz.2.1, if_neg (by rw [List.flatMap_append, List.length_append]; omega), hf]
    simp only
    rw [if_neg (by simp), e0, decF_app l1 _ l2 (by rw [hD]), hD]
    simp only
    rw [hpass, if_neg (by simp)]
    simp
  · have := congrArg List.length k2
    simpa using this
end Go.Proofs.Ytealjpolomhdeaa
