/- A message without what belongs to no field: value.kept, and value.Clean. -/
import Derived.Test.YtehjibbjkadoiaaVMark
set_option linter.unusedVariables false
namespace Go.Proofs.Ytehjibbjkadoiaa
open Go.RowKit
def ka (b : Bool) (j i n : Nat) : Nat := if i < j then (if b then n else 0) else n
def kb (b : Bool) (j i : Nat) (s : ByteArray) : ByteArray := if i < j then (if b then s else ⟨#[]⟩) else s
/-- A message without what belongs to no field. -/
def keptM (L : List SRow) (m : MV) : MV := { k := m.k, n0 := ka (mkN L 0) 6 0 m.n0, n1 := ka (mkN L 1) 6 1 m.n1, n2 := ka (mkN L 2) 6 2 m.n2, n3 := ka (mkN L 3) 6 3 m.n3, n4 := ka (mkN L 4) 6 4 m.n4, n5 := ka (mkN L 5) 6 5 m.n5, s0 := kb (mkS L 0) 2 0 m.s0, s1 := kb (mkS L 1) 2 1 m.s1, A := if mkL L then m.A else none, c := if mkL L then m.c else 0, l := if mkL L then m.l else [] }
def kcN (L : List SRow) (m : MV) (len : Nat) (j : Nat) : Array Value := #[.int .u8 (m.k : Int), .int .u64 (ka (mkN L 0) j 0 m.n0 : Nat), .int .u64 (ka (mkN L 1) j 1 m.n1 : Nat), .int .u64 (ka (mkN L 2) j 2 m.n2 : Nat), .int .u64 (ka (mkN L 3) j 3 m.n3 : Nat), .int .u64 (ka (mkN L 4) j 4 m.n4 : Nat), .int .u64 (ka (mkN L 5) j 5 m.n5 : Nat), .string m.s0, .string m.s1, .slice m.A len m.c]
def kcS (L : List SRow) (m : MV) (len : Nat) (j : Nat) : Array Value := #[.int .u8 (m.k : Int), .int .u64 (ka (mkN L 0) 6 0 m.n0 : Nat), .int .u64 (ka (mkN L 1) 6 1 m.n1 : Nat), .int .u64 (ka (mkN L 2) 6 2 m.n2 : Nat), .int .u64 (ka (mkN L 3) 6 3 m.n3 : Nat), .int .u64 (ka (mkN L 4) 6 4 m.n4 : Nat), .int .u64 (ka (mkN L 5) 6 5 m.n5 : Nat), .string (kb (mkS L 0) j 0 m.s0), .string (kb (mkS L 1) j 1 m.s1), .slice m.A len m.c]
theorem kcN_keep (L : List SRow) (m : MV) (len j : Nat) (hj : j < 6) (h : mkN L j = true) : kcN L m len (j + 1) = kcN L m len j := by
  have hi : j = 0 ∨ j = 1 ∨ j = 2 ∨ j = 3 ∨ j = 4 ∨ j = 5 := by omega
  unfold kcN
  rcases hi with rfl | rfl | rfl | rfl | rfl | rfl <;> simp [ka, h]
theorem kcN_zero (L : List SRow) (m : MV) (len j : Nat) (hj : j < 6) (h : mkN L j = false) : (kcN L m len j).setIfInBounds (1 + j) (.int .u64 0) = kcN L m len (j + 1) := by
  have hi : j = 0 ∨ j = 1 ∨ j = 2 ∨ j = 3 ∨ j = 4 ∨ j = 5 := by omega
  unfold kcN
  rcases hi with rfl | rfl | rfl | rfl | rfl | rfl <;> simp [ka, h]
theorem kcS_keep (L : List SRow) (m : MV) (len j : Nat) (hj : j < 2) (h : mkS L j = true) : kcS L m len (j + 1) = kcS L m len j := by
  have hi : j = 0 ∨ j = 1 := by omega
  unfold kcS
  rcases hi with rfl | rfl <;> simp [kb, h]
theorem kcS_zero (L : List SRow) (m : MV) (len j : Nat) (hj : j < 2) (h : mkS L j = false) : (kcS L m len j).setIfInBounds (7 + j) (.string ⟨#[]⟩) = kcS L m len (j + 1) := by
  have hi : j = 0 ∨ j = 1 := by omega
  unfold kcS
  rcases hi with rfl | rfl <;> simp [kb, h]
theorem kc_start (L : List SRow) (m : MV) (len : Nat) : kcN L m len 0 = #[.int .u8 (m.k : Int), .int .u64 (m.n0 : Int), .int .u64 (m.n1 : Int), .int .u64 (m.n2 : Int), .int .u64 (m.n3 : Int), .int .u64 (m.n4 : Int), .int .u64 (m.n5 : Int), .string m.s0, .string m.s1, .slice m.A len m.c] := by
  unfold kcN; simp [ka]
theorem kc_mid (L : List SRow) (m : MV) (len : Nat) : kcS L m len 0 = kcN L m len 6 := by
  unfold kcN kcS; simp [kb]
theorem kc_endT (L : List SRow) (m : MV) (h : mkL L = true) : kcS L m m.l.length 2 = mvA (keptM L m) := by
  unfold kcS mvA keptM; simp [h]
theorem kc_endF (L : List SRow) (m : MV) (h : mkL L = false) : (kcS L m m.l.length 2).setIfInBounds 9 (.slice none 0 0) = mvA (keptM L m) := by
  unfold kcS mvA keptM; simp [h]
theorem kcN_cell (L : List SRow) (m : MV) (len j i : Nat) (h : i < 10) : ∃ u, (kcN L m len j)[i]? = some u := by
  have hi : i = 0 ∨ i = 1 ∨ i = 2 ∨ i = 3 ∨ i = 4 ∨ i = 5 ∨ i = 6 ∨ i = 7 ∨ i = 8 ∨ i = 9 := by omega
  rcases hi with rfl | rfl | rfl | rfl | rfl | rfl | rfl | rfl | rfl | rfl <;> exact ⟨_, rfl⟩
theorem kcS_cell (L : List SRow) (m : MV) (len j i : Nat) (h : i < 10) : ∃ u, (kcS L m len j)[i]? = some u := by
  have hi : i = 0 ∨ i = 1 ∨ i = 2 ∨ i = 3 ∨ i = 4 ∨ i = 5 ∨ i = 6 ∨ i = 7 ∨ i = 8 ∨ i = 9 := by omega
  rcases hi with rfl | rfl | rfl | rfl | rfl | rfl | rfl | rfl | rfl | rfl <;> exact ⟨_, rfl⟩
set_option maxRecDepth 100000 in
set_option maxHeartbeats 4000000 in
theorem vkept_any (m : MV) (v : Int) (w : World) (hv1 : -9223372036854775808 ≤ v) (hv2 : v ≤ 9223372036854775807) : Calls Try.prog 35 #[mvV m, .int .i64 v] w fun e w' => e = .returned (mvV (keptM (ofL (m.k : Int) v) m)) ∧ Below w.heap.size w w' := by
  have hmk := fun W => vmarked_any (m.k : Int) v W hv1 hv2
  have hst := kc_start (ofL (m.k : Int) v) m m.l.length
  have hmid := kc_mid (ofL (m.k : Int) v) m m.l.length
  have hnk := kcN_keep (ofL (m.k : Int) v) m m.l.length
  have hnz := kcN_zero (ofL (m.k : Int) v) m m.l.length
  have hsk := kcS_keep (ofL (m.k : Int) v) m m.l.length
  have hsz := kcS_zero (ofL (m.k : Int) v) m m.l.length
  have heT := kc_endT (ofL (m.k : Int) v) m
  have heF := kc_endF (ofL (m.k : Int) v) m
  have hnc := kcN_cell (ofL (m.k : Int) v) m m.l.length
  have hsc := kcS_cell (ofL (m.k : Int) v) m m.l.length
  obtain ⟨a1, a2, a3, a4, a5, a6, t7, t8, ad9, ln9, cp9, hx⟩ : ∃ (a1 a2 a3 a4 a5 a6 : Nat) (t7 t8 : ByteArray) (ad9 : Option Addr) (ln9 cp9 : Nat), mvA (keptM (ofL (m.k : Int) v) m) = #[.int .u8 (m.k : Int), .int .u64 (a1 : Int), .int .u64 (a2 : Int), .int .u64 (a3 : Int), .int .u64 (a4 : Int), .int .u64 (a5 : Int), .int .u64 (a6 : Int), .string t7, .string t8, .slice ad9 ln9 cp9] := ⟨_, _, _, _, _, _, _, _, _, _, _, rfl⟩
  have hvx : mvV (keptM (ofL (m.k : Int) v) m) = .agg #[.int .u8 (m.k : Int), .int .u64 (a1 : Int), .int .u64 (a2 : Int), .int .u64 (a3 : Int), .int .u64 (a4 : Int), .int .u64 (a5 : Int), .int .u64 (a6 : Int), .string t7, .string t8, .slice ad9 ln9 cp9] := by unfold mvV; rw [hx]
  rw [hvx]
  rw [hx] at heT heF
  clear hvx hx
  generalize ofL (m.k : Int) v = L at *
  unfold mkA at hmk
  generalize kcN L m m.l.length = kn at *
  generalize kcS L m m.l.length = ks at *
  generalize hb0 : mkN L 0 = b0 at *
  generalize hb1 : mkN L 1 = b1 at *
  generalize hb2 : mkN L 2 = b2 at *
  generalize hb3 : mkN L 3 = b3 at *
  generalize hb4 : mkN L 4 = b4 at *
  generalize hb5 : mkN L 5 = b5 at *
  generalize hb6 : mkS L 0 = b6 at *
  generalize hb7 : mkS L 1 = b7 at *
  generalize hb8 : mkL L = b8 at *
  unfold mvV mvA
  generalize m.l.length = len at *

  have hi0 : ∀ W, (Instr.index 90 (.agg #[.bool b0, .bool b1, .bool b2, .bool b3, .bool b4, .bool b5]) (.int .i64 0)).run Try.prog W = .ok (.bool b0) W := fun W => by kernel_rfl
  have hi1 : ∀ W, (Instr.index 90 (.agg #[.bool b0, .bool b1, .bool b2, .bool b3, .bool b4, .bool b5]) (.int .i64 1)).run Try.prog W = .ok (.bool b1) W := fun W => by kernel_rfl
  have hi2 : ∀ W, (Instr.index 90 (.agg #[.bool b0, .bool b1, .bool b2, .bool b3, .bool b4, .bool b5]) (.int .i64 2)).run Try.prog W = .ok (.bool b2) W := fun W => by kernel_rfl
  have hi3 : ∀ W, (Instr.index 90 (.agg #[.bool b0, .bool b1, .bool b2, .bool b3, .bool b4, .bool b5]) (.int .i64 3)).run Try.prog W = .ok (.bool b3) W := fun W => by kernel_rfl
  have hi4 : ∀ W, (Instr.index 90 (.agg #[.bool b0, .bool b1, .bool b2, .bool b3, .bool b4, .bool b5]) (.int .i64 4)).run Try.prog W = .ok (.bool b4) W := fun W => by kernel_rfl
  have hi5 : ∀ W, (Instr.index 90 (.agg #[.bool b0, .bool b1, .bool b2, .bool b3, .bool b4, .bool b5]) (.int .i64 5)).run Try.prog W = .ok (.bool b5) W := fun W => by kernel_rfl
  have hi6 : ∀ W, (Instr.index 91 (.agg #[.bool b6, .bool b7]) (.int .i64 0)).run Try.prog W = .ok (.bool b6) W := fun W => by kernel_rfl
  have hi7 : ∀ W, (Instr.index 91 (.agg #[.bool b6, .bool b7]) (.int .i64 1)).run Try.prog W = .ok (.bool b7) W := fun W => by kernel_rfl
  have hk0 := hnk 0 (by omega)
  have hz0 := hnz 0 (by omega)
  rw [hb0] at hk0 hz0
  have hk1 := hnk 1 (by omega)
  have hz1 := hnz 1 (by omega)
  rw [hb1] at hk1 hz1
  have hk2 := hnk 2 (by omega)
  have hz2 := hnz 2 (by omega)
  rw [hb2] at hk2 hz2
  have hk3 := hnk 3 (by omega)
  have hz3 := hnz 3 (by omega)
  rw [hb3] at hk3 hz3
  have hk4 := hnk 4 (by omega)
  have hz4 := hnz 4 (by omega)
  rw [hb4] at hk4 hz4
  have hk5 := hnk 5 (by omega)
  have hz5 := hnz 5 (by omega)
  rw [hb5] at hk5 hz5
  have hk6 := hsk 0 (by omega)
  have hz6 := hsz 0 (by omega)
  rw [hb6] at hk6 hz6
  have hk7 := hsk 1 (by omega)
  have hz7 := hsz 1 (by omega)
  rw [hb7] at hk7 hz7
  have HK0 := hid hk0
  have HZ0 := hid hz0
  have HI0 := hid hi0
  have HK1 := hid hk1
  have HZ1 := hid hz1
  have HI1 := hid hi1
  have HK2 := hid hk2
  have HZ2 := hid hz2
  have HI2 := hid hi2
  have HK3 := hid hk3
  have HZ3 := hid hz3
  have HI3 := hid hi3
  have HK4 := hid hk4
  have HZ4 := hid hz4
  have HI4 := hid hi4
  have HK5 := hid hk5
  have HZ5 := hid hz5
  have HI5 := hid hi5
  have HK6 := hid hk6
  have HZ6 := hid hz6
  have HI6 := hid hi6
  have HK7 := hid hk7
  have HZ7 := hid hz7
  have HI7 := hid hi7
  clear hk0 hz0 hi0 hk1 hz1 hi1 hk2 hz2 hi2 hk3 hz3 hi3 hk4 hz4 hi4 hk5 hz5 hi5 hk6 hz6 hi6 hk7 hz7 hi7 hnk hnz hsk hsz hb0 hb1 hb2 hb3 hb4 hb5 hb6 hb7 hb8
  have HMK := hid hmk
  have HST := hid hst
  have HMID := hid hmid
  have HET := hid heT
  have HEF := hid heF
  have HNC := hid hnc
  have HSC := hid hsc
  clear hmk hst hmid heT heF hnc hsc
  obtain ⟨s, hws⟩ : ∃ s, w.heap.size = s := ⟨_, rfl⟩
  rw [hws]
  go_enter Try.func35, Try.ntmps35
  go_wp2_with fail
  have hb0 := bw_a (bw_a (Below.refl w.heap.size w) (.cells #[.int .u8 (m.k : Int), .int .u64 (m.n0 : Int), .int .u64 (m.n1 : Int), .int .u64 (m.n2 : Int), .int .u64 (m.n3 : Int), .int .u64 (m.n4 : Int), .int .u64 (m.n5 : Int), .string m.s0, .string m.s1, .slice m.A len m.c] 27)) (.cells #[.int .u8 0, .int .u64 0, .int .u64 0, .int .u64 0, .int .u64 0, .int .u64 0, .int .u64 0, .string ⟨#[]⟩, .string ⟨#[]⟩, .slice none 0 0] 27)
  have hp0 := (Blk.new w 27 #[.int .u8 (m.k : Int), .int .u64 (m.n0 : Int), .int .u64 (m.n1 : Int), .int .u64 (m.n2 : Int), .int .u64 (m.n3 : Int), .int .u64 (m.n4 : Int), .int .u64 (m.n5 : Int), .string m.s0, .string m.s1, .slice m.A len m.c]).alloc (.cells #[.int .u8 0, .int .u64 0, .int .u64 0, .int .u64 0, .int .u64 0, .int .u64 0, .int .u64 0, .string ⟨#[]⟩, .string ⟨#[]⟩, .slice none 0 0] 27)
  have hp1 := Blk.new (w.alloc (.cells #[.int .u8 (m.k : Int), .int .u64 (m.n0 : Int), .int .u64 (m.n1 : Int), .int .u64 (m.n2 : Int), .int .u64 (m.n3 : Int), .int .u64 (m.n4 : Int), .int .u64 (m.n5 : Int), .string m.s0, .string m.s1, .slice m.A len m.c] 27)) 27 #[.int .u8 0, .int .u64 0, .int .u64 0, .int .u64 0, .int .u64 0, .int .u64 0, .int .u64 0, .string ⟨#[]⟩, .string ⟨#[]⟩, .slice none 0 0]
  rw [World.size_alloc] at hp1
  have hwz : ((w.alloc (.cells #[.int .u8 (m.k : Int), .int .u64 (m.n0 : Int), .int .u64 (m.n1 : Int), .int .u64 (m.n2 : Int), .int .u64 (m.n3 : Int), .int .u64 (m.n4 : Int), .int .u64 (m.n5 : Int), .string m.s0, .string m.s1, .slice m.A len m.c] 27)).alloc (.cells #[.int .u8 0, .int .u64 0, .int .u64 0, .int .u64 0, .int .u64 0, .int .u64 0, .int .u64 0, .string ⟨#[]⟩, .string ⟨#[]⟩, .slice none 0 0] 27)).heap.size = s + 2 := by simp [hws]
  rw [hws] at hb0 hp0 hp1
  generalize (w.alloc _).alloc _ = W at *
  refine (HMK.out W).mono ?_
  rintro e w1 ⟨rfl, hb1⟩
  have hw1 : s + 2 ≤ w1.heap.size := by have := hb1.size; omega
  have hp0 := hp0.below hb1 (by omega)
  have hp1 := hp1.below hb1 (by omega)
  have hB1 := hb0.trans (hb1.mono (by omega))
  clear hb0 hb1 hwz HMK
  obtain ⟨q, hq⟩ : ∃ q, w1.heap.size = q := ⟨_, rfl⟩
  have hqq : s + 2 ≤ q := by omega
  have HP0 := hid hp0
  have HP1 := hid hp1
  have HB1 := hid hB1
  clear hp0 hp1 hB1
  go_wp2_with fail
  obtain ⟨W2, hW2⟩ : ∃ W2, w1.alloc (.cells #[.bool b0, .bool b1, .bool b2, .bool b3, .bool b4, .bool b5, .bool b6, .bool b7, .bool b8] 93) = W2 := ⟨_, rfl⟩
  have hq2 : Blk W2 q 93 #[.bool b0, .bool b1, .bool b2, .bool b3, .bool b4, .bool b5, .bool b6, .bool b7, .bool b8] := by rw [← hW2, ← hq]; exact Blk.new w1 _ _
  have hp0 : Blk W2 s 27 (kn 0) := by rw [HST.out, ← hW2]; exact HP0.out.alloc _
  have hp1 : Blk W2 (s + 1) 27 #[.int .u8 0, .int .u64 0, .int .u64 0, .int .u64 0, .int .u64 0, .int .u64 0, .int .u64 0, .string ⟨#[]⟩, .string ⟨#[]⟩, .slice none 0 0] := by rw [← hW2]; exact HP1.out.alloc _
  have hB2 : Below s w W2 := by rw [← hW2]; exact HB1.out.alloc (by omega) _
  rw [hW2]
  have hszq : s + 2 ≤ W2.heap.size := by have := hq2.lt; omega
  have HQ2 := hid hq2
  have HP0 := hid hp0
  have HP1 := hid hp1
  have HB2 := hid hB2
  clear hW2 hq2 hp0 hp1 hB2 hw1 HB1 hq
  go_loopw [16] (fun i wr => ∃ j : Nat, j ≤ 6 ∧ i = .int .i64 (j : Int) ∧ Blk wr s 27 (kn j) ∧ Chg (fun g => g = s) W2 wr) (fun i _ => 6 - (intOf i).toNat)
  case atStart => exact ⟨0, by omega, rfl, HP0.out, Chg.refl _ _⟩
  case round =>
    obtain ⟨j, hj, he, hk, hc⟩ := hrel
    have hj6 : j = 0 ∨ j = 1 ∨ j = 2 ∨ j = 3 ∨ j = 4 ∨ j = 5 ∨ j = 6 := by omega
    rcases hj6 with rfl | rfl | rfl | rfl | rfl | rfl | rfl
    · have he2 : _ = Value.int .i64 0 := he
      subst he2
      obtain ⟨u, hu⟩ := HNC.out 0 1 (by omega)
      have q0 := (hk.cell 1).trans hu
      have q1 := hk.frozen 1
      have hidx := HI0.out
      have HK := hid hk
      have HC := hid hc
      clear hk hc hu he
      cases b0 with
      | true =>
        go_wp2_with fail
        exact ⟨⟨1, by omega, rfl, by rw [HK0.out rfl]; exact HK.out, HC.out⟩, by simp [intOf]⟩
      | false =>
        go_wp2_with fail
        have hf := HK.out.set_ (1 + 0) (.int .u64 0)
        rw [HZ0.out rfl] at hf
        exact ⟨⟨1, by omega, rfl, hf, HC.out.set_ (.inl rfl) _ _⟩, by simp [intOf]⟩
    · have he2 : _ = Value.int .i64 1 := he
      subst he2
      obtain ⟨u, hu⟩ := HNC.out 1 2 (by omega)
      have q0 := (hk.cell 2).trans hu
      have q1 := hk.frozen 2
      have hidx := HI1.out
      have HK := hid hk
      have HC := hid hc
      clear hk hc hu he
      cases b1 with
      | true =>
        go_wp2_with fail
        exact ⟨⟨2, by omega, rfl, by rw [HK1.out rfl]; exact HK.out, HC.out⟩, by simp [intOf]⟩
      | false =>
        go_wp2_with fail
        have hf := HK.out.set_ (1 + 1) (.int .u64 0)
        rw [HZ1.out rfl] at hf
        exact ⟨⟨2, by omega, rfl, hf, HC.out.set_ (.inl rfl) _ _⟩, by simp [intOf]⟩
    · have he2 : _ = Value.int .i64 2 := he
      subst he2
      obtain ⟨u, hu⟩ := HNC.out 2 3 (by omega)
      have q0 := (hk.cell 3).trans hu
      have q1 := hk.frozen 3
      have hidx := HI2.out
      have HK := hid hk
      have HC := hid hc
      clear hk hc hu he
      cases b2 with
      | true =>
        go_wp2_with fail
        exact ⟨⟨3, by omega, rfl, by rw [HK2.out rfl]; exact HK.out, HC.out⟩, by simp [intOf]⟩
      | false =>
        go_wp2_with fail
        have hf := HK.out.set_ (1 + 2) (.int .u64 0)
        rw [HZ2.out rfl] at hf
        exact ⟨⟨3, by omega, rfl, hf, HC.out.set_ (.inl rfl) _ _⟩, by simp [intOf]⟩
    · have he2 : _ = Value.int .i64 3 := he
      subst he2
      obtain ⟨u, hu⟩ := HNC.out 3 4 (by omega)
      have q0 := (hk.cell 4).trans hu
      have q1 := hk.frozen 4
      have hidx := HI3.out
      have HK := hid hk
      have HC := hid hc
      clear hk hc hu he
      cases b3 with
      | true =>
        go_wp2_with fail
        exact ⟨⟨4, by omega, rfl, by rw [HK3.out rfl]; exact HK.out, HC.out⟩, by simp [intOf]⟩
      | false =>
        go_wp2_with fail
        have hf := HK.out.set_ (1 + 3) (.int .u64 0)
        rw [HZ3.out rfl] at hf
        exact ⟨⟨4, by omega, rfl, hf, HC.out.set_ (.inl rfl) _ _⟩, by simp [intOf]⟩
    · have he2 : _ = Value.int .i64 4 := he
      subst he2
      obtain ⟨u, hu⟩ := HNC.out 4 5 (by omega)
      have q0 := (hk.cell 5).trans hu
      have q1 := hk.frozen 5
      have hidx := HI4.out
      have HK := hid hk
      have HC := hid hc
      clear hk hc hu he
      cases b4 with
      | true =>
        go_wp2_with fail
        exact ⟨⟨5, by omega, rfl, by rw [HK4.out rfl]; exact HK.out, HC.out⟩, by simp [intOf]⟩
      | false =>
        go_wp2_with fail
        have hf := HK.out.set_ (1 + 4) (.int .u64 0)
        rw [HZ4.out rfl] at hf
        exact ⟨⟨5, by omega, rfl, hf, HC.out.set_ (.inl rfl) _ _⟩, by simp [intOf]⟩
    · have he2 : _ = Value.int .i64 5 := he
      subst he2
      obtain ⟨u, hu⟩ := HNC.out 5 6 (by omega)
      have q0 := (hk.cell 6).trans hu
      have q1 := hk.frozen 6
      have hidx := HI5.out
      have HK := hid hk
      have HC := hid hc
      clear hk hc hu he
      cases b5 with
      | true =>
        go_wp2_with fail
        exact ⟨⟨6, by omega, rfl, by rw [HK5.out rfl]; exact HK.out, HC.out⟩, by simp [intOf]⟩
      | false =>
        go_wp2_with fail
        have hf := HK.out.set_ (1 + 5) (.int .u64 0)
        rw [HZ5.out rfl] at hf
        exact ⟨⟨6, by omega, rfl, hf, HC.out.set_ (.inl rfl) _ _⟩, by simp [intOf]⟩
    · have he2 : _ = Value.int .i64 6 := he
      subst he2
      clear he
      rw [← HMID.out] at hk
      have hqr := hc.blk HQ2.out (by omega)
      have d6 := hqr.cell 6
      have d7 := hqr.cell 7
      have d8 := hqr.cell 8
      simp only [List.getElem?_toArray, List.getElem?_cons_zero, List.getElem?_cons_succ] at d6 d7 d8
      have HK := hid hk
      have HC := hid hc
      have HQR := hid hqr
      clear hk hc hqr
      generalize wr = W3 at *
      go_wp2_with fail
      clear d6 d7 d8
      go_loopw [28] (fun i wr => ∃ j : Nat, j ≤ 2 ∧ i = .int .i64 (j : Int) ∧ Blk wr s 27 (ks j) ∧ Chg (fun g => g = s) W3 wr) (fun i _ => 2 - (intOf i).toNat)
      case atStart => exact ⟨0, by omega, rfl, HK.out, Chg.refl _ _⟩
      case round =>
        obtain ⟨j, hj, he, hk, hc⟩ := hrel
        have hj6 : j = 0 ∨ j = 1 ∨ j = 2 := by omega
        rcases hj6 with rfl | rfl | rfl
        · have he2 : _ = Value.int .i64 0 := he
          subst he2
          obtain ⟨u, hu⟩ := HSC.out 0 7 (by omega)
          have q0 := (hk.cell 7).trans hu
          have q1 := hk.frozen 7
          have hidx := HI6.out
          have HK := hid hk
          have HC3 := hid hc
          clear hk hc hu he
          cases b6 with
          | true =>
            go_wp2_with fail
            exact ⟨⟨1, by omega, rfl, by rw [HK6.out rfl]; exact HK.out, HC3.out⟩, by simp [intOf]⟩
          | false =>
            go_wp2_with fail
            have hf := HK.out.set_ (7 + 0) (.string ⟨#[]⟩)
            rw [HZ6.out rfl] at hf
            exact ⟨⟨1, by omega, rfl, hf, HC3.out.set_ (.inl rfl) _ _⟩, by simp [intOf]⟩
        · have he2 : _ = Value.int .i64 1 := he
          subst he2
          obtain ⟨u, hu⟩ := HSC.out 1 8 (by omega)
          have q0 := (hk.cell 8).trans hu
          have q1 := hk.frozen 8
          have hidx := HI7.out
          have HK := hid hk
          have HC3 := hid hc
          clear hk hc hu he
          cases b7 with
          | true =>
            go_wp2_with fail
            exact ⟨⟨2, by omega, rfl, by rw [HK7.out rfl]; exact HK.out, HC3.out⟩, by simp [intOf]⟩
          | false =>
            go_wp2_with fail
            have hf := HK.out.set_ (7 + 1) (.string ⟨#[]⟩)
            rw [HZ7.out rfl] at hf
            exact ⟨⟨2, by omega, rfl, hf, HC3.out.set_ (.inl rfl) _ _⟩, by simp [intOf]⟩
        · have he2 : _ = Value.int .i64 2 := he
          subst he2
          clear he
          have hqr := hc.blk HQR.out (by omega)
          have d8 := hqr.cell 8
          simp only [List.getElem?_toArray, List.getElem?_cons_zero, List.getElem?_cons_succ] at d8
          have hp1r := hc.blk (HC.out.blk HP1.out (by omega)) (by omega)
          have hbr := HB2.out.trans ((HC.out.trans hc).below (B := s) (fun g hg => by omega) (by omega))
          have HP1R := hid hp1r
          have HBR := hid hbr
          have hqs := hqr.lt
          cases b8 with
          | true =>
            rw [HET.out rfl] at hk
            have c0 := hk.cell 0
            have c1 := hk.cell 1
            have c2 := hk.cell 2
            have c3 := hk.cell 3
            have c4 := hk.cell 4
            have c5 := hk.cell 5
            have c6 := hk.cell 6
            have c7 := hk.cell 7
            have c8 := hk.cell 8
            have c9 := hk.cell 9
            simp only [List.getElem?_toArray, List.getElem?_cons_zero, List.getElem?_cons_succ] at c0 c1 c2 c3 c4 c5 c6 c7 c8 c9
            have d0 := hp1r.cell 0
            have d1 := hp1r.cell 1
            have d2 := hp1r.cell 2
            have d3 := hp1r.cell 3
            have d4 := hp1r.cell 4
            have d5 := hp1r.cell 5
            have d6 := hp1r.cell 6
            have d7 := hp1r.cell 7
            have d8 := hp1r.cell 8
            have d9 := hp1r.cell 9
            simp only [List.getElem?_toArray, List.getElem?_cons_zero, List.getElem?_cons_succ] at d0 d1 d2 d3 d4 d5 d6 d7 d8 d9
            have g0 := hp1r.frozen 0
            have g1 := hp1r.frozen 1
            have g2 := hp1r.frozen 2
            have g3 := hp1r.frozen 3
            have g4 := hp1r.frozen 4
            have g5 := hp1r.frozen 5
            have g6 := hp1r.frozen 6
            have g7 := hp1r.frozen 7
            have g8 := hp1r.frozen 8
            have g9 := hp1r.frozen 9
            have hend := (mstore HP1R.out (.int .u8 (m.k : Int)) (.int .u64 (a1 : Int)) (.int .u64 (a2 : Int)) (.int .u64 (a3 : Int)) (.int .u64 (a4 : Int)) (.int .u64 (a5 : Int)) (.int .u64 (a6 : Int)) (.string t7) (.string t8) (.slice ad9 ln9 cp9))
            have HE := hid hend
            clear hend hk hc hqr hp1r hbr
            go_wp2_with fail
            have hB := HBR.out.trans (HE.out.2.below (B := s) (fun g hg => by omega) (by have := HP1R.out.lt; omega))
            have hbk := HE.out.1
            have r0 := hbk.cell 0
            have r1 := hbk.cell 1
            have r2 := hbk.cell 2
            have r3 := hbk.cell 3
            have r4 := hbk.cell 4
            have r5 := hbk.cell 5
            have r6 := hbk.cell 6
            have r7 := hbk.cell 7
            have r8 := hbk.cell 8
            have r9 := hbk.cell 9
            simp only [List.getElem?_toArray, List.getElem?_cons_zero, List.getElem?_cons_succ] at r0 r1 r2 r3 r4 r5 r6 r7 r8 r9
            clear HE hbk
            generalize World.setCell (World.setCell _ _ _) _ _ = W9 at *
            clear HNC HSC HI0 HI1 HI2 HI3 HI4 HI5 HI6 HI7 HK0 HK1 HK2 HK3 HK4 HK5 HK6 HK7 HZ0 HZ1 HZ2 HZ3 HZ4 HZ5 HZ6 HZ7
            refine bodyPost_ret (v := .agg #[.int .u8 (m.k : Int), .int .u64 (a1 : Int), .int .u64 (a2 : Int), .int .u64 (a3 : Int), .int .u64 (a4 : Int), .int .u64 (a5 : Int), .int .u64 (a6 : Int), .string t7, .string t8, .slice ad9 ln9 cp9]) (by simp [results, Try.results35, go_sem, r0, r1, r2, r3, r4, r5, r6, r7, r8, r9]) rfl ?_
            exact ⟨rfl, hB⟩
          | false =>
            obtain ⟨u9, hu9⟩ := HSC.out 2 9 (by omega)
            have c9 := (hk.cell 9).trans hu9
            have e9 := hk.frozen 9
            have hk9 := hk.set_ 9 (.slice none 0 0)
            rw [HEF.out rfl] at hk9
            have hp9 := HP1R.out.far (p := ⟨s, 9, none⟩) (by simp) (.slice none 0 0)
            have hc9 : Chg (fun g => g = s) wr (wr.setCell ⟨s, 9, none⟩ (.slice none 0 0)) := (Chg.refl (fun g => g = s) wr).set_ (.inl rfl) 9 _
            have hb9 := HBR.out.trans (hc9.below (B := s) (fun g hg => by omega) (by have := HP1R.out.lt; omega))
            have HK9 := hid hk9
            have HP9 := hid hp9
            have HB9 := hid hb9
            have hlk := hk.lt
            clear hk hc hqr hp1r hbr hc9 hb9 hu9

            have k0 := hk9.cell 0
            have k1 := hk9.cell 1
            have k2 := hk9.cell 2
            have k3 := hk9.cell 3
            have k4 := hk9.cell 4
            have k5 := hk9.cell 5
            have k6 := hk9.cell 6
            have k7 := hk9.cell 7
            have k8 := hk9.cell 8
            have k9 := hk9.cell 9
            simp only [List.getElem?_toArray, List.getElem?_cons_zero, List.getElem?_cons_succ] at k0 k1 k2 k3 k4 k5 k6 k7 k8 k9
            have d0 := hp9.cell 0
            have d1 := hp9.cell 1
            have d2 := hp9.cell 2
            have d3 := hp9.cell 3
            have d4 := hp9.cell 4
            have d5 := hp9.cell 5
            have d6 := hp9.cell 6
            have d7 := hp9.cell 7
            have d8 := hp9.cell 8
            have d9 := hp9.cell 9
            simp only [List.getElem?_toArray, List.getElem?_cons_zero, List.getElem?_cons_succ] at d0 d1 d2 d3 d4 d5 d6 d7 d8 d9
            have g0 := hp9.frozen 0
            have g1 := hp9.frozen 1
            have g2 := hp9.frozen 2
            have g3 := hp9.frozen 3
            have g4 := hp9.frozen 4
            have g5 := hp9.frozen 5
            have g6 := hp9.frozen 6
            have g7 := hp9.frozen 7
            have g8 := hp9.frozen 8
            have g9 := hp9.frozen 9
            have hend := (mstore HP9.out (.int .u8 (m.k : Int)) (.int .u64 (a1 : Int)) (.int .u64 (a2 : Int)) (.int .u64 (a3 : Int)) (.int .u64 (a4 : Int)) (.int .u64 (a5 : Int)) (.int .u64 (a6 : Int)) (.string t7) (.string t8) (.slice ad9 ln9 cp9))
            have hl9 := hp9.lt
            have HE := hid hend
            clear hend hk9 hp9
            go_wp2_with fail
            have hB := HB9.out.trans (HE.out.2.below (B := s) (fun g hg => by omega) (by omega))
            have hbk := HE.out.1
            have r0 := hbk.cell 0
            have r1 := hbk.cell 1
            have r2 := hbk.cell 2
            have r3 := hbk.cell 3
            have r4 := hbk.cell 4
            have r5 := hbk.cell 5
            have r6 := hbk.cell 6
            have r7 := hbk.cell 7
            have r8 := hbk.cell 8
            have r9 := hbk.cell 9
            simp only [List.getElem?_toArray, List.getElem?_cons_zero, List.getElem?_cons_succ] at r0 r1 r2 r3 r4 r5 r6 r7 r8 r9
            clear HE hbk
            generalize World.setCell (World.setCell _ _ _) _ _ = W9 at *
            refine bodyPost_ret (v := .agg #[.int .u8 (m.k : Int), .int .u64 (a1 : Int), .int .u64 (a2 : Int), .int .u64 (a3 : Int), .int .u64 (a4 : Int), .int .u64 (a5 : Int), .int .u64 (a6 : Int), .string t7, .string t8, .slice ad9 ln9 cp9]) (by simp [results, Try.results35, go_sem, r0, r1, r2, r3, r4, r5, r6, r7, r8, r9]) rfl ?_
            exact ⟨rfl, hB⟩
end Go.Proofs.Ytehjibbjkadoiaa
