/- The document's frames: Put, Same, Read. -/
import Derived.Test.YtgiealcfhlcpoaaFrRead
import Derived.Test.YtgiealcfhlcpoaaM5
set_option linter.unusedVariables false
namespace Go.Proofs.Ytgiealcfhlcpoaa
open Go.RowKit
theorem rseal_sl (bs : List UInt8) (n m : Nat) (A : Option Addr) (c : Nat) (w : World) (hn : bs.length = n) (hm : n + 4 = m) (hl : n ≤ 1000000) (hS : Sl w A c (bs.map bv)) :
    Calls Try.prog 16 #[.slice A n c] w fun e w' => ∃ A' c', e = .returned (.slice A' m c') ∧ Sl w' A' c' ((C.sealB bs).map bv) ∧ Below w.heap.size w w' := by
  subst hm
  refine (rseal_any bs n A c w hn hl hS).mono ?_
  rintro e w' ⟨v, rfl, ho, hb⟩
  obtain ⟨A', c', rfl, -, hs⟩ := Sl.of_own ho
  exact ⟨A', c', rfl, hs, hb⟩
set_option maxRecDepth 100000 in
set_option maxHeartbeats 2000000 in
theorem rfput_any (t : UInt8) (bs : List UInt8) (n : Nat) (A : Option Addr) (c : Nat) (w : World) (hn : bs.length = n) (hl : n ≤ 10000) (hS : Sl w A c (bs.map bv)) :
    Calls Try.prog 7 #[.agg #[.int .u8 (t.toNat : Int), .slice A n c]] w fun e w' => ∃ v, e = .returned v ∧ w'.ownsRow w.heap.size 5 1 v (n + 9) ((Fr.put t bs).map bv) ∧ Below w.heap.size w w' := by
  have ht := t.toNat_lt
  have hin : Fr.inner t bs = [t, b8 (n % 256), b8 (n / 256)] ++ bs := by unfold Fr.inner; rw [hn]; rfl
  have hput : Fr.put t bs = [197, 154] ++ C.sealB (Fr.inner t bs) := rfl
  have hil := Fr.inner_len t bs
  rw [hn] at hil
  have hsl := C.sealB_len (Fr.inner t bs)
  rw [hil] at hsl
  have hj1 := fun W B hB hC => rjoin2_any [t, b8 (n % 256), b8 (n / 256)] bs 3 n B A 3 c W rfl hn (by omega) hB hC
  have hj2 := fun W B D d hB hC => rjoin2_own [197, 154] (C.sealB (Fr.inner t bs)) 2 (n + 7) B D 2 d W rfl (by omega) (by omega) hB hC
  have hseal := fun W D d => rseal_sl (Fr.inner t bs) (n + 3) (n + 7) D d W hil (by omega) (by omega)
  rw [← hin] at hj1
  rw [← hput] at hj2
  have hlit : #[Value.int .u8 (t.toNat : Int), .int .u8 ((n : Int) % 256), .int .u8 ((n : Int) / 256)].toList = [t, b8 (n % 256), b8 (n / 256)].map bv := by
    simp only [List.map_cons, List.map_nil]
    rw [bv_b8 _ (by omega), bv_b8 _ (by omega)]
    rfl
  generalize C.sealB (Fr.inner t bs) = sb at *
  generalize Fr.inner t bs = ib at *
  generalize Fr.put t bs = pb at *
  generalize t.toNat = tn at *
  have HJ1 := hid hj1
  have HJ2 := hid hj2
  have HSE := hid hseal
  have HS := hid hS
  have HL := hid hlit
  clear hj1 hj2 hseal hS hin hput hil hsl hn hlit
  have k1 := (lit_sl (w.alloc (.cells #[.int .u8 (tn : Int), .slice A n c] 29)) 5 [t, b8 (n % 256), b8 (n / 256)] #[.int .u8 (tn : Int), .int .u8 ((n : Int) % 256), .int .u8 ((n : Int) / 256)] 3 rfl (by omega) HL.out)
  rw [World.size_alloc] at k1
  have b1 := bw_a (bw_a (bw_a (Below.refl _ w) (.cells #[.int .u8 (tn : Int), .slice A n c] 29)) (.cells #[.int .u8 (tn : Int), .int .u8 ((n : Int) % 256), .int .u8 ((n : Int) / 256)] 5)) (.cells #[.int .u8 197, .int .u8 154] 5)
  have hk2 := lit_sl ((w.alloc (.cells #[.int .u8 (tn : Int), .slice A n c] 29)).alloc (.cells #[.int .u8 (tn : Int), .int .u8 ((n : Int) % 256), .int .u8 ((n : Int) / 256)] 5)) 5 [197, 154] #[.int .u8 197, .int .u8 154] 2 rfl (by omega) rfl
  rw [World.size_alloc, World.size_alloc] at hk2
  have hk1 := k1.below (bw_a (Below.refl _ _) (.cells #[.int .u8 197, .int .u8 154] 5))
  have HK1 := hid hk1
  have HK2 := hid hk2
  have HB1 := hid b1
  clear k1 hk1 hk2 b1
  go_enter Try.func7, Try.ntmps7
  go_wp2_with fail
  refine (HJ1.out _ _ HK1.out (HS.out.below HB1.out)).mono ?_
  rintro e w1 ⟨A1, c1, rfl, hs1, -, hb1⟩
  rw [show 3 + n = n + 3 from by omega]
  go_wp2_with fail
  refine (HSE.out _ _ _ hs1).mono ?_
  rintro e w2 ⟨A2, c2, rfl, hs2, hb2⟩
  go_wp2_with fail
  refine (HJ2.out _ _ _ _ ((HK2.out.below hb1).below hb2) hs2).mono ?_
  rintro e w3 ⟨v3, rfl, ho3, hb3⟩
  have B2 := bw_t (bw_t HB1.out hb1) hb2
  rw [show 2 + (n + 7) = n + 9 from by omega] at ho3
  have HO := hid (own_mono ho3 B2.size)
  have HB3 := hid (bw_t B2 hb3)
  clear ho3 B2 hb3 hb1 hb2 hs1 hs2
  go_wp2_with fail
  go_ret
  exact ⟨_, rfl, HO.out, HB3.out⟩
set_option maxRecDepth 100000 in
set_option maxHeartbeats 2000000 in
theorem rfsame_any (a b : UInt8) (xs ys : List UInt8) (n m : Nat) (A B : Option Addr) (c d : Nat) (w : World) (hn : xs.length = n) (hm : ys.length = m) (hl : n ≤ 9223372036854775807) (hA : Sl w A c (xs.map bv)) (hB : Sl w B d (ys.map bv)) :
    Calls Try.prog 10 #[.agg #[.int .u8 (a.toNat : Int), .slice A n c], .agg #[.int .u8 (b.toNat : Int), .slice B m d]] w fun e w' => e = .returned (.bool (decide (a = b ∧ xs = ys))) ∧ Below w.heap.size w w' := by
  have heq := fun W (hW : Below w.heap.size w W) => same_at xs ys n m A B c d W hn hm hl (hA.below hW).rd (hB.below hW).rd
  have hab : (a = b) ↔ ((a.toNat : Int) = (b.toNat : Int)) := by rw [← UInt8.toNat_inj]; omega
  have hD : decide (a = b ∧ xs = ys) = (decide ((a.toNat : Int) = (b.toNat : Int)) && decide (xs = ys)) := by
    rw [Bool.eq_iff_iff]; simp only [decide_eq_true_eq, Bool.and_eq_true, hab]
  rw [hD]
  generalize decide (xs = ys) = z at *
  have HEQ := hid heq
  clear heq hab hD hn hm hA hB
  generalize (a.toNat : Int) = x at *
  generalize (b.toNat : Int) = y at *
  have hb2 := bw_a (bw_a (Below.refl _ w) (.cells #[.int .u8 x, .slice A n c] 29)) (.cells #[.int .u8 y, .slice B m d] 29)
  by_cases he : x = y
  · subst he
    go_enter Try.func10, Try.ntmps10
    go_wp2_with fail
    refine (HEQ.out _ hb2).mono ?_
    rintro e w' ⟨rfl, k, rfl⟩
    go_wp2_with fail
    go_ret
    exact ⟨by simp, bw_d hb2 k⟩
  · have hb : (x == y) = false := by simpa using he
    have hb' : decide (x = y) = false := by simpa using he
    rw [hb']
    clear he hb'
    go_enter Try.func10, Try.ntmps10
    go_wp2_with fail
    go_ret
    exact ⟨by simp, hb2⟩
end Go.Proofs.Ytgiealcfhlcpoaa
