/- frame.Size, join, Put, measure, Read, Same. -/
import Derived.Test.YtgiealcfhlcpoaaFrMath
import Derived.Laws.BitsAllLaws
set_option linter.unusedVariables false
namespace Go.Proofs.Ytgiealcfhlcpoaa
open Go.RowKit
def Fr.size (n : Int) : Int := if n < 0 ∨ 8192 < n then 0 else n + 9
theorem fsize_any (n : Int) (w : World) (h1 : -9223372036854775808 ≤ n) (h2 : n ≤ 9223372036854775807) :
    Calls Try.prog 39 #[.int .i64 n] w fun e w' => e = .returned (.int .i64 (Fr.size n)) ∧ w = w' := by
  unfold Fr.size
  by_cases ha : n < 0
  · rw [if_pos (.inl ha)]
    go_enter Try.func39, Try.ntmps39
    go_wp2_with fail
    go_ret
    exact ⟨rfl, rfl⟩
  by_cases hb : 8192 < n
  · rw [if_pos (.inr hb)]
    go_enter Try.func39, Try.ntmps39
    go_wp2_with fail
    go_ret
    exact ⟨rfl, rfl⟩
  · rw [if_neg (by omega)]
    go_enter Try.func39, Try.ntmps39
    go_wp2_with fail
    go_ret
    exact ⟨ret_int (by omega), rfl⟩
theorem i64_or_256 (a b : Nat) (ha : a < 256) (hb : b < 256) : bits .or .i64 (a : Int) ((b : Int) * 256) = ((a + 256 * b : Nat) : Int) := by
  have e : ((b : Int) * 256) = ((256 * b : Nat) : Int) := by omega
  rw [e]
  have ho : a ||| 256 * b = a + 256 * b := by
    rw [Nat.or_comm, nat_join 8 (256 * b) a (by omega) (by omega)]; omega
  show IntKind.i64.wrap ((BitVec.ofInt 64 (a : Int) ||| BitVec.ofInt 64 ((256 * b : Nat) : Int)).toNat : Int) = _
  rw [BitVec.toNat_or, ofInt_u64 a (by omega), ofInt_u64 (256 * b) (by omega), ho, IntWalk.i64_in _ (by omega)]
def Fr.js (xa bs : List UInt8) (k : Nat) : List UInt8 := if k = 0 then [] else if k = 1 then xa else xa ++ bs
set_option maxRecDepth 100000 in
set_option maxHeartbeats 2000000 in
theorem fjoin_any (xa bs : List UInt8) (n m : Nat) (A B : Option Addr) (c d q : Nat) (w : World) (hn : xa.length = n) (hm : bs.length = m) (hl : n + m ≤ 1000000) (hA : Sl w A c (xa.map bv)) (hB : Sl w B d (bs.map bv))
    (hq : Blk w q 25 #[.slice A n c, .slice B m d]) :
    Calls Try.prog 30 #[.slice (some ⟨q, 0, none⟩) 2 2] w fun e w' => ∃ v, e = .returned v ∧ w'.ownsRow w.heap.size 5 1 v (n + m) ((xa ++ bs).map bv) ∧ Below w.heap.size w w' := by
  obtain ⟨i0, hi, hz0, hz1, hz2⟩ := info_parts Try.info5
  have hql := hq.lt
  have HN := hid hn
  have HM := hid hm
  have HA := hid hA
  have HB := hid hB
  have HQ := hid hq
  clear hn hm hA hB hq
  go_enter Try.func30, Try.ntmps30
  go_wp2_with fail
  go_loopw [3, 5, 8] (fun v _ i wr => ∃ (t : Nat) (xs : List UInt8), wr.ownsRow w.heap.size 5 1 v t (xs.map bv) ∧ Below w.heap.size w wr ∧ ((i = .int .i64 0 ∧ t = 0 ∧ xs = []) ∨ (i = .int .i64 1 ∧ t = n ∧ xs = xa) ∨ (i = .int .i64 2 ∧ t = n + m ∧ xs = xa ++ bs))) (fun _ _ i _ => 2 - (intOf i).toNat)
  case atStart => exact ⟨0, [], World.ownsRow_nil _ _ _ _, Below.refl _ _, .inl ⟨rfl, rfl, rfl⟩⟩
  case round =>
    obtain ⟨t, xs, ho, hbe, hk⟩ := hrel
    have hqr := HQ.out.below hbe hql
    have hsA := HA.out.below hbe
    have hsB := HB.out.below hbe
    have c0 := hqr.cell 0
    have c1 := hqr.cell 1
    simp only [List.getElem?_toArray, List.getElem?_cons_zero, List.getElem?_cons_succ] at c0 c1
    have hsz := hbe.size
    have HO := hid ho
    have HBE := hid hbe
    have HSA := hid hsA
    have HSB := hid hsB
    clear ho hbe hsA hsB hqr
    rcases hk with ⟨rfl, rfl, rfl⟩ | ⟨rfl, rfl, rfl⟩ | ⟨rfl, rfl, rfl⟩
    · go_wp2_with (at_builtin; refine wpList_append_rd rfl (.tmp 12) (.tmp 13) 25 rfl w.heap.size 5 i0 (.int .u8 0) 1 1 Try.underlying25 hi hz0 hz1 hz2 rfl (by decide) _ _ _ rfl HO.out A n c (xa.map bv) rfl (by rw [List.length_map, HN.out, Nat.mul_one]) HSA.out.rd HSA.out.nil0 (bv_one _) (by simp only [maxLen]; omega) (by omega) hsz ?_; intro v1 w1 hown1 hgrow1; have HO1 := hid hown1; have HB1 := hid (bw_g HBE.out hgrow1 (fun k ek => (HO.out.lt k ek).1)); clear hown1 hgrow1)
      go_roundw
      case rel => exact ⟨n, xa, by have := HO1.out; simpa using this, HB1.out, .inr (.inl ⟨rfl, rfl, rfl⟩)⟩
      case measure => simp [intOf]
    · go_wp2_with (at_builtin; refine wpList_append_rd rfl (.tmp 12) (.tmp 13) 25 rfl w.heap.size 5 i0 (.int .u8 0) 1 1 Try.underlying25 hi hz0 hz1 hz2 rfl (by decide) _ _ _ rfl HO.out B m d (bs.map bv) rfl (by rw [List.length_map, HM.out, Nat.mul_one]) HSB.out.rd HSB.out.nil0 (bv_one _) (by simp only [maxLen]; omega) (by omega) hsz ?_; intro v1 w1 hown1 hgrow1; have HO1 := hid hown1; have HB1 := hid (bw_g HBE.out hgrow1 (fun k ek => (HO.out.lt k ek).1)); clear hown1 hgrow1)
      go_roundw
      case rel => exact ⟨_, _, by have := HO1.out; rw [← List.map_append] at this; exact this, HB1.out, .inr (.inr ⟨rfl, rfl, rfl⟩)⟩
      case measure => simp [intOf]
    · go_wp2_with fail
      go_ret
      exact ⟨_, rfl, HO.out, HBE.out⟩
set_option maxRecDepth 100000 in
set_option maxHeartbeats 2000000 in
theorem fput_long (t : Nat) (n : Nat) (A : Option Addr) (c : Nat) (w : World) (hl : 8192 < n) (h2 : n ≤ 9223372036854775807) :
    Calls Try.prog 22 #[.agg #[.int .u8 (t : Int), .slice A n c]] w fun e w' => e = .returned (.tuple #[.slice none 0 0, .int .i64 2]) ∧ Below w.heap.size w w' := by
  go_enter Try.func22, Try.ntmps22
  go_wp2_with fail
  go_ret2
  exact ⟨rfl, bw_a (Below.refl _ _) _⟩
set_option maxRecDepth 100000 in
set_option maxHeartbeats 2000000 in
theorem fput_any (t : UInt8) (bs : List UInt8) (n : Nat) (A : Option Addr) (c : Nat) (w : World) (hn : bs.length = n) (hl : n ≤ 8192) (hS : Sl w A c (bs.map bv)) :
    Calls Try.prog 22 #[.agg #[.int .u8 (t.toNat : Int), .slice A n c]] w fun e w' => ∃ v, e = .returned (.tuple #[v, .int .i64 0]) ∧ w'.ownsRow w.heap.size 5 1 v (n + 9) ((Fr.put t bs).map bv) ∧ Below w.heap.size w w' := by
  have ht := t.toNat_lt
  have hin : Fr.inner t bs = [t, b8 (n % 256), b8 (n / 256)] ++ bs := by unfold Fr.inner; rw [hn]; rfl
  have hput : Fr.put t bs = [197, 154] ++ C.sealB (Fr.inner t bs) := rfl
  have hil := Fr.inner_len t bs
  rw [hn] at hil
  have hsl := C.sealB_len (Fr.inner t bs)
  rw [hil] at hsl
  have hj1 := fun W B q hB hq => fjoin_any [t, b8 (n % 256), b8 (n / 256)] bs 3 n (some ⟨B, 0, none⟩) A 3 c q W rfl hn (by omega) hB hq
  have hj2 := fun W B D d q hB hq => fjoin_any [197, 154] (C.sealB (Fr.inner t bs)) 2 (n + 7) (some ⟨B, 0, none⟩) D 2 d q W rfl (by omega) (by omega) hB hq
  have hseal := fun W D d => cseal_sl (Fr.inner t bs) (n + 3) (n + 7) D d W hil (by omega) (by omega)
  rw [← hin] at hj1
  rw [← hput] at hj2
  have hlit : #[Value.int .u8 (t.toNat : Int), .int .u8 ((n : Int) % 256), .int .u8 ((n : Int) / 256)].toList = [t, b8 (n % 256), b8 (n / 256)].map bv := by
    simp only [List.map_cons, List.map_nil]
    rw [bv_b8 _ (by omega), bv_b8 _ (by omega)]
    rfl
  generalize C.sealB (Fr.inner t bs) = sb at *
  generalize Fr.inner t bs = ib at *
  generalize Fr.put t bs = pb at *
  generalize t.toNat = tn at *
  have HJ1 := hid hj1
  have HJ2 := hid hj2
  have HSE := hid hseal
  have HS := hid hS
  have HL := hid hlit
  clear hj1 hj2 hseal hS hin hput hil hsl hn hlit
  go_enter Try.func22, Try.ntmps22
  go_wp2_with fail
  have k1 := (lit_sl (w.alloc (.cells #[.int .u8 (tn : Int), .slice A n c] 29)) 5 [t, b8 (n % 256), b8 (n / 256)] #[.int .u8 (tn : Int), .int .u8 ((n : Int) % 256), .int .u8 ((n : Int) / 256)] 3 rfl (by omega) HL.out)
  have k2 := Blk.new ((w.alloc (.cells #[.int .u8 (tn : Int), .slice A n c] 29)).alloc (.cells #[.int .u8 (tn : Int), .int .u8 ((n : Int) % 256), .int .u8 ((n : Int) / 256)] 5)) 25 #[.slice (some ⟨w.heap.size + 1, 0, none⟩) 3 3, .slice A n c]
  rw [World.size_alloc] at k1 k2
  rw [World.size_alloc] at k2
  have b1 := bw_a (bw_a (bw_a (Below.refl _ w) (.cells #[.int .u8 (tn : Int), .slice A n c] 29)) (.cells #[.int .u8 (tn : Int), .int .u8 ((n : Int) % 256), .int .u8 ((n : Int) / 256)] 5)) (.cells #[.slice (some ⟨w.heap.size + 1, 0, none⟩) 3 3, .slice A n c] 25)
  refine (HJ1.out _ _ _ (k1.below (bw_a (Below.refl _ _) _)) (HS.out.below b1) k2).mono ?_
  rintro e w1 ⟨v1, rfl, ho1, hb1⟩
  obtain ⟨A1, c1, rfl, -, hs1⟩ := Sl.of_own ho1
  have B1 := bw_t b1 hb1
  have e33 : 3 + n = n + 3 := by omega
  rw [e33]
  clear k1 k2 b1 ho1 hb1 e33
  go_wp2_with fail
  refine (HSE.out _ _ _ (hs1.below (bw_a (Below.refl _ _) _))).mono ?_
  rintro e w2 ⟨A2, c2, rfl, hs2, hb2⟩
  have k1 := (lit_sl w1 5 [197, 154] #[.int .u8 197, .int .u8 154] 2 rfl (by omega) rfl).below hb2
  have hl1 : w1.heap.size < w2.heap.size := by have := hb2.size; rw [World.size_alloc] at this; omega
  have B2 := bw_t (bw_a B1 _) hb2
  clear hs1 B1 hb2
  go_wp2_with fail
  refine (HJ2.out _ _ _ _ _ (k1.below (bw_a (Below.refl _ _) _)) (hs2.below (bw_a (Below.refl _ _) _)) (Blk.new _ _ _)).mono ?_
  rintro e w3 ⟨v3, rfl, ho3, hb3⟩
  have e9 : 2 + (n + 7) = n + 9 := by omega
  rw [e9] at ho3
  have hsz := B2.size
  have ho4 := own_mono ho3 (show w.heap.size ≤ _ from by rw [World.size_alloc]; omega)
  have B3 := bw_t (bw_a B2 _) hb3
  have HO := hid ho4
  clear k1 hs2 ho3 ho4 e9 hb3 B2
  go_wp2_with fail
  go_ret2
  exact ⟨_, rfl, HO.out, B3⟩
end Go.Proofs.Ytgiealcfhlcpoaa
