/- The sum of 32 bits: steps by bits, by half bytes, by bytes; bits that are turned. -/
import Derived.WalkKit
set_option linter.unusedVariables false
namespace Go.Proofs.Ytgiealcfhlcpoaa.C
/-- One step by a bit 0. -/
def st0 (s : Nat) : Nat := if s % 2 = 1 then s / 2 ^^^ 3988292384 else s / 2
/-- One step by a bit. -/
def stp (s : Nat) (b : Bool) : Nat := st0 (s ^^^ b.toNat)
def it : Nat → Nat → Nat
  | 0, s => s
  | k + 1, s => st0 (it k s)
def L32 : Nat := 4294967296
theorem xor_mod2 (a b : Nat) : (a ^^^ b) % 2 = (a % 2 + b % 2) % 2 := by
  have h := Nat.xor_mod_two_pow (a := a) (b := b) (n := 1)
  simp only [Nat.pow_one] at h
  rw [h]
  rcases Nat.mod_two_eq_zero_or_one a with ha | ha <;> rcases Nat.mod_two_eq_zero_or_one b with hb | hb <;> rw [ha, hb] <;> rfl
theorem xor_div2 (a b : Nat) : (a ^^^ b) / 2 = a / 2 ^^^ b / 2 := by
  have h := Nat.shiftRight_xor_distrib (a := a) (b := b) (i := 1)
  simpa [Nat.shiftRight_eq_div_pow] using h
theorem st0_xor (a b : Nat) : st0 (a ^^^ b) = st0 a ^^^ st0 b := by
  unfold st0
  rw [xor_mod2, xor_div2]
  rcases Nat.mod_two_eq_zero_or_one a with ha | ha <;> rcases Nat.mod_two_eq_zero_or_one b with hb | hb <;> rw [ha, hb]
  · simp
  · simp [Nat.xor_assoc]
  · simp only [Nat.zero_ne_one, if_true, if_false, Nat.reduceAdd, Nat.reduceMod]
    rw [Nat.xor_assoc, Nat.xor_assoc, Nat.xor_comm 3988292384]
  · simp only [Nat.zero_ne_one, if_true, if_false, Nat.reduceAdd, Nat.reduceMod]
    rw [Nat.xor_assoc, Nat.xor_comm (b / 2) 3988292384, ← Nat.xor_assoc 3988292384, Nat.xor_self, Nat.zero_xor]
theorem it_xor (k a b : Nat) : it k (a ^^^ b) = it k a ^^^ it k b := by
  induction k with
  | zero => rfl
  | succ k ih => rw [it, it, it, ih, st0_xor]
theorem it_add (j k s : Nat) : it (j + k) s = it j (it k s) := by
  induction j with
  | zero => rw [Nat.zero_add]; rfl
  | succ j ih => rw [show j + 1 + k = (j + k) + 1 from by omega, it, it, ih]
theorem st0_lt {s : Nat} (h : s < 4294967296) : st0 s < 4294967296 := by
  unfold st0
  split
  · exact Nat.xor_lt_two_pow (n := 32) (by omega) (by omega)
  · omega
theorem it_lt {s : Nat} (h : s < 4294967296) (k : Nat) : it k s < 4294967296 := by
  induction k with
  | zero => exact h
  | succ k ih => exact st0_lt ih
theorem st0_ne {s : Nat} (h : s < 4294967296) (h0 : s ≠ 0) : st0 s ≠ 0 := by
  unfold st0
  split
  · intro e
    have h1 : s / 2 = 3988292384 := by
      have h2 : s / 2 ^^^ 3988292384 ^^^ 3988292384 = 3988292384 := by rw [e, Nat.zero_xor]
      rwa [Nat.xor_assoc, Nat.xor_self, Nat.xor_zero] at h2
    omega
  · omega
theorem it_ne {s : Nat} (h : s < 4294967296) (h0 : s ≠ 0) (k : Nat) : it k s ≠ 0 := by
  induction k with
  | zero => exact h0
  | succ k ih => exact st0_ne (it_lt h k) ih
theorem st0_two (c : Nat) : st0 (2 * c) = c := by
  unfold st0
  rw [if_neg (by omega)]; omega
theorem it_pow (k c : Nat) : it k (2 ^ k * c) = c := by
  induction k generalizing c with
  | zero => simp [it]
  | succ k ih =>
    rw [it, show 2 ^ (k + 1) * c = 2 ^ k * (2 * c) from by rw [Nat.pow_succ, Nat.mul_assoc], ih, st0_two]
theorem it_zero (k : Nat) : it k 0 = 0 := by
  have := it_pow k 0
  simpa using this
/-- The low bits of a number, one more. -/
theorem mod_succ (x k : Nat) : x % 2 ^ (k + 1) = x % 2 ^ k ^^^ 2 ^ k * (x / 2 ^ k % 2) := by
  apply Nat.eq_of_testBit_eq
  intro i
  rw [Nat.testBit_xor, Nat.testBit_mod_two_pow, Nat.testBit_mod_two_pow]
  rw [Nat.testBit_two_pow_mul]
  by_cases h1 : i < k
  · simp [h1, show i < k + 1 from by omega, show ¬ k ≤ i from by omega]
  · by_cases h2 : i = k
    · subst h2
      simp [Nat.testBit, Nat.shiftRight_eq_div_pow]
    · simp [h1, show ¬ i < k + 1 from by omega, show k ≤ i from by omega]
      have : x / 2 ^ k % 2 < 2 ^ (i - k) := by
        have : 2 ^ 1 ≤ 2 ^ (i - k) := Nat.pow_le_pow_right (by omega) (by omega)
        omega
      exact Nat.testBit_lt_two_pow this
/-- k steps by the low bits of x. -/
theorem stp_bits (s x k : Nat) : stp (it k (s ^^^ x % 2 ^ k)) (decide (x / 2 ^ k % 2 = 1)) = it (k + 1) (s ^^^ x % 2 ^ (k + 1)) := by
  have hb : (decide (x / 2 ^ k % 2 = 1)).toNat = x / 2 ^ k % 2 := by
    rcases Nat.mod_two_eq_zero_or_one (x / 2 ^ k) with h | h <;> simp [h]
  unfold stp
  rw [hb, mod_succ, ← Nat.xor_assoc, it, it_xor k (s ^^^ x % 2 ^ k), it_pow]
theorem split16 (s : Nat) : s = s % 16 ^^^ 2 ^ 4 * (s / 16) := by
  apply Nat.eq_of_testBit_eq
  intro i
  rw [Nat.testBit_xor, show (16 : Nat) = 2 ^ 4 from rfl, Nat.testBit_mod_two_pow, Nat.testBit_two_pow_mul]
  by_cases h : i < 4
  · simp [h, show ¬ 4 ≤ i from by omega]
  · have h2 := Nat.testBit_div_two_pow (x := s) (n := 4) (i := i - 4)
    rw [show 2 ^ 4 = 16 from rfl, show i - 4 + 4 = i from by omega] at h2
    simp [h, show 4 ≤ i from by omega, h2]
theorem it4 (s : Nat) : it 4 s = s / 16 ^^^ it 4 (s % 16) := by
  calc it 4 s = it 4 (s % 16 ^^^ 2 ^ 4 * (s / 16)) := by rw [← split16]
    _ = _ := by rw [it_xor, it_pow, Nat.xor_comm]
/-- A byte. -/
def bst (s x : Nat) : Nat := it 8 (s ^^^ x)
def feed (s : Nat) (bs : List UInt8) : Nat := bs.foldl (fun s x => it 8 (s ^^^ x.toNat)) s
theorem feed_nil (s : Nat) : feed s [] = s := rfl
theorem feed_snoc (s : Nat) (bs : List UInt8) (x : UInt8) : feed s (bs ++ [x]) = it 8 (feed s bs ^^^ x.toNat) := by simp [feed]
theorem feed_app (s : Nat) (a b : List UInt8) : feed s (a ++ b) = feed (feed s a) b := by simp [feed]
theorem feed_lt {s : Nat} (h : s < 4294967296) (bs : List UInt8) : feed s bs < 4294967296 := by
  induction bs generalizing s with
  | nil => exact h
  | cons x r ih =>
    refine ih (it_lt (Nat.xor_lt_two_pow (n := 32) h ?_) 8)
    have := x.toNat_lt
    omega
/-- Another beginning. -/
theorem feed_xor (d s : Nat) (bs : List UInt8) : feed (s ^^^ d) bs = feed s bs ^^^ it (8 * bs.length) d := by
  induction bs generalizing s d with
  | nil => rfl
  | cons x r ih =>
    show feed (it 8 (s ^^^ d ^^^ x.toNat)) r = feed (it 8 (s ^^^ x.toNat)) r ^^^ _
    rw [show s ^^^ d ^^^ x.toNat = (s ^^^ x.toNat) ^^^ d from by rw [Nat.xor_assoc, Nat.xor_comm d, ← Nat.xor_assoc], it_xor 8 _ d, ih]
    rw [← it_add, List.length_cons, show 8 * r.length + 8 = 8 * (r.length + 1) from by omega]
/-- The sum. -/
def sum (bs : List UInt8) : Nat := 4294967295 ^^^ feed 4294967295 bs
theorem sum_lt (bs : List UInt8) : sum bs < 4294967296 := Nat.xor_lt_two_pow (n := 32) (by omega) (feed_lt (by omega) bs)
theorem not_not (s : Nat) : 4294967295 ^^^ (4294967295 ^^^ s) = s := by rw [← Nat.xor_assoc, Nat.xor_self, Nat.zero_xor]
/-- Four bytes of a number. -/
def le4 (v : Nat) : List UInt8 := [UInt8.ofNat (v % 256), UInt8.ofNat (v / 256 % 256), UInt8.ofNat (v / 65536 % 256), UInt8.ofNat (v / 16777216 % 256)]
theorem byte_split (v : Nat) : v = v % 256 ^^^ 2 ^ 8 * (v / 256) := by
  apply Nat.eq_of_testBit_eq
  intro i
  rw [Nat.testBit_xor, show (256 : Nat) = 2 ^ 8 from rfl, Nat.testBit_mod_two_pow, Nat.testBit_two_pow_mul]
  by_cases h : i < 8
  · simp [h, show ¬ 8 ≤ i from by omega]
  · have h2 := Nat.testBit_div_two_pow (x := v) (n := 8) (i := i - 8)
    rw [show 2 ^ 8 = 256 from rfl, show i - 8 + 8 = i from by omega] at h2
    simp [h, show 8 ≤ i from by omega, h2]
theorem byte_in (s v k : Nat) : it 8 (it k (s ^^^ v % 2 ^ k) ^^^ v / 2 ^ k % 256) = it (k + 8) (s ^^^ v % 2 ^ (k + 8)) := by
  have h : v % 2 ^ (k + 8) = v % 2 ^ k ^^^ 2 ^ k * (v / 2 ^ k % 256) := by
    apply Nat.eq_of_testBit_eq
    intro i
    rw [Nat.testBit_xor, Nat.testBit_mod_two_pow, Nat.testBit_mod_two_pow, Nat.testBit_two_pow_mul, show (256 : Nat) = 2 ^ 8 from rfl, Nat.testBit_mod_two_pow, Nat.testBit_div_two_pow]
    by_cases h1 : i < k
    · simp [h1, show i < k + 8 from by omega, show ¬ k ≤ i from by omega]
    · by_cases h2 : i < k + 8
      · simp [h1, h2, show k ≤ i from by omega, show i - k < 8 from by omega, show i - k + k = i from by omega]
      · simp [h1, h2, show k ≤ i from by omega, show ¬ i - k < 8 from by omega]
  rw [h, ← Nat.xor_assoc, show k + 8 = 8 + k from by omega, it_add 8 k, it_xor k (s ^^^ v % 2 ^ k), it_pow]
theorem feed_le4 (s v : Nat) (hv : v < 4294967296) : feed s (le4 v) = it 32 (s ^^^ v) := by
  have h8 : ∀ n, (UInt8.ofNat (n % 256)).toNat = n % 256 := fun n => by rw [UInt8.toNat_ofNat']; omega
  simp only [feed, le4, List.foldl, h8]
  have e0 := byte_in s v 0
  have e1 := byte_in s v 8
  have e2 := byte_in s v 16
  have e3 := byte_in s v 24
  simp only [Nat.pow_zero, Nat.mod_one, Nat.xor_zero, Nat.div_one, it, Nat.zero_add] at e0
  simp only [Nat.reducePow, Nat.reduceAdd] at e0 e1 e2 e3
  have e0' : it 8 (s ^^^ v % 256) = it 8 (s ^^^ v % 256) := rfl
  rw [e1, e2, e3, Nat.mod_eq_of_lt hv]
theorem le4_length (v : Nat) : (le4 v).length = 4 := rfl
/-- Sealed bytes leave what they always leave. -/
theorem feed_sealed (inner : List UInt8) : feed 4294967295 (inner ++ le4 (sum inner)) = it 32 4294967295 := by
  rw [feed_app, feed_le4 _ _ (sum_lt inner)]
  congr 1
  unfold sum
  rw [Nat.xor_comm 4294967295, ← Nat.xor_assoc, Nat.xor_self, Nat.zero_xor]
/-- A bit that is turned. -/
def flip1 (bs : List UInt8) (k : Nat) : List UInt8 := bs.set (k / 8) (UInt8.ofNat ((bs.getD (k / 8) 0).toNat ^^^ 2 ^ (k % 8)))
theorem flip1_length (bs : List UInt8) (k : Nat) : (flip1 bs k).length = bs.length := by simp [flip1]
theorem feed_flip (s : Nat) (bs : List UInt8) (k : Nat) (hk : k < 8 * bs.length) : feed s (flip1 bs k) = feed s bs ^^^ it (8 * bs.length - k) 1 := by
  have hj : k / 8 < bs.length := by omega
  have hsp : bs = bs.take (k / 8) ++ bs[k / 8] :: bs.drop (k / 8 + 1) := by rw [← List.drop_eq_getElem_cons hj, List.take_append_drop]
  have hset : flip1 bs k = bs.take (k / 8) ++ UInt8.ofNat ((bs.getD (k / 8) 0).toNat ^^^ 2 ^ (k % 8)) :: bs.drop (k / 8 + 1) := by
    unfold flip1; rw [List.set_eq_take_append_cons_drop, if_pos hj]
  have hg : bs.getD (k / 8) 0 = bs[k / 8] := by simp [List.getD, hj]
  have hx : (UInt8.ofNat (bs[k / 8].toNat ^^^ 2 ^ (k % 8))).toNat = bs[k / 8].toNat ^^^ 2 ^ (k % 8) := by
    rw [UInt8.toNat_ofNat']
    apply Nat.mod_eq_of_lt
    refine Nat.xor_lt_two_pow (n := 8) bs[k / 8].toNat_lt ?_
    exact Nat.pow_lt_pow_right (by omega) (by omega)
  rw [hset, hg]
  conv => rhs; rw [hsp]
  rw [feed_app, feed_app]
  generalize feed s (bs.take (k / 8)) = s1
  show feed (it 8 (s1 ^^^ (UInt8.ofNat _).toNat)) _ = feed (it 8 (s1 ^^^ bs[k / 8].toNat)) _ ^^^ _
  rw [hx, ← Nat.xor_assoc, it_xor 8 _ (2 ^ (k % 8)), feed_xor, ← it_add]
  congr 1
  have hm : 2 ^ (k % 8) = 2 ^ (k % 8) * 1 := by omega
  rw [hm, show 8 * (bs.drop (k / 8 + 1)).length + 8 = (8 * bs.length - k) + k % 8 from by rw [List.length_drop]; omega, it_add, it_pow]
  rw [← hsp]
/-- Bits from a place on that are turned. -/
def burst (bs : List UInt8) (a : Nat) (bits : Nat) : Nat → List UInt8
  | 0 => bs
  | i + 1 => if bits / 2 ^ i % 2 = 1 then flip1 (burst bs a bits i) (a + i) else burst bs a bits i
theorem burst_length (bs : List UInt8) (a bits i : Nat) : (burst bs a bits i).length = bs.length := by
  induction i with
  | zero => rfl
  | succ i ih => unfold burst; split <;> simp [flip1_length, ih]
theorem feed_burst (s : Nat) (bs : List UInt8) (a bits i : Nat) (h : a + i ≤ 8 * bs.length) : feed s (burst bs a bits i) = feed s bs ^^^ it (8 * bs.length - a) (bits % 2 ^ i) := by
  induction i with
  | zero => simp [burst, Nat.mod_one, it_zero]
  | succ i ih =>
    rw [mod_succ]
    unfold burst
    split
    · rename_i hb
      rw [feed_flip _ _ _ (by rw [burst_length]; omega), ih (by omega), burst_length, hb, it_xor, ← Nat.xor_assoc]
      congr 1
      rw [show 8 * bs.length - a = (8 * bs.length - (a + i)) + i from by omega, it_add, it_pow]
    · rename_i hb
      rw [ih (by omega), show bits / 2 ^ i % 2 = 0 from by omega]
      simp
/-- Whose four bytes behind are not the sum of what is ahead. -/
theorem burst_sum (inner : List UInt8) (a bits : Nat) (hb : bits ≠ 0) (hb2 : bits < 4294967296) (h : a + 32 ≤ 8 * (inner.length + 4)) (pre : List UInt8) (v : Nat) (hv : v < 4294967296)
    (he : burst (inner ++ le4 (sum inner)) a bits 32 = pre ++ le4 v) : v ≠ sum pre := by
  rintro rfl
  have h1 := feed_burst 4294967295 (inner ++ le4 (sum inner)) a bits 32 (by simpa [le4_length] using h)
  rw [he, feed_sealed, feed_sealed] at h1
  have h2 := it_ne (s := bits % 2 ^ 32) (by omega) (by omega) (8 * (inner ++ le4 (sum inner)).length - a)
  apply h2
  have h3 : it 32 4294967295 ^^^ it 32 4294967295 = it 32 4294967295 ^^^ (it 32 4294967295 ^^^ it (8 * (inner ++ le4 (sum inner)).length - a) (bits % 2 ^ 32)) := by rw [← h1]
  rw [Nat.xor_self, ← Nat.xor_assoc, Nat.xor_self, Nat.zero_xor] at h3
  exact h3.symm
/-- Any four bytes are a number's. -/
theorem le4_of (t : List UInt8) (h : t.length = 4) : ∃ v, v < 4294967296 ∧ t = le4 v := by
  match t, h with
  | [a, b, c, d], _ =>
    have ha := a.toNat_lt
    have hb := b.toNat_lt
    have hc := c.toNat_lt
    have hd := d.toNat_lt
    refine ⟨a.toNat + 256 * b.toNat + 65536 * c.toNat + 16777216 * d.toNat, by omega, ?_⟩
    unfold le4
    rw [show (a.toNat + 256 * b.toNat + 65536 * c.toNat + 16777216 * d.toNat) % 256 = a.toNat from by omega,
      show (a.toNat + 256 * b.toNat + 65536 * c.toNat + 16777216 * d.toNat) / 256 % 256 = b.toNat from by omega,
      show (a.toNat + 256 * b.toNat + 65536 * c.toNat + 16777216 * d.toNat) / 65536 % 256 = c.toNat from by omega,
      show (a.toNat + 256 * b.toNat + 65536 * c.toNat + 16777216 * d.toNat) / 16777216 % 256 = d.toNat from by omega]
    simp
end Go.Proofs.Ytgiealcfhlcpoaa.C
