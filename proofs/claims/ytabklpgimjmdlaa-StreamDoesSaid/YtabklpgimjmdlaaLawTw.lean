/- The walk of StreamTwice: a bit turned twice; copied and lost again. -/
import Derived.Test.YtabklpgimjmdlaaStmLive
import Derived.Test.YtabklpgimjmdlaaStmB
set_option linter.unusedVariables false
namespace Go.Proofs.Ytabklpgimjmdlaa
open Go.RowKit
theorem same_nm (xs ys : List UInt8) (n m : Nat) (A B : Option Addr) (c d : Nat) (w : World) (hn : xs.length = n) (hm : ys.length = m) (hl : n ≤ 9223372036854775807) (hA : BRd w A xs) (hB : BRd w B ys) :
    Calls Try.prog 21 #[.slice A n c, .slice B m d] w fun e w' => e = .returned (.bool (decide (xs = ys))) ∧ ∃ n, w' = w.drewN n := by
  subst hn; subst hm; exact same_any xs ys A B c d w hl hA hB
theorem flipB_two (x : UInt8) (t : Nat) (h : t < 8) : flipB (flipB x t) t = x := by
  have key : ∀ t : Fin 8, ∀ i : Fin 256, UInt8.ofNat ((UInt8.ofNat (i.val ^^^ 2 ^ t.val)).toNat ^^^ 2 ^ t.val) = UInt8.ofNat i.val := by decide +kernel
  have h1 := key ⟨t, h⟩ ⟨x.toNat, UInt8.toNat_lt x⟩
  unfold flipB
  rw [show UInt8.ofNat x.toNat = x from UInt8.ofNat_toNat] at h1
  exact h1
theorem flipL_len (bs : List UInt8) (p t : Nat) : (flipL bs p t).length = bs.length := by
  unfold flipL
  split <;> simp
theorem flipL_two (bs : List UInt8) (p t : Nat) (h : t < 8) : flipL (flipL bs p t) p t = bs := by
  unfold flipL
  by_cases hp : p < bs.length
  · simp [hp, flipB_two _ t h]
  · simp [hp]
/-- An edit's row of two. -/
theorem tw_flip (bs : List UInt8) (n : Nat) (A : Option Addr) (c : Nat) (at_ bit : Int) (W : World) (g : Nat) (hn : bs.length = n) (hl : n ≤ 1000) (h1 : -9223372036854775808 ≤ at_) (h2 : at_ ≤ 9223372036854775807) (h5 : -9223372036854775808 ≤ bit) (h6 : bit ≤ 9223372036854775807) (hs : Sl W A c (bs.map bv)) (hr : Rd W (some ⟨g, 0, none⟩) [.int .i64 1, .int .i64 at_, .int .i64 0, .int .i64 bit, .slice none 0 0, .int .i64 1, .int .i64 at_, .int .i64 0, .int .i64 bit, .slice none 0 0]) :
    Calls Try.prog 22 #[.slice A n c, .slice (some ⟨g, 0, none⟩) 2 2] W fun e w' => ∃ A2 c2, e = .returned (.slice A2 n c2) ∧ Sl w' A2 c2 (bs.map bv) ∧ Below W.heap.size W w' := by
  obtain ⟨p, hp⟩ : ∃ p : Nat, at_ % ((n : Int) + 1) = (p : Int) := ⟨_, (Int.toNat_of_nonneg (rest_in at_ ((n : Int) + 1) (by omega)).1).symm⟩
  obtain ⟨t, ht⟩ : ∃ t : Nat, bit % 8 = (t : Int) := ⟨_, (Int.toNat_of_nonneg (rest_in bit 8 (by omega)).1).symm⟩
  have ht8 : t < 8 := by omega
  refine (sdo_any [⟨1, at_, 0, bit, ⟨none, 0, []⟩⟩, ⟨1, at_, 0, bit, ⟨none, 0, []⟩⟩] 2 _ 2 bs n A c W rfl ⟨rfl, by omega, by omega, (fun h => by cases h), hr⟩ hn (by omega) hs (fun j => if j = 1 then flipL bs p t else bs) rfl ?_).mono ?_
  · intro j hj W1 A' n' c' hE hB
    have hn' : n' = n := by
      have h := hE.len
      by_cases h1 : j = 1
      all_goals simp only [h1, if_true, if_false] at h
      · rw [flipL_len] at h; omega
      · omega
    subst hn'
    have hj2 : j = 0 ∨ j = 1 := by simp at hj; omega
    have hd : ([⟨1, at_, 0, bit, ⟨none, 0, []⟩⟩, ⟨1, at_, 0, bit, ⟨none, 0, []⟩⟩] : List EdV)[j] = ⟨1, at_, 0, bit, ⟨none, 0, []⟩⟩ := by rcases hj2 with rfl | rfl <;> rfl
    rw [hd]
    refine (sedit_flip _ at_ 0 bit none 0 0 _ A' n' c' p 0 t W1 hE (by omega) h1 h2 (by omega) (by omega) h5 h6 hp (by rw [Int.zero_emod]; rfl) ht).mono ?_
    rintro e w' ⟨rfl, e1, e2⟩
    refine ⟨_, _, _, rfl, ?_, e2⟩
    rcases hj2 with rfl | rfl
    · simpa using e1
    · simpa [flipL_two bs p t ht8] using e1
  · rintro e w' ⟨A2, n2, c2, rfl, hE, hB⟩
    have hn2 : n2 = n := by have h := hE.len; simp at h; omega
    subst hn2
    exact ⟨_, _, rfl, by simpa using hE.sl, hB⟩
theorem tw_copy (bs : List UInt8) (n : Nat) (A : Option Addr) (c p k : Nat) (W : World) (g : Nat) (hn : bs.length = n) (hl : n ≤ 1000) (hpk : p + k ≤ n) (hs : Sl W A c (bs.map bv)) (hr : Rd W (some ⟨g, 0, none⟩) [.int .i64 3, .int .i64 (p : Int), .int .i64 (k : Int), .int .i64 0, .slice none 0 0, .int .i64 2, .int .i64 (p : Int), .int .i64 (k : Int), .int .i64 0, .slice none 0 0]) :
    Calls Try.prog 22 #[.slice A n c, .slice (some ⟨g, 0, none⟩) 2 2] W fun e w' => ∃ A2 c2, e = .returned (.slice A2 n c2) ∧ Sl w' A2 c2 (bs.map bv) ∧ Below W.heap.size W w' := by
  refine (sdo_any [⟨3, p, k, 0, ⟨none, 0, []⟩⟩, ⟨2, p, k, 0, ⟨none, 0, []⟩⟩] 2 _ 2 bs n A c W rfl ⟨rfl, by omega, by omega, (fun h => by cases h), hr⟩ hn (by omega) hs (fun j => if j = 1 then bs.take (p + k) ++ bs.drop p else bs) rfl ?_).mono ?_
  · intro j hj W1 A' n' c' hE hB
    have hA : A' = none ∨ ∃ ga oa, A' = some (⟨ga, oa, none⟩ : Addr) := hE.own.imp id fun ⟨g, cs, e, _⟩ => ⟨g, 0, e⟩
    have hsz := hB.size
    have hj2 : j = 0 ∨ j = 1 := by simp at hj; omega
    rcases hj2 with rfl | rfl
    · have hn' : n' = n := by have h := hE.len; simp at h; omega
      subst hn'
      refine (sedit_copy bs p k 0 none 0 0 A' n' c' p k (p + k) (p + k + (n' - p)) W1 hn (by omega) (by simpa using hE.sl) hA (by omega) (by omega) (by omega) (by omega) (Int.emod_eq_of_lt (by omega) (by omega)) (Int.emod_eq_of_lt (by omega) (by omega)) rfl hpk rfl (by omega)).mono ?_
      rintro e w' ⟨A2, c2, rfl, e1, e2⟩
      exact ⟨_, _, _, rfl, by simpa using e1.mono hsz, Chg.of_new e2⟩
    · have hlen : (bs.take (p + k) ++ bs.drop p).length = p + k + (n - p) := by rw [List.length_append, List.length_take, List.length_drop]; omega
      have hn' : n' = p + k + (n - p) := by have h := hE.len; simp only [if_pos] at h; omega
      subst hn'
      refine (sedit_lose (bs.take (p + k) ++ bs.drop p) p k 0 none 0 0 A' (p + k + (n - p)) c' p k (p + k) n W1 hlen (by omega) (by simpa using hE.sl) hA (by omega) (by omega) (by omega) (by omega) (Int.emod_eq_of_lt (by omega) (by omega)) (Int.emod_eq_of_lt (by omega) (by omega)) rfl (by omega) (by omega)).mono ?_
      rintro e w' ⟨A2, c2, rfl, e1, e2⟩
      have hbk : (bs.take (p + k) ++ bs.drop p).take p ++ (bs.take (p + k) ++ bs.drop p).drop (p + k) = bs := by
        rw [List.take_append_of_le_length (by rw [List.length_take]; omega), List.take_take, Nat.min_eq_left (by omega), List.drop_append_of_le_length (by rw [List.length_take]; omega), List.drop_eq_nil_of_le (by rw [List.length_take]; omega), List.nil_append, List.take_append_drop]
      rw [hbk] at e1
      exact ⟨_, _, _, rfl, by simpa using e1.mono hsz, Chg.of_new e2⟩
  · rintro e w' ⟨A2, n2, c2, rfl, hE, hB⟩
    have hn2 : n2 = n := by have h := hE.len; simp at h; omega
    subst hn2
    exact ⟨_, _, rfl, by simpa using hE.sl, hB⟩
set_option maxRecDepth 100000 in
set_option maxHeartbeats 4000000 in
theorem streamTwice_any (bs : List UInt8) (n : Nat) (A : Option Addr) (c : Nat) (at_ nn bit : Int) (w : World) (hn : bs.length = n) (hs : Sl w A c (bs.map bv)) (h1 : -9223372036854775808 ≤ at_ ∧ at_ ≤ 9223372036854775807) (h2 : -9223372036854775808 ≤ nn ∧ nn ≤ 9223372036854775807) (h3 : -9223372036854775808 ≤ bit ∧ bit ≤ 9223372036854775807) :
    Calls Try.prog 8 #[.slice A n c, .int .i64 at_, .int .i64 nn, .int .i64 bit] w fun e w' => e = .returned (.bool true) ∧ Below w.heap.size w w' := by
  have hcap := hs.cap
  have hsm := hs.small
  rw [List.length_map, hn] at hcap
  have HS := hid hs
  have HN := hid hn
  clear hs hn
  go_enter Try.func8, Try.ntmps8
  go_wp2_with fail
  refine (live16_any w).mono ?_
  rintro e w1 ⟨rfl, hb1⟩
  have HB1 := hid hb1
  clear hb1
  by_cases hbig : 1000 < n
  · have hbi : (1000 : Int) < (n : Int) := by omega
    go_wp2_with fail
    go_ret
    exact ⟨rfl, HB1.out⟩
  have hbi : ¬ (1000 : Int) < (n : Int) := by omega
  have hba := bw_a (bw_a (Below.refl _ w1) (.cells #[.int .i64 1, .int .i64 at_, .int .i64 0, .int .i64 bit, .slice none 0 0] 36)) (.cells #[.int .i64 1, .int .i64 at_, .int .i64 0, .int .i64 bit, .slice none 0 0, .int .i64 1, .int .i64 at_, .int .i64 0, .int .i64 bit, .slice none 0 0] 36)
  have hrd := Rd.new (w1.alloc (.cells #[.int .i64 1, .int .i64 at_, .int .i64 0, .int .i64 bit, .slice none 0 0] 36)) 36 #[.int .i64 1, .int .i64 at_, .int .i64 0, .int .i64 bit, .slice none 0 0, .int .i64 1, .int .i64 at_, .int .i64 0, .int .i64 bit, .slice none 0 0]
  rw [World.size_alloc] at hrd
  have hB2 := HB1.out.trans (hba.mono (by have := HB1.out.size; omega))
  have HDO := hid (tw_flip bs n A c at_ bit _ (w1.heap.size + 1) HN.out (by omega) h1.1 h1.2 h3.1 h3.2 (HS.out.below hB2) hrd)
  have HB2 := hid hB2
  clear hba hrd hB2
  go_wp2_with fail
  refine HDO.out.mono ?_
  rintro e w3 ⟨A3, c3, rfl, hs3, hb3⟩
  have HB3 := hid (HB2.out.trans (hb3.mono (by have := HB2.out.size; omega)))
  have HS3 := hid hs3
  clear hs3 hb3 HDO
  go_wp2_with fail
  refine (same_nm bs bs n n A3 A c3 c w3 HN.out HN.out (by omega) HS3.out.rd (HS.out.below HB3.out).rd).mono ?_
  rintro e w4 ⟨rfl, n4, rfl⟩
  simp only [decide_true]
  have HB4 := hid (bw_dqs HB3.out n4)
  generalize w3.drewN n4 = w4 at *
  by_cases c1 : at_ < 0
  · go_wp2_with fail
    go_ret
    exact ⟨rfl, HB4.out⟩
  have d1 : decide (at_ < 0) = false := by simpa using c1
  by_cases c2 : nn < 0
  · go_wp2_with fail
    go_ret
    exact ⟨rfl, HB4.out⟩
  by_cases c3 : (n : Int) < at_
  · go_wp2_with fail
    go_ret
    exact ⟨rfl, HB4.out⟩
  have e1 : IntKind.i64.wrap ((n : Int) - at_) = (n : Int) - at_ := IntWalk.i64_in _ (by omega)
  by_cases c4 : (n : Int) - at_ < nn
  · go_wp2_with fail
    go_ret
    exact ⟨rfl, HB4.out⟩
  obtain ⟨p, rfl⟩ : ∃ p : Nat, at_ = (p : Int) := ⟨at_.toNat, by omega⟩
  obtain ⟨k, rfl⟩ : ∃ k : Nat, nn = (k : Int) := ⟨nn.toNat, by omega⟩
  have hbx := bw_a (Below.refl _ w4) (.cells #[.int .i64 3, .int .i64 (p : Int), .int .i64 (k : Int), .int .i64 0, .slice none 0 0, .int .i64 2, .int .i64 (p : Int), .int .i64 (k : Int), .int .i64 0, .slice none 0 0] 36)
  have hrd := Rd.new w4 36 #[.int .i64 3, .int .i64 (p : Int), .int .i64 (k : Int), .int .i64 0, .slice none 0 0, .int .i64 2, .int .i64 (p : Int), .int .i64 (k : Int), .int .i64 0, .slice none 0 0]
  have hB5 := HB4.out.trans (hbx.mono (by have := HB4.out.size; omega))
  have HDO := hid (tw_copy bs n A c p k _ w4.heap.size HN.out (by omega) (by omega) (HS.out.below hB5) hrd)
  have HB5 := hid hB5
  clear hbx hrd hB5
  go_wp2_with fail
  refine HDO.out.mono ?_
  rintro e w6 ⟨A6, c6, rfl, hs6, hb6⟩
  have HB6 := hid (HB5.out.trans (hb6.mono (by have := HB5.out.size; omega)))
  have HS6 := hid hs6
  clear hs6 hb6 HDO
  go_wp2_with fail
  refine (same_nm bs bs n n A6 A c6 c w6 HN.out HN.out (by omega) HS6.out.rd (HS.out.below HB6.out).rd).mono ?_
  rintro e w7 ⟨rfl, n7, rfl⟩
  simp only [decide_true]
  have HB7 := hid (bw_dqs HB6.out n7)
  go_wp2_with fail
  go_ret
  exact ⟨rfl, HB7.out⟩
end Go.Proofs.Ytabklpgimjmdlaa
