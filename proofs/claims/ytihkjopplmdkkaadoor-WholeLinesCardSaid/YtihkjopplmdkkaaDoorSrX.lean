/- The document's Read (layer 18), of any bytes: a walk. -/
import Derived.Test.YtihkjopplmdkkaaDoorSrW
set_option linter.unusedVariables false
namespace Go.Proofs.YtihkjopplmdkkaaDoor
open Go.RowKit
theorem str_nil_mk : (⟨([] : List UInt8).toArray⟩ : ByteArray) = ⟨#[]⟩ := rfl
set_option maxRecDepth 100000 in
set_option maxHeartbeats 2000000 in
theorem rRead_any (s : ByteArray) (bs : List UInt8) (w : World) (hs : s.data.toList = bs) (hl : bs.length ≤ 10000) :
    Calls Tryd.prog 22 #[.string s] w fun e w' => ∃ t : ByteArray, e = .returned (.tuple #[.string t, .int .i64 (rdE bs)]) ∧ t.data.toList = rdT bs ∧ Below w.heap.size w w' := by
  have hE : rdE bs = match rdO bs with | none => 3 | some t => checkI t.length (scan t 0).2 4096 := rfl
  have hT : rdT bs = match rdO bs with | none => [] | some t => if checkI t.length (scan t 0).2 4096 = 0 then t else [] := rfl
  have hO : rdO bs = if plB bs = true then some bs else unQ bs := rfl
  have HP := hid fun w => rPlain_any s bs w hs (by omega)
  by_cases hp : plB bs = true
  · rw [if_pos hp] at hO
    rw [hO] at hE hT
    simp only at hE hT
    rw [plB_scan hp] at hE hT
    have hck : checkI bs.length none 4096 = if 4096 < bs.length then 2 else 0 := by
      unfold checkI; by_cases h : (4096 : Int) < bs.length
      · rw [if_pos h, if_pos (by omega)]
      · rw [if_neg h]; exact (if_neg (by omega)).symm
    rw [hck] at hE hT
    rw [hp] at HP
    have hsz : s.size = bs.length := by rw [Lib.size_eq, hs]
    have HS := hid hs
    clear hs hO hck hp
    generalize rdE bs = E at *
    generalize rdT bs = T at *
    generalize hn : bs.length = n at *
    by_cases h : 4096 < n
    · rw [if_pos h] at hE
      rw [if_pos h, if_neg (by omega)] at hT
      subst hE hT
      go_enter Tryd.func22, Tryd.ntmps22
      go_wp2_with (go_at_call 26; refine (HP.out _).mono ?_; rintro e w1 ⟨rfl, rfl⟩)
      go_ret2
      exact ⟨⟨#[]⟩, rfl, rfl, Below.refl _ _⟩
    · rw [if_neg h] at hE
      rw [if_neg h, if_pos rfl] at hT
      have HT := hid hT
      subst hE
      clear hT
      go_enter Tryd.func22, Tryd.ntmps22
      go_wp2_with (go_at_call 26; refine (HP.out _).mono ?_; rintro e w1 ⟨rfl, rfl⟩)
      go_ret2
      exact ⟨s, rfl, by rw [HS.out, HT.out], Below.refl _ _⟩
  · have hp' : plB bs = false := by simpa using hp
    rw [if_neg hp] at hO
    have hbad : unQ bs = none → (∀ w, Calls Tryd.prog 24 #[.string s] w fun e w' => e = .returned (.tuple #[.int .i64 (cutN bs : Nat), .int .i64 (cutE (cutN bs))]) ∧ w = w') → (cutN bs ≠ bs.length ∨ bs.head? ≠ some 34) →
        Calls Tryd.prog 22 #[.string s] w fun e w' => ∃ t : ByteArray, e = .returned (.tuple #[.string t, .int .i64 (rdE bs)]) ∧ t.data.toList = rdT bs ∧ Below w.heap.size w w' := by
      intro hu hcall hway
      rw [hO, hu] at hE hT
      simp only at hE hT
      have HC := hid hcall
      rw [hp'] at HP
      have hcl := cutN_le bs
      have hsz : s.size = bs.length := by rw [Lib.size_eq, hs]
      generalize rdE bs = E at *
      generalize rdT bs = T at *
      subst hE
      have HT := hid hT
      clear hT hcall hO hu hp hp'
      by_cases h0 : cutN bs = 0
      · rw [h0] at HC
        clear hway hcl
        generalize bs.length = n at *
        go_enter Tryd.func22, Tryd.ntmps22
        go_wp2_with (first | (go_at_call 26; refine (HP.out _).mono ?_; rintro e w1 ⟨rfl, rfl⟩) | (go_at_call 24; refine (HC.out _).mono ?_; rintro e w1 ⟨rfl, rfl⟩; rw [show cutE 0 = 3 from rfl]))
        go_ret2
        exact ⟨⟨#[]⟩, rfl, HT.out.symm, Below.refl _ _⟩
      · rw [show cutE (cutN bs) = 0 from by rw [cutE, if_neg h0]] at HC
        by_cases hne : cutN bs = bs.length
        · have hh : bs.head? ≠ some 34 := by rcases hway with h | h; exact absurd hne h; exact h
          obtain ⟨c, r, rfl⟩ : ∃ c r, bs = c :: r := by cases bs with | nil => exact absurd hne (by simp [cutN] at h0) | cons c r => exact ⟨c, r, rfl⟩
          obtain ⟨hi, hg⟩ := str_at (k := 0) hs rfl
          have hc : c.toNat ≠ 34 := by intro h; apply hh; simp; rw [← b8_self c, h]; rfl
          have hcx := c.toNat_lt
          rw [hne] at HC
          have hl1 : 0 < (c :: r).length := by simp
          clear hs hne hway hcl h0 hh
          generalize (c :: r).length = n at *
          generalize c.toNat = x at *
          have q : ((x : Int) == 34) = false := by simp; omega
          have q' : ((x : Int) != 34) = true := by simp; omega
          go_enter Tryd.func22, Tryd.ntmps22
          go_wp2_with (first | (go_at_call 26; refine (HP.out _).mono ?_; rintro e w1 ⟨rfl, rfl⟩) | (go_at_call 24; refine (HC.out _).mono ?_; rintro e w1 ⟨rfl, rfl⟩))
          go_ret2
          exact ⟨⟨#[]⟩, rfl, HT.out.symm, Below.refl _ _⟩
        · clear hway hs
          generalize bs.length = n at *
          generalize cutN bs = m at *
          have q : ((m : Int) == (n : Int)) = false := by simp; omega
          have q' : ((m : Int) != (n : Int)) = true := by simp; omega
          go_enter Tryd.func22, Tryd.ntmps22
          go_wp2_with (first | (go_at_call 26; refine (HP.out _).mono ?_; rintro e w1 ⟨rfl, rfl⟩) | (go_at_call 24; refine (HC.out _).mono ?_; rintro e w1 ⟨rfl, rfl⟩))
          go_ret2
          exact ⟨⟨#[]⟩, rfl, HT.out.symm, Below.refl _ _⟩
    have hcall : ∀ w, Calls Tryd.prog 24 #[.string s] w fun e w' => e = .returned (.tuple #[.int .i64 (cutN bs : Nat), .int .i64 (cutE (cutN bs))]) ∧ w = w' := fun w => rCut_any s bs w hs (by omega)
    by_cases hh : bs.head? = some 34
    · by_cases hc : cutN bs = bs.length
      · obtain ⟨r, rfl⟩ : ∃ r, bs = 34 :: r := by
          cases bs with
          | nil => simp at hh
          | cons c r => simp at hh; exact ⟨r, by rw [hh]⟩
        have hc' : clF false 0 r = (34 :: r).length := by rw [cutN, if_pos (by decide)] at hc; exact hc
        obtain ⟨a, rfl, hu⟩ := unQ_cut (c := 34) (by decide) hc'
        have hal : (34 :: (a ++ [34])).length = a.length + 2 := by simp
        rw [hal] at hc' hl
        refine (rReadQ_any s a w hs (by omega) hc' hp').mono fun e w' ⟨hr, hb⟩ => ?_
        rw [hO, hu] at hE hT
        unfold rdR at hr
        cases hf : unF a with
        | none =>
          rw [hf] at hr hE hT
          simp only at hr hE hT
          exact ⟨⟨#[]⟩, by rw [hE]; exact hr, by rw [hT], hb⟩
        | some t =>
          rw [hf] at hr hE hT
          simp only at hr hE hT
          exact ⟨_, by rw [hE]; exact hr, by rw [hT], hb⟩
      · exact hbad ((unQ_none1 hc).resolve_right fun h => h hh) hcall (.inl hc)
    · exact hbad (unQ_none2 hh) hcall (.inr hh)
end Go.Proofs.YtihkjopplmdkkaaDoor
