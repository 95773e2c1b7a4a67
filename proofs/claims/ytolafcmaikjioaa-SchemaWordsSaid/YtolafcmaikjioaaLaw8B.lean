/- The walk of SchemaWords. -/
import Derived.Test.YtolafcmaikjioaaLive8
set_option linter.unusedVariables false
namespace Go.Proofs.Ytolafcmaikjioaa
open Go.RowKit
def WORDS : Array Value := #[.string ⟨#[104, 101, 108, 108, 111]⟩, .string ⟨#[97, 99, 107]⟩, .string ⟨#[115, 117, 98, 109, 105, 116]⟩, .string ⟨#[115, 116, 97, 114, 116]⟩, .string ⟨#[99, 111, 109, 109, 97, 110, 100]⟩, .string ⟨#[114, 101, 112, 108, 121]⟩, .string ⟨#[99, 97, 110, 99, 101, 108]⟩, .string ⟨#[113, 117, 101, 114, 121]⟩, .string ⟨#[115, 116, 97, 116, 117, 115]⟩, .string ⟨#[101, 114, 114, 111, 114]⟩]
theorem words_at (i : Nat) (h : i < 10) : WORDS[i]? = some (.string (wordA (i + 1))) := by
  have hi : i = 0 ∨ i = 1 ∨ i = 2 ∨ i = 3 ∨ i = 4 ∨ i = 5 ∨ i = 6 ∨ i = 7 ∨ i = 8 ∨ i = 9 := by omega
  rcases hi with rfl | rfl | rfl | rfl | rfl | rfl | rfl | rfl | rfl | rfl <;> rfl
set_option maxRecDepth 100000 in
set_option maxHeartbeats 4000000 in
theorem rwords_any (w : World) : Calls Try.prog 32 #[] w fun e w' => e = .returned (.agg WORDS) ∧ Below w.heap.size w w' := by
  obtain ⟨R, hR⟩ : ∃ R : Ending → World → Prop, R = fun e w' => e = .returned (.agg WORDS) ∧ Below w.heap.size w w' := ⟨_, rfl⟩
  rw [← hR]
  have HR := hid hR
  clear hR
  go_enter Try.func32, Try.ntmps32
  go_wp2
  refine bodyPost_ret (v := .agg WORDS) (by simp [results, Try.results32, go_sem, WORDS]) rfl ?_
  rw [HR.out]
  exact ⟨rfl, bw_a (Below.refl _ w) _⟩
set_option maxRecDepth 100000 in
set_option maxHeartbeats 8000000 in
theorem schWords_any (k : Nat) (hk : k ≤ 255) (b : ByteArray) (w : World) : Calls Try.prog 9 #[.int .u8 (k : Nat), .string b] w fun e w' => e = .returned (.bool true) ∧ Below w.heap.size w w' := by
  have HL := hid (live8_any w)
  by_cases hbig : 100 < b.size
  · have hb2 : (100 : Int) < (b.size : Int) := by omega
    go_enter Try.func9, Try.ntmps9
    go_wp2_with fail
    refine HL.out.mono ?_
    rintro e w1 ⟨rfl, hb1⟩
    go_wp2_with fail
    go_ret
    exact ⟨rfl, hb1⟩
  have hb2 : ¬ (100 : Int) < (b.size : Int) := by omega
  obtain ⟨t0, t1, t2, t3, t4, t5, t6, t7, t8, t9, hT⟩ : ∃ t0 t1 t2 t3 t4 t5 t6 t7 t8 t9 : ByteArray, WORDS = #[.string t0, .string t1, .string t2, .string t3, .string t4, .string t5, .string t6, .string t7, .string t8, .string t9] := ⟨_, _, _, _, _, _, _, _, _, _, rfl⟩
  have hws := fun W => rwords_any W
  have hat := words_at
  rw [hT] at hws hat
  have HWS := hid hws
  have HAT := hid hat
  clear hws hat hT
  have HWD := hid (fun W => sword_any k hk W)
  have hkd := fun W => skind_any b W
  have hsome := fun (j : Nat) (hj : j < 10) => kindN_some b (j + 1) (by omega) (by omega)
  have hnone := kindN_none b
  generalize kindN b = K at *
  have HKD := hid hkd
  have HSOME := hid hsome
  have HNONE := hid hnone
  clear hkd hsome hnone
  generalize hq : wordA k = q at *
  have HQ := hid hq
  clear hq
  by_cases hr : 1 ≤ k ∧ k ≤ 10
  · obtain ⟨i, rfl⟩ : ∃ i, k = i + 1 := ⟨k - 1, by omega⟩
    have hi : i < 10 := by omega
    go_enter Try.func9, Try.ntmps9
    go_wp2_with fail
    refine HL.out.mono ?_
    rintro e w1 ⟨rfl, hb1⟩
    go_wp2_with fail
    refine (HWS.out _).mono ?_
    rintro e w2 ⟨rfl, hb2'⟩
    have hk2 := Blk.new w2 52 #[.string t0, .string t1, .string t2, .string t3, .string t4, .string t5, .string t6, .string t7, .string t8, .string t9]
    have b3 := bw_a (bw_t hb1 hb2') (.cells #[.string t0, .string t1, .string t2, .string t3, .string t4, .string t5, .string t6, .string t7, .string t8, .string t9] 52)
    have hc := (hk2.cell i).trans (HAT.out i hi)
    rw [HQ.out] at hc
    have hwd : ∀ W, Calls Try.prog 33 #[.int .u8 ((i : Int) + 1)] W fun e w' => e = .returned (.string q) ∧ Below W.heap.size W w' := HWD.out
    go_wp2_with fail
    refine (hwd _).mono ?_
    rintro e w3 ⟨rfl, hb3⟩
    have hl2 := hk2.lt
    have hk3 := hk2.below hb3 hl2
    have b4 := bw_t b3 hb3
    go_wp2_with fail
    refine (HKD.out _).mono ?_
    rintro e w4 ⟨rfl, hb4⟩
    have hk4 := hk3.below hb4 hk3.lt
    have b5 := bw_t b4 hb4
    clear hk2 hk3 b3 b4 hb3 hb4
    obtain ⟨s, hs⟩ : ∃ s, w2.heap.size = s := ⟨_, rfl⟩
    rw [hs] at hk4 ⊢
    have HK4 := hid hk4
    have HB5 := hid b5
    clear hk4 b5
    go_wp2_with fail
    go_loopw [9] (fun i wr => ∃ j : Nat, j ≤ 10 ∧ i = .int .i64 (j : Int) ∧ (∀ i, 1 ≤ i → i < j + 1 → wordA i ≠ b) ∧ wr = w4) (fun i _ => 10 - (intOf i).toNat)
    case atStart => exact ⟨0, by omega, rfl, fun i h1 h2 => by omega, rfl⟩
    case round =>
      obtain ⟨j, hj, rfl, hno, rfl⟩ := hrel
      by_cases hlt : j < 10
      · have hjI : (j : Int) < 10 := by omega
        have hd := (HK4.out.cell j).trans (HAT.out j hlt)
        have hsm := HSOME.out j hlt
        generalize hr9 : wordA (j + 1) = r at *
        have HR9 := hid hr9
        have HNO := hid hno
        have HSM := hid hsm
        clear hr9 hno hsm
        by_cases he : r = b
        · have hKj := HSM.out he HNO.out
          subst hKj
          subst he
          go_wp2_with fail
          go_ret
          exact ⟨rfl, HB5.out⟩
        · have heb := bstr_ne he
          have HE := hid he
          clear he
          go_wp2_with fail
          have hno2 : ∀ i, 1 ≤ i → i < j + 1 + 1 → wordA i ≠ b := fun i h1 h2 => by
            by_cases h3 : i = j + 1
            · rw [h3, HR9.out]; exact HE.out
            · exact HNO.out i h1 (by omega)
          refine ⟨⟨j + 1, by omega, by go_num, hno2, trivial⟩, ?_⟩
          simp [intOf]
          omega
      · obtain rfl : j = 10 := by omega
        have hK0 := HNONE.out (fun i h1 h2 => hno i h1 (by omega))
        subst hK0
        clear hno
        go_wp2_with fail
        go_ret
        exact ⟨rfl, HB5.out⟩
  · have hq0 : q = ⟨#[]⟩ := by
      rw [← HQ.out]
      unfold wordA
      split <;> first | omega | rfl
    subst hq0
    by_cases hk0 : k = 0
    · subst hk0
      have hwd : ∀ W, Calls Try.prog 33 #[.int .u8 0] W fun e w' => e = .returned (.string ⟨#[]⟩) ∧ Below W.heap.size W w' := HWD.out
      go_enter Try.func9, Try.ntmps9
      go_wp2_with fail
      refine HL.out.mono ?_
      rintro e w1 ⟨rfl, hb1⟩
      go_wp2_with fail
      refine (HWS.out _).mono ?_
      rintro e w2 ⟨rfl, hb2'⟩
      have hk2 := Blk.new w2 52 #[.string t0, .string t1, .string t2, .string t3, .string t4, .string t5, .string t6, .string t7, .string t8, .string t9]
      have b3 := bw_a (bw_t hb1 hb2') (.cells #[.string t0, .string t1, .string t2, .string t3, .string t4, .string t5, .string t6, .string t7, .string t8, .string t9] 52)
      go_wp2_with fail
      refine (hwd _).mono ?_
      rintro e w3 ⟨rfl, hb3⟩
      have hl2 := hk2.lt
      have hk3 := hk2.below hb3 hl2
      have b4 := bw_t b3 hb3
      go_wp2_with fail
      refine (HKD.out _).mono ?_
      rintro e w4 ⟨rfl, hb4⟩
      have hk4 := hk3.below hb4 hk3.lt
      have b5 := bw_t b4 hb4
      clear hk2 hk3 b3 b4 hb3 hb4
      obtain ⟨s, hs⟩ : ∃ s, w2.heap.size = s := ⟨_, rfl⟩
      rw [hs] at hk4 ⊢
      have HK4 := hid hk4
      have HB5 := hid b5
      clear hk4 b5
      go_wp2_with fail
      go_loopw [9] (fun i wr => ∃ j : Nat, j ≤ 10 ∧ i = .int .i64 (j : Int) ∧ (∀ i, 1 ≤ i → i < j + 1 → wordA i ≠ b) ∧ wr = w4) (fun i _ => 10 - (intOf i).toNat)
      case atStart => exact ⟨0, by omega, rfl, fun i h1 h2 => by omega, rfl⟩
      case round =>
        obtain ⟨j, hj, rfl, hno, rfl⟩ := hrel
        by_cases hlt : j < 10
        · have hjI : (j : Int) < 10 := by omega
          have hd := (HK4.out.cell j).trans (HAT.out j hlt)
          have hsm := HSOME.out j hlt
          generalize hr9 : wordA (j + 1) = r at *
          have HR9 := hid hr9
          have HNO := hid hno
          have HSM := hid hsm
          clear hr9 hno hsm
          by_cases he : r = b
          · have hKj := HSM.out he HNO.out
            subst hKj
            subst he
            go_wp2_with fail
            go_ret
            exact ⟨rfl, HB5.out⟩
          · have heb := bstr_ne he
            have HE := hid he
            clear he
            go_wp2_with fail
            have hno2 : ∀ i, 1 ≤ i → i < j + 1 + 1 → wordA i ≠ b := fun i h1 h2 => by
              by_cases h3 : i = j + 1
              · rw [h3, HR9.out]; exact HE.out
              · exact HNO.out i h1 (by omega)
            refine ⟨⟨j + 1, by omega, by go_num, hno2, trivial⟩, ?_⟩
            simp [intOf]
            omega
        · obtain rfl : j = 10 := by omega
          have hK0 := HNONE.out (fun i h1 h2 => hno i h1 (by omega))
          subst hK0
          clear hno
          go_wp2_with fail
          go_ret
          exact ⟨rfl, HB5.out⟩
    · have hwd : ∀ W, Calls Try.prog 33 #[.int .u8 (k : Int)] W fun e w' => e = .returned (.string ⟨#[]⟩) ∧ Below W.heap.size W w' := HWD.out
      have hk1 : (1 : Int) ≤ (k : Int) := by omega
      have hk3' : ¬ (k : Int) ≤ 10 := by omega
      go_enter Try.func9, Try.ntmps9
      go_wp2_with fail
      refine HL.out.mono ?_
      rintro e w1 ⟨rfl, hb1⟩
      go_wp2_with fail
      refine (HWS.out _).mono ?_
      rintro e w2 ⟨rfl, hb2'⟩
      have hk2 := Blk.new w2 52 #[.string t0, .string t1, .string t2, .string t3, .string t4, .string t5, .string t6, .string t7, .string t8, .string t9]
      have b3 := bw_a (bw_t hb1 hb2') (.cells #[.string t0, .string t1, .string t2, .string t3, .string t4, .string t5, .string t6, .string t7, .string t8, .string t9] 52)
      go_wp2_with fail
      refine (hwd _).mono ?_
      rintro e w3 ⟨rfl, hb3⟩
      have hl2 := hk2.lt
      have hk3 := hk2.below hb3 hl2
      have b4 := bw_t b3 hb3
      go_wp2_with fail
      refine (HKD.out _).mono ?_
      rintro e w4 ⟨rfl, hb4⟩
      have hk4 := hk3.below hb4 hk3.lt
      have b5 := bw_t b4 hb4
      clear hk2 hk3 b3 b4 hb3 hb4
      obtain ⟨s, hs⟩ : ∃ s, w2.heap.size = s := ⟨_, rfl⟩
      rw [hs] at hk4 ⊢
      have HK4 := hid hk4
      have HB5 := hid b5
      clear hk4 b5
      go_wp2_with fail
      go_loopw [9] (fun i wr => ∃ j : Nat, j ≤ 10 ∧ i = .int .i64 (j : Int) ∧ (∀ i, 1 ≤ i → i < j + 1 → wordA i ≠ b) ∧ wr = w4) (fun i _ => 10 - (intOf i).toNat)
      case atStart => exact ⟨0, by omega, rfl, fun i h1 h2 => by omega, rfl⟩
      case round =>
        obtain ⟨j, hj, rfl, hno, rfl⟩ := hrel
        by_cases hlt : j < 10
        · have hjI : (j : Int) < 10 := by omega
          have hd := (HK4.out.cell j).trans (HAT.out j hlt)
          have hsm := HSOME.out j hlt
          generalize hr9 : wordA (j + 1) = r at *
          have HR9 := hid hr9
          have HNO := hid hno
          have HSM := hid hsm
          clear hr9 hno hsm
          by_cases he : r = b
          · have hKj := HSM.out he HNO.out
            subst hKj
            subst he
            go_wp2_with fail
            go_ret
            exact ⟨rfl, HB5.out⟩
          · have heb := bstr_ne he
            have HE := hid he
            clear he
            go_wp2_with fail
            have hno2 : ∀ i, 1 ≤ i → i < j + 1 + 1 → wordA i ≠ b := fun i h1 h2 => by
              by_cases h3 : i = j + 1
              · rw [h3, HR9.out]; exact HE.out
              · exact HNO.out i h1 (by omega)
            refine ⟨⟨j + 1, by omega, by go_num, hno2, trivial⟩, ?_⟩
            simp [intOf]
            omega
        · obtain rfl : j = 10 := by omega
          have hK0 := HNONE.out (fun i h1 h2 => hno i h1 (by omega))
          subst hK0
          clear hno
          go_wp2_with fail
          go_ret
          exact ⟨rfl, HB5.out⟩
end Go.Proofs.Ytolafcmaikjioaa
