/- crc.Seal, crc.Open; the document's Seal. -/
import Derived.Test.YtgiealcfhlcpoaaCrcMore
import Derived.Test.YtgiealcfhlcpoaaM5
import Derived.Test.YtgiealcfhlcpoaaM4
import Derived.Test.YtgiealcfhlcpoaaM1
import Derived.Test.YtgiealcfhlcpoaaM2
set_option linter.unusedVariables false
namespace Go.Proofs.Ytgiealcfhlcpoaa
open Go.RowKit
theorem C.le4_fix (v : Nat) : fixN 4 v = C.le4 v := by
  simp only [fixN, C.le4, b8]
  rw [Nat.div_div_eq_div_mul, Nat.div_div_eq_div_mul]
/-- Bytes, and behind them their sum. -/
def C.sealB (bs : List UInt8) : List UInt8 := bs ++ C.le4 (C.sum bs)
theorem C.sealB_len (bs : List UInt8) : (C.sealB bs).length = bs.length + 4 := by simp [C.sealB, C.le4_length]
set_option maxRecDepth 100000 in
set_option maxHeartbeats 2000000 in
theorem cseal_any (bs : List UInt8) (n : Nat) (A : Option Addr) (c : Nat) (w : World) (hn : bs.length = n) (hl : n ≤ 1000000) (hS : Sl w A c (bs.map bv)) :
    Calls Try.prog 31 #[.slice A n c] w fun e w' => ∃ v, e = .returned v ∧ w'.ownsRow w.heap.size 5 1 v (n + 4) ((C.sealB bs).map bv) ∧ Below w.heap.size w w' := by
  obtain ⟨i0, hi, hz0, hz1, hz2⟩ := info_parts Try.info5
  have hmk : ∀ u : World, (Instr.makeSlice 25 (.int .i64 0) (.int .i64 ((n : Int) + 4))).run Try.prog u = .ok (.slice (some ⟨u.heap.size, 0, none⟩) 0 (n + 4)) (u.alloc (.cells (madeCells #[.int .u8 0] (n + 4)) 5)) := fun u => by
    have h := run_make (P := Try.prog) u 25 5 i0 (.int .u8 0) Try.underlying25 hi hz0 .i64 .i64 0 ((n + 4 : Nat) : Int) (by omega) (by omega) (by rw [hz2]; omega) (by omega)
    have ht : ((n : Int) + 4).toNat = n + 4 := by omega
    simpa [hz1, Value.cells, ht] using h
  have hrow : (w.alloc (.cells (madeCells #[.int .u8 0] (n + 4)) 5)).ownsRow w.heap.size 5 1 (.slice (some ⟨w.heap.size, 0, none⟩) 0 (n + 4)) 0 [] := World.ownsRow_made _ _ _ (Nat.le_refl _) (by simp only [maxLen]; omega) (by rw [size_madeCells]; omega)
  have hof := fun W (hW : Below w.heap.size w W) => cof_any bs n A c W hn hl (hS.below hW)
  have hsl := C.sum_lt bs
  have hfx := fun W => fix32_any (C.sum bs) (by omega) W
  have hsA : Sl (w.alloc (.cells (madeCells #[.int .u8 0] (n + 4)) 5)) A c (bs.map bv) := hS.below (bw_a (Below.refl _ w) _)
  have hq : C.sealB bs = bs ++ fixN 4 (C.sum bs) := by rw [C.le4_fix]; rfl
  rw [hq]
  have hl4 := length_fixN 4 (C.sum bs)
  generalize fixN 4 (C.sum bs) = F at *
  generalize C.sum bs = sm at *
  have HOF := hid hof
  have HFX := hid hfx
  have HN := hid hn
  have HR := hid hrow
  have HSA := hid hsA
  have HL4 := hid hl4
  clear hof hfx hn hS hsl hrow hsA hq hl4
  go_enter Try.func31, Try.ntmps31
  go_wp2_with (at_builtin; refine wpList_append_rd rfl (.tmp 8) (.tmp 9) 25 rfl w.heap.size 5 i0 (.int .u8 0) 1 1 Try.underlying25 hi hz0 hz1 hz2 rfl (by decide) _ _ _ rfl HR.out A n c (bs.map bv) rfl (by rw [List.length_map, HN.out, Nat.mul_one]) HSA.out.rd HSA.out.nil0 (bv_one _) (by simp only [maxLen]; omega) (by omega) (by simp) ?_; intro v1 w1 hown1 hgrow1; have HO1 := hid hown1; have HB1 := hid (bw_g (bw_a (Below.refl w.heap.size w) _) hgrow1 (fun k ek => (HR.out.lt k ek).1)); clear hown1 hgrow1)
  refine (HOF.out _ HB1.out).mono ?_
  rintro e w2 ⟨rfl, hb2⟩
  go_wp2_with fail
  refine (HFX.out _).mono ?_
  rintro e w3 ⟨A3, c3, rfl, hs3, hb3⟩
  have HB3 := hid (bw_t (bw_t HB1.out hb2) hb3)
  have HO3 := hid (own_below (own_below HO1.out hb2) hb3)
  have HS3 := hid hs3
  clear hb2 hb3 hs3
  go_wp2_with (at_builtin; refine wpList_append_rd rfl (.tmp 11) (.tmp 14) 25 rfl w.heap.size 5 i0 (.int .u8 0) 1 1 Try.underlying25 hi hz0 hz1 hz2 rfl (by decide) _ _ _ rfl HO3.out A3 4 c3 (F.map bv) rfl (by rw [List.length_map, HL4.out]) HS3.out.rd HS3.out.nil0 (bv_one _) (by simp only [maxLen]; omega) (by omega) HB3.out.size ?_; intro v4 w4 hown4 hgrow4)
  go_ret
  refine ⟨_, rfl, ?_, bw_g HB3.out hgrow4 (fun k ek => (HO3.out.lt k ek).1)⟩
  rw [List.map_append]
  simpa using hown4
/-- What opening comes to. -/
def C.openE (bs : List UInt8) : Nat := if bs.length < 4 then 4 else if C.sealB (bs.take (bs.length - 4)) = bs then 0 else 12
theorem C.open_sum (bs : List UInt8) (h : 4 ≤ bs.length) : (C.sealB (bs.take (bs.length - 4)) = bs) ↔ unfixN (bs.drop (bs.length - 4)) = C.sum (bs.take (bs.length - 4)) := by
  have hd : (bs.drop (bs.length - 4)).length = 4 := by rw [List.length_drop]; omega
  obtain ⟨v, hv, he⟩ := C.le4_of _ hd
  have hu : unfixN (bs.drop (bs.length - 4)) = v := by rw [he, ← C.le4_fix, unfix_fix 4 v (by omega)]
  have hsp : bs = bs.take (bs.length - 4) ++ bs.drop (bs.length - 4) := (List.take_append_drop _ _).symm
  rw [hu]
  constructor
  · intro h1
    have h2 : C.sealB (bs.take (bs.length - 4)) = bs.take (bs.length - 4) ++ C.le4 v := by rw [h1]; rw [← he]; exact hsp
    have h3 : C.le4 (C.sum (bs.take (bs.length - 4))) = C.le4 v := List.append_cancel_left h2
    have h4 := congrArg unfixN h3
    rw [← C.le4_fix, ← C.le4_fix, unfix_fix 4 _ (by have := C.sum_lt (bs.take (bs.length - 4)); omega), unfix_fix 4 v (by omega)] at h4
    exact h4.symm
  · intro h1
    unfold C.sealB
    rw [← h1, ← he]
    exact hsp.symm
set_option maxRecDepth 100000 in
set_option maxHeartbeats 2000000 in
theorem copen_any (bs : List UInt8) (n : Nat) (A : Option Addr) (c : Nat) (w : World) (hn : bs.length = n) (hl : n ≤ 1000000) (hS : Sl w A c (bs.map bv)) :
    Calls Try.prog 35 #[.slice A n c] w fun e w' => ((C.openE bs = 0 ∧ ∃ v, e = .returned (.tuple #[v, .int .i64 0]) ∧ w'.ownsRow w.heap.size 5 1 v (n - 4) ((bs.take (n - 4)).map bv)) ∨ (C.openE bs ≠ 0 ∧ e = .returned (.tuple #[.slice none 0 0, .int .i64 (C.openE bs : Nat)]))) ∧ Below w.heap.size w w' := by
  have hcap := hS.cap
  have hsm := hS.small
  rw [List.length_map, hn] at hcap
  by_cases h4 : n < 4
  · have he : C.openE bs = 4 := by unfold C.openE; rw [if_pos (by omega)]
    rw [he]
    clear hS hn
    go_enter Try.func35, Try.ntmps35
    go_wp2_with fail
    go_ret2
    exact ⟨.inr ⟨by omega, rfl⟩, Below.refl _ _⟩
  · have hos := C.open_sum bs (by omega)
    have hE : C.openE bs = if unfixN (bs.drop (n - 4)) = C.sum (bs.take (n - 4)) then 0 else 12 := by
      unfold C.openE
      rw [if_neg (by omega)]
      rw [hn] at hos ⊢
      by_cases h : unfixN (bs.drop (n - 4)) = C.sum (bs.take (n - 4))
      · rw [if_pos h, if_pos (hos.2 h)]
      · rw [if_neg h, if_neg (fun h2 => h (hos.1 h2))]
    rw [hE]
    have ht : (bs.take (n - 4)).length = n - 4 := by rw [List.length_take]; omega
    have hd : (bs.drop (n - 4)).length = 4 := by rw [List.length_drop]; omega
    have hcut := hS.cut (n - 4) (by omega)
    have hpre : Sl w A c ((bs.take (n - 4)).map bv) := ⟨by rw [List.length_map, ht]; omega, hsm, hS.nil0, by have := hS.rd.take (n - 4); rwa [← List.map_take] at this⟩
    have hX : cutA A c (n - 4) = Option.map (fun x => x.add (n - 4)) A := by unfold cutA; rw [if_neg (by omega)]
    have hg := fun W (hW : Below w.heap.size w W) => get32_any (bs.drop (n - 4)) (cutA A c (n - 4)) (c - (n - 4)) W (hcut.below hW)
    simp only [hd, List.take_of_length_le (Nat.le_of_eq hd), hX, show ¬ (4 : Nat) < 4 from by omega, if_false] at hg
    have hof := fun W (hW : Below w.heap.size w W) => cof_any (bs.take (n - 4)) (n - 4) A c W ht (by omega) (hpre.below hW)
    have hcl := fun W (hW : Below w.heap.size w W) => clone_any (bs.take (n - 4)) (n - 4) A c W ht (by omega) (hpre.below hW)
    generalize C.sum (bs.take (n - 4)) = sm at *
    generalize unfixN (bs.drop (n - 4)) = u at *
    have HG := hid hg
    have HOF := hid hof
    have HCL := hid hcl
    have hc1 : ((n : Int) - 4) = ((n - 4 : Nat) : Int) := by omega
    have HE := hid hE
    clear hg hof hcl hn hS hos hE hpre hcut hd ht hX
    obtain ⟨p, hp⟩ : ∃ p, n = p + 4 := ⟨n - 4, by omega⟩
    subst hp
    rw [show p + 4 - 4 = p from by omega] at *
    generalize bs.take p = pre at *
    obtain ⟨er, her⟩ : ∃ er : Nat, (if u = sm then 0 else 12) = er := ⟨_, rfl⟩
    rw [her]
    have HER := hid her
    clear her
    have hcp : ¬ c = p := by omega
    go_enter Try.func35, Try.ntmps35
    go_wp2_with fail
    refine (HG.out _ (Below.refl _ _)).mono ?_
    rintro e w1 ⟨rfl, rfl⟩
    go_wp2_with fail
    refine (HOF.out _ (Below.refl _ _)).mono ?_
    rintro e w2 ⟨rfl, hb2⟩
    by_cases hu : u = sm
    · have he0 : er = 0 := by rw [← HER.out, if_pos hu]
      subst hu
      have HE0 := hid he0
      clear he0
      go_wp2_with fail
      refine (HCL.out _ hb2).mono ?_
      rintro e w3 ⟨v, rfl, ho, hb3⟩
      go_wp2_with fail
      go_ret2
      exact ⟨.inl ⟨HE0.out, v, rfl, own_mono ho hb2.size⟩, bw_t hb2 hb3⟩
    · obtain rfl : er = 12 := by rw [← HER.out, if_neg hu]
      have hub : ((u : Int) != (sm : Int)) = true := by simp; omega
      clear hu
      go_wp2_with fail
      go_ret2
      exact ⟨.inr ⟨by omega, rfl⟩, hb2⟩
set_option maxRecDepth 100000 in
set_option maxHeartbeats 2000000 in
theorem rseal_any (bs : List UInt8) (n : Nat) (A : Option Addr) (c : Nat) (w : World) (hn : bs.length = n) (hl : n ≤ 1000000) (hS : Sl w A c (bs.map bv)) :
    Calls Try.prog 16 #[.slice A n c] w fun e w' => ∃ v, e = .returned v ∧ w'.ownsRow w.heap.size 5 1 v (n + 4) ((C.sealB bs).map bv) ∧ Below w.heap.size w w' := by
  have hof := rof_any bs n A c w hn hl hS
  have hsl := C.sum_lt bs
  have hq : C.sealB bs = bs ++ C.le4 (C.sum bs) := rfl
  rw [hq]
  have h8 : ∀ x, x < 256 → (UInt8.ofNat x).toNat = x := fun x hx => by rw [UInt8.toNat_ofNat']; omega
  have hlit : (C.le4 (C.sum bs)).map bv = [.int .u8 ((C.sum bs : Int) % 256), .int .u8 ((C.sum bs : Int) / 256 % 256), .int .u8 ((C.sum bs : Int) / 65536 % 256), .int .u8 ((C.sum bs : Int) / 16777216)] := by
    unfold C.le4
    simp only [List.map_cons, List.map_nil, bv]
    rw [h8 _ (by omega), h8 _ (by omega), h8 _ (by omega), h8 _ (by omega)]
    have e3 : C.sum bs / 16777216 % 256 = C.sum bs / 16777216 := by omega
    rw [e3]
    simp
  have hjn := fun W B (hW : Below w.heap.size w W) hB => rjoin2_own bs (C.le4 (C.sum bs)) n 4 A B c 4 W hn (C.le4_length _) (by omega) (hS.below hW) hB
  rw [hlit] at hjn
  generalize C.sum bs = sm at *
  generalize C.le4 sm = L at *
  have HOF := hid hof
  have HJN := hid hjn
  clear hof hjn hn hS hq hlit h8
  go_enter Try.func16, Try.ntmps16
  go_wp2_with fail
  refine HOF.out.mono ?_
  rintro e w1 ⟨rfl, rfl⟩
  go_wp2_with fail
  have hlit2 := Rd.new w1 5 #[.int .u8 ((sm : Int) % 256), .int .u8 ((sm : Int) / 256 % 256), .int .u8 ((sm : Int) / 65536 % 256), .int .u8 ((sm : Int) / 16777216)]
  refine (HJN.out _ _ (bw_a (Below.refl _ _) _) ⟨by simp, by omega, (fun h => by cases h), hlit2⟩).mono ?_
  rintro e w2 ⟨v, rfl, ho, hb⟩
  go_wp2_with fail
  go_ret
  exact ⟨v, rfl, own_mono ho (by simp), bw_t (bw_a (Below.refl _ _) _) hb⟩
end Go.Proofs.Ytgiealcfhlcpoaa
