/- What must be whatever is asked: layer 15. -/
import Derived.Test.YtabklpgimjmdlaaFdFeed
import Derived.Test.YtabklpgimjmdlaaFdRend
import Derived.Test.YtabklpgimjmdlaaFrRefR
import Derived.Test.YtabklpgimjmdlaaRsLive
set_option linter.unusedVariables false
namespace Go.Proofs.Ytabklpgimjmdlaa
open Go.RowKit
def p15 : List UInt8 := Fr.put 7 [1]
theorem p15_len : p15.length = 10 := by unfold p15; rw [Fr.put_len]; rfl
theorem p15_n1 : newsT [] ([] ++ p15.take 4) = [] := by kernel_rfl
theorem p15_h1 : (hldT ([] ++ p15.take 4)).length = 4 := by kernel_rfl
theorem p15_n2 : newsT ([] ++ p15.take 4) (([] ++ p15.take 4) ++ p15.drop 4) = [⟨0, 7, [1]⟩] := by kernel_rfl
theorem p15_h2 : hldT (([] ++ p15.take 4) ++ p15.drop 4) = [] := by kernel_rfl
theorem p15_e : (Rs.wk true [] 0).1 = [] := by kernel_rfl
/-- A slice's first bytes, and those behind. -/
theorem sl_take {w : World} {A : Option Addr} {c : Nat} {bs : List UInt8} (h : Sl w A c (bs.map bv)) (k : Nat) : Sl w A c ((bs.take k).map bv) := by
  have h1 := h.cap
  rw [List.length_map] at h1
  refine ⟨by rw [List.length_map, List.length_take]; omega, h.small, h.nil0, fun j v hj => h.rd j v ?_⟩
  rw [List.map_take, List.getElem?_take] at hj
  by_cases hk : j < k
  · rw [if_pos hk] at hj; exact hj
  · rw [if_neg hk] at hj; cases hj
theorem far_of {b o n : Nat} {S : Nat → Prop} (h : ¬ S b) : FarS (some ⟨b, o, none⟩) n S := fun _ b' o' e hs => by injection e with e; injection e with e1; subst e1; exact h hs
set_option maxRecDepth 100000 in
set_option maxHeartbeats 1000000 in
theorem ffeed_none (n : Nat) (A : Option Addr) (c : Nat) (w : World) : Calls Try.prog 12 #[.pointer none, .slice A n c] w fun e w' => e = .returned (.slice none 0 0) ∧ Below w.heap.size w w' := by
  have hd := fun W => fdeaf_nil W
  have HD := hid hd
  clear hd
  have c0 := (Blk.new w 24 #[.pointer none]).cell 0
  simp only [List.getElem?_toArray, List.getElem?_cons_zero] at c0
  have HB := hid (bw_a (Below.refl _ w) (.cells #[.pointer none] 24))
  go_enter Try.func12, Try.ntmps12
  go_wp2_with fail
  refine (HD.out _).mono ?_
  rintro e w1 ⟨rfl, rfl⟩
  go_wp2_with fail
  go_ret
  exact ⟨rfl, HB.out⟩
set_option maxRecDepth 100000 in
set_option maxHeartbeats 1000000 in
theorem fend_none (w : World) : Calls Try.prog 17 #[.pointer none] w fun e w' => e = .returned (.slice none 0 0) ∧ w' = w := by
  have hd := fun W => fdeaf_nil W
  have HD := hid hd
  clear hd
  go_enter Try.func17, Try.ntmps17
  go_wp2_with fail
  refine (HD.out _).mono ?_
  rintro e w1 ⟨rfl, rfl⟩
  go_wp2_with fail
  go_ret
  exact ⟨rfl, rfl⟩
set_option maxRecDepth 100000 in
set_option maxHeartbeats 8000000 in
theorem live15_any (w : World) : Calls Try.prog 10 #[] w fun e w' => e = .returned (.bool true) ∧ Below w.heap.size w w' := by
  go_enter Try.func10, Try.ntmps10
  go_wp2_with fail
  refine (l14_put _ _ _ (lit_sl w 5 [1] #[.int .u8 1] 1 rfl (by omega) rfl)).mono ?_
  rintro e w1 ⟨A1, c1, rfl, hs1, hb1⟩
  have hB1 := bw_t (bw_a (Below.refl _ w) (.cells #[.int .u8 1] 5)) hb1
  change Sl w1 A1 c1 (p15.map bv) at hs1
  obtain ⟨b, o, rfl, hbl, -⟩ := BRd.at_ hs1.rd (k := 0) (by rw [p15_len]; omega)
  have hc1 := hs1.cap
  have hm1 := hs1.small
  rw [List.length_map, p15_len] at hc1
  have HB1 := hid hB1
  have HS1 := hid hs1
  clear hb1 hB1 hs1
  go_wp2_with fail
  refine (fnew_any w1).mono ?_
  rintro e w2 ⟨rfl, rfl⟩
  obtain ⟨g, hg⟩ : ∃ g, w1.heap.size = g := ⟨_, rfl⟩
  rw [hg]
  have hst := fnew_st w1 (g + 1)
  rw [hg] at hst
  have hbl2 : ¬ b = g := by omega
  have hsz2 : (w1.alloc (.cells #[.slice none 0 0, .int .i64 0, .bool false] 69)).heap.size = g + 1 := by simp [hg]
  have hs2 := HS1.out.below (bw_a (Below.refl _ w1) (.cells #[.slice none 0 0, .int .i64 0, .bool false] 69))
  have hB2 := bw_a HB1.out (.cells #[.slice none 0 0, .int .i64 0, .bool false] 69)
  generalize (w1.alloc (.cells #[.slice none 0 0, .int .i64 0, .bool false] 69)) = w2 at *
  have hf1 := ffeed_any (g + 1) g [] (.slice none 0 0) (p15.take 4) 4 (some ⟨b, o, none⟩) c1 w2 (by simpa [hldT] using hst) (by omega) (by omega) (by rw [List.length_take, p15_len]; rfl) (sl_take hs2 4) (far_of (fun h => h.elim hbl2 (fun h => by cases h))) (by simp) (by omega)
  rw [p15_n1] at hf1
  have hwg : w.heap.size ≤ g := by have := HB1.out.size; omega
  have HF1 := hid hf1
  have HS2 := hid hs2
  have HB2 := hid hB2
  have i1 : (4 : Int) ≤ (c1 : Int) := by omega
  have i2 : ¬ c1 = 4 := by omega
  have i3 : ¬ c1 = 0 := by omega
  have i4 : 4 ≤ c1 := by omega
  clear hst hs2 hB2 hf1 HS1 HB1
  go_wp2_with fail
  refine HF1.out.mono ?_
  rintro e w3 ⟨A3, c3, vb3, rfl, -, hfs3, hch3, hwh3⟩
  obtain ⟨Ab, cb, rfl⟩ := row_slice_g hfs3.row
  have hhd := fun W h1 => fheld_any g (hldT ([] ++ p15.take 4)).length Ab cb ([] ++ p15.take 4).length false W h1
  have hfs3' := hfs3
  rw [p15_h1] at hhd
  have hk3 := hfs3.blk
  rw [p15_h1] at hk3
  have HHD := hid (hhd _ hk3)
  have hs3 := hch3.sl HS2.out (far_of (n := 10) (fun h => h.elim hbl2 (fun h => by cases h))) (by rw [List.length_map, p15_len])
  have hB3 : Below w.heap.size w w3 := HB2.out.trans (hch3.below (fun k hk => hk.elim (fun h => by omega) (fun h => by cases h)) HB2.out.size)
  have hbn : ∀ q, (Value.slice Ab (hldT ([] ++ p15.take 4)).length cb).ownBlock = some q → ¬ b = q := fun q hq => by
    rcases hwh3 with h | h
    · rw [h] at hq; cases hq
    · have := h q hq; omega
  have hsz3 := hch3.size
  have hf2 := ffeed_any (g + 1) g ([] ++ p15.take 4) _ (p15.drop 4) 6 (some ⟨b, o + 4, none⟩) (c1 - 4) w3 hfs3 (by omega) (by omega) (by rw [List.length_drop, p15_len]) (by
    have h := hs3.cut 4 (by rw [p15_len]; omega)
    unfold cutA at h
    rw [if_neg i2] at h
    simpa [addr_add] using h) (far_of (fun h => h.elim hbl2 (fun h => hbn b h rfl))) (by rw [List.length_append, List.length_take, p15_len]; simp) (by omega)
  rw [p15_n2] at hf2
  have hvn : ∀ q, (Value.slice Ab (hldT ([] ++ p15.take 4)).length cb).ownBlock = some q → w.heap.size ≤ q := fun q hq => by
    rcases hwh3 with h | h
    · rw [h] at hq; cases hq
    · have := h q hq; omega
  have HF2 := hid hf2
  have HB3 := hid hB3
  have HVN := hid hvn
  clear hfs3 hch3 hwh3 hhd hfs3' hk3 hs3 hB3 hbn hf2 hvn HF1
  go_wp2_with fail
  refine HHD.out.mono ?_
  rintro e w4 ⟨rfl, rfl⟩
  go_wp2_with fail
  refine HF2.out.mono ?_
  rintro e w4 ⟨A4, c4, vb4, rfl, hfo4, hfs4, hch4, hwh4⟩
  obtain ⟨Ac, cc, rfl⟩ := row_slice_g hfs4.row
  have hB4 : Below w.heap.size w w4 := HB3.out.trans (hch4.below (fun k hk => hk.elim (fun h => by omega) (fun h => HVN.out k h)) HB3.out.size)
  obtain ⟨b4, o4, Ap4, cp4, rfl, hbl4, t0, -, -, -, hc4, hm4⟩ := (hfo4.row).get rfl 0 (by decide)
  have hb4g : ¬ b4 = g := fun e => by
    obtain ⟨fs, -, h2, -⟩ := hfo4
    have := (h2.lt b4 (by rfl)).1
    omega
  have hl2 : (([] ++ p15.take 4) ++ p15.drop 4).length = 10 := by rw [List.nil_append, List.take_append_drop, p15_len]
  rw [p15_h2, hl2] at hfs4
  have hk4 := hfs4.blk
  have HHD4 := hid (fheld_any g 0 Ac cc 10 false w4 hk4)
  have HCM4 := hid (fun W h1 => fcame_any g (.slice none 0 0) 10 true W h1)
  have HEN := hid (fend_any (g + 1) g [] 10 _ w4 hfs4 hk4.lt (by simp) (by omega) (by simp))
  have HB4 := hid hB4
  have i5 : (1 : Int) ≤ (c4 : Int) := by simp only [List.length_cons, List.length_nil] at hc4; omega
  simp only [List.length_cons, List.length_nil, Nat.zero_add, Nat.mul_zero, Nat.zero_mul, Nat.add_zero, List.getElem_cons_zero] at hc4 t0
  clear hfo4 hfs4 hch4 hwh4 hB4 hk4 hl2 HHD HF2 HVN HB3
  go_wp2_with fail
  refine HHD4.out.mono ?_
  rintro e w4b ⟨rfl, rfl⟩
  go_wp2_with fail
  refine HEN.out.mono ?_
  rintro e w5 ⟨v5, rfl, hrow5, hk5, hch5⟩
  rw [p15_e] at hrow5
  obtain ⟨A5, c5, rfl⟩ := hrow5.slice
  have t0 := (World.cell?_of_block (hch5.block b4 hbl4 hb4g) : w5.cell? ⟨b4, o4, none⟩ = w4b.cell? ⟨b4, o4, none⟩).trans t0
  have hlt5 := Nat.lt_of_lt_of_le hbl4 hch5.size
  have HB5 := hid (HB4.out.trans (hch5.below (fun k hk => by omega) HB4.out.size))
  have HK5 := hid hk5
  clear hrow5 hk5 hch5 HHD4 HEN HB4
  have HCM5 := hid (HCM4.out w5 HK5.out)
  have HOV5 := hid (fover_any g (.slice none 0 0) 10 true w5 HK5.out)
  simp only [List.map_nil, List.length_nil]
  go_wp2_with fail
  refine HCM5.out.mono ?_
  rintro e w6 ⟨rfl, rfl⟩
  go_wp2_with fail
  refine HOV5.out.mono ?_
  rintro e w6 ⟨rfl, rfl⟩
  go_wp2_with fail
  refine (ffeed_none _ _ _ _).mono ?_
  rintro e w7 ⟨rfl, hb7⟩
  have HB7 := hid (bw_t HB5.out hb7)
  clear hb7
  go_wp2_with fail
  refine (fend_none _).mono ?_
  rintro e w8 ⟨rfl, rfl⟩
  go_wp2_with fail
  refine (fover_nil _).mono ?_
  rintro e w8 ⟨rfl, rfl⟩
  go_wp2_with fail
  refine (fheld_nil _).mono ?_
  rintro e w8 ⟨rfl, rfl⟩
  go_wp2_with fail
  refine (fcame_nil _).mono ?_
  rintro e w8 ⟨rfl, rfl⟩
  go_wp2_with fail
  go_ret
  exact ⟨by simp, HB7.out⟩
end Go.Proofs.Ytabklpgimjmdlaa
