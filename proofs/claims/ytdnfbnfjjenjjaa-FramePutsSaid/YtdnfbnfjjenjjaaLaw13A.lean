/- The walks of FrameReads and FramePuts. -/
import Derived.Test.YtdnfbnfjjenjjaaFrLive2
set_option linter.unusedVariables false
namespace Go.Proofs.Ytdnfbnfjjenjjaa
open Go.RowKit
theorem RdR.ok {w w' : World} {bs : List UInt8} {e : Ending} (h : RdR w bs e w') (h0 : Fr.rE bs = 0) : ∃ A c, e = .returned (.tuple #[.agg #[.int .u8 ((Fr.ty bs).toNat : Int), .slice A (Fr.ln bs) c], .int .i64 ((Fr.ln bs + 9 : Nat) : Int), .int .i64 0]) ∧ Pay w.heap.size w' A c (Fr.pl bs) ∧ Below w.heap.size w w' := by
  rcases h with ⟨⟨-, A, c, h1, h2⟩ | ⟨h1, -⟩, h3⟩
  · exact ⟨A, c, h1, h2, h3⟩
  · exact absurd h0 h1
theorem RdR.no {w w' : World} {bs : List UInt8} {e : Ending} (h : RdR w bs e w') (h0 : Fr.rE bs ≠ 0) : e = .returned (.tuple #[.agg #[.int .u8 0, .slice none 0 0], .int .i64 0, .int .i64 (Fr.rE bs : Nat)]) ∧ Below w.heap.size w w' := by
  rcases h with ⟨⟨h1, -⟩ | ⟨-, h1⟩, h3⟩
  · exact absurd h1 h0
  · exact ⟨h1, h3⟩
theorem rfsame_zero (w : World) : Calls Try.prog 14 #[.agg #[.int .u8 0, .slice none 0 0], .agg #[.int .u8 0, .slice none 0 0]] w fun e w' => e = .returned (.bool true) ∧ Below w.heap.size w w' := by
  have h := rfsame_any 0 0 [] [] 0 0 none none 0 0 w rfl rfl (by omega) (Sl.nil_ w) (Sl.nil_ w)
  exact h
theorem Fr.pl_len {bs : List UInt8} (h : Fr.rE bs = 0) : (Fr.pl bs).length = Fr.ln bs := (Fr.rE_ok h).2.1
set_option maxRecDepth 100000 in
set_option maxHeartbeats 2000000 in
theorem frameReads_any (bs : List UInt8) (n : Nat) (A : Option Addr) (c : Nat) (w : World) (hn : bs.length = n) (hS : Sl w A c (bs.map bv)) :
    Calls Try.prog 4 #[.slice A n c] w fun e w' => e = .returned (.bool true) ∧ Below w.heap.size w w' := by
  have hcap : n ≤ 9223372036854775807 := by have h1 := hS.cap; have h2 := hS.small; rw [List.length_map] at h1; omega
  have HL := hid (live13_any w)
  by_cases hbig : 9000 < n
  · clear hn hS
    go_enter Try.func4, Try.ntmps4
    go_wp2_with fail
    refine HL.out.mono ?_
    rintro e w1 ⟨rfl, hb1⟩
    go_wp2_with fail
    go_ret
    exact ⟨rfl, hb1⟩
  by_cases h0 : Fr.rE bs = 0
  · have hr1 := fun W (hW : Below w.heap.size w W) => (fread_any bs n A c W hn (hS.below hW)).mono (fun e w' h => RdR.ok h h0)
    have hr2 := fun W (hW : Below w.heap.size w W) => (rfread_any bs n A c W hn (by omega) (hS.below hW)).mono (fun e w' h => RdR.ok h h0)
    have hsm := fun W A B c d hA hB => rfsame_any (Fr.ty bs) (Fr.ty bs) (Fr.pl bs) (Fr.pl bs) (Fr.ln bs) (Fr.ln bs) A B c d W (Fr.pl_len h0) (Fr.pl_len h0) (by have := Fr.rE_ok h0; omega) hA hB
    have hsm2 := fun W A B c d (hA : Sl W A c ((Fr.pl bs).map bv)) (hB : Sl W B d ((Fr.pl bs).map bv)) => (hsm W A B c d hA hB).mono (fun e w' h => (show e = .returned (.bool true) ∧ Below W.heap.size W w' from ⟨by rw [h.1]; simp, h.2⟩))
    generalize Fr.ln bs = L at *
    generalize Fr.pl bs = p at *
    generalize (Fr.ty bs).toNat = ty at *
    have HR1 := hid hr1
    have HR2 := hid hr2
    have HSM := hid hsm2
    clear hr1 hr2 hsm hsm2 hn hS h0
    go_enter Try.func4, Try.ntmps4
    go_wp2_with fail
    refine HL.out.mono ?_
    rintro e w1 ⟨rfl, hb1⟩
    go_wp2_with fail
    refine (HR1.out _ hb1).mono ?_
    rintro e w2 ⟨A2, c2, rfl, hp2, hb2⟩
    have B2 := bw_t hb1 hb2
    clear hb1 hb2
    go_wp2_with fail
    have B3 := bw_a B2 (.cells #[.int .u8 (ty : Int), .slice A2 L c2] 24)
    have hk3 := Blk.new w2 24 #[.int .u8 (ty : Int), .slice A2 L c2]
    refine (HR2.out _ B3).mono ?_
    rintro e w4 ⟨A4, c4, rfl, hp4, hb4⟩
    have hk4 := hk3.below hb4 (by simp)
    have hp24 := (hp2.below (bw_a (Below.refl _ w2) _)).below hb4
    have B4 := bw_t B3 hb4
    have HP2 := hid (hp24.below (bw_a (Below.refl _ w4) (.cells #[.int .u8 (ty : Int), .slice A4 L c4] 24)))
    have HP4 := hid (hp4.below (bw_a (Below.refl _ w4) (.cells #[.int .u8 (ty : Int), .slice A4 L c4] 24)))
    have HB4 := hid (bw_a B4 (.cells #[.int .u8 (ty : Int), .slice A4 L c4] 24))
    have d0 := hk4.cell 0
    have d1 := hk4.cell 1
    simp only [List.getElem?_toArray, List.getElem?_cons_zero, List.getElem?_cons_succ] at d0 d1
    have hl4 := hk4.lt
    clear hk3 hk4 hp24 hp2 hp4 B2 B3 B4 hb4
    go_wp2_with (go_at_call 14; refine (HSM.out _ _ _ _ _ HP2.out.sl HP4.out.sl).mono ?_; rintro e w5 ⟨rfl, hb5⟩)
    go_ret
    exact ⟨rfl, bw_t HB4.out hb5⟩
  · have hr1 := fun W (hW : Below w.heap.size w W) => (fread_any bs n A c W hn (hS.below hW)).mono (fun e w' h => RdR.no h h0)
    have hr2 := fun W (hW : Below w.heap.size w W) => (rfread_any bs n A c W hn (by omega) (hS.below hW)).mono (fun e w' h => RdR.no h h0)
    generalize Fr.rE bs = E at *
    have HR1 := hid hr1
    have HR2 := hid hr2
    clear hr1 hr2 hn hS h0
    go_enter Try.func4, Try.ntmps4
    go_wp2_with fail
    refine HL.out.mono ?_
    rintro e w1 ⟨rfl, hb1⟩
    go_wp2_with fail
    refine (HR1.out _ hb1).mono ?_
    rintro e w2 ⟨rfl, hb2⟩
    have B2 := bw_t hb1 hb2
    clear hb1 hb2
    go_wp2_with fail
    have B3 := bw_a B2 (.cells #[.int .u8 0, .slice none 0 0] 24)
    have hk3 := Blk.new w2 24 #[.int .u8 0, .slice none 0 0]
    refine (HR2.out _ B3).mono ?_
    rintro e w4 ⟨rfl, hb4⟩
    have hk4 := hk3.below hb4 (by simp)
    have B4 := bw_t B3 hb4
    have HB4 := hid (bw_a B4 (.cells #[.int .u8 0, .slice none 0 0] 24))
    have d0 := hk4.cell 0
    have d1 := hk4.cell 1
    simp only [List.getElem?_toArray, List.getElem?_cons_zero, List.getElem?_cons_succ] at d0 d1
    have hl4 := hk4.lt
    clear hk3 hk4 B2 B3 B4 hb4
    go_wp2_with (go_at_call 14; refine (rfsame_zero _).mono ?_; rintro e w5 ⟨rfl, hb5⟩)
    go_ret
    exact ⟨rfl, bw_t HB4.out hb5⟩
theorem hk_box (w : World) (t : Nat) (A : Option Addr) (n c : Nat) : Blk (w.alloc (.cells #[.int .u8 (t : Int), .slice A n c] 24)) w.heap.size 24 #[.int .u8 (t : Int), .slice A n c] := Blk.new w _ _
set_option maxRecDepth 100000 in
set_option maxHeartbeats 4000000 in
theorem framePuts_any (t : Nat) (bs : List UInt8) (n : Nat) (A : Option Addr) (c : Nat) (ms : List UInt8) (m : Nat) (B : Option Addr) (d : Nat) (less : Int) (w : World) (ht : t ≤ 255) (hn : bs.length = n) (hm : ms.length = m) (hS : Sl w A c (bs.map bv)) (hM : Sl w B d (ms.map bv)) (hl1 : -9223372036854775808 ≤ less) (hl2 : less ≤ 9223372036854775807) :
    Calls Try.prog 3 #[.agg #[.int .u8 (t : Int), .slice A n c], .slice B m d, .int .i64 less] w fun e w' => e = .returned (.bool true) ∧ Below w.heap.size w w' := by
  have hcap : n ≤ 9223372036854775807 := by have h1 := hS.cap; have h2 := hS.small; rw [List.length_map] at h1; omega
  have hcapm : m ≤ 9223372036854775807 := by have h1 := hM.cap; have h2 := hM.small; rw [List.length_map] at h1; omega
  have HL := hid (live13_any (w.alloc (.cells #[.int .u8 (t : Int), .slice A n c] 24)))
  have hk0 := hk_box w t A n c
  have HK0 := hid hk0
  have hb0 := bw_a (Below.refl _ w) (.cells #[.int .u8 (t : Int), .slice A n c] 24)
  have HB0 := hid hb0
  have hw1 : ∀ w1, Below (w.alloc (.cells #[.int .u8 (t : Int), .slice A n c] 24)).heap.size (w.alloc (.cells #[.int .u8 (t : Int), .slice A n c] 24)) w1 → Below w.heap.size w w1 ∧ Blk w1 w.heap.size 24 #[.int .u8 (t : Int), .slice A n c] := fun w1 h => ⟨bw_t hb0 h, hk0.below h hk0.lt⟩
  have HW1 := hid hw1
  clear hw1 hk0 hb0
  by_cases hbig : 9000 < n
  · clear hn hS hm hM
    go_enter Try.func3, Try.ntmps3
    go_wp2_with fail
    refine HL.out.mono ?_
    rintro e w1 ⟨rfl, hb1⟩
    obtain ⟨B1, K1⟩ := HW1.out w1 hb1
    have c0 := K1.cell 0
    have c1 := K1.cell 1
    simp only [List.getElem?_toArray, List.getElem?_cons_zero, List.getElem?_cons_succ] at c0 c1
    clear hb1 K1
    go_wp2_with fail
    go_ret
    exact ⟨rfl, B1⟩
  by_cases hbig2 : 100 < m
  · clear hn hS hm hM
    go_enter Try.func3, Try.ntmps3
    go_wp2_with fail
    refine HL.out.mono ?_
    rintro e w1 ⟨rfl, hb1⟩
    obtain ⟨B1, K1⟩ := HW1.out w1 hb1
    have c0 := K1.cell 0
    have c1 := K1.cell 1
    simp only [List.getElem?_toArray, List.getElem?_cons_zero, List.getElem?_cons_succ] at c0 c1
    clear hb1 K1
    go_wp2_with fail
    go_ret
    exact ⟨rfl, B1⟩
  by_cases hlong : 8192 < n
  · have hsz := fun W => fsize_any (n : Int) W (by omega) (by omega)
    have hz : Fr.size (n : Int) = 0 := by unfold Fr.size; rw [if_pos (.inr (by omega))]
    rw [hz] at hsz
    have HP := hid (fun W => fput_long t n A c W hlong hcap)
    have HSZ := hid hsz
    clear hn hS hm hM hsz hz
    go_enter Try.func3, Try.ntmps3
    go_wp2_with fail
    refine HL.out.mono ?_
    rintro e w1 ⟨rfl, hb1⟩
    obtain ⟨B1, K1⟩ := HW1.out w1 hb1
    have c0 := K1.cell 0
    have c1 := K1.cell 1
    simp only [List.getElem?_toArray, List.getElem?_cons_zero, List.getElem?_cons_succ] at c0 c1
    clear hb1
    go_wp2_with fail
    refine (HP.out _).mono ?_
    rintro e w2 ⟨rfl, hb2⟩
    have k2 := K1.below hb2 K1.lt
    have B2 := bw_t B1 hb2
    clear c0 c1
    have c0 := k2.cell 0
    have c1 := k2.cell 1
    simp only [List.getElem?_toArray, List.getElem?_cons_zero, List.getElem?_cons_succ] at c0 c1
    clear hb2 K1 k2
    go_wp2_with (go_at_call 8; refine (HSZ.out _).mono ?_; rintro e w' ⟨rfl, rfl⟩)
    go_ret
    exact ⟨rfl, B2⟩
  obtain ⟨i0, hi, hz0, hz1, hz2⟩ := info_parts Try.info5
  obtain ⟨T, hT, hT2⟩ : ∃ T : UInt8, (T.toNat : Int) = (t : Int) ∧ T = b8 t := ⟨b8 t, by rw [b8_toNat (by omega)], rfl⟩
  have hsz := fun W => fsize_any (n : Int) W (by omega) (by omega)
  have hz : Fr.size (n : Int) = (n : Int) + 9 := by unfold Fr.size; rw [if_neg (by omega)]
  rw [hz] at hsz
  have hpl := Fr.put_len T bs
  rw [hn] at hpl
  have hput := fun W (hW : Below w.heap.size w W) => fput_any T bs n A c W hn (by omega) (hS.below hW)
  have hrput := fun W (hW : Below w.heap.size w W) => rfput_any T bs n A c W hn (by omega) (hS.below hW)
  have hsame := fun W A1 A2 c1 c2 (h1 : Sl W A1 c1 ((Fr.put T bs).map bv)) (h2 : Sl W A2 c2 ((Fr.put T bs).map bv)) => (same_at (Fr.put T bs) (Fr.put T bs) (n + 9) (n + 9) A1 A2 c1 c2 W hpl hpl (by omega) h1.rd h2.rd).mono (fun e w' h => (show e = .returned (.bool true) ∧ ∃ k, w' = W.drewN k from ⟨by rw [h.1]; simp, h.2⟩))
  have hread := fun W A1 c1 h => fread_ok T bs ms n (n + 9 + m) A1 c1 W hn (by omega) (by rw [hm]) h
  have hfs := fun W A1 c1 (hW : Below w.heap.size w W) (h1 : Sl W A1 c1 (bs.map bv)) => (fsame_any T T bs bs n n A1 A c1 c W hn hn h1 (hS.below hW)).mono (fun e w' h => (show e = .returned (.bool true) ∧ Below W.heap.size W w' from ⟨by rw [h.1]; simp, h.2⟩))
  have hless := fun (k : Nat) (hk : k < n + 9) W A1 c1 (h1 : Sl W A1 c1 (((Fr.put T bs).take k).map bv)) => fread_no ((Fr.put T bs).take k) k 4 A1 c1 W (Fr.rE_less T bs k (by omega) (by omega)) (by omega) (by rw [List.length_take, hpl]; omega) h1
  rw [hT] at hput hrput hread hfs
  have htk : ∀ W A1 c1 (k : Nat), k ≤ n + 9 → Sl W A1 c1 ((Fr.put T bs).map bv) → Sl W A1 c1 (((Fr.put T bs).take k).map bv) := fun W A1 c1 k hk h => ⟨by have := h.cap; rw [List.length_map] at this ⊢; rw [List.length_take]; omega, h.small, h.nil0, by have := h.rd.take k; rwa [← List.map_take] at this⟩
  generalize Fr.put T bs = P at *
  have HSZ := hid hsz
  have HPL := hid hpl
  have HPUT := hid hput
  have HRPUT := hid hrput
  have HSAME := hid hsame
  have HREAD := hid hread
  have HFS := hid hfs
  have HLESS := hid hless
  have HTK := hid htk
  have HM := hid hm
  have HMS := hid hM
  clear hsz hz hpl hput hrput hsame hread hfs hless htk hn hm hS hM hT hT2
  go_enter Try.func3, Try.ntmps3
  go_wp2_with fail
  refine HL.out.mono ?_
  rintro e w1 ⟨rfl, hb1⟩
  obtain ⟨B1, K1⟩ := HW1.out w1 hb1
  have c0 := K1.cell 0
  have c1 := K1.cell 1
  simp only [List.getElem?_toArray, List.getElem?_cons_zero, List.getElem?_cons_succ] at c0 c1
  clear hb1
  go_wp2_with fail
  refine (HPUT.out _ B1).mono ?_
  rintro e w2 ⟨v2, rfl, ho2, hb2⟩
  obtain ⟨A2, q2, rfl⟩ := row_slice' ho2
  have k2 := K1.below hb2 K1.lt
  have B2 := bw_t B1 hb2
  have hs2 := Sl.of_own'' ho2
  clear c0 c1
  have c0 := k2.cell 0
  have c1 := k2.cell 1
  simp only [List.getElem?_toArray, List.getElem?_cons_zero, List.getElem?_cons_succ] at c0 c1
  clear hb2 K1 ho2
  go_wp2_with fail
  refine (HRPUT.out _ B2).mono ?_
  rintro e w3 ⟨v3, rfl, ho3, hb3⟩
  obtain ⟨A3, q3, rfl⟩ := row_slice' ho3
  have k3 := k2.below hb3 k2.lt
  have B3 := bw_t B2 hb3
  have hs3 := Sl.of_own'' ho3
  have hs2 := hs2.below hb3
  clear c0 c1
  have c0 := k3.cell 0
  have c1 := k3.cell 1
  simp only [List.getElem?_toArray, List.getElem?_cons_zero, List.getElem?_cons_succ] at c0 c1
  clear hb3 k2 ho3
  go_wp2_with fail
  refine (HSAME.out _ _ _ _ _ hs2 hs3).mono ?_
  rintro e w4 ⟨rfl, kd, rfl⟩
  have k4 : Blk (w3.drewN kd) w.heap.size 24 #[.int .u8 (t : Int), .slice A n c] := k3
  have B4 := bw_d B3 kd
  have hs4 := hs2.below (bw_d (Below.refl _ w3) kd)
  have hl4 := k4.lt
  have d0 := k4.cell 0
  have d1 := k4.cell 1
  simp only [List.getElem?_toArray, List.getElem?_cons_zero, List.getElem?_cons_succ] at d0 d1
  clear c0 c1 hs2 hs3 k3 B3
  generalize w3.drewN kd = w5 at *
  have HS4 := hid (hs4.below (bw_a (Below.refl _ w5) (.cells #[] 5)))
  have HB4 := hid (bw_a B4 (.cells #[] 5))
  have HB5 := hid B4
  have HS5 := hid hs4
  have HK4 := hid k4
  have hrow0 : (w5.alloc (.cells #[] 5)).ownsRow w5.heap.size 5 1 (.slice (some ⟨w5.heap.size, 0, none⟩) 0 0) 0 [] := World.ownsRow_made w5 #[] 0 (Nat.le_refl _) (by decide) rfl
  have HR0 := hid hrow0
  have hq2 := hs4.cap
  rw [List.length_map, HPL.out] at hq2
  clear hs4 B4 k4 hrow0
  have hb1s : Sl w5 B d (ms.map bv) := HMS.out.below HB5.out
  have HM5 := hid hb1s
  have hmm := HM.out
  have HMM := hid hmm
  clear hb1s hmm
  go_wp2_with (first | (go_at_call 8; refine (HSZ.out _).mono ?_; rintro e w' ⟨rfl, rfl⟩) | (at_builtin; refine wpList_append_rd rfl (.tmp 68) (.tmp 69) 22 rfl w5.heap.size 5 i0 (.int .u8 0) 1 1 Try.underlying22 hi hz0 hz1 hz2 rfl (by decide) _ _ _ rfl HR0.out A2 (n + 9) q2 (P.map bv) rfl (by rw [List.length_map, HPL.out, Nat.mul_one]) HS4.out.rd HS4.out.nil0 (bv_one _) (by simp only [maxLen]; omega) (by omega) (by simp) ?_; intro v6 w6 hown6 hgrow6; have HO6 := hid hown6; have HB6 := hid (bw_g (bw_a (Below.refl _ w5) _) hgrow6 (fun k ek => (HR0.out.lt k ek).1)); have HM6 := hid (HM5.out.below HB6.out); clear hown6 hgrow6) | (at_builtin; refine wpList_append_rd rfl (.tmp 70) (.tmp 71) 22 rfl w5.heap.size 5 i0 (.int .u8 0) 1 1 Try.underlying22 hi hz0 hz1 hz2 rfl (by decide) _ _ _ rfl HO6.out B m d (ms.map bv) rfl (by rw [List.length_map, HM.out, Nat.mul_one]) HM6.out.rd HM6.out.nil0 (bv_one _) (by simp only [maxLen]; omega) (by omega) HB6.out.size ?_; intro v7 w7 hown7 hgrow7; have HO7 := hid hown7; have HB7 := hid (bw_g HB6.out hgrow7 (fun k ek => (HO6.out.lt k ek).1)); clear hown7 hgrow7))
  have ho7 := HO7.out
  rw [List.nil_append, ← List.map_append, show 0 + (n + 9) + m = n + 9 + m from by omega] at ho7
  obtain ⟨A7, q7, rfl⟩ := row_slice' ho7
  refine (HREAD.out _ _ _ (Sl.of_own'' ho7)).mono ?_
  rintro e w8 ⟨A8, q8, rfl, hp8, hb8⟩
  have hb58 := bw_t HB7.out hb8
  have k8 := HK4.out.below hb58 HK4.out.lt
  have B8 := bw_t HB5.out hb58
  have hs8 := HS5.out.below hb58
  have hp9 := hp8.below (bw_a (Below.refl _ w8) (.cells #[.int .u8 (t : Int), .slice A8 n q8] 24))
  have B9 := bw_a B8 (.cells #[.int .u8 (t : Int), .slice A8 n q8] 24)
  have e0 := k8.cell 0
  have e1 := k8.cell 1
  simp only [List.getElem?_toArray, List.getElem?_cons_zero, List.getElem?_cons_succ] at e0 e1
  have hl8 := k8.lt
  have HB9 := hid B9
  have HP9 := hid hp9
  have HS9 := hid (hs8.below (bw_a (Below.refl _ w8) (.cells #[.int .u8 (t : Int), .slice A8 n q8] 24)))
  clear ho7 hp8 hb8 hb58 k8 B8 hs8 hp9 B9 d0 d1
  go_wp2_with fail
  refine (HFS.out _ _ _ HB9.out HP9.out.sl).mono ?_
  rintro e w10 ⟨rfl, hb10⟩
  have HB10 := hid (bw_t HB9.out hb10)
  have HS10 := hid (HS9.out.below hb10)
  clear hb10
  by_cases hneg : less < 0
  · go_wp2_with fail
    go_ret
    exact ⟨rfl, HB10.out⟩
  by_cases hge : (n : Int) + 9 ≤ less
  · go_wp2_with fail
    go_ret
    exact ⟨rfl, HB10.out⟩
  obtain ⟨k, rfl⟩ : ∃ k : Nat, less = (k : Int) := ⟨less.toNat, by omega⟩
  have hlk : (k : Int) < (n : Int) + 9 := by omega
  have hkc : (k : Int) ≤ (q2 : Int) := by omega
  have hk0 : (0 : Int) ≤ (k : Int) := by omega
  have HLK := hid (HLESS.out k (by omega) w10 A2 q2 (HTK.out _ _ _ k (by omega) HS10.out))
  go_wp2_with fail
  refine HLK.out.mono ?_
  rintro e w11 ⟨rfl, hb11⟩
  have HB11 := hid (bw_a (bw_t HB10.out hb11) (.cells #[.int .u8 0, .slice none 0 0] 24))
  clear hb11
  go_wp2_with fail
  go_ret
  exact ⟨rfl, HB11.out⟩
end Go.Proofs.Ytdnfbnfjjenjjaa
