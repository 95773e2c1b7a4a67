/- What is awake in layer 4. -/
import Derived.Test.YtpicgemjfodlcaaProg
import Derived.Test.YtpicgemjfodlcaaBase
import Derived.Test.YtpicgemjfodlcaaInNew
import Derived.Test.YtpicgemjfodlcaaInTag
import Derived.Test.YtpicgemjfodlcaaInAt
import Derived.Laws.BytesArg
set_option linter.unusedVariables false
namespace Go.Proofs.Ytpicgemjfodlcaa
open Go.RowKit
theorem conv_sl {P : Program} {w : World} {src dst e : TypeId} {A : Option Addr} {n c : Nat} {vs : List UInt8} (hsl : Sl w A c (vs.map bv)) (hn : vs.length = n) (hs : P.underlying src = some (.slice e)) (he : P.underlying e = some (.int .u8)) (hd : P.underlying dst = some .string) :
    (convert src dst (.slice A n c)).run P w = .ok (.string ⟨vs.toArray⟩) w := by
  subst hn
  cases A with
  | none =>
    obtain hnil := hsl.rd.none_nil
    obtain rfl : vs = [] := by simpa using hnil
    obtain rfl := hsl.nil0 rfl
    exact run_convert_bytes_nil w src e hs he 0 0 dst hd
  | some a =>
    exact run_convert_bytes_back _ src dst e _ _ vs hs he hd fun j hj => by
      have := hsl.rd.addr j (bv vs[j]) (by simp [hj])
      simpa [bv] using this
abbrev bs4 : List UInt8 := [3, 97, 98, 99, 10, 5]
theorem l4_new (W : World) (N : Nat) (hN : W.heap.size = N) : Calls Try.prog 6 #[.slice (some ⟨N, 0, none⟩) 6 6] (W.alloc (.cells #[.int .u8 3, .int .u8 97, .int .u8 98, .int .u8 99, .int .u8 10, .int .u8 5] 5)) fun e w' => ∃ q A' c', e = .returned (.pointer (some ⟨q, 0, none⟩)) ∧ Rin 51 w' q A' c' bs4 0 ∧ W.heap.size ≤ q ∧ (∀ g, q ≤ g → Far A' bs4.length g) ∧ Below W.heap.size W w' := by
  subst hN
  refine (new_any bs4 6 _ 6 _ rfl (by omega) ⟨by simp, by omega, (fun h => by cases h), Rd.new W 5 #[.int .u8 3, .int .u8 97, .int .u8 98, .int .u8 99, .int .u8 10, .int .u8 5]⟩).mono ?_
  rintro e w' ⟨q, A', c', rfl, hr, hq, hf, hb⟩
  refine ⟨q, A', c', rfl, hr, by simp at hq; omega, fun g hg => hf g (.inr hg), ?_⟩
  exact ((Below.refl _ W).alloc (Nat.le_refl _) _).trans (hb.mono (by simp))
section
variable {w : World} {q : Nat} {A : Option Addr} {c : Nat}
theorem l4_bytes2 (h : Rin 51 w q A c bs4 0) : Calls Try.prog 14 #[.pointer (some ⟨q, 0, none⟩), .int .i64 2] w fun e w' => (∃ A' c', e = .returned (.tuple #[.slice A' 0 c', .agg #[.int .i64 2, .int .i64 0]])) ∧ Rin 51 w' q A c bs4 0 ∧ Only q w w' := by
  have h1 := ibytesm_any 2 w q A c bs4 0 (by omega) (by omega) h
  rw [show rCount 2 bs4 0 = ([], 2, 1) from by decide] at h1
  exact h1.mono fun e w' ⟨A', c', he, _, _, hr, ho⟩ => ⟨⟨A', c', he⟩, hr, ho⟩
theorem l4_bytes9 (h : Rin 51 w q A c bs4 0) (hf : ∀ g, q ≤ g → Far A bs4.length g) : Calls Try.prog 14 #[.pointer (some ⟨q, 0, none⟩), .int .i64 9] w fun e w' => ∃ A' c', e = .returned (.tuple #[.slice A' 3 c', .agg #[.int .i64 0, .int .i64 0]]) ∧ Sl w' A' c' (([97, 98, 99] : List UInt8).map bv) ∧ (∀ g, q ≤ g → Far A' 3 g) ∧ Rin 51 w' q A c bs4 4 ∧ Only q w w' := by
  have h1 := ibytesm_any 9 w q A c bs4 0 (by omega) (by omega) h
  rw [show rCount 9 bs4 0 = ([97, 98, 99], 0, 4) from by decide] at h1
  exact h1.mono fun e w' ⟨A', c', he, hs, hfa, hr, ho⟩ => ⟨A', c', he, hs, fun g hg => hfa g (hf g hg), hr, ho⟩
theorem l4_tag (h : Rin 51 w q A c bs4 4) : Calls Try.prog 11 #[.pointer (some ⟨q, 0, none⟩)] w fun e w' => e = .returned (.tuple #[.int .i64 1, .int .u8 2, .agg #[.int .i64 0, .int .i64 0]]) ∧ Rin 51 w' q A c bs4 5 ∧ Only q w w' := by
  have h1 := itagm_any w q A c bs4 4 h
  rwa [show rHead bs4 4 = (1, 2, 0, 5) from by decide] at h1
theorem l4_var (h : Rin 51 w q A c bs4 5) : Calls Try.prog 10 #[.pointer (some ⟨q, 0, none⟩)] w fun e w' => e = .returned (.tuple #[.int .u64 5, .agg #[.int .i64 0, .int .i64 0]]) ∧ Rin 51 w' q A c bs4 6 ∧ Only q w w' := by
  have h1 := inumm_any w q A c bs4 5 h
  rwa [show M.get (bs4.drop 5) = (5, 1, 0) from by decide] at h1
theorem l4_four (h : Rin 51 w q A c bs4 6) : Calls Try.prog 12 #[.pointer (some ⟨q, 0, none⟩)] w fun e w' => e = .returned (.tuple #[.int .u32 0, .agg #[.int .i64 4, .int .i64 6]]) ∧ Rin 51 w' q A c bs4 6 ∧ Only q w w' := by
  have h1 := ifourm_any w q A c bs4 6 h
  rwa [show rFix 4 bs4 6 = (0, 4, 6) from by decide] at h1
theorem l4_left (h : Rin 51 w q A c bs4 6) : Calls Try.prog 9 #[.pointer (some ⟨q, 0, none⟩)] w fun e w' => e = .returned (.int .i64 0) ∧ ∃ n, w' = w.drewN n := ileft_any w q A c bs4 6 h
end
set_option maxRecDepth 100000 in
set_option maxHeartbeats 4000000 in
theorem live4_any (w : World) : Calls Try.prog 5 #[] w fun e w' => e = .returned (.bool true) ∧ Below w.heap.size w w' := by
  go_enter Try.func5, Try.ntmps5
  go_wp2_with fail
  refine (l4_new _ _ rfl).mono ?_
  rintro e w1 ⟨q, A, c, rfl, hr1, hq1, hfar, hb1⟩
  have HF := hid hfar
  have HB1 := hid hb1
  clear hfar hb1
  go_wp2_with fail
  refine (l4_bytes2 hr1).mono ?_
  rintro e w2 ⟨⟨A2, c2, rfl⟩, hr2, ho2⟩
  have ql2 := hr2.blk.lt
  have ow2 := (Only.refl q w1).trans ho2
  have s2 := ho2.size
  have HR2 := hid hr2
  clear hr1 hr2 ho2
  go_wp2_with fail
  have hF1 : Blk (w2.alloc (.cells #[.int .i64 2, .int .i64 0] 37)) w2.heap.size 37 #[.int .i64 2, .int .i64 0] := Blk.new w2 _ _
  have hr2a := HR2.out.below ((Below.refl w2.heap.size w2).alloc (Nat.le_refl _) (.cells #[.int .i64 2, .int .i64 0] 37))
  refine (l4_bytes9 hr2a HF.out).mono ?_
  rintro e w3 ⟨A3, c3, rfl, hs3, hf3, hr3, ho3⟩
  have hF1' := ho3.blk hF1 (by omega)
  have ow3 := (ow2.alloc (.cells #[.int .i64 2, .int .i64 0] 37)).trans ho3
  have l31 := hF1'.lt
  have HR3 := hid hr3
  have HS3 := hid hs3
  have HF3 := hid hf3
  have HO3 := hid ow3
  have HG3_1 := hid hF1'
  have q3 : q < w3.heap.size := HR3.out.blk.lt
  have NE1 : w2.heap.size ≠ q := by omega
  clear hF1 hF1' hr2a ho3 ow2 ow3 hr3 hs3 hf3
  go_wp2_with fail
  have hG2 : Blk (w3.alloc (.cells #[.int .i64 0, .int .i64 0] 37)) w3.heap.size 37 #[.int .i64 0, .int .i64 0] := Blk.new w3 _ _
  have hbb := (Below.refl w3.heap.size w3).alloc (Nat.le_refl _) (.cells #[.int .i64 0, .int .i64 0] 37)
  have hrr := HR3.out.below hbb
  have hss := HS3.out.below hbb
  have hg1 := HG3_1.out.alloc (.cells #[.int .i64 0, .int .i64 0] 37)
  refine (l4_tag hrr).mono ?_
  rintro e w4 ⟨rfl, hr4, ho4⟩
  have hs4 := ho4.sl hss (HF3.out q (Nat.le_refl _)) rfl
  have hg1' := ho4.blk hg1 NE1
  have NE2 : w3.heap.size ≠ q := by omega
  have hG2' := ho4.blk hG2 NE2
  have HO4 := hid ((HO3.out.alloc (.cells #[.int .i64 0, .int .i64 0] 37)).trans ho4)
  have HR4 := hid hr4
  have HG4_1 := hid hg1'
  have HG4_2 := hid hG2'
  have HS4 := hid hs4
  have q4 : q < w4.heap.size := HR4.out.blk.lt
  clear hbb hrr hss hr4 ho4 hs4 hG2 hG2' hg1 hg1'
  go_wp2_with fail
  have hG3 : Blk (w4.alloc (.cells #[.int .i64 0, .int .i64 0] 37)) w4.heap.size 37 #[.int .i64 0, .int .i64 0] := Blk.new w4 _ _
  have hbb := (Below.refl w4.heap.size w4).alloc (Nat.le_refl _) (.cells #[.int .i64 0, .int .i64 0] 37)
  have hrr := HR4.out.below hbb
  have hss := HS4.out.below hbb
  have hg1 := HG4_1.out.alloc (.cells #[.int .i64 0, .int .i64 0] 37)
  have hg2 := HG4_2.out.alloc (.cells #[.int .i64 0, .int .i64 0] 37)
  refine (l4_var hrr).mono ?_
  rintro e w5 ⟨rfl, hr5, ho5⟩
  have hs5 := ho5.sl hss (HF3.out q (Nat.le_refl _)) rfl
  have hg1' := ho5.blk hg1 NE1
  have hg2' := ho5.blk hg2 NE2
  have NE3 : w4.heap.size ≠ q := by omega
  have hG3' := ho5.blk hG3 NE3
  have HO5 := hid ((HO4.out.alloc (.cells #[.int .i64 0, .int .i64 0] 37)).trans ho5)
  have HR5 := hid hr5
  have HG5_1 := hid hg1'
  have HG5_2 := hid hg2'
  have HG5_3 := hid hG3'
  have HS5 := hid hs5
  have q5 : q < w5.heap.size := HR5.out.blk.lt
  clear hbb hrr hss hr5 ho5 hs5 hG3 hG3' hg1 hg1' hg2 hg2'
  go_wp2_with fail
  have hG4 : Blk (w5.alloc (.cells #[.int .i64 0, .int .i64 0] 37)) w5.heap.size 37 #[.int .i64 0, .int .i64 0] := Blk.new w5 _ _
  have hbb := (Below.refl w5.heap.size w5).alloc (Nat.le_refl _) (.cells #[.int .i64 0, .int .i64 0] 37)
  have hrr := HR5.out.below hbb
  have hss := HS5.out.below hbb
  have hg1 := HG5_1.out.alloc (.cells #[.int .i64 0, .int .i64 0] 37)
  have hg2 := HG5_2.out.alloc (.cells #[.int .i64 0, .int .i64 0] 37)
  have hg3 := HG5_3.out.alloc (.cells #[.int .i64 0, .int .i64 0] 37)
  refine (l4_four hrr).mono ?_
  rintro e w6 ⟨rfl, hr6, ho6⟩
  have hs6 := ho6.sl hss (HF3.out q (Nat.le_refl _)) rfl
  have hg1' := ho6.blk hg1 NE1
  have hg2' := ho6.blk hg2 NE2
  have hg3' := ho6.blk hg3 NE3
  have NE4 : w5.heap.size ≠ q := by omega
  have hG4' := ho6.blk hG4 NE4
  have HO6 := hid ((HO5.out.alloc (.cells #[.int .i64 0, .int .i64 0] 37)).trans ho6)
  have HR6 := hid hr6
  have HG6_1 := hid hg1'
  have HG6_2 := hid hg2'
  have HG6_3 := hid hg3'
  have HG6_4 := hid hG4'
  have HS6 := hid hs6
  have q6 : q < w6.heap.size := HR6.out.blk.lt
  clear hbb hrr hss hr6 ho6 hs6 hG4 hG4' hg1 hg1' hg2 hg2' hg3 hg3'
  go_wp2_with fail
  have hG5 : Blk (w6.alloc (.cells #[.int .i64 4, .int .i64 6] 37)) w6.heap.size 37 #[.int .i64 4, .int .i64 6] := Blk.new w6 _ _
  have hbb := (Below.refl w6.heap.size w6).alloc (Nat.le_refl _) (.cells #[.int .i64 4, .int .i64 6] 37)
  have hrr := HR6.out.below hbb
  have hss := HS6.out.below hbb
  have hg1 := HG6_1.out.alloc (.cells #[.int .i64 4, .int .i64 6] 37)
  have hg2 := HG6_2.out.alloc (.cells #[.int .i64 4, .int .i64 6] 37)
  have hg3 := HG6_3.out.alloc (.cells #[.int .i64 4, .int .i64 6] 37)
  have hg4 := HG6_4.out.alloc (.cells #[.int .i64 4, .int .i64 6] 37)
  refine (nil_varint _).mono ?_
  rintro e w7 ⟨rfl, hb7⟩
  have hs7 := hss.below hb7
  have hg1' := hg1.below hb7 hg1.lt
  have hg2' := hg2.below hb7 hg2.lt
  have hg3' := hg3.below hb7 hg3.lt
  have hg4' := hg4.below hb7 hg4.lt
  have hG5' := hG5.below hb7 hG5.lt
  have HO7 := hid ((HO6.out.alloc (.cells #[.int .i64 4, .int .i64 6] 37)).trans (.of_below hb7))
  have HR7 := hid (hrr.below hb7)
  have HG7_1 := hid hg1'
  have HG7_2 := hid hg2'
  have HG7_3 := hid hg3'
  have HG7_4 := hid hg4'
  have HG7_5 := hid hG5'
  have HS7 := hid hs7
  have q7 : q < w7.heap.size := HR7.out.blk.lt
  clear hbb hrr hss hb7 hs7 hG5 hG5' hg1 hg1' hg2 hg2' hg3 hg3' hg4 hg4'
  go_wp2_with fail
  have hG6 : Blk (w7.alloc (.cells #[.int .i64 4, .int .i64 0] 37)) w7.heap.size 37 #[.int .i64 4, .int .i64 0] := Blk.new w7 _ _
  have hbb := (Below.refl w7.heap.size w7).alloc (Nat.le_refl _) (.cells #[.int .i64 4, .int .i64 0] 37)
  have hrr := HR7.out.below hbb
  have hss := HS7.out.below hbb
  have hg1 := HG7_1.out.alloc (.cells #[.int .i64 4, .int .i64 0] 37)
  have hg2 := HG7_2.out.alloc (.cells #[.int .i64 4, .int .i64 0] 37)
  have hg3 := HG7_3.out.alloc (.cells #[.int .i64 4, .int .i64 0] 37)
  have hg4 := HG7_4.out.alloc (.cells #[.int .i64 4, .int .i64 0] 37)
  have hg5 := HG7_5.out.alloc (.cells #[.int .i64 4, .int .i64 0] 37)
  refine (nil_take 0 _).mono ?_
  rintro e w8 ⟨rfl, hb8⟩
  have hs8 := hss.below hb8
  have hg1' := hg1.below hb8 hg1.lt
  have hg2' := hg2.below hb8 hg2.lt
  have hg3' := hg3.below hb8 hg3.lt
  have hg4' := hg4.below hb8 hg4.lt
  have hg5' := hg5.below hb8 hg5.lt
  have hG6' := hG6.below hb8 hG6.lt
  have HO8 := hid ((HO7.out.alloc (.cells #[.int .i64 4, .int .i64 0] 37)).trans (.of_below hb8))
  have HR8 := hid (hrr.below hb8)
  have HG8_1 := hid hg1'
  have HG8_2 := hid hg2'
  have HG8_3 := hid hg3'
  have HG8_4 := hid hg4'
  have HG8_5 := hid hg5'
  have HG8_6 := hid hG6'
  have HS8 := hid hs8
  have q8 : q < w8.heap.size := HR8.out.blk.lt
  clear hbb hrr hss hb8 hs8 hG6 hG6' hg1 hg1' hg2 hg2' hg3 hg3' hg4 hg4' hg5 hg5'
  have k10 : w8.cell? ⟨w2.heap.size, 0, none⟩ = some (.int .i64 2) := HG8_1.out.cell 0
  have k11 : w8.cell? ⟨w2.heap.size, 1, none⟩ = some (.int .i64 0) := HG8_1.out.cell 1
  have kl1 : w2.heap.size < w8.heap.size := HG8_1.out.lt
  have k20 : w8.cell? ⟨w3.heap.size, 0, none⟩ = some (.int .i64 0) := HG8_2.out.cell 0
  have k21 : w8.cell? ⟨w3.heap.size, 1, none⟩ = some (.int .i64 0) := HG8_2.out.cell 1
  have kl2 : w3.heap.size < w8.heap.size := HG8_2.out.lt
  have k30 : w8.cell? ⟨w4.heap.size, 0, none⟩ = some (.int .i64 0) := HG8_3.out.cell 0
  have k31 : w8.cell? ⟨w4.heap.size, 1, none⟩ = some (.int .i64 0) := HG8_3.out.cell 1
  have kl3 : w4.heap.size < w8.heap.size := HG8_3.out.lt
  have k40 : w8.cell? ⟨w5.heap.size, 0, none⟩ = some (.int .i64 0) := HG8_4.out.cell 0
  have k41 : w8.cell? ⟨w5.heap.size, 1, none⟩ = some (.int .i64 0) := HG8_4.out.cell 1
  have kl4 : w5.heap.size < w8.heap.size := HG8_4.out.lt
  have k50 : w8.cell? ⟨w6.heap.size, 0, none⟩ = some (.int .i64 4) := HG8_5.out.cell 0
  have k51 : w8.cell? ⟨w6.heap.size, 1, none⟩ = some (.int .i64 6) := HG8_5.out.cell 1
  have kl5 : w6.heap.size < w8.heap.size := HG8_5.out.lt
  have k60 : w8.cell? ⟨w7.heap.size, 0, none⟩ = some (.int .i64 4) := HG8_6.out.cell 0
  have k61 : w8.cell? ⟨w7.heap.size, 1, none⟩ = some (.int .i64 0) := HG8_6.out.cell 1
  have kl6 : w7.heap.size < w8.heap.size := HG8_6.out.lt
  have hW := (Below.refl w8.heap.size w8).alloc (Nat.le_refl _) (.cells #[.int .i64 4, .int .i64 0] 37)
  have hcv := conv_sl (n := 3) (P := Try.prog) (dst := 9) (HS8.out.below hW) rfl Try.underlying22 Try.underlying5 Try.underlying9
  have hr9 := HR8.out.below hW
  have HR9 := hid hr9
  clear hW hr9
  go_wp2_with fail
  refine (iat_any 0 _ q A c bs4 6 HR9.out).mono ?_
  rintro e w9 ⟨rfl, rfl⟩
  go_wp2_with fail
  refine (l4_left HR9.out).mono ?_
  rintro e w10 ⟨rfl, n10, rfl⟩
  go_wp2_with fail
  refine (iat_nil _).mono ?_
  rintro e w11 ⟨rfl, rfl⟩
  go_wp2_with fail
  refine (ileft_nil _).mono ?_
  rintro e w12 ⟨rfl, rfl⟩
  go_wp2_with fail
  go_ret
  refine ⟨rfl, ?_⟩
  have h18 := HO8.out.below hq1 HB1.out.size
  exact bw_d (bw_a (HB1.out.trans h18) _) n10
end Go.Proofs.Ytpicgemjfodlcaa
