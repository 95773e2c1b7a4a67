/- What is awake in the theorem of texts. -/
import Derived.Test.YtapgjkbodfpdaaaDoorProg
import Derived.Test.YtapgjkbodfpdaaaDoorBase
import Derived.Test.YtapgjkbodfpdaaaDoorInNew
import Derived.Test.YtapgjkbodfpdaaaDoorInBytes
import Derived.Test.YtapgjkbodfpdaaaDoorUtfCount
import Derived.Laws.BytesArg
set_option linter.unusedVariables false
namespace Go.Proofs.YtapgjkbodfpdaaaDoor
open Go.RowKit
theorem conv_bs {P : Program} {w : World} {src dst e : TypeId} {A : Option Addr} {n c : Nat} {vs : List UInt8} (hsl : Sl w A c (vs.map bv)) (hn : vs.length = n) (hs : P.underlying src = some (.slice e)) (he : P.underlying e = some (.int .u8)) (hd : P.underlying dst = some .string) :
    (convert src dst (.slice A n c)).run P w = .ok (.string ⟨vs.toArray⟩) w := by
  subst hn
  cases A with
  | none =>
    obtain hnil := hsl.rd.none_nil
    obtain rfl : vs = [] := by simpa using hnil
    obtain rfl := hsl.nil0 rfl
    exact run_convert_bytes_nil w src e hs he 0 0 dst hd
  | some a =>
    exact run_convert_bytes_back _ src dst e _ _ vs hs he hd fun j hj => by
      have := hsl.rd.addr j (bv vs[j]) (by simp [hj])
      simpa [bv] using this
abbrev bsT : List UInt8 := [2, 195, 164, 1, 97]
theorem lT_new (W : World) (N : Nat) (hN : W.heap.size = N) : Calls Tryd.prog 7 #[.slice (some ⟨N, 0, none⟩) 5 5] (W.alloc (.cells #[.int .u8 2, .int .u8 195, .int .u8 164, .int .u8 1, .int .u8 97] 5)) fun e w' => ∃ q A' c', e = .returned (.pointer (some ⟨q, 0, none⟩)) ∧ Rin 50 w' q A' c' bsT 0 ∧ W.heap.size ≤ q ∧ (∀ g, q ≤ g → Far A' bsT.length g) ∧ Below W.heap.size W w' := by
  subst hN
  refine (new_any bsT 5 _ 5 _ rfl (by omega) ⟨by simp, by omega, (fun h => by cases h), Rd.new W 5 #[.int .u8 2, .int .u8 195, .int .u8 164, .int .u8 1, .int .u8 97]⟩).mono ?_
  rintro e w' ⟨q, A', c', rfl, hr, hq, hf, hb⟩
  refine ⟨q, A', c', rfl, hr, by simp at hq; omega, fun g hg => hf g (.inr hg), ?_⟩
  exact ((Below.refl _ W).alloc (Nat.le_refl _) _).trans (hb.mono (by simp))
section
variable {w : World} {q : Nat} {A : Option Addr} {c : Nat}
theorem lT_a (h : Rin 50 w q A c bsT 0) (hf : ∀ g, q ≤ g → Far A bsT.length g) : Calls Tryd.prog 8 #[.pointer (some ⟨q, 0, none⟩), .int .i64 9] w fun e w' => ∃ A' c', e = .returned (.tuple #[.slice A' 2 c', .agg #[.int .i64 0, .int .i64 0]]) ∧ Sl w' A' c' (([195, 164] : List UInt8).map bv) ∧ (∀ g, q ≤ g → Far A' 2 g) ∧ Rin 50 w' q A c bsT 3 ∧ Only q w w' := by
  have h1 := ibytesm_any 9 w q A c bsT 0 (by omega) (by omega) h
  rw [show rCount 9 bsT 0 = ([195, 164], 0, 3) from by decide] at h1
  exact h1.mono fun e w' ⟨A', c', he, hs, hfa, hr, ho⟩ => ⟨A', c', he, hs, fun g hg => hfa g (hf g hg), hr, ho⟩
theorem lT_b (h : Rin 50 w q A c bsT 3) : Calls Tryd.prog 8 #[.pointer (some ⟨q, 0, none⟩), .int .i64 9] w fun e w' => ∃ A' c', e = .returned (.tuple #[.slice A' 1 c', .agg #[.int .i64 0, .int .i64 0]]) ∧ Sl w' A' c' (([97] : List UInt8).map bv) ∧ Rin 50 w' q A c bsT 5 ∧ Only q w w' := by
  have h1 := ibytesm_any 9 w q A c bsT 3 (by omega) (by omega) h
  rw [show rCount 9 bsT 3 = ([97], 0, 5) from by decide] at h1
  exact h1.mono fun e w' ⟨A', c', he, hs, hfa, hr, ho⟩ => ⟨A', c', he, hs, hr, ho⟩
theorem lT_ca (w : World) : Calls Tryd.prog 12 #[.string ⟨#[195, 164]⟩] w fun e w' => e = .returned (.int .i64 1) ∧ Below w.heap.size w w' := by
  have h := count_any ⟨#[195, 164]⟩ [195, 164] w rfl (by simp)
  rwa [show countI [195, 164] = 1 from by decide +kernel] at h
theorem lT_cb (w : World) : Calls Tryd.prog 12 #[.string ⟨#[97]⟩] w fun e w' => e = .returned (.int .i64 1) ∧ Below w.heap.size w w' := by
  have h := count_any ⟨#[97]⟩ [97] w rfl (by simp)
  rwa [show countI [97] = 1 from by decide +kernel] at h
end
set_option maxRecDepth 100000 in
set_option maxHeartbeats 4000000 in
theorem liveT_any (w : World) : Calls Tryd.prog 4 #[] w fun e w' => e = .returned (.bool true) ∧ Below w.heap.size w w' := by
  go_enter Tryd.func4, Tryd.ntmps4
  go_wp2_with fail
  refine (lT_new _ _ rfl).mono ?_
  rintro e w1 ⟨q, A, c, rfl, hr1, hq1, hfar, hb1⟩
  have HF := hid hfar
  have HB1 := hid hb1
  clear hfar hb1
  go_wp2_with fail
  refine (lT_a hr1 HF.out).mono ?_
  rintro e w2 ⟨A2, c2, rfl, hs2, hf2, hr2, ho2⟩
  have q2 := hr2.blk.lt
  have ow2 := (Only.refl q w1).trans ho2
  have HR2 := hid hr2
  have HS2 := hid hs2
  have HF2 := hid hf2
  clear hr1 hr2 ho2 hs2 hf2
  go_wp2_with fail
  have hG1 : Blk (w2.alloc (.cells #[.int .i64 0, .int .i64 0] 28)) w2.heap.size 28 #[.int .i64 0, .int .i64 0] := Blk.new w2 _ _
  have hbb := (Below.refl w2.heap.size w2).alloc (Nat.le_refl _) (.cells #[.int .i64 0, .int .i64 0] 28)
  have hrr := HR2.out.below hbb
  have hss := HS2.out.below hbb
  refine (lT_b hrr).mono ?_
  rintro e w3 ⟨A3, c3, rfl, hs3, hr3, ho3⟩
  have hs2 := ho3.sl hss (HF2.out q (Nat.le_refl _)) rfl
  have hG1' := ho3.blk hG1 (by omega)
  have l3 := hG1'.lt
  have HS3 := hid hs3
  have HS2b := hid hs2
  have HG1 := hid hG1'
  have HO3 := hid ((ow2.alloc (.cells #[.int .i64 0, .int .i64 0] 28)).trans ho3)
  clear hG1 hbb hrr hss hs3 hr3 ho3 hs2 hG1' ow2
  have hW := (Below.refl w3.heap.size w3).alloc (Nat.le_refl _) (.cells #[.int .i64 0, .int .i64 0] 28)
  have hcv := conv_bs (n := 2) (P := Tryd.prog) (dst := 9) (HS2b.out.below hW) rfl Tryd.underlying24 Tryd.underlying5 Tryd.underlying9
  have HW := hid hW
  clear hW
  go_wp2_with fail
  refine (lT_ca _).mono ?_
  rintro e w4 ⟨rfl, hb4⟩
  have hG2 : Blk (w3.alloc (.cells #[.int .i64 0, .int .i64 0] 28)) w3.heap.size 28 #[.int .i64 0, .int .i64 0] := Blk.new w3 _ _
  have hs4 := (HS3.out.below HW.out).below hb4
  have hg2 := hG2.below hb4 hG2.lt
  have hg1 := (HG1.out.below HW.out HG1.out.lt).below hb4 (HG1.out.below HW.out HG1.out.lt).lt
  have hcw := conv_bs (n := 1) (P := Tryd.prog) (dst := 9) hs4 rfl Tryd.underlying24 Tryd.underlying5 Tryd.underlying9
  have HG14 := hid hg1
  have HG24 := hid hg2
  have HB4 := hid hb4
  clear hG2 hs4 hg1 hg2 hb4 hcv
  go_wp2_with fail
  refine (lT_cb _).mono ?_
  rintro e w5 ⟨rfl, hb5⟩
  have hg1 := HG14.out.below hb5 HG14.out.lt
  have hg2 := HG24.out.below hb5 HG24.out.lt
  have k10 : w5.cell? ⟨w2.heap.size, 0, none⟩ = some (.int .i64 0) := hg1.cell 0
  have k11 : w5.cell? ⟨w2.heap.size, 1, none⟩ = some (.int .i64 0) := hg1.cell 1
  have k20 : w5.cell? ⟨w3.heap.size, 0, none⟩ = some (.int .i64 0) := hg2.cell 0
  have k21 : w5.cell? ⟨w3.heap.size, 1, none⟩ = some (.int .i64 0) := hg2.cell 1
  have HB5 := hid hb5
  clear hg1 hg2 hb5 hcw
  go_wp2_with fail
  go_ret
  refine ⟨rfl, ?_⟩
  have h18 := HO3.out.below hq1 HB1.out.size
  have h19 := HB1.out.trans h18
  have h20 := h19.trans (HW.out.mono h19.size)
  have h21 := h20.trans (HB4.out.mono h20.size)
  exact h21.trans (HB5.out.mono h21.size)
end Go.Proofs.YtapgjkbodfpdaaaDoor
