/- The walk of SkipReads. -/
import Derived.Test.YtfbmdeegcoocnaaRefFlds
import Derived.Test.YtfbmdeegcoocnaaSame6
set_option linter.unusedVariables false
namespace Go.Proofs.Ytfbmdeegcoocnaa
open Go.RowKit
/-- Fields read alike: the same numbers, bytes and places. -/
theorem fvAll_K {l1 l2 : List FV} {rs : List (RF × Nat)} (h1 : fvAll l1 rs) (h2 : fvAll l2 rs) : l1.map fvK = l2.map fvK := by
  induction l1 generalizing l2 rs with
  | nil => cases rs with
    | nil => cases l2 with
      | nil => rfl
      | cons f l2 => exact h2.elim
    | cons r rs => exact h1.elim
  | cons f l1 ih => cases rs with
    | nil => exact h1.elim
    | cons r rs => cases l2 with
      | nil => exact h2.elim
      | cons g l2 =>
        obtain ⟨⟨a1, a2, a3, a4, a5⟩, ha⟩ := h1
        obtain ⟨⟨b1, b2, b3, b4, b5⟩, hb⟩ := h2
        simp only [List.map_cons]
        rw [ih ha hb]
        congr 1
        unfold fvK
        rw [a1, a2, a3, a4, a5, b1, b2, b3, b4, b5]
set_option maxRecDepth 100000 in
set_option maxHeartbeats 2000000 in
theorem skipReads_any (bs : List UInt8) (n : Nat) (A : Option Addr) (c : Nat) (w : World) (hn : bs.length = n) (hS : Sl w A c (bs.map bv)) :
    Calls Try.prog 3 #[.slice A n c] w fun e w' => e = .returned (.bool true) ∧ Below w.heap.size w w' := by
  have hcap : n ≤ 9223372036854775807 := by have h1 := hS.cap; have h2 := hS.small; rw [List.length_map] at h1; omega
  have hlive := live6_any w
  by_cases hbig : 1000 < n
  · have HL := hid hlive
    clear hlive hn hS
    go_enter Try.func3, Try.ntmps3
    go_wp2_with fail
    refine HL.out.mono ?_
    rintro e w1 ⟨rfl, hb1⟩
    go_wp2_with fail
    go_ret
    exact ⟨rfl, hb1⟩
  have hf := fun W (hW : Below w.heap.size w W) => (callsIn_wide (n := 4)).1 (fields_in 4 (by omega) bs n A c W hn (by omega) (hS.below hW))
  have hg := fun W (hW : Below w.heap.size w W) => rflds_any bs n A c W hn (by omega) (hS.below hW)
  generalize flds bs n 0 = F at *
  obtain ⟨rs, fe, fp⟩ := F
  simp only at hf hg
  have HL := hid hlive
  have HF := hid hf
  have HG := hid hg
  clear hlive hn hS hf hg
  go_enter Try.func3, Try.ntmps3
  go_wp2_with fail
  refine HL.out.mono ?_
  rintro e w1 ⟨rfl, hb1⟩
  go_wp2_with fail
  refine (HF.out _ hb1).mono ?_
  rintro e w2 ⟨hor, hb2⟩
  have b2 := bw_t hb1 hb2
  clear hb1 hb2
  by_cases he : fe = 0
  · subst he
    rcases hor with ⟨-, v, b, pre, rfl, -, ho, hfa, hsl⟩ | ⟨h, -⟩
    · obtain ⟨Al, cl, rfl, hsn⟩ := sln_own (by omega) ho
      have hsl2 : ∀ f ∈ pre, Sl w2 f.s.A f.s.c (f.s.xs.map bv) := fun f hf => (hsl f hf).1
      clear ho hsl
      go_wp2_with fail
      have hk := Blk.new w2 27 #[.int .i64 0, .int .i64 0]
      have b2a := bw_a b2 (.cells #[.int .i64 0, .int .i64 0] 27)
      have hb2a := bw_a (Below.refl w2.heap.size w2) (.cells #[.int .i64 0, .int .i64 0] 27)
      refine (HG.out _ b2a).mono ?_
      rintro e w3 ⟨(⟨-, v2, pre2, rfl, ho2, hfa2, hsl3⟩ | ⟨h, -⟩), hb3⟩
      · obtain ⟨A2, c2, rfl, hsn2⟩ := sln_own (by omega) ho2
        have hE := fvAll_K hfa hfa2
        have hb23 := bw_t hb2a hb3
        have hk3 := hk.below hb3 hk.lt
        have d0 := hk3.cell 0
        have d1 := hk3.cell 1
        simp only [List.getElem?_toArray, List.getElem?_cons_zero, List.getElem?_cons_succ] at d0 d1
        have hlz := hk3.lt
        have hsn3 := hsn.below hb23
        have hsl23 : ∀ f ∈ pre, Sl w3 f.s.A f.s.c (f.s.xs.map bv) := fun f hf => (hsl2 f hf).below hb23
        have hsm := fun W (hW : Below w3.heap.size w3 W) => same6_any pre pre2 pre.length pre2.length Al A2 cl c2 W rfl rfl (hsn3.below hW) (hsn2.below hW) (fun f hf => (hsl23 f hf).below hW) (fun f hf => (hsl3 f hf).below hW) hE
        have B3 := bw_t b2a hb3
        have HSM := hid hsm
        clear hsm hsn3 hsl23 hb23 hk3 hE ho2 hsn2 hsl3 hfa hfa2 hb3 hk b2a hb2a hsn hsl2
        generalize w2.heap.size = z at *
        go_wp2_with fail
        refine (HSM.out _ (bw_a (Below.refl _ w3) _)).mono ?_
        rintro e w4 ⟨rfl, hb4⟩
        go_wp2_with fail
        go_ret
        exact ⟨rfl, bw_t (bw_a B3 (.cells #[.int .i64 0, .int .i64 0] 27)) hb4⟩
      · exact absurd rfl h
    · exact absurd rfl h
  · rcases hor with ⟨h, -⟩ | ⟨-, rfl⟩
    · exact absurd h he
    · go_wp2_with fail
      have hk := Blk.new w2 27 #[.int .i64 (fe : Int), .int .i64 (fp : Int)]
      have b2a := bw_a b2 (.cells #[.int .i64 (fe : Int), .int .i64 (fp : Int)] 27)
      refine (HG.out _ b2a).mono ?_
      rintro e w3 ⟨(⟨h, -⟩ | ⟨-, rfl⟩), hb3⟩
      · exact absurd h he
      · have hk3 := hk.below hb3 hk.lt
        have d0 := hk3.cell 0
        have d1 := hk3.cell 1
        simp only [List.getElem?_toArray, List.getElem?_cons_zero, List.getElem?_cons_succ] at d0 d1
        have hlz := hk3.lt
        have B3 := bw_t b2a hb3
        have hsm := fun W => same6_any [] [] 0 0 none none 0 0 W rfl rfl ⟨by simp, by omega, by omega, fun _ => rfl, Rd.nil_ W none⟩ ⟨by simp, by omega, by omega, fun _ => rfl, Rd.nil_ W none⟩ (fun f hf => by simp at hf) (fun f hf => by simp at hf) rfl
        have HSM := hid hsm
        clear hsm hk3 hb3 hk b2a
        generalize w2.heap.size = z at *
        go_wp2_with fail
        refine (HSM.out _).mono ?_
        rintro e w4 ⟨rfl, hb4⟩
        go_wp2_with fail
        go_ret
        exact ⟨rfl, bw_t (bw_a B3 (.cells #[.int .i64 (fe : Int), .int .i64 (fp : Int)] 27)) hb4⟩
end Go.Proofs.Ytfbmdeegcoocnaa
