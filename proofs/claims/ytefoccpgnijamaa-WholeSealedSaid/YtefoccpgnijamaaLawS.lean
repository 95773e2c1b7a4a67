/- What must be whatever is asked, of stage 4's theorems through the layers. -/
import Derived.Test.YtefoccpgnijamaaLive7
import Derived.Test.YtefoccpgnijamaaLaw6E
import Derived.Test.YtefoccpgnijamaaSchMore
import Derived.Test.YtefoccpgnijamaaLive8
set_option linter.unusedVariables false
namespace Go.Proofs.Ytefoccpgnijamaa
open Go.RowKit
theorem ls_put (w : World) : Calls Try.prog 26 #[.slice (some ⟨w.heap.size, 0, none⟩) 1 1] (w.alloc (.cells #[.int .i64 1, .int .u8 0, .int .u64 5, .slice none 0 0, .int .i64 0] 41)) fun e W' => ∃ A c, e = .returned (.tuple #[.slice A 2 c, .agg #[.int .i64 0, .int .i64 0]]) ∧ Sl W' A c (([8, 5] : List UInt8).map bv) ∧ Below w.heap.size w W' := by
  have hsn : SlN (w.alloc (.cells #[.int .i64 1, .int .u8 0, .int .u64 5, .slice none 0 0, .int .i64 0] 41)) (some ⟨w.heap.size, 0, none⟩) 1 1 5 (([⟨1, 0, 5, ⟨none, 0, []⟩, 0⟩] : List FV).flatMap fvC) :=
    ⟨rfl, Nat.le_refl _, by omega, (fun h => by cases h), Rd.new w 41 #[.int .i64 1, .int .u8 0, .int .u64 5, .slice none 0 0, .int .i64 0]⟩
  have hok : ∀ f ∈ ([⟨1, 0, 5, ⟨none, 0, []⟩, 0⟩] : List FV), FvOk (w.alloc (.cells #[.int .i64 1, .int .u8 0, .int .u64 5, .slice none 0 0, .int .i64 0] 41)) f := by
    intro f hf
    simp at hf
    subst hf
    exact ⟨by dsimp only; omega, by dsimp only; omega, by dsimp only; omega, by dsimp only; omega, by dsimp only; omega, by dsimp only; omega, by dsimp only; omega, Sl.nil_ _⟩
  refine (sputs_any _ 1 _ 1 _ rfl (by omega) hsn hok (by intro f hf; simp at hf; subst hf; show (0 : Nat) ≤ _; omega)).mono ?_
  rintro e W' ⟨(⟨-, v, rfl, ho⟩ | ⟨h, -⟩), hb⟩
  · have hl : ([⟨1, 0, 5, ⟨none, 0, []⟩, 0⟩] : List FV).flatMap pBF = [8, 5] := by simp [pBF, pB, pTail, mk, wireB, putN_small, b8]
    rw [hl] at ho
    obtain ⟨A, c, rfl, -, hs⟩ := Sl.of_own ho
    exact ⟨A, c, rfl, hs, (bw_a (Below.refl w.heap.size w) _).trans (hb.mono (by simp))⟩
  · exact absurd rfl h
theorem ls_find (W : World) : Calls Try.prog 11 #[.int .u8 1, .int .i64 1, .int .i64 1] W fun e w' => e = .returned (.tuple #[.agg #[.int .i64 1, .int .i64 1, .int .i64 0], .bool true]) ∧ Below W.heap.size W w' :=
  ((callsIn_wide (n := 4)).1 (sfind_in 4 (by omega) 1 1 1 W (by omega) (by omega))).mono fun e w' ⟨he, hb⟩ => by
    have hl : finS 1 1 1 = some ⟨1, 1, 1, 1, 0⟩ := by decide +kernel
    rw [hl] at he
    exact ⟨he, hb⟩
set_option maxRecDepth 100000 in
set_option maxHeartbeats 4000000 in
theorem awakeSeal_any (w : World) : Calls Try.prog 29 #[] w fun e w' => e = .returned (.bool true) ∧ Below w.heap.size w w' := by
  go_enter Try.func29, Try.ntmps29
  go_wp2_with fail
  refine (ls_put w).mono ?_
  rintro e w1 ⟨A1, c1, rfl, hs1, hb1⟩
  have hb1a := bw_a (Below.refl w1.heap.size w1) (.cells #[.int .i64 0, .int .i64 0] 51)
  have hk1 := Blk.new w1 51 #[.int .i64 0, .int .i64 0]
  have hB1 := hb1.trans (hb1a.mono hb1.size)
  have hs1a := hs1.below hb1a
  have HS1 := hid hs1a
  have HB1 := hid hB1
  have HK1 := hid hk1
  clear hs1 hb1 hb1a hB1 hs1a hk1
  go_wp2_with fail
  refine (cseal_sl [8, 5] 2 6 A1 c1 _ rfl rfl (by omega) HS1.out).mono ?_
  rintro e w2 ⟨A2, c2, rfl, hs2, hb2⟩
  have hk2 := HK1.out.below hb2 HK1.out.lt
  have HB2 := hid (HB1.out.trans (hb2.mono HB1.out.size))
  have HS2 := hid hs2
  have HK2 := hid hk2
  clear hs2 hk2 hb2
  go_wp2_with fail
  refine (copen_ok [8, 5] 2 6 A2 c2 w2 rfl rfl (by omega) HS2.out).mono ?_
  rintro e w3 ⟨A3, c3, rfl, -, hb3⟩
  have hk3 := HK2.out.below hb3 HK2.out.lt
  have HB3 := hid (HB2.out.trans (hb3.mono HB2.out.size))
  have HK3 := hid hk3
  clear hk3 hb3
  go_wp2_with fail
  refine (ls_find w3).mono ?_
  rintro e w4 ⟨rfl, hb4⟩
  have hk4 := HK3.out.below hb4 HK3.out.lt
  have HB4 := hid (bw_a (HB3.out.trans (hb4.mono HB3.out.size)) (.cells #[.int .i64 1, .int .i64 1, .int .i64 0] 28))
  have d0 := hk4.cell 0
  have d1 := hk4.cell 1
  simp only [List.getElem?_toArray, List.getElem?_cons_zero, List.getElem?_cons_succ] at d0 d1
  have hlt := hk4.lt
  clear hk4 hb4
  go_wp2_with fail
  go_ret
  exact ⟨rfl, HB4.out⟩
end Go.Proofs.Ytefoccpgnijamaa
