/- What a writer's methods do: New, Out, Varint, Tag, Four, Eight; and what a nil writer answers. -/
import Derived.Test.YtefoccpgnijamaaWr
import Derived.Test.YtefoccpgnijamaaM4
set_option linter.unusedVariables false
namespace Go.Proofs.Ytefoccpgnijamaa
open Go.RowKit
/-- How much a writer has room for at most. -/
def capN (most : Int) : Nat := (min (max most 0) 16777216).toNat
set_option maxRecDepth 100000 in
set_option maxHeartbeats 1000000 in
theorem onew_any (m : Int) (w : World) (h1 : -9223372036854775808 ≤ m) (h2 : m ≤ 9223372036854775807) :
    Calls Try.prog 17 #[.int .i64 m] w fun e w' => ∃ q, e = .returned (.pointer (some ⟨q, 0, none⟩)) ∧ Wr w' w.heap.size q (.slice none 0 0) [] (capN m) ∧ Below w.heap.size w w' := by
  go_enter Try.func17, Try.ntmps17
  go_wp2_with fail
  go_ret
  have hc : ((capN m : Nat) : Int) = min (max m 0) 16777216 := by unfold capN; omega
  refine ⟨_, rfl, ⟨?_, World.ownsRow_nil _ _ _ _, by simp, by unfold capN; omega, Nat.le_refl _⟩, (Below.refl _ w).alloc (Nat.le_refl _) _⟩
  rw [hc]
  exact Blk.new w _ _
theorem oout_any (w : World) (B q : Nat) (v : Value) (bs : List UInt8) (most : Nat) (h : Wr w B q v bs most) (hl : bs.length ≤ 1000000) :
    Calls Try.prog 28 #[.pointer (some ⟨q, 0, none⟩)] w fun e w' => ∃ A c, e = .returned (.slice A bs.length c) ∧ Sl w' A c (bs.map bv) ∧ (∀ b o, A = some ⟨b, o, none⟩ → w.heap.size ≤ b) ∧ Below w.heap.size w w' := by
  have c0 : w.cell? ⟨q, 0, none⟩ = some v := by simpa using h.blk.cell 0
  obtain ⟨A0, cc0, rfl, hlen0, hsl0⟩ := Sl.of_own h.row
  have hc := clone_any bs bs.length A0 cc0 w rfl hl hsl0
  generalize hbn : bs.length = m at *
  have HC := hid hc
  have HB := hid hbn
  clear hc h hsl0 hlen0 hbn
  go_enter Try.func28, Try.ntmps28
  go_wp2_with fail
  refine HC.out.mono ?_
  rintro e w1 ⟨v1, rfl, hrow, hb⟩
  go_wp2_with fail
  go_ret
  obtain ⟨A, c, rfl, hl1, hsl1⟩ := Sl.of_own hrow
  exact ⟨A, c, rfl, hsl1, fun b o he => (hrow.lt b (by rw [he]; rfl)).1, hb⟩
section
variable (w : World) (B q : Nat) (v : Value) (bs : List UInt8) (most : Nat)
set_option maxRecDepth 100000 in
set_option maxHeartbeats 1000000 in
theorem ovarint_any (n : Nat) (hn : n ≤ 18446744073709551615) (h : Wr w B q v bs most) :
    Calls Try.prog 22 #[.pointer (some ⟨q, 0, none⟩), .int .u64 (n : Int)] w fun e w' => ∃ v', e = .returned (.int .i64 ((wput most bs (putN n)).2 : Nat)) ∧ Wr w' B q v' (wput most bs (putN n)).1 most ∧ Stp q v v' bs.length w w' := by
  have HH := hid h
  generalize hp : putN n = xs at *
  have HP := hid hp
  clear h hp
  go_enter Try.func22, Try.ntmps22
  go_wp2_with fail
  refine (vput_any n w hn).mono ?_
  rintro e w1 ⟨A, c, rfl, hs, hb⟩
  rw [HP.out] at hs
  rw [HP.out]
  generalize hxl : xs.length = m
  have HS := hid hs
  have HB := hid hb
  have HXL := hid hxl
  clear hs hb hxl
  go_wp2_with fail
  refine (raw_any xs m A c w1 B q v bs most HXL.out HS.out (HH.out.new HB.out)).mono ?_
  rintro e w2 ⟨v', rfl, hw, hst⟩
  go_wp2_with fail
  go_ret
  exact ⟨v', rfl, hw, (Stp.of_new HB.out).trans hst (Nat.le_refl _)⟩
theorem ofour_any (n : Nat) (hn : n ≤ 4294967295) (h : Wr w B q v bs most) :
    Calls Try.prog 24 #[.pointer (some ⟨q, 0, none⟩), .int .u32 (n : Int)] w fun e w' => ∃ v', e = .returned (.int .i64 ((wput most bs (fixN 4 n)).2 : Nat)) ∧ Wr w' B q v' (wput most bs (fixN 4 n)).1 most ∧ Stp q v v' bs.length w w' := by
  have HH := hid h
  have hxl : (fixN 4 n).length = 4 := length_fixN 4 n
  generalize hp : fixN 4 n = xs at *
  have HP := hid hp
  have HXL := hid hxl
  clear h hp hxl
  go_enter Try.func24, Try.ntmps24
  go_wp2_with fail
  refine (fix32_any n hn w).mono ?_
  rintro e w1 ⟨A, c, rfl, hs, hb⟩
  rw [HP.out] at hs
  have HS := hid hs
  have HB := hid hb
  clear hs hb
  go_wp2_with fail
  refine (raw_any xs 4 A c w1 B q v bs most HXL.out HS.out (HH.out.new HB.out)).mono ?_
  rintro e w2 ⟨v', rfl, hw, hst⟩
  go_wp2_with fail
  go_ret
  exact ⟨v', rfl, hw, (Stp.of_new HB.out).trans hst (Nat.le_refl _)⟩
theorem oeight_any (n : Nat) (hn : n ≤ 18446744073709551615) (h : Wr w B q v bs most) :
    Calls Try.prog 23 #[.pointer (some ⟨q, 0, none⟩), .int .u64 (n : Int)] w fun e w' => ∃ v', e = .returned (.int .i64 ((wput most bs (fixN 8 n)).2 : Nat)) ∧ Wr w' B q v' (wput most bs (fixN 8 n)).1 most ∧ Stp q v v' bs.length w w' := by
  have HH := hid h
  have hxl : (fixN 8 n).length = 8 := length_fixN 8 n
  generalize hp : fixN 8 n = xs at *
  have HP := hid hp
  have HXL := hid hxl
  clear h hp hxl
  go_enter Try.func23, Try.ntmps23
  go_wp2_with fail
  refine (fix64_any n hn w).mono ?_
  rintro e w1 ⟨A, c, rfl, hs, hb⟩
  rw [HP.out] at hs
  have HS := hid hs
  have HB := hid hb
  clear hs hb
  go_wp2_with fail
  refine (raw_any xs 8 A c w1 B q v bs most HXL.out HS.out (HH.out.new HB.out)).mono ?_
  rintro e w2 ⟨v', rfl, hw, hst⟩
  go_wp2_with fail
  go_ret
  exact ⟨v', rfl, hw, (Stp.of_new HB.out).trans hst (Nat.le_refl _)⟩
/-- What writing a tag comes to. -/
def wtag (most : Nat) (bs : List UInt8) (num x : Int) : List UInt8 × Nat := if (mk num x).2 = 0 then wput most bs (putN (mk num x).1.toNat) else (bs, (mk num x).2.toNat)
set_option maxRecDepth 100000 in
set_option maxHeartbeats 1000000 in
theorem otag_any (num x : Int) (hx1 : 0 ≤ x) (hx2 : x ≤ 255) (h : Wr w B q v bs most) :
    Calls Try.prog 20 #[.pointer (some ⟨q, 0, none⟩), .int .i64 num, .int .u8 x] w fun e w' => ∃ v', e = .returned (.int .i64 ((wtag most bs num x).2 : Nat)) ∧ Wr w' B q v' (wtag most bs num x).1 most ∧ Stp q v v' bs.length w w' := by
  have HH := hid h
  have hf := mk_facts num x hx1 hx2
  have hmk := make_q num x w hx1 hx2
  have hvr := fun n hn w h => ovarint_any w B q v bs most n hn h
  clear h
  unfold wtag
  generalize mk num x = r at *
  obtain ⟨t, e0⟩ := r
  simp only at hf
  by_cases he : e0 = 0
  · subst he
    obtain ⟨n, rfl⟩ : ∃ n : Nat, t = (n : Int) := ⟨t.toNat, by omega⟩
    have hn : n ≤ 18446744073709551615 := by omega
    have HM := hid hmk
    have HV := hid (fun w h => hvr n hn w h)
    simp only [if_true, Int.toNat_natCast]
    clear hmk hvr
    go_enter Try.func20, Try.ntmps20
    go_wp2_with fail
    refine HM.out.mono ?_
    rintro e w1 ⟨rfl, rfl⟩
    go_wp2_with fail
    refine (HV.out _ HH.out).mono ?_
    rintro e w2 ⟨v', rfl, hw, hst⟩
    go_wp2_with fail
    go_ret
    exact ⟨v', rfl, hw, hst⟩
  · have heb : (e0 != 0) = true := by simp [he]
    have he2 : ((e0.toNat : Nat) : Int) = e0 := by omega
    have HM := hid hmk
    have HE2 := hid he2
    simp only [he, if_false]
    clear hmk hvr he he2
    go_enter Try.func20, Try.ntmps20
    go_wp2_with fail
    refine HM.out.mono ?_
    rintro e w1 ⟨rfl, rfl⟩
    go_wp2_with fail
    go_ret
    exact ⟨v, ret_int HE2.out.symm, HH.out, Stp.refl _ _ _ _⟩
end
end Go.Proofs.Ytefoccpgnijamaa
