/- varint.Short, tag.Head, and what is awake in layers 1 and 2. -/
import Derived.Test.YtoakedonbjfgoaaAll
import Derived.Test.YtoakedonbjfgoaaNum
import Derived.Test.YtoakedonbjfgoaaTagNum
import Derived.Test.YtoakedonbjfgoaaRefPut
import Derived.Test.YtoakedonbjfgoaaFixed
import Derived.Test.YtoakedonbjfgoaaSame
set_option linter.unusedVariables false
namespace Go.Proofs.Ytoakedonbjfgoaa
open Go.RowKit
def shortB (bs : List UInt8) : Bool := decide ((M.get bs).2.2 = 0 ∧ (M.get bs).2.1 = sizeN (M.get bs).1)
set_option maxRecDepth 100000 in
set_option maxHeartbeats 400000 in
theorem short_at (bs : List UInt8) (n : Nat) (A : Option Addr) (c : Nat) (w : World) (hn : bs.length = n) (hl : n ≤ 9223372036854775807) (hR : BRd w A bs) :
    Calls Try.prog 20 #[.slice A n c] w fun e w' => e = .returned (.bool (shortB bs)) ∧ w = w' := by
  have hg := get_at bs n A c w hn hl hR
  have hf := M.get_facts bs
  have hs : shortB bs = decide ((M.get bs).2.2 = 0 ∧ (M.get bs).2.1 = sizeN (M.get bs).1) := rfl
  generalize M.get bs = g at *
  obtain ⟨v, k, e⟩ := g
  simp only at hg hf hs
  have HG := hid hg
  have HS := hid hs
  clear hg hs
  by_cases he : e = 0
  · subst he
    have hv := (hf.1 rfl).2.2.2
    have hz := size_any v w hv
    have HZ := hid hz
    clear hf hz
    generalize sizeN v = z at *
    go_enter Try.func20, Try.ntmps20
    go_wp2_with (first | (go_at_call 18; refine HG.out.mono ?_; rintro e w' ⟨rfl, rfl⟩) | (go_at_call 17; refine HZ.out.mono ?_; rintro e w' ⟨rfl, rfl⟩))
    go_ret
    exact ⟨ret_bool (by rw [HS.out]; by_cases h : k = z <;> simp [h]; try omega), rfl⟩
  · have heb : ((e : Int) == 0) = false := by simp; omega
    clear hf
    go_enter Try.func20, Try.ntmps20
    go_wp2_with (go_at_call 18; refine HG.out.mono ?_; rintro e w' ⟨rfl, rfl⟩)
    go_ret
    exact ⟨ret_bool (by rw [HS.out]; simp [he]), rfl⟩
def headL (n x : Int) : List UInt8 := if (mk n x).2 = 0 then putN (mk n x).1.toNat else []
theorem mk_facts (n x : Int) (h0 : 0 ≤ x) (h1 : x ≤ 255) : 0 ≤ (mk n x).1 ∧ (mk n x).1 ≤ 4294967295 ∧ 0 ≤ (mk n x).2 ∧ (mk n x).2 ≤ 7 := by
  unfold mk
  split
  · simp
  · split
    · simp
    · rename_i h h'
      have := wireB_lt (x := x) (by simpa using h')
      simp; omega
set_option maxRecDepth 100000 in
set_option maxHeartbeats 400000 in
theorem head_any (n x : Int) (w : World) (h1 : 0 ≤ x) (h2 : x ≤ 255) :
    Calls Try.prog 30 #[.int .i64 n, .int .u8 x] w fun e w' => ∃ A c, e = .returned (.slice A (headL n x).length c) ∧ Sl w' A c ((headL n x).map bv) ∧ Below w.heap.size w w' := by
  have hm := make_any n x w h1 h2
  have hf := mk_facts n x h1 h2
  have hh : headL n x = if (mk n x).2 = 0 then putN (mk n x).1.toNat else [] := rfl
  generalize mk n x = g at *
  obtain ⟨v, e⟩ := g
  simp only at hm hf hh
  generalize headL n x = l at *
  have HM := hid hm
  clear hm
  by_cases he : e = 0
  · subst he
    obtain ⟨m, rfl⟩ : ∃ m : Nat, v = (m : Int) := ⟨v.toNat, by omega⟩
    obtain rfl : l = putN m := by simpa using hh
    have HP := hid (vput_any m w (by omega))
    clear hh
    go_enter Try.func30, Try.ntmps30
    go_wp2_with (first | (go_at_call 28; refine HM.out.mono ?_; rintro e w' ⟨rfl, rfl⟩) | (go_at_call 14; refine HP.out.mono ?_; rintro e w' ⟨A, c, rfl, hs, hb⟩))
    go_ret
    exact ⟨A, c, rfl, hs, hb⟩
  · have heb : (e != 0) = true := by simpa using he
    obtain rfl : l = [] := by simpa [he] using hh
    clear hh
    go_enter Try.func30, Try.ntmps30
    go_wp2_with (go_at_call 28; refine HM.out.mono ?_; rintro e w' ⟨rfl, rfl⟩)
    go_ret
    exact ⟨none, 0, rfl, Sl.nil_ _, Below.refl _ _⟩
theorem put300 : putN 300 = [172, 2] := by rw [putN_big (by omega), putN_small (by omega)]; rfl
theorem live_get (W : World) (N : Nat) (hN : W.heap.size = N) : Calls Try.prog 18 #[.slice (some ⟨N, 0, none⟩) 3 3] (W.alloc (.cells #[.int .u8 128, .int .u8 0, .int .u8 7] 5)) fun e w' => e = .returned (.tuple #[.int .u64 0, .int .i64 2, .int .i64 0]) ∧ W.alloc (.cells #[.int .u8 128, .int .u8 0, .int .u8 7] 5) = w' := by
  subst hN
  have h := get_at [128, 0, 7] 3 _ 3 _ rfl (by omega) (Rd.new W 5 #[.int .u8 128, .int .u8 0, .int .u8 7])
  rwa [show M.get [128, 0, 7] = (0, 2, 0) from by decide] at h
theorem live_all (W : World) (N : Nat) (hN : W.heap.size = N) : Calls Try.prog 24 #[.slice (some ⟨N, 0, none⟩) 2 2] (W.alloc (.cells #[.int .u8 1, .int .u8 2] 5)) fun e w' => ∃ A c, e = .returned (.tuple #[.slice A 2 c, .agg #[.int .i64 0, .int .i64 0]]) ∧ Below (W.heap.size + 1) (W.alloc (.cells #[.int .u8 1, .int .u8 2] 5)) w' := by
  subst hN
  have h := all_any [1, 2] (some ⟨W.heap.size, 0, none⟩) 2 (W.alloc (.cells #[.int .u8 1, .int .u8 2] 5)) (by simp) ⟨by simp, by omega, (fun h => by cases h), Rd.new W 5 #[.int .u8 1, .int .u8 2]⟩
  rw [show M.all [1, 2] = ([1, 2], 0, 0) from by decide] at h
  refine h.mono ?_
  rintro e w' ⟨v, rfl, ho, hb⟩
  obtain ⟨A, c, rfl, _, _⟩ := Sl.of_own ho
  exact ⟨A, c, rfl, by simpa using hb⟩
theorem live_short0 (W : World) (N : Nat) (hN : W.heap.size = N) : Calls Try.prog 20 #[.slice (some ⟨N, 0, none⟩) 2 2] (W.alloc (.cells #[.int .u8 128, .int .u8 0] 5)) fun e w' => e = .returned (.bool false) ∧ W.alloc (.cells #[.int .u8 128, .int .u8 0] 5) = w' := by
  subst hN
  have h := short_at [128, 0] 2 _ 2 _ rfl (by omega) (Rd.new W 5 #[.int .u8 128, .int .u8 0])
  rwa [show shortB [128, 0] = false from by
    unfold shortB; rw [show M.get [128, 0] = (0, 2, 0) from by decide]; simp [sizeN]] at h
theorem short300 : shortB [172, 2] = true := by
  unfold shortB
  rw [show M.get [172, 2] = (300, 2, 0) from by decide]
  simp [sizeN]
set_option maxRecDepth 100000 in
set_option maxHeartbeats 1000000 in
theorem live1_any (w : World) : Calls Try.prog 13 #[] w fun e w' => e = .returned (.bool true) ∧ Below w.heap.size w w' := by
  go_enter Try.func13, Try.ntmps13
  go_wp2_with fail
  have hp : Calls Try.prog 14 #[.int .u64 300] w _ := vput_any 300 w (by omega)
  refine hp.mono ?_
  rw [put300]
  rintro e w1 ⟨A, c, rfl, hs, hb⟩
  obtain ⟨g, o, rfl, hg, hc0⟩ := BRd.at_ (bs := [172, 2]) hs.rd (k := 0) (by simp)
  have HSL := hid hs
  simp at hc0
  clear hs hp
  go_wp2_with fail
  refine (live_get _ _ rfl).mono ?_
  rintro e w2 ⟨rfl, rfl⟩
  go_wp2_with fail
  refine (live_all _ _ (by simp)).mono ?_
  rintro e w3 ⟨A3, c3, rfl, hb3⟩
  have hb13 : Below w1.heap.size w1 w3 := ((Below.refl _ w1).alloc (Nat.le_refl _) _).trans (((Below.refl _ _).alloc (by simp) _).trans (hb3.mono (by simp; omega)))
  have hs13 := hb13.size
  have hc3 : w3.cell? ⟨g, o, none⟩ = some (.int .u8 172) := (hb13.cell (p := ⟨g, o, none⟩) hg).trans hc0
  have hg3 : g < w3.heap.size := by omega
  have HSL3 := hid (HSL.out.below hb13)
  have HB := hid hb
  have HB13 := hid hb13
  clear hb hb13 hb3 hc0 HSL hs13
  go_wp2_with fail
  refine (live_short0 _ _ (by simp)).mono ?_
  rintro e w4 ⟨rfl, rfl⟩
  go_wp2_with fail
  refine (short_at [172, 2] 2 _ _ _ rfl (by omega) (HSL3.out.rd.below (((Below.refl _ _).alloc (Nat.le_refl _) _).alloc (by simp) _))).mono ?_
  rw [short300]
  rintro e w5 ⟨rfl, rfl⟩
  go_wp2_with fail
  refine (zig_any (-2) _ (by omega) (by omega)).mono ?_
  rw [show zig (-2) = 3 from by decide]
  rintro e w6 ⟨rfl, rfl⟩
  go_wp2_with fail
  refine (zag_any 3 _ (by omega) (by omega)).mono ?_
  rw [show zag 3 = -2 from by decide]
  rintro e w7 ⟨rfl, rfl⟩
  go_wp2_with fail
  have h128 : ∀ W : World, Calls Try.prog 17 #[.int .u64 128] W _ := fun W => size_any 128 W (by omega)
  refine (h128 _).mono ?_
  rw [show sizeN 128 = 2 from by simp [sizeN]]
  rintro e w8 ⟨rfl, rfl⟩
  go_wp2_with fail
  go_ret
  refine ⟨rfl, ?_⟩
  exact ((HB.out.trans (HB13.out.mono HB.out.size)).alloc (Nat.le_trans HB.out.size HB13.out.size) _).alloc (by have := HB.out.size; have := HB13.out.size; simp; omega) _
end Go.Proofs.Ytoakedonbjfgoaa
