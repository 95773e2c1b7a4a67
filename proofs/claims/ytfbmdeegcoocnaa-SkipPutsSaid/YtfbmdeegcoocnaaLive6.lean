/- What must be whatever is asked: layer 6. -/
import Derived.Test.YtfbmdeegcoocnaaSkLast
import Derived.Test.YtfbmdeegcoocnaaSkEnd
set_option linter.unusedVariables false
namespace Go.Proofs.Ytfbmdeegcoocnaa
open Go.RowKit
theorem sln_own {w : World} {base e size n : Nat} {v : Value} {xs : List Value} (hsz : 0 < size) (h : w.ownsRow base e size v n xs) : ∃ A c, v = .slice A n c ∧ SlN w A n c size xs := by
  rcases h.2 with ⟨rfl, rfl⟩ | ⟨g, cap, cur, rfl, hb, hg, hnc, hcm, hcs, htake⟩
  · have hx : xs = [] := List.eq_nil_of_length_eq_zero (by simpa using h.1)
    subst hx
    exact ⟨none, 0, rfl, ⟨by simp, by omega, by omega, fun _ => rfl, Rd.nil_ w _⟩⟩
  · refine ⟨_, cap, rfl, ⟨h.1, hnc, hcm, (fun h => by cases h), fun k u hk => ⟨g, 0, rfl, (Array.getElem?_eq_some_iff.1 hg).1, ?_⟩⟩⟩
    have := h.cells (g := g) rfl k u hk
    rwa [addr_add] at this
theorem l6_f1 : flds [8, 5, 18, 1, 97] 5 0 = ([(⟨1, 0, 5, [], 0, 0, 2⟩, 0), (⟨2, 2, 0, [97], 0, 0, 5⟩, 2)], 0, 0) := by rfl
theorem l6_f2 : flds [8, 5, 18, 9] 4 0 = ([(⟨1, 0, 5, [], 0, 0, 2⟩, 0)], 4, 3) := by rfl
theorem l6_end : rOne ([8, 5, 18, 1, 97].drop 2) 0 = ⟨2, 2, 0, [97], 0, 0, 3⟩ := by rfl
theorem l6_put (A1 A2 : Option Addr) (c1 c2 : Nat) : putsE [⟨1, 0, 5, ⟨A1, c1, []⟩, 0⟩, ⟨2, 2, 0, ⟨A2, c2, [97]⟩, 2⟩] 0 = (0, 0) := by rfl
theorem l6_len (A1 A2 : Option Addr) (c1 c2 : Nat) : ([⟨1, 0, 5, ⟨A1, c1, []⟩, 0⟩, ⟨2, 2, 0, ⟨A2, c2, [97]⟩, 2⟩] : List FV).flatMap pBF = [8, 5, 18, 1, 97] := by
  simp [pBF, pB, pTail, mk, wireB, putN_small, b8]
theorem l6_last (A1 A2 : Option Addr) (c1 c2 : Nat) : lastK [⟨1, 0, 5, ⟨A1, c1, []⟩, 0⟩, ⟨2, 2, 0, ⟨A2, c2, [97]⟩, 2⟩] 2 2 = some ⟨2, 2, 0, ⟨A2, c2, [97]⟩, 2⟩ := by
  simp [lastK]
theorem sl_lit (w : World) (t : TypeId) (bs : List UInt8) (cs : Array Value) (n : Nat) (hn : bs.length = n) (hm : n ≤ 9223372036854775807) (h : cs.toList = bs.map bv) : Sl (w.alloc (.cells cs t)) (some ⟨w.heap.size, 0, none⟩) n (bs.map bv) :=
  ⟨by simp [hn], hm, (fun h => by cases h), by rw [← h]; exact Rd.new w t cs⟩
theorem l6_fields (w : World) (A : Option Addr) (c : Nat) (hs : Sl w A c (([8, 5, 18, 1, 97] : List UInt8).map bv)) :
    Calls Try.prog 12 #[.slice A 5 c] w fun e W' => ∃ (Al : Option Addr) (cl : Nat) (A1 : Option Addr) (c1 : Nat) (A2 : Option Addr) (c2 : Nat), e = .returned (.tuple #[.slice Al 2 cl, .agg #[.int .i64 0, .int .i64 0]]) ∧ SlN W' Al 2 cl 5 (([⟨1, 0, 5, ⟨A1, c1, []⟩, 0⟩, ⟨2, 2, 0, ⟨A2, c2, [97]⟩, 2⟩] : List FV).flatMap fvC) ∧
      FvOk W' ⟨1, 0, 5, ⟨A1, c1, []⟩, 0⟩ ∧ FvOk W' ⟨2, 2, 0, ⟨A2, c2, [97]⟩, 2⟩ ∧ Below w.heap.size w W' := by
  refine ((callsIn_wide (n := 4)).1 (fields_in 4 (by omega) [8, 5, 18, 1, 97] 5 A c w rfl (by omega) hs)).mono ?_
  rintro e W' ⟨(⟨-, v, b, pre, rfl, -, ho, hfa, hsl⟩ | ⟨he, -⟩), hb⟩
  · rw [l6_f1] at hfa
    match pre, hfa with
    | [⟨n1, w1, k1, ⟨A1, c1, x1⟩, a1⟩, ⟨n2, w2, k2, ⟨A2, c2, x2⟩, a2⟩], hfa =>
      obtain ⟨⟨h1, h2, h3, h4, h5⟩, ⟨h6, h7, h8, h9, h10⟩, -⟩ := hfa
      simp only at h1 h2 h3 h4 h5 h6 h7 h8 h9 h10
      subst h1 h2 h3 h4 h6 h7 h8 h9
      have h5 : a1 = 0 := h5
      have h10 : a2 = 2 := h10
      subst h5 h10
      obtain ⟨Al, cl, rfl, hsn⟩ := sln_own (by omega) ho
      have s1 := (hsl _ (List.mem_cons_self ..)).1
      have s2 := (hsl _ (List.mem_cons_of_mem _ (List.mem_singleton.2 rfl))).1
      exact ⟨Al, cl, A1, c1, A2, c2, rfl, hsn, ⟨by dsimp only; omega, by dsimp only; omega, by dsimp only; omega, by dsimp only; omega, by dsimp only; omega, by dsimp only; omega, by dsimp only; omega, s1⟩, ⟨by dsimp only; omega, by dsimp only; omega, by dsimp only; omega, by dsimp only; omega, by dsimp only; omega, by dsimp only; omega, by dsimp only; omega, s2⟩, hb⟩
  · rw [l6_f1] at he; exact absurd rfl he
theorem l6_short (w : World) (A : Option Addr) (c : Nat) (hs : Sl w A c (([8, 5, 18, 9] : List UInt8).map bv)) :
    Calls Try.prog 12 #[.slice A 4 c] w fun e W' => e = .returned (.tuple #[.slice none 0 0, .agg #[.int .i64 4, .int .i64 3]]) ∧ Below w.heap.size w W' := by
  refine ((callsIn_wide (n := 4)).1 (fields_in 4 (by omega) [8, 5, 18, 9] 4 A c w rfl (by omega) hs)).mono ?_
  rintro e W' ⟨(⟨he, -⟩ | ⟨-, rfl⟩), hb⟩
  · rw [l6_f2] at he; exact absurd he (by decide)
  · rw [l6_f2]; exact ⟨rfl, hb⟩
theorem l6_ends (w : World) (A : Option Addr) (c : Nat) (hs : Sl w A c (([8, 5, 18, 1, 97] : List UInt8).map bv)) :
    Calls Try.prog 15 #[.slice A 5 c, .int .i64 2] w fun e W' => e = .returned (.tuple #[.int .i64 5, .agg #[.int .i64 0, .int .i64 0]]) ∧ Below w.heap.size w W' := by
  refine (send_in [8, 5, 18, 1, 97] 5 A c 2 w rfl (by omega) (by omega) hs).mono ?_
  rintro e W' ⟨rfl, hb⟩
  rw [l6_end]
  exact ⟨rfl, hb⟩
/-- The two fields. -/
def L6 (A1 : Option Addr) (c1 : Nat) (A2 : Option Addr) (c2 : Nat) : List FV := [⟨1, 0, 5, ⟨A1, c1, []⟩, 0⟩, ⟨2, 2, 0, ⟨A2, c2, [97]⟩, 2⟩]
structure L6Ok (w : World) (Al : Option Addr) (cl : Nat) (A1 : Option Addr) (c1 : Nat) (A2 : Option Addr) (c2 : Nat) : Prop where
  sl : SlN w Al 2 cl 5 ((L6 A1 c1 A2 c2).flatMap fvC)
  ok : ∀ f ∈ L6 A1 c1 A2 c2, FvOk w f
theorem L6Ok.below {w w' : World} {Al A1 A2 : Option Addr} {cl c1 c2 : Nat} (h : L6Ok w Al cl A1 c1 A2 c2) (hb : Below w.heap.size w w') : L6Ok w' Al cl A1 c1 A2 c2 := ⟨h.sl.below hb, fun f hf => (h.ok f hf).below hb⟩
theorem L6_short (A1 : Option Addr) (c1 : Nat) (A2 : Option Addr) (c2 : Nat) : ∀ f ∈ L6 A1 c1 A2 c2, f.s.xs.length ≤ 2000 := by
  intro f hf
  simp only [L6, List.mem_cons, List.not_mem_nil, or_false] at hf
  rcases hf with rfl | rfl <;> simp
section
variable {w : World} {Al A1 A2 : Option Addr} {cl c1 c2 : Nat}
theorem l6_puts (h : L6Ok w Al cl A1 c1 A2 c2) : Calls Try.prog 18 #[.slice Al 2 cl] w fun e W' => ∃ v c, e = .returned (.tuple #[.slice v 5 c, .agg #[.int .i64 0, .int .i64 0]]) ∧ Below w.heap.size w W' := by
  refine (sputs_any _ 2 Al cl w rfl (by omega) h.sl h.ok (L6_short _ _ _ _)).mono ?_
  rintro e W' ⟨(⟨-, v, rfl, ho⟩ | ⟨he, -⟩), hb⟩
  · rw [show (L6 A1 c1 A2 c2).flatMap pBF = [8, 5, 18, 1, 97] from l6_len A1 A2 c1 c2] at ho
    obtain ⟨A, c, rfl, -, -⟩ := Sl.of_own ho
    exact ⟨A, c, rfl, hb⟩
  · exact absurd (by rw [show putsE (L6 A1 c1 A2 c2) 0 = (0, 0) from l6_put A1 A2 c1 c2]) he
theorem l6_lasts (h : L6Ok w Al cl A1 c1 A2 c2) : Calls Try.prog 23 #[.slice Al 2 cl, .int .i64 2, .int .u8 2] w fun e W' => ∃ A c, e = .returned (.tuple #[.agg #[.int .i64 2, .int .u8 2, .int .u64 0, .slice A 1 c, .int .i64 2], .bool true]) ∧ Sl W' A c (([97] : List UInt8).map bv) ∧ Below w.heap.size w W' := by
  refine (slast_any _ 2 Al cl 2 2 w rfl (by omega) h.sl h.ok (L6_short _ _ _ _)).mono ?_
  rintro e W' ⟨(⟨f, A, c, hf, rfl, ho⟩ | ⟨hf, -⟩), hb⟩
  · rw [show lastK (L6 A1 c1 A2 c2) 2 2 = _ from l6_last A1 A2 c1 c2] at hf
    injection hf with hf
    subst hf
    obtain ⟨A', c', he, -, hs⟩ := Sl.of_own ho
    injection he with e1 e2 e3
    subst e1 e3
    exact ⟨A, c, rfl, hs, hb⟩
  · rw [show lastK (L6 A1 c1 A2 c2) 2 2 = _ from l6_last A1 A2 c1 c2] at hf
    cases hf
theorem l6_of (h : L6Ok w Al cl A1 c1 A2 c2) : Calls Try.prog 24 #[.slice Al 2 cl, .int .i64 1] w fun e W' => ∃ A c, e = .returned (.slice A 1 c) ∧ Below w.heap.size w W' := by
  refine (sof_any _ 2 Al cl 1 w rfl (by omega) h.sl h.ok (L6_short _ _ _ _)).mono ?_
  rintro e W' ⟨v, fs, rfl, ho, hfs, -, hb⟩
  obtain ⟨A, c, rfl, -⟩ := sln_own (by omega) ho
  have hl := congrArg List.length hfs
  simp [L6] at hl
  exact ⟨A, c, by rw [hl], hb⟩
theorem l6_wo (h : L6Ok w Al cl A1 c1 A2 c2) : Calls Try.prog 25 #[.slice Al 2 cl, .int .i64 1] w fun e W' => ∃ A c, e = .returned (.slice A 1 c) ∧ Below w.heap.size w W' := by
  refine (swo_any _ 2 Al cl 1 w rfl (by omega) h.sl h.ok (L6_short _ _ _ _)).mono ?_
  rintro e W' ⟨v, fs, rfl, ho, hfs, -, hb⟩
  obtain ⟨A, c, rfl, -⟩ := sln_own (by omega) ho
  have hl := congrArg List.length hfs
  simp [L6] at hl
  exact ⟨A, c, by rw [hl], hb⟩
end
theorem conv_bs6 {P : Program} {w : World} {src dst e : TypeId} {A : Option Addr} {n c : Nat} {vs : List UInt8} (hsl : Sl w A c (vs.map bv)) (hn : vs.length = n) (hs : P.underlying src = some (.slice e)) (he : P.underlying e = some (.int .u8)) (hd : P.underlying dst = some .string) :
    (convert src dst (.slice A n c)).run P w = .ok (.string ⟨vs.toArray⟩) w := by
  subst hn
  cases A with
  | none =>
    obtain hnil := hsl.rd.none_nil
    obtain rfl : vs = [] := by simpa using hnil
    obtain rfl := hsl.nil0 rfl
    exact run_convert_bytes_nil w src e hs he 0 0 dst hd
  | some a =>
    exact run_convert_bytes_back _ src dst e _ _ vs hs he hd fun j hj => by
      have := hsl.rd.addr j (bv vs[j]) (by simp [hj])
      exact this
theorem l6_wk {w : World} {Al A1 A2 : Option Addr} {cl c1 c2 : Nat} (h : SlN w Al 2 cl 5 (([⟨1, 0, 5, ⟨A1, c1, []⟩, 0⟩, ⟨2, 2, 0, ⟨A2, c2, [97]⟩, 2⟩] : List FV).flatMap fvC)) (g1 : FvOk w ⟨1, 0, 5, ⟨A1, c1, []⟩, 0⟩) (g2 : FvOk w ⟨2, 2, 0, ⟨A2, c2, [97]⟩, 2⟩) : L6Ok w Al cl A1 c1 A2 c2 := by
  refine ⟨h, fun f hf => ?_⟩
  simp only [L6, List.mem_cons, List.not_mem_nil, or_false] at hf
  rcases hf with rfl | rfl
  · exact g1
  · exact g2
set_option maxRecDepth 100000 in
set_option maxHeartbeats 4000000 in
theorem live6_any (w : World) : Calls Try.prog 11 #[] w fun e w' => e = .returned (.bool true) ∧ Below w.heap.size w w' := by
  have hfl := fun W (h : Below w.heap.size w W) => l6_fields W
  go_enter Try.func11, Try.ntmps11
  go_wp2_with fail
  have hb1 := bw_a (Below.refl w.heap.size w) (.cells #[.int .u8 8, .int .u8 5, .int .u8 18, .int .u8 1, .int .u8 97] 5)
  have hs1 := sl_lit w 5 [8, 5, 18, 1, 97] #[.int .u8 8, .int .u8 5, .int .u8 18, .int .u8 1, .int .u8 97] 5 rfl (by omega) rfl
  refine (l6_fields _ _ _ hs1).mono ?_
  rintro e w2 ⟨Al, cl, A1, c1, A2, c2, rfl, hsl, ho1, ho2, hb2⟩
  have hL := l6_wk hsl ho1 ho2
  have hB2 := bw_t hb1 hb2
  clear hb1 hb2 hs1 hsl ho1 ho2 hfl
  go_wp2_with fail
  have hbA := bw_a (bw_a (Below.refl w2.heap.size w2) (.cells #[.int .i64 0, .int .i64 0] 27)) (.cells #[.int .u8 8, .int .u8 5, .int .u8 18, .int .u8 1, .int .u8 97] 5)
  have hF1 := (Blk.new w2 27 #[.int .i64 0, .int .i64 0]).alloc (.cells #[.int .u8 8, .int .u8 5, .int .u8 18, .int .u8 1, .int .u8 97] 5)
  have hs2 := sl_lit (w2.alloc (.cells #[.int .i64 0, .int .i64 0] 27)) 5 [8, 5, 18, 1, 97] #[.int .u8 8, .int .u8 5, .int .u8 18, .int .u8 1, .int .u8 97] 5 rfl (by omega) rfl
  rw [World.size_alloc] at hs2
  refine (l6_ends _ _ _ hs2).mono ?_
  rintro e w4 ⟨rfl, hb4⟩
  replace hF1 := hF1.below hb4 hF1.lt
  have hS := bw_t hbA hb4
  replace hL := hL.below hS
  have hB4 := bw_t hB2 hS
  clear hS
  clear hB2 hbA hb4 hs2
  generalize w2.heap.size = F1 at *
  go_wp2_with fail
  have hbA := bw_a (Below.refl w4.heap.size w4) (.cells #[.int .i64 0, .int .i64 0] 27)
  have hF2 := Blk.new w4 27 #[.int .i64 0, .int .i64 0]
  refine (l6_puts (hL.below hbA)).mono ?_
  rintro e w5 ⟨Ap, cp, rfl, hb5⟩
  replace hF2 := hF2.below hb5 hF2.lt
  have hS := bw_t hbA hb5
  replace hF1 := hF1.below hS hF1.lt
  replace hL := hL.below hS
  have hB5 := bw_t hB4 hS
  clear hS
  clear hB4 hbA hb5
  generalize w4.heap.size = F2 at *
  go_wp2_with fail
  have hbA := bw_a (Below.refl w5.heap.size w5) (.cells #[.int .i64 0, .int .i64 0] 27)
  have hF3 := Blk.new w5 27 #[.int .i64 0, .int .i64 0]
  refine (l6_lasts (hL.below hbA)).mono ?_
  rintro e w6 ⟨Ax, cx, rfl, hsx, hb6⟩
  replace hF3 := hF3.below hb6 hF3.lt
  have hS := bw_t hbA hb6
  replace hF1 := hF1.below hS hF1.lt
  replace hF2 := hF2.below hS hF2.lt
  replace hL := hL.below hS
  have hB6 := bw_t hB5 hS
  clear hS
  clear hB5 hbA hb6
  generalize w5.heap.size = F3 at *
  go_wp2_with fail
  have hbA := bw_a (bw_a (Below.refl w6.heap.size w6) (.cells #[.int .i64 2, .int .u8 2, .int .u64 0, .slice Ax 1 cx, .int .i64 2] 39)) (.cells #[.int .u8 8, .int .u8 5, .int .u8 18, .int .u8 9] 5)
  have hX := (Blk.new w6 39 #[.int .i64 2, .int .u8 2, .int .u64 0, .slice Ax 1 cx, .int .i64 2]).alloc (.cells #[.int .u8 8, .int .u8 5, .int .u8 18, .int .u8 9] 5)
  have hs4 := sl_lit (w6.alloc (.cells #[.int .i64 2, .int .u8 2, .int .u64 0, .slice Ax 1 cx, .int .i64 2] 39)) 5 [8, 5, 18, 9] #[.int .u8 8, .int .u8 5, .int .u8 18, .int .u8 9] 4 rfl (by omega) rfl
  rw [World.size_alloc] at hs4
  refine (l6_short _ _ _ hs4).mono ?_
  rintro e w7 ⟨rfl, hb7⟩
  replace hX := hX.below hb7 hX.lt
  have hS := bw_t hbA hb7
  replace hF1 := hF1.below hS hF1.lt
  replace hF2 := hF2.below hS hF2.lt
  replace hF3 := hF3.below hS hF3.lt
  replace hL := hL.below hS
  replace hsx := hsx.below hS
  have hB7 := bw_t hB6 hS
  clear hS
  clear hB6 hbA hb7 hs4
  generalize w6.heap.size = X at *
  have hF4 := Blk.new w7 27 #[.int .i64 4, .int .i64 3]
  have hbA := bw_a (Below.refl w7.heap.size w7) (.cells #[.int .i64 4, .int .i64 3] 27)
  have hcv := conv_bs6 (n := 1) (P := Try.prog) (dst := 9) (hsx.below hbA) rfl Try.underlying22 Try.underlying5 Try.underlying9
  have hr2 : (([⟨1, 0, 5, ⟨A1, c1, []⟩, 0⟩, ⟨2, 2, 0, ⟨A2, c2, [97]⟩, 2⟩] : List FV).flatMap fvC)[2]? = some (.int .u64 5) := rfl
  have hr9 : (([⟨1, 0, 5, ⟨A1, c1, []⟩, 0⟩, ⟨2, 2, 0, ⟨A2, c2, [97]⟩, 2⟩] : List FV).flatMap fvC)[9]? = some (.int .i64 2) := rfl
  obtain ⟨b, off, rfl, hbl, t2⟩ := hL.sl.rd 2 _ hr2
  have t9 := hL.sl.rd.addr 9 _ hr9
  rw [addr_add] at t9
  have a0 := hF1.cell 0
  have a1 := hF1.cell 1
  have a2 := hF2.cell 0
  have a3 := hF2.cell 1
  have a4 := hF3.cell 0
  have a5 := hF3.cell 1
  have a6 := hX.cell 3
  have l1 := hF1.lt
  have l2 := hF2.lt
  have l3 := hF3.lt
  have l4 := hX.lt
  simp only [List.getElem?_toArray, List.getElem?_cons_zero, List.getElem?_cons_succ] at a0 a1 a2 a3 a4 a5 a6
  have HOF := hid (fun W hW => l6_of (hL.below (w' := W) hW))
  have HWO := hid (fun W hW => l6_wo (hL.below (w' := W) hW))
  have HB7 := hid hB7
  clear hF1 hF2 hF3 hX hL hsx hr2 hr9 hB7 hF4 hbA
  go_wp2_with (first | (go_at_call 24; refine (HOF.out _ (bw_a (Below.refl _ w7) _)).mono ?_; rintro e w8 ⟨Ao, co, rfl, hb8⟩; have HB8 := hid (bw_t (bw_a (Below.refl w7.heap.size w7) (.cells #[.int .i64 4, .int .i64 3] 27)) hb8); clear hb8) | (go_at_call 25; refine (HWO.out _ HB8.out).mono ?_; rintro e w9 ⟨Aw, cw, rfl, hb9⟩; have HB9 := hid (bw_t HB8.out hb9); clear hb9))
  go_ret
  exact ⟨rfl, bw_t HB7.out HB9.out⟩
end Go.Proofs.Ytfbmdeegcoocnaa
