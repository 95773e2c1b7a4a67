/- The document's Bytes, Bare and Put of fields. · The document's Put of fields. · The walk of SkipAgain. · The walk of SkipPuts. -/
import Derived.Test.YtehjibbjkadoiaaSk2
import Derived.Test.YtehjibbjkadoiaaM5
import Derived.Test.YtehjibbjkadoiaaSk3
import Derived.Deep.QuietTactic
import Derived.BigQuiet
set_option linter.unusedVariables false
namespace Go.Proofs.Ytehjibbjkadoiaa
open Go.RowKit
set_option maxRecDepth 100000 in
theorem r5bytes_any (xs : List UInt8) (n : Nat) (A : Option Addr) (c : Nat) (w : World) (hn : xs.length = n) (hl : n ≤ 1000000) (hs : Sl w A c (xs.map bv)) :
    Calls Try.prog 64 #[.slice A n c] w fun e w' => ∃ A' c', e = .returned (.slice A' ((putN n).length + n) c') ∧ Sl w' A' c' ((putN n ++ xs).map bv) ∧ (∀ b o, A' = some ⟨b, o, none⟩ → w.heap.size ≤ b) ∧ Below w.heap.size w w' := by
  have HN := hid hn
  have HS := hid hs
  clear hn hs
  have hw9 : IntKind.u64.wrap (n : Int) = (n : Int) := IntWalk.u64_in _ (by omega)
  have hp10 : (putN n).length ≤ 10 := by unfold putN; rw [List.length_map]; exact sevs_length10 (by omega)
  generalize hpl : (putN n).length = pl at *
  have HPL := hid hpl
  clear hpl
  go_enter Try.func64, Try.ntmps64
  go_wp2_with fail
  refine (rput_any n w (by omega)).mono ?_
  rintro e w1 ⟨A1, c1, rfl, hs1, hb1⟩
  rw [HPL.out]
  have hs0 := HS.out.below hb1
  have HS1 := hid hs1
  have HS0 := hid hs0
  have HB1 := hid hb1
  clear hs1 hs0 hb1
  go_wp2_with fail
  refine (rjoin2_any (putN n) xs pl n A1 A c1 c w1 HPL.out HN.out (by omega) HS1.out HS0.out).mono ?_
  rintro e w2 ⟨A2, c2, rfl, hs2, hf2, hb2⟩
  go_wp2_with fail
  go_ret
  exact ⟨A2, c2, rfl, hs2, fun b o he => Nat.le_trans HB1.out.size (hf2 b o he), bw_t HB1.out hb2⟩
set_option maxRecDepth 100000 in
set_option maxHeartbeats 1000000 in
theorem rfb_any (f : FV) (w : World) (h : FvOk w f) (he : pErrF f = 0) (hx : f.s.xs.length ≤ 100000) :
    Calls Try.prog 47 #[.agg (fvC f).toArray] w fun e w' => ∃ A' c', e = .returned (.slice A' (pBF f).length c') ∧ Sl w' A' c' ((pBF f).map bv) ∧ Below w.heap.size w w' := by
  obtain ⟨hm, hw, hl⟩ := pErr_inv f he h.w0 h.w1
  obtain ⟨num, x, n, ⟨A, c, xs⟩, at_⟩ := f
  obtain ⟨h0, h1, hn, -, -, -, -, hs⟩ := h
  simp only at hm hw hl h0 h1 hn hs hx
  have hmf := mk_facts num x h0 h1
  have hmk := fun W => rmake_any num x W h0 h1
  obtain ⟨k, hk⟩ : ∃ k : Nat, (mk num x).1 = (k : Int) := ⟨(mk num x).1.toNat, by omega⟩
  have hk64 : k ≤ 18446744073709551615 := by omega
  have hpb : pBF ⟨num, x, n, ⟨A, c, xs⟩, at_⟩ = putN k ++ pTail x n xs := by
    show putN (mk num x).1.toNat ++ pTail x n xs = _
    rw [hk]; rfl
  rw [hpb]
  rw [hm, hk] at hmk
  have hk10 := putN_length10 hk64
  have hvp := fun W => rput_any k W hk64
  generalize hpp : putN k = P at *
  have HMK := hid hmk
  have HVP := hid hvp
  have HS := hid hs
  clear hmk hvp hs hmf hpb hk hpp hm he
  simp only [fvC, List.length_append]
  obtain ⟨xl, hxl⟩ : ∃ xl, xs.length = xl := ⟨_, rfl⟩
  rw [hxl] at hx hl
  rw [hxl]
  rcases hw with rfl | rfl | rfl | rfl
  · have hB0 := bw_a (Below.refl w.heap.size w) (.cells #[.int .i64 num, .int .u8 0, .int .u64 (n : Int), .slice A xl c, .int .i64 at_] 53)
    have ht : pTail 0 n xs = putN n := rfl
    rw [ht]
    have hl3 := putN_length10 hn
    have hT := fun W => rput_any n W hn
    generalize hq : putN n = Q at *
    have HT := hid hT
    clear hT hq ht
    go_enter Try.func47, Try.ntmps47
    go_wp2_with (go_at_call 61; refine (HMK.out _).mono ?_; rintro e w' ⟨rfl, rfl⟩)
    refine (HVP.out _).mono ?_
    rintro e w1 ⟨A1, c1, rfl, hs1, hb1⟩
    have b1 := bw_t hB0 hb1
    have hk1 := (Blk.new w 53 #[.int .i64 num, .int .u8 0, .int .u64 (n : Int), .slice A xl c, .int .i64 at_]).below hb1 (Blk.new w _ _).lt
    have d1 := hk1.cell 1
    have d2 := hk1.cell 2
    have d3 := hk1.cell 3
    simp only [List.getElem?_toArray, List.getElem?_cons_zero, List.getElem?_cons_succ] at d1 d2 d3
    have hlk := hk1.lt
    clear hk1 hb1 hB0
    go_wp2_with fail
    refine (HT.out _).mono ?_
    rintro e w2 ⟨A2, c2, rfl, hs2, hb2⟩
    have b2 := bw_t b1 hb2
    have hs12 := hs1.below hb2
    clear hb2 hs1 d1 d2 d3 b1
    go_wp2_with fail
    refine (rjoin2_any P Q P.length Q.length A1 A2 c1 c2 _ rfl rfl (by omega) hs12 hs2).mono ?_
    rintro e w3 ⟨A3, c3, rfl, hs3, -, hb3⟩
    go_wp2_with fail
    go_ret
    exact ⟨A3, c3, rfl, hs3, bw_t b2 hb3⟩
  · have hB0 := bw_a (Below.refl w.heap.size w) (.cells #[.int .i64 num, .int .u8 1, .int .u64 (n : Int), .slice A xl c, .int .i64 at_] 53)
    have ht : pTail 1 n xs = fixN 8 n := rfl
    rw [ht]
    have hl3 := length_fixN 8 n
    have hT := fun W => rfix_at n 8 8 W rfl hn (by omega)
    rw [hl3]
    generalize hq : fixN 8 n = Q at *
    have HT := hid hT
    clear hT hq ht
    go_enter Try.func47, Try.ntmps47
    go_wp2_with (go_at_call 61; refine (HMK.out _).mono ?_; rintro e w' ⟨rfl, rfl⟩)
    refine (HVP.out _).mono ?_
    rintro e w1 ⟨A1, c1, rfl, hs1, hb1⟩
    have b1 := bw_t hB0 hb1
    have hk1 := (Blk.new w 53 #[.int .i64 num, .int .u8 1, .int .u64 (n : Int), .slice A xl c, .int .i64 at_]).below hb1 (Blk.new w _ _).lt
    have d1 := hk1.cell 1
    have d2 := hk1.cell 2
    have d3 := hk1.cell 3
    simp only [List.getElem?_toArray, List.getElem?_cons_zero, List.getElem?_cons_succ] at d1 d2 d3
    have hlk := hk1.lt
    clear hk1 hb1 hB0
    go_wp2_with fail
    refine (HT.out _).mono ?_
    rintro e w2 ⟨A2, c2, rfl, hs2, hb2⟩
    have b2 := bw_t b1 hb2
    have hs12 := hs1.below hb2
    clear hb2 hs1 d1 d2 d3 b1
    go_wp2_with fail
    refine (rjoin2_any P Q P.length 8 A1 A2 c1 c2 _ rfl hl3 (by omega) hs12 hs2).mono ?_
    rintro e w3 ⟨A3, c3, rfl, hs3, -, hb3⟩
    go_wp2_with fail
    go_ret
    exact ⟨A3, c3, rfl, hs3, bw_t b2 hb3⟩
  · have hB0 := bw_a (Below.refl w.heap.size w) (.cells #[.int .i64 num, .int .u8 2, .int .u64 (n : Int), .slice A xl c, .int .i64 at_] 53)
    have ht : pTail 2 n xs = putN xl ++ xs := by rw [← hxl]; rfl
    rw [ht]
    have hl3 : (putN xl).length ≤ 10 := putN_length10 (by omega)
    have hT := fun W (hW : Below w.heap.size w W) => r5bytes_any xs xl A c W hxl (by omega) (HS.out.below hW)
    have hlq : (putN xl ++ xs).length = (putN xl).length + xl := by rw [List.length_append, hxl]
    rw [hlq]
    generalize hq : putN xl ++ xs = Q at *
    generalize hpl : (putN xl).length = pl at *
    have HT := hid hT
    clear hT hq ht
    go_enter Try.func47, Try.ntmps47
    go_wp2_with (go_at_call 61; refine (HMK.out _).mono ?_; rintro e w' ⟨rfl, rfl⟩)
    refine (HVP.out _).mono ?_
    rintro e w1 ⟨A1, c1, rfl, hs1, hb1⟩
    have b1 := bw_t hB0 hb1
    have hk1 := (Blk.new w 53 #[.int .i64 num, .int .u8 2, .int .u64 (n : Int), .slice A xl c, .int .i64 at_]).below hb1 (Blk.new w _ _).lt
    have d1 := hk1.cell 1
    have d2 := hk1.cell 2
    have d3 := hk1.cell 3
    simp only [List.getElem?_toArray, List.getElem?_cons_zero, List.getElem?_cons_succ] at d1 d2 d3
    have hlk := hk1.lt
    clear hk1 hb1 hB0
    go_wp2_with fail
    refine (HT.out _ b1).mono ?_
    rintro e w2 ⟨A2, c2, rfl, hs2, -, hb2⟩
    have b2 := bw_t b1 hb2
    have hs12 := hs1.below hb2
    clear hb2 hs1 d1 d2 d3 b1
    go_wp2_with fail
    refine (rjoin2_any P Q P.length (pl + xl) A1 A2 c1 c2 _ rfl hlq (by omega) hs12 hs2).mono ?_
    rintro e w3 ⟨A3, c3, rfl, hs3, -, hb3⟩
    go_wp2_with fail
    go_ret
    exact ⟨A3, c3, rfl, hs3, bw_t b2 hb3⟩
  · have hB0 := bw_a (Below.refl w.heap.size w) (.cells #[.int .i64 num, .int .u8 5, .int .u64 (n : Int), .slice A xl c, .int .i64 at_] 53)
    have ht : pTail 5 n xs = fixN 4 (n % 4294967296) := rfl
    rw [ht]
    have hl3 := length_fixN 4 (n % 4294967296)
    have hT := fun W => rfix_at (n % 4294967296) 4 4 W rfl (by omega) (by omega)
    rw [hl3]
    have hmod : (n : Int) % 4294967296 = ((n % 4294967296 : Nat) : Int) := by omega
    have htm : (n : Int).tmod 4294967296 = ((n % 4294967296 : Nat) : Int) := by rw [Int.tmod_eq_emod_of_nonneg (by omega)]; omega
    have hwr : IntKind.u64.wrap ((n % 4294967296 : Nat) : Int) = ((n % 4294967296 : Nat) : Int) := IntWalk.u64_in _ (by omega)
    generalize hq : fixN 4 (n % 4294967296) = Q at *
    generalize n % 4294967296 = n4 at *
    have HT := hid hT
    clear hT hq ht
    go_enter Try.func47, Try.ntmps47
    go_wp2_with (go_at_call 61; refine (HMK.out _).mono ?_; rintro e w' ⟨rfl, rfl⟩)
    refine (HVP.out _).mono ?_
    rintro e w1 ⟨A1, c1, rfl, hs1, hb1⟩
    have b1 := bw_t hB0 hb1
    have hk1 := (Blk.new w 53 #[.int .i64 num, .int .u8 5, .int .u64 (n : Int), .slice A xl c, .int .i64 at_]).below hb1 (Blk.new w _ _).lt
    have d1 := hk1.cell 1
    have d2 := hk1.cell 2
    have d3 := hk1.cell 3
    simp only [List.getElem?_toArray, List.getElem?_cons_zero, List.getElem?_cons_succ] at d1 d2 d3
    have hlk := hk1.lt
    clear hk1 hb1 hB0
    go_wp2_with fail
    refine (HT.out _).mono ?_
    rintro e w2 ⟨A2, c2, rfl, hs2, hb2⟩
    have b2 := bw_t b1 hb2
    have hs12 := hs1.below hb2
    clear hb2 hs1 d1 d2 d3 b1
    go_wp2_with fail
    refine (rjoin2_any P Q P.length 4 A1 A2 c1 c2 _ rfl hl3 (by omega) hs12 hs2).mono ?_
    rintro e w3 ⟨A3, c3, rfl, hs3, -, hb3⟩
    go_wp2_with fail
    go_ret
    exact ⟨A3, c3, rfl, hs3, bw_t b2 hb3⟩
end Go.Proofs.Ytehjibbjkadoiaa
set_option linter.unusedVariables false
namespace Go.Proofs.Ytehjibbjkadoiaa
open Go.RowKit
end Go.Proofs.Ytehjibbjkadoiaa
set_option linter.unusedVariables false
namespace Go.Proofs.Ytehjibbjkadoiaa
open Go.RowKit
theorem putsE_zero (l : List FV) (h : ∀ f ∈ l, pErrF f = 0) : ∀ i, putsE l i = (0, 0) := by
  induction l with
  | nil => intro i; rfl
  | cons f fs ih =>
    intro i
    rw [putsE, if_pos (h f (List.mem_cons_self ..))]
    exact ih (fun g hg => h g (List.mem_cons_of_mem _ hg)) _
/-- Like of two fields of two rows, at one place: the region that asks for it. -/
theorem likeB_of (f g : FV) (h : f.num = g.num ∧ f.w = g.w ∧ f.n = bareN g ∧ f.s.xs = bareX g) (h2 : bareN g = g.n) (h3 : bareX g = g.s.xs) : likeB f g = true := by
  unfold likeB
  obtain ⟨a, b, c, d⟩ := h
  rw [decide_eq_true_eq]
  exact ⟨a, b, c.trans h2, d.trans h3⟩
end Go.Proofs.Ytehjibbjkadoiaa
set_option linter.unusedVariables false
namespace Go.Proofs.Ytehjibbjkadoiaa
open Go.RowKit
theorem putsE_all (l : List FV) : ∀ i, (putsE l i).1 = 0 → (∀ f ∈ l, pErrF f = 0) := by
  induction l with
  | nil => intro i _ f hf; simp at hf
  | cons f fs ih =>
    intro i h
    rw [putsE] at h
    by_cases h0 : pErrF f = 0
    · rw [if_pos h0] at h
      intro g hg
      rcases List.mem_cons.1 hg with rfl | hg
      · exact h0
      · exact ih _ h g hg
    · rw [if_neg h0] at h
      exact absurd h h0
theorem pBF_all (l : List FV) (h : ∀ f ∈ l, (pBF f).length ≤ 2100) : (l.flatMap pBF).length ≤ 2100 * l.length := by
  induction l with
  | nil => simp
  | cons f fs ih =>
    rw [List.flatMap_cons, List.length_append, List.length_cons]
    have h1 := h f (List.mem_cons_self ..)
    have h2 := ih (fun g hg => h g (List.mem_cons_of_mem _ hg))
    omega
/-- The bare field of a field, with new memory. -/
def bareF (f : FV) (A : Option Addr) (c : Nat) : FV := ⟨f.num, f.w, bareN f, ⟨A, c, bareX f⟩, f.at_⟩
theorem likeB_bare (f g : FV) (A : Option Addr) (c : Nat) (h : f.num = g.num ∧ f.w = g.w ∧ f.n = bareN g ∧ f.s.xs = bareX g) : likeB f (bareF g A c) = true := by
  unfold likeB bareF
  rw [decide_eq_true_eq]
  exact h
end Go.Proofs.Ytehjibbjkadoiaa
