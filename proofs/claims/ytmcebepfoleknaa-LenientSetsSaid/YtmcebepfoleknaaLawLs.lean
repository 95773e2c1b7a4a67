/- The walk of LenientSets. -/
import Derived.Test.YtmcebepfoleknaaLive11
import Derived.Test.YtmcebepfoleknaaLenRefA
import Derived.Test.YtmcebepfoleknaaV4
import Derived.Test.YtmcebepfoleknaaRegInvB
set_option linter.unusedVariables false
namespace Go.Proofs.Ytmcebepfoleknaa
open Go.RowKit
theorem nstore {w : World} {p : Nat} {t : TypeId} {a0 a1 a2 a3 a4 a5 a6 a7 a8 a9 : Value} (h : Blk w p t #[a0, a1, a2, a3, a4, a5, a6, a7, a8, a9]) (x1 x2 x3 x4 x5 x6 : Value) : Blk ((((((w.setCell ⟨p, 1, none⟩ x1).setCell ⟨p, 2, none⟩ x2).setCell ⟨p, 3, none⟩ x3).setCell ⟨p, 4, none⟩ x4).setCell ⟨p, 5, none⟩ x5).setCell ⟨p, 6, none⟩ x6) p t #[a0, x1, x2, x3, x4, x5, x6, a7, a8, a9] ∧ Chg (fun q => q = p) w ((((((w.setCell ⟨p, 1, none⟩ x1).setCell ⟨p, 2, none⟩ x2).setCell ⟨p, 3, none⟩ x3).setCell ⟨p, 4, none⟩ x4).setCell ⟨p, 5, none⟩ x5).setCell ⟨p, 6, none⟩ x6) :=
  ⟨by simpa using (((((h.set_ 1 x1).set_ 2 x2).set_ 3 x3).set_ 4 x4).set_ 5 x5).set_ 6 x6, ((((((Chg.refl (fun q => q = p) w).set_ (.inl rfl) 1 x1).set_ (.inl rfl) 2 x2).set_ (.inl rfl) 3 x3).set_ (.inl rfl) 4 x4).set_ (.inl rfl) 5 x5).set_ (.inl rfl) 6 x6⟩
theorem tstore {w : World} {p : Nat} {t : TypeId} {a0 a1 a2 a3 a4 a5 a6 a7 a8 a9 : Value} (h : Blk w p t #[a0, a1, a2, a3, a4, a5, a6, a7, a8, a9]) (x7 x8 : Value) : Blk ((w.setCell ⟨p, 7, none⟩ x7).setCell ⟨p, 8, none⟩ x8) p t #[a0, a1, a2, a3, a4, a5, a6, x7, x8, a9] ∧ Chg (fun q => q = p) w ((w.setCell ⟨p, 7, none⟩ x7).setCell ⟨p, 8, none⟩ x8) :=
  ⟨by simpa using (h.set_ 7 x7).set_ 8 x8, ((Chg.refl (fun q => q = p) w).set_ (.inl rfl) 7 x7).set_ (.inl rfl) 8 x8⟩
def LsR6 (s q : Nat) (M : MV) (len : Nat) (a0 : Act) (w0 : World) (f : Nat → Bool) (a : Act) (w : World) : Prop := ∃ x0 x1 x2 x3 x4 x6 : Value, a = ((((((a0.put (some 25) x0).put (some 26) x1).put (some 27) x2).put (some 28) x3).put (some 29) x4).put (some 30) x6) ∧ (f 0 = true → x0 = .pointer (some ⟨s, 1, none⟩)) ∧ (f 1 = true → x1 = .agg #[.int .u64 (M.n0 : Int), .int .u64 (M.n1 : Int), .int .u64 (M.n2 : Int), .int .u64 (M.n3 : Int), .int .u64 (M.n4 : Int), .int .u64 (M.n5 : Int)]) ∧ (f 2 = true → x2 = .pointer (some ⟨s, 7, none⟩)) ∧ (f 3 = true → x3 = .agg #[.string M.s0, .string M.s1]) ∧ (f 4 = true → x4 = .pointer (some ⟨q, 1, none⟩)) ∧ (f 6 = true → x6 = .pointer (some ⟨q, 7, none⟩)) ∧ Blk w q 29 (if f 5 = true then (if f 7 = true then #[.int .u8 (M.k : Int), .int .u64 (M.n0 : Int), .int .u64 (M.n1 : Int), .int .u64 (M.n2 : Int), .int .u64 (M.n3 : Int), .int .u64 (M.n4 : Int), .int .u64 (M.n5 : Int), .string M.s0, .string M.s1, .slice none 0 0] else #[.int .u8 (M.k : Int), .int .u64 (M.n0 : Int), .int .u64 (M.n1 : Int), .int .u64 (M.n2 : Int), .int .u64 (M.n3 : Int), .int .u64 (M.n4 : Int), .int .u64 (M.n5 : Int), .string ⟨#[]⟩, .string ⟨#[]⟩, .slice none 0 0]) else (if f 7 = true then #[.int .u8 (M.k : Int), .int .u64 0, .int .u64 0, .int .u64 0, .int .u64 0, .int .u64 0, .int .u64 0, .string M.s0, .string M.s1, .slice none 0 0] else #[.int .u8 (M.k : Int), .int .u64 0, .int .u64 0, .int .u64 0, .int .u64 0, .int .u64 0, .int .u64 0, .string ⟨#[]⟩, .string ⟨#[]⟩, .slice none 0 0])) ∧ Chg (fun x => x = q) w0 w
set_option maxRecDepth 100000 in
set_option maxHeartbeats 8000000 in
theorem lenientSets_any (M : MV) (num t i : Int) (f : FV) (w : World) (hok : MvOk w M) (hfn : f.n ≤ 18446744073709551615) (hsf : Sl w f.s.A f.s.c (f.s.xs.map bv)) :
    Calls Try.prog 4 #[mvV M, .agg #[.int .i64 num, .int .i64 t, .int .i64 i], .agg (fvC f).toArray] w fun e w' => e = .returned (.bool true) ∧ Below w.heap.size w w' := by
  have hlv := fun W => live11_any W
  have hsm := fun W (hW : Below w.heap.size w W) => small9_any M W (hok.l.below hW)
  have hcl := fun W => rclean_any M 0 W hok.k (by decide) (by decide)
  have hl70 := fun (h : smallB M = true) => (smallB_facts h).2.2.1
  have hls := fun (h : smallB M = true) (hx : f.s.xs.length ≤ 8000) W (hW : Below w.heap.size w W) => lset_any M num t i f W hfn (Nat.le_trans (smallB_facts h).2.2.1 (by omega)) (hok.l.below hW) (by omega) (hsf.below hW)
  have hrs := fun (h : smallB M = true) (hx : f.s.xs.length ≤ 8000) W (hW : Below w.heap.size w W) => rset_any M num t i f W hfn (Nat.le_trans (smallB_facts h).2.2.1 (by omega)) (hok.l.below hW) (by omega) (hsf.below hW)
  have hml := fun W (hW : Below w.heap.size w W) => hok.l.below hW
  obtain ⟨R, hR⟩ : ∃ R, setM M t i f.n (fvS f) = R := ⟨_, rfl⟩
  obtain ⟨E, hE⟩ : ∃ E, setE M t i (fvS f) = E := ⟨_, rfl⟩
  have hls2 : smallB M = true → f.s.xs.length ≤ 8000 → ∀ W, Below w.heap.size w W → Calls Try.prog 21 #[.agg #[.int .u8 (M.k : Int), .int .u64 (M.n0 : Int), .int .u64 (M.n1 : Int), .int .u64 (M.n2 : Int), .int .u64 (M.n3 : Int), .int .u64 (M.n4 : Int), .int .u64 (M.n5 : Int), .string M.s0, .string M.s1, .slice M.A M.l.length M.c], .agg #[.int .i64 num, .int .i64 t, .int .i64 i], .agg #[.int .i64 f.num, .int .u8 f.w, .int .u64 (f.n : Int), .slice f.s.A f.s.xs.length f.s.c, .int .i64 f.at_]] W fun e w' => ∃ A' c', e = .returned (.tuple #[.agg #[.int .u8 (R.k : Int), .int .u64 (R.n0 : Int), .int .u64 (R.n1 : Int), .int .u64 (R.n2 : Int), .int .u64 (R.n3 : Int), .int .u64 (R.n4 : Int), .int .u64 (R.n5 : Int), .string R.s0, .string R.s1, .slice A' R.l.length c'], .int .i64 E]) ∧ Sl w' A' c' (R.l.map sv) ∧ Below W.heap.size W w' := fun h hx W hW => (hls h hx W hW).mono fun e w' he => by
    rw [hR, hE] at he
    obtain ⟨A', c', rfl, ho, hb⟩ := he
    obtain ⟨A2, c2, e2, -, hsl⟩ := Sl.of_own ho
    injection e2 with e3 e4 e5
    subst e3
    subst e5
    exact ⟨_, _, rfl, hsl, hb⟩
  have hrs2 : smallB M = true → f.s.xs.length ≤ 8000 → ∀ W, Below w.heap.size w W → Calls Try.prog 22 #[.agg #[.int .u8 (M.k : Int), .int .u64 (M.n0 : Int), .int .u64 (M.n1 : Int), .int .u64 (M.n2 : Int), .int .u64 (M.n3 : Int), .int .u64 (M.n4 : Int), .int .u64 (M.n5 : Int), .string M.s0, .string M.s1, .slice M.A M.l.length M.c], .agg #[.int .i64 num, .int .i64 t, .int .i64 i], .agg #[.int .i64 f.num, .int .u8 f.w, .int .u64 (f.n : Int), .slice f.s.A f.s.xs.length f.s.c, .int .i64 f.at_]] W fun e w' => ∃ A' c', e = .returned (.tuple #[.agg #[.int .u8 (R.k : Int), .int .u64 (R.n0 : Int), .int .u64 (R.n1 : Int), .int .u64 (R.n2 : Int), .int .u64 (R.n3 : Int), .int .u64 (R.n4 : Int), .int .u64 (R.n5 : Int), .string R.s0, .string R.s1, .slice A' R.l.length c'], .int .i64 E]) ∧ Sl w' A' c' (R.l.map sv) ∧ Below W.heap.size W w' := fun h hx W hW => (hrs h hx W hW).mono fun e w' he => by
    rw [hR, hE] at he
    obtain ⟨A', c', rfl, ho, hb⟩ := he
    refine ⟨A', c', rfl, ?_, hb⟩
    rcases ho with ⟨g1, rfl, rfl⟩ | ⟨g1, rfl, rfl⟩ | g1
    · rw [g1]; exact Sl.nil_ _
    · rw [g1]; exact (hok.l.below hW).below hb
    · obtain ⟨A2, c2, e2, -, hsl⟩ := Sl.of_own g1
      injection e2 with e3 e4 e5
      subst e3
      subst e5
      exact hsl
  have hsa : ∀ W A' c' A2 c2, Sl W A' c' (R.l.map sv) → Sl W A2 c2 (R.l.map sv) → Calls Try.prog 15 #[.agg #[.int .u8 (R.k : Int), .int .u64 (R.n0 : Int), .int .u64 (R.n1 : Int), .int .u64 (R.n2 : Int), .int .u64 (R.n3 : Int), .int .u64 (R.n4 : Int), .int .u64 (R.n5 : Int), .string R.s0, .string R.s1, .slice A' R.l.length c'], .agg #[.int .u8 (R.k : Int), .int .u64 (R.n0 : Int), .int .u64 (R.n1 : Int), .int .u64 (R.n2 : Int), .int .u64 (R.n3 : Int), .int .u64 (R.n4 : Int), .int .u64 (R.n5 : Int), .string R.s0, .string R.s1, .slice A2 R.l.length c2]] W fun e w' => e = .returned (.bool true) ∧ Below W.heap.size W w' := fun W A' c' A2 c2 h1 h2 => by
    have h := rsame9_any { R with A := A', c := c' } { R with A := A2, c := c2 } W h1 h2
    rw [show sameB { R with A := A', c := c' } { R with A := A2, c := c2 } = true from (sameB_iff _ _).2 ⟨rfl, ⟨rfl, rfl, rfl, rfl, rfl, rfl⟩, ⟨rfl, rfl⟩, rfl⟩] at h
    exact h
  have hk0 : mvV (keptM (ofL (M.k : Int) 0) M) = .agg #[.int .u8 (M.k : Int), .int .u64 0, .int .u64 0, .int .u64 0, .int .u64 0, .int .u64 0, .int .u64 0, .string ⟨#[]⟩, .string ⟨#[]⟩, .slice none 0 0] := by
    have h0 : ofL (M.k : Int) 0 = [] := ofL_nil _ _ (by decide)
    rw [h0]; rfl
  rw [hk0] at hcl
  have hmv : mvV M = .agg #[.int .u8 (M.k : Int), .int .u64 (M.n0 : Int), .int .u64 (M.n1 : Int), .int .u64 (M.n2 : Int), .int .u64 (M.n3 : Int), .int .u64 (M.n4 : Int), .int .u64 (M.n5 : Int), .string M.s0, .string M.s1, .slice M.A M.l.length M.c] := rfl
  rw [hmv] at hsm hcl ⊢
  have hfc : (fvC f).toArray = #[.int .i64 f.num, .int .u8 f.w, .int .u64 (f.n : Int), .slice f.s.A f.s.xs.length f.s.c, .int .i64 f.at_] := rfl
  rw [hfc]
  have hen := fun W => eq_nums M.n0 M.n1 M.n2 M.n3 M.n4 M.n5 M.n0 M.n1 M.n2 M.n3 M.n4 M.n5 W
  have het := fun W => eq_texts M.s0 M.s1 M.s0 M.s1 W
  rw [decide_eq_true (by exact ⟨rfl, rfl, rfl, rfl, rfl, rfl⟩)] at hen
  rw [decide_eq_true (by exact ⟨rfl, rfl⟩)] at het
  clear hls hrs hR hE hk0 hmv hfc hok hl70
  obtain ⟨len, hlen⟩ : ∃ n, M.l.length = n := ⟨_, rfl⟩
  obtain ⟨fl, hfl⟩ : ∃ n, f.s.xs.length = n := ⟨_, rfl⟩
  rw [hlen] at hls2 hrs2 hsm hcl ⊢
  rw [hfl] at hls2 hrs2 ⊢
  clear hlen hfl
  generalize smallB M = sb at *
  obtain ⟨s, hws⟩ : ∃ s, w.heap.size = s := ⟨_, rfl⟩
  rw [hws] at hsm hls2 hrs2 hml ⊢
  have hz := hws
  have HLV := hid hlv
  have HSM := hid hsm
  have HCL := hid hcl
  have HLS := hid hls2
  have HRS := hid hrs2
  have HSA := hid hsa
  have HML := hid hml
  clear hlv hsm hcl hls2 hrs2 hsa hml hsf hfn
  go_enter Try.func4, Try.ntmps4
  go_wp2_with fail
  have hkm : Blk (((w.alloc (.cells #[.int .u8 (M.k : Int), .int .u64 (M.n0 : Int), .int .u64 (M.n1 : Int), .int .u64 (M.n2 : Int), .int .u64 (M.n3 : Int), .int .u64 (M.n4 : Int), .int .u64 (M.n5 : Int), .string M.s0, .string M.s1, .slice M.A len M.c] 29)).alloc (.cells #[.int .i64 num, .int .i64 t, .int .i64 i] 42)).alloc (.cells #[.int .i64 f.num, .int .u8 f.w, .int .u64 (f.n : Int), .slice f.s.A fl f.s.c, .int .i64 f.at_] 44)) (s) 29 #[.int .u8 (M.k : Int), .int .u64 (M.n0 : Int), .int .u64 (M.n1 : Int), .int .u64 (M.n2 : Int), .int .u64 (M.n3 : Int), .int .u64 (M.n4 : Int), .int .u64 (M.n5 : Int), .string M.s0, .string M.s1, .slice M.A len M.c] := by
    have h := (((Blk.new w 29 #[.int .u8 (M.k : Int), .int .u64 (M.n0 : Int), .int .u64 (M.n1 : Int), .int .u64 (M.n2 : Int), .int .u64 (M.n3 : Int), .int .u64 (M.n4 : Int), .int .u64 (M.n5 : Int), .string M.s0, .string M.s1, .slice M.A len M.c]).alloc (.cells #[.int .i64 num, .int .i64 t, .int .i64 i] 42)).alloc (.cells #[.int .i64 f.num, .int .u8 f.w, .int .u64 (f.n : Int), .slice f.s.A fl f.s.c, .int .i64 f.at_] 44))
    rw [hz] at h; exact h
  have hks : Blk (((w.alloc (.cells #[.int .u8 (M.k : Int), .int .u64 (M.n0 : Int), .int .u64 (M.n1 : Int), .int .u64 (M.n2 : Int), .int .u64 (M.n3 : Int), .int .u64 (M.n4 : Int), .int .u64 (M.n5 : Int), .string M.s0, .string M.s1, .slice M.A len M.c] 29)).alloc (.cells #[.int .i64 num, .int .i64 t, .int .i64 i] 42)).alloc (.cells #[.int .i64 f.num, .int .u8 f.w, .int .u64 (f.n : Int), .slice f.s.A fl f.s.c, .int .i64 f.at_] 44)) (s + 1) 42 #[.int .i64 num, .int .i64 t, .int .i64 i] := by
    have h := ((Blk.new (w.alloc (.cells #[.int .u8 (M.k : Int), .int .u64 (M.n0 : Int), .int .u64 (M.n1 : Int), .int .u64 (M.n2 : Int), .int .u64 (M.n3 : Int), .int .u64 (M.n4 : Int), .int .u64 (M.n5 : Int), .string M.s0, .string M.s1, .slice M.A len M.c] 29)) 42 #[.int .i64 num, .int .i64 t, .int .i64 i]).alloc (.cells #[.int .i64 f.num, .int .u8 f.w, .int .u64 (f.n : Int), .slice f.s.A fl f.s.c, .int .i64 f.at_] 44))
    rw [World.size_alloc, hz] at h; exact h
  have hkf : Blk (((w.alloc (.cells #[.int .u8 (M.k : Int), .int .u64 (M.n0 : Int), .int .u64 (M.n1 : Int), .int .u64 (M.n2 : Int), .int .u64 (M.n3 : Int), .int .u64 (M.n4 : Int), .int .u64 (M.n5 : Int), .string M.s0, .string M.s1, .slice M.A len M.c] 29)).alloc (.cells #[.int .i64 num, .int .i64 t, .int .i64 i] 42)).alloc (.cells #[.int .i64 f.num, .int .u8 f.w, .int .u64 (f.n : Int), .slice f.s.A fl f.s.c, .int .i64 f.at_] 44)) (s + 1 + 1) 44 #[.int .i64 f.num, .int .u8 f.w, .int .u64 (f.n : Int), .slice f.s.A fl f.s.c, .int .i64 f.at_] := by
    have h := (Blk.new ((w.alloc (.cells #[.int .u8 (M.k : Int), .int .u64 (M.n0 : Int), .int .u64 (M.n1 : Int), .int .u64 (M.n2 : Int), .int .u64 (M.n3 : Int), .int .u64 (M.n4 : Int), .int .u64 (M.n5 : Int), .string M.s0, .string M.s1, .slice M.A len M.c] 29)).alloc (.cells #[.int .i64 num, .int .i64 t, .int .i64 i] 42)) 44 #[.int .i64 f.num, .int .u8 f.w, .int .u64 (f.n : Int), .slice f.s.A fl f.s.c, .int .i64 f.at_])
    rw [World.size_alloc, World.size_alloc, hz] at h; exact h
  have hb0 : Below s w (((w.alloc (.cells #[.int .u8 (M.k : Int), .int .u64 (M.n0 : Int), .int .u64 (M.n1 : Int), .int .u64 (M.n2 : Int), .int .u64 (M.n3 : Int), .int .u64 (M.n4 : Int), .int .u64 (M.n5 : Int), .string M.s0, .string M.s1, .slice M.A len M.c] 29)).alloc (.cells #[.int .i64 num, .int .i64 t, .int .i64 i] 42)).alloc (.cells #[.int .i64 f.num, .int .u8 f.w, .int .u64 (f.n : Int), .slice f.s.A fl f.s.c, .int .i64 f.at_] 44)) := by
    have h := (bw_a (bw_a (bw_a (Below.refl w.heap.size w) (.cells #[.int .u8 (M.k : Int), .int .u64 (M.n0 : Int), .int .u64 (M.n1 : Int), .int .u64 (M.n2 : Int), .int .u64 (M.n3 : Int), .int .u64 (M.n4 : Int), .int .u64 (M.n5 : Int), .string M.s0, .string M.s1, .slice M.A len M.c] 29)) (.cells #[.int .i64 num, .int .i64 t, .int .i64 i] 42)) (.cells #[.int .i64 f.num, .int .u8 f.w, .int .u64 (f.n : Int), .slice f.s.A fl f.s.c, .int .i64 f.at_] 44))
    rw [hz] at h; exact h
  have hsz : ((((w.alloc (.cells #[.int .u8 (M.k : Int), .int .u64 (M.n0 : Int), .int .u64 (M.n1 : Int), .int .u64 (M.n2 : Int), .int .u64 (M.n3 : Int), .int .u64 (M.n4 : Int), .int .u64 (M.n5 : Int), .string M.s0, .string M.s1, .slice M.A len M.c] 29)).alloc (.cells #[.int .i64 num, .int .i64 t, .int .i64 i] 42)).alloc (.cells #[.int .i64 f.num, .int .u8 f.w, .int .u64 (f.n : Int), .slice f.s.A fl f.s.c, .int .i64 f.at_] 44))).heap.size = s + 1 + 1 + 1 := by simp [hz]
  generalize hW1 : (((w.alloc (.cells #[.int .u8 (M.k : Int), .int .u64 (M.n0 : Int), .int .u64 (M.n1 : Int), .int .u64 (M.n2 : Int), .int .u64 (M.n3 : Int), .int .u64 (M.n4 : Int), .int .u64 (M.n5 : Int), .string M.s0, .string M.s1, .slice M.A len M.c] 29)).alloc (.cells #[.int .i64 num, .int .i64 t, .int .i64 i] 42)).alloc (.cells #[.int .i64 f.num, .int .u8 f.w, .int .u64 (f.n : Int), .slice f.s.A fl f.s.c, .int .i64 f.at_] 44)) = W1 at *
  have HKM := hid hkm
  have HKS := hid hks
  have HKF := hid hkf
  have HBB1 := hid hb0
  have HSZ1 := hid hsz
  clear hb0 hsz hz hW1 hkm hks hkf
  refine (HLV.out W1).mono ?_
  rintro e w2 ⟨rfl, hb⟩
  have hkm := HKM.out.below hb HKM.out.lt
  have hks := HKS.out.below hb HKS.out.lt
  have hkf := HKF.out.below hb HKF.out.lt
  have hb0 : Below s w w2 := HBB1.out.trans (hb.mono (by have := HBB1.out.size; omega))
  have HKM := hid hkm
  have HKS := hid hks
  have HKF := hid hkf
  have HBB2 := hid hb0
  clear hb0 hb hkm hks hkf
  have zhkm0 := HKM.out.cell 0
  have zhkm1 := HKM.out.cell 1
  have zhkm2 := HKM.out.cell 2
  have zhkm3 := HKM.out.cell 3
  have zhkm4 := HKM.out.cell 4
  have zhkm5 := HKM.out.cell 5
  have zhkm6 := HKM.out.cell 6
  have zhkm7 := HKM.out.cell 7
  have zhkm8 := HKM.out.cell 8
  have zhkm9 := HKM.out.cell 9
  have lhkm := HKM.out.lt
  have zhkf3 := HKF.out.cell 3
  have lhkf := HKF.out.lt
  simp only [List.getElem?_toArray, List.getElem?_cons_zero, List.getElem?_cons_succ] at zhkm0 zhkm1 zhkm2 zhkm3 zhkm4 zhkm5 zhkm6 zhkm7 zhkm8 zhkm9 zhkf3
  clear hen het
  go_wp2_with fail
  refine (HSM.out _ HBB2.out).mono ?_
  rintro e w3 ⟨rfl, hb⟩
  clear lhkm lhkf zhkm0 zhkm1 zhkm2 zhkm3 zhkm4 zhkm5 zhkm6 zhkm7 zhkm8 zhkm9 zhkf3
  have hkm := HKM.out.below hb HKM.out.lt
  have hks := HKS.out.below hb HKS.out.lt
  have hkf := HKF.out.below hb HKF.out.lt
  have hb0 : Below s w w3 := HBB2.out.trans (hb.mono (by have := HBB2.out.size; omega))
  have HKM := hid hkm
  have HKS := hid hks
  have HKF := hid hkf
  have HBB3 := hid hb0
  clear hb0 hb hkm hks hkf
  cases sb with
  | false =>
    have zq := HKF.out.cell 3
    simp only [List.getElem?_toArray, List.getElem?_cons_zero, List.getElem?_cons_succ] at zq
    go_wp2_with fail
    go_ret
    exact ⟨rfl, HBB3.out⟩
  | true =>
    have hx1 := HLS.out rfl
    have hx2 := HRS.out rfl
    have HLS1 := hid hx1
    have HRS1 := hid hx2
    clear hx1 hx2 HLS HRS
    by_cases hn1 : 8000 < fl
    · have hn2 : (8000 : Int) < (fl : Int) := by omega
      have zq := HKF.out.cell 3
      simp only [List.getElem?_toArray, List.getElem?_cons_zero, List.getElem?_cons_succ] at zq
      go_wp2_with fail
      go_ret
      exact ⟨rfl, HBB3.out⟩
    · have hn2 : ¬ (8000 : Int) < (fl : Int) := by omega
      have hx1 := HLS1.out (by omega)
      have hx2 := HRS1.out (by omega)
      have HLS := hid hx1
      have HRS := hid hx2
      clear hx1 hx2 HLS1 HRS1
      have zhkm0 := HKM.out.cell 0
      have zhkm1 := HKM.out.cell 1
      have zhkm2 := HKM.out.cell 2
      have zhkm3 := HKM.out.cell 3
      have zhkm4 := HKM.out.cell 4
      have zhkm5 := HKM.out.cell 5
      have zhkm6 := HKM.out.cell 6
      have zhkm7 := HKM.out.cell 7
      have zhkm8 := HKM.out.cell 8
      have zhkm9 := HKM.out.cell 9
      have lhkm := HKM.out.lt
      have zhkf3 := HKF.out.cell 3
      have lhkf := HKF.out.lt
      simp only [List.getElem?_toArray, List.getElem?_cons_zero, List.getElem?_cons_succ] at zhkm0 zhkm1 zhkm2 zhkm3 zhkm4 zhkm5 zhkm6 zhkm7 zhkm8 zhkm9 zhkf3
      go_wp2_with fail
      refine (HCL.out _).mono ?_
      rintro e w4 ⟨rfl, hb⟩
      clear lhkm lhkf zhkm0 zhkm1 zhkm2 zhkm3 zhkm4 zhkm5 zhkm6 zhkm7 zhkm8 zhkm9 zhkf3
      have hkm := HKM.out.below hb HKM.out.lt
      have hks := HKS.out.below hb HKS.out.lt
      have hkf := HKF.out.below hb HKF.out.lt
      have hb0 : Below s w w4 := HBB3.out.trans (hb.mono (by have := HBB3.out.size; omega))
      have HKM := hid hkm
      have HKS := hid hks
      have HKF := hid hkf
      have HBB4 := hid hb0
      clear hb0 hb hkm hks hkf
      have zhkm0 := HKM.out.cell 0
      have zhkm1 := HKM.out.cell 1
      have zhkm2 := HKM.out.cell 2
      have zhkm3 := HKM.out.cell 3
      have zhkm4 := HKM.out.cell 4
      have zhkm5 := HKM.out.cell 5
      have zhkm6 := HKM.out.cell 6
      have zhkm7 := HKM.out.cell 7
      have zhkm8 := HKM.out.cell 8
      have zhkm9 := HKM.out.cell 9
      have lhkm := HKM.out.lt
      have zhks0 := HKS.out.cell 0
      have lhks := HKS.out.lt
      have zhkf0 := HKF.out.cell 0
      have lhkf := HKF.out.lt
      simp only [List.getElem?_toArray, List.getElem?_cons_zero, List.getElem?_cons_succ] at zhkm0 zhkm1 zhkm2 zhkm3 zhkm4 zhkm5 zhkm6 zhkm7 zhkm8 zhkm9 zhks0 zhkf0
      obtain ⟨q, hz⟩ : ∃ p, w4.heap.size = p := ⟨_, rfl⟩
      rw [hz] at lhkm
      rw [hz] at lhks
      rw [hz] at lhkf
      go_wp2_with fail
      have hkq : Blk (w4.alloc (.cells #[.int .u8 (M.k : Int), .int .u64 0, .int .u64 0, .int .u64 0, .int .u64 0, .int .u64 0, .int .u64 0, .string ⟨#[]⟩, .string ⟨#[]⟩, .slice none 0 0] 29)) (q) 29 #[.int .u8 (M.k : Int), .int .u64 0, .int .u64 0, .int .u64 0, .int .u64 0, .int .u64 0, .int .u64 0, .string ⟨#[]⟩, .string ⟨#[]⟩, .slice none 0 0] := by
        have h := (Blk.new w4 29 #[.int .u8 (M.k : Int), .int .u64 0, .int .u64 0, .int .u64 0, .int .u64 0, .int .u64 0, .int .u64 0, .string ⟨#[]⟩, .string ⟨#[]⟩, .slice none 0 0])
        rw [hz] at h; exact h
      have hkm := (HKM.out.alloc (.cells #[.int .u8 (M.k : Int), .int .u64 0, .int .u64 0, .int .u64 0, .int .u64 0, .int .u64 0, .int .u64 0, .string ⟨#[]⟩, .string ⟨#[]⟩, .slice none 0 0] 29))
      have hks := (HKS.out.alloc (.cells #[.int .u8 (M.k : Int), .int .u64 0, .int .u64 0, .int .u64 0, .int .u64 0, .int .u64 0, .int .u64 0, .string ⟨#[]⟩, .string ⟨#[]⟩, .slice none 0 0] 29))
      have hkf := (HKF.out.alloc (.cells #[.int .u8 (M.k : Int), .int .u64 0, .int .u64 0, .int .u64 0, .int .u64 0, .int .u64 0, .int .u64 0, .string ⟨#[]⟩, .string ⟨#[]⟩, .slice none 0 0] 29))
      have hb0 : Below s w (w4.alloc (.cells #[.int .u8 (M.k : Int), .int .u64 0, .int .u64 0, .int .u64 0, .int .u64 0, .int .u64 0, .int .u64 0, .string ⟨#[]⟩, .string ⟨#[]⟩, .slice none 0 0] 29)) := HBB4.out.trans ((bw_a (Below.refl w4.heap.size w4) (.cells #[.int .u8 (M.k : Int), .int .u64 0, .int .u64 0, .int .u64 0, .int .u64 0, .int .u64 0, .int .u64 0, .string ⟨#[]⟩, .string ⟨#[]⟩, .slice none 0 0] 29)).mono (by have := HBB4.out.size; omega))
      have hsz : ((w4.alloc (.cells #[.int .u8 (M.k : Int), .int .u64 0, .int .u64 0, .int .u64 0, .int .u64 0, .int .u64 0, .int .u64 0, .string ⟨#[]⟩, .string ⟨#[]⟩, .slice none 0 0] 29))).heap.size = q + 1 := by simp [hz]
      generalize hW5 : (w4.alloc (.cells #[.int .u8 (M.k : Int), .int .u64 0, .int .u64 0, .int .u64 0, .int .u64 0, .int .u64 0, .int .u64 0, .string ⟨#[]⟩, .string ⟨#[]⟩, .slice none 0 0] 29)) = W5 at *
      have HKM := hid hkm
      have HKS := hid hks
      have HKF := hid hkf
      have HKQ := hid hkq
      have HBB5 := hid hb0
      have HSZ5 := hid hsz
      clear hb0 hsz hz hW5 hkm hks hkf hkq
      have hsq : s + 2 < q := by omega
      refine wp_region_invB (by kernel_rfl) (by kernel_rfl) (LsR6 s q M len) ?_ ?_ ?_
      · exact ⟨undef, undef, undef, undef, undef, undef, (by first | (simp only [Act.put, List.setIfInBounds_toArray, List.set_cons_succ, List.set_cons_zero]; done) | rfl), by simp, by simp, by simp, by simp, by simp, by simp, (by simp; exact HKQ.out), ⟨rfl, rfl, rfl, Nat.le_refl _, fun _ _ _ => rfl⟩⟩
      · intro f' a' wx i' o ho hf hdep hI
        have hi : i' < 8 := (Array.getElem?_eq_some_iff.1 ho).1
        have hcase : i' = 0 ∨ i' = 1 ∨ i' = 2 ∨ i' = 3 ∨ i' = 4 ∨ i' = 5 ∨ i' = 6 ∨ i' = 7 := by omega
        clear hi
        rcases hcase with rfl | rfl | rfl | rfl | rfl | rfl | rfl | rfl
        all_goals
          simp only [List.getElem?_toArray, List.getElem?_cons_zero, List.getElem?_cons_succ, Option.some.injEq] at ho
          subst ho
        · -- 0
          obtain ⟨x0, x1, x2, x3, x4, x6, rfl, h0, h1, h2, h3, h4, h6, hk, hC⟩ := hI
          have H0' := hid h0; have H1' := hid h1; have H2' := hid h2; have H3' := hid h3; have H4' := hid h4; have H6' := hid h6; have HK' := hid hk; have HC' := hid hC; clear h0 h1 h2 h3 h4 h6 hk hC
          try simp only [Act.put, List.setIfInBounds_toArray, List.set_cons_succ, List.set_cons_zero]
          go_wp2_with fail
          have h0 := H0'.out; have h1 := H1'.out; have h2 := H2'.out; have h3 := H3'.out; have h4 := H4'.out; have h6 := H6'.out; have hk := HK'.out; have hC := HC'.out
          exact ⟨_, x1, x2, x3, x4, x6, (by first | (simp only [Act.put, List.setIfInBounds_toArray, List.set_cons_succ, List.set_cons_zero]; done) | rfl), (fun _ => rfl), (fun h => h1 (by simpa using h)), (fun h => h2 (by simpa using h)), (fun h => h3 (by simpa using h)), (fun h => h4 (by simpa using h)), (fun h => h6 (by simpa using h)), (by simpa using hk), hC⟩
        · -- 1
          obtain ⟨x0, x1, x2, x3, x4, x6, rfl, h0, h1, h2, h3, h4, h6, hk, hC⟩ := hI
          simp [Region.binds] at hdep
          obtain rfl := h0 (by first | exact hdep | exact hdep.1 | exact hdep.2 | exact hdep.2.1 | exact hdep.2.2 | simp_all)
          have hm := hC.blk HKM.out (by omega)
          have t1 := hm.cell 1
          have t2 := hm.cell 2
          have t3 := hm.cell 3
          have t4 := hm.cell 4
          have t5 := hm.cell 5
          have t6 := hm.cell 6
          simp only [List.getElem?_toArray, List.getElem?_cons_zero, List.getElem?_cons_succ] at t1 t2 t3 t4 t5 t6
          clear hm
          have H0' := hid h0; have H1' := hid h1; have H2' := hid h2; have H3' := hid h3; have H4' := hid h4; have H6' := hid h6; have HK' := hid hk; have HC' := hid hC; clear h0 h1 h2 h3 h4 h6 hk hC
          try simp only [Act.put, List.setIfInBounds_toArray, List.set_cons_succ, List.set_cons_zero]
          go_wp2_with fail
          have h0 := H0'.out; have h1 := H1'.out; have h2 := H2'.out; have h3 := H3'.out; have h4 := H4'.out; have h6 := H6'.out; have hk := HK'.out; have hC := HC'.out
          exact ⟨_, _, x2, x3, x4, x6, (by first | (simp only [Act.put, List.setIfInBounds_toArray, List.set_cons_succ, List.set_cons_zero]; done) | rfl), (fun _ => rfl), (fun _ => rfl), (fun h => h2 (by simpa using h)), (fun h => h3 (by simpa using h)), (fun h => h4 (by simpa using h)), (fun h => h6 (by simpa using h)), (by simpa using hk), hC⟩
        · -- 2
          obtain ⟨x0, x1, x2, x3, x4, x6, rfl, h0, h1, h2, h3, h4, h6, hk, hC⟩ := hI
          have H0' := hid h0; have H1' := hid h1; have H2' := hid h2; have H3' := hid h3; have H4' := hid h4; have H6' := hid h6; have HK' := hid hk; have HC' := hid hC; clear h0 h1 h2 h3 h4 h6 hk hC
          try simp only [Act.put, List.setIfInBounds_toArray, List.set_cons_succ, List.set_cons_zero]
          go_wp2_with fail
          have h0 := H0'.out; have h1 := H1'.out; have h2 := H2'.out; have h3 := H3'.out; have h4 := H4'.out; have h6 := H6'.out; have hk := HK'.out; have hC := HC'.out
          exact ⟨x0, x1, _, x3, x4, x6, (by first | (simp only [Act.put, List.setIfInBounds_toArray, List.set_cons_succ, List.set_cons_zero]; done) | rfl), (fun h => h0 (by simpa using h)), (fun h => h1 (by simpa using h)), (fun _ => rfl), (fun h => h3 (by simpa using h)), (fun h => h4 (by simpa using h)), (fun h => h6 (by simpa using h)), (by simpa using hk), hC⟩
        · -- 3
          obtain ⟨x0, x1, x2, x3, x4, x6, rfl, h0, h1, h2, h3, h4, h6, hk, hC⟩ := hI
          simp [Region.binds] at hdep
          obtain rfl := h2 (by first | exact hdep | exact hdep.1 | exact hdep.2 | exact hdep.2.1 | exact hdep.2.2 | simp_all)
          have hm := hC.blk HKM.out (by omega)
          have t7 := hm.cell 7
          have t8 := hm.cell 8
          simp only [List.getElem?_toArray, List.getElem?_cons_zero, List.getElem?_cons_succ] at t7 t8
          clear hm
          have H0' := hid h0; have H1' := hid h1; have H2' := hid h2; have H3' := hid h3; have H4' := hid h4; have H6' := hid h6; have HK' := hid hk; have HC' := hid hC; clear h0 h1 h2 h3 h4 h6 hk hC
          try simp only [Act.put, List.setIfInBounds_toArray, List.set_cons_succ, List.set_cons_zero]
          go_wp2_with fail
          have h0 := H0'.out; have h1 := H1'.out; have h2 := H2'.out; have h3 := H3'.out; have h4 := H4'.out; have h6 := H6'.out; have hk := HK'.out; have hC := HC'.out
          exact ⟨x0, x1, _, _, x4, x6, (by first | (simp only [Act.put, List.setIfInBounds_toArray, List.set_cons_succ, List.set_cons_zero]; done) | rfl), (fun h => h0 (by simpa using h)), (fun h => h1 (by simpa using h)), (fun _ => rfl), (fun _ => rfl), (fun h => h4 (by simpa using h)), (fun h => h6 (by simpa using h)), (by simpa using hk), hC⟩
        · -- 4
          obtain ⟨x0, x1, x2, x3, x4, x6, rfl, h0, h1, h2, h3, h4, h6, hk, hC⟩ := hI
          have H0' := hid h0; have H1' := hid h1; have H2' := hid h2; have H3' := hid h3; have H4' := hid h4; have H6' := hid h6; have HK' := hid hk; have HC' := hid hC; clear h0 h1 h2 h3 h4 h6 hk hC
          try simp only [Act.put, List.setIfInBounds_toArray, List.set_cons_succ, List.set_cons_zero]
          go_wp2_with fail
          have h0 := H0'.out; have h1 := H1'.out; have h2 := H2'.out; have h3 := H3'.out; have h4 := H4'.out; have h6 := H6'.out; have hk := HK'.out; have hC := HC'.out
          exact ⟨x0, x1, x2, x3, _, x6, (by first | (simp only [Act.put, List.setIfInBounds_toArray, List.set_cons_succ, List.set_cons_zero]; done) | rfl), (fun h => h0 (by simpa using h)), (fun h => h1 (by simpa using h)), (fun h => h2 (by simpa using h)), (fun h => h3 (by simpa using h)), (fun _ => rfl), (fun h => h6 (by simpa using h)), (by simpa using hk), hC⟩
        · -- 5
          obtain ⟨x0, x1, x2, x3, x4, x6, rfl, h0, h1, h2, h3, h4, h6, hk, hC⟩ := hI
          simp [Region.binds] at hdep
          obtain rfl := h1 (by first | exact hdep | exact hdep.1 | exact hdep.2 | exact hdep.2.1 | exact hdep.2.2 | simp_all)
          obtain rfl := h4 (by first | exact hdep | exact hdep.1 | exact hdep.2 | exact hdep.2.1 | exact hdep.2.2 | simp_all)
          cases hoth : f' 7
          all_goals
            have hko := hk
            simp only [hf, hoth, Bool.false_eq_true, if_false, if_true] at hko
            have y1 := hko.cell 1; have z1 := hko.frozen 1
            have y2 := hko.cell 2; have z2 := hko.frozen 2
            have y3 := hko.cell 3; have z3 := hko.frozen 3
            have y4 := hko.cell 4; have z4 := hko.frozen 4
            have y5 := hko.cell 5; have z5 := hko.frozen 5
            have y6 := hko.cell 6; have z6 := hko.frozen 6
            simp only [List.getElem?_toArray, List.getElem?_cons_zero, List.getElem?_cons_succ] at y1 y2 y3 y4 y5 y6
            have HKO := hid hko; have HOT := hid hoth; clear hko hoth
            have H0' := hid h0; have H1' := hid h1; have H2' := hid h2; have H3' := hid h3; have H4' := hid h4; have H6' := hid h6; have HK' := hid hk; have HC' := hid hC; clear h0 h1 h2 h3 h4 h6 hk hC
            try simp only [Act.put, List.setIfInBounds_toArray, List.set_cons_succ, List.set_cons_zero]
            go_wp2_with fail
            have h0 := H0'.out; have h1 := H1'.out; have h2 := H2'.out; have h3 := H3'.out; have h4 := H4'.out; have h6 := H6'.out; have hk := HK'.out; have hC := HC'.out
            obtain ⟨hkn, hcn⟩ := nstore HKO.out _ _ _ _ _ _
            exact ⟨x0, _, x2, x3, _, x6, (by first | (simp only [Act.put, List.setIfInBounds_toArray, List.set_cons_succ, List.set_cons_zero]; done) | rfl), (fun h => h0 (by simpa using h)), (fun _ => rfl), (fun h => h2 (by simpa using h)), (fun h => h3 (by simpa using h)), (fun _ => rfl), (fun h => h6 (by simpa using h)), (by simpa [HOT.out] using hkn), (hC.trans hcn)⟩
        · -- 6
          obtain ⟨x0, x1, x2, x3, x4, x6, rfl, h0, h1, h2, h3, h4, h6, hk, hC⟩ := hI
          have H0' := hid h0; have H1' := hid h1; have H2' := hid h2; have H3' := hid h3; have H4' := hid h4; have H6' := hid h6; have HK' := hid hk; have HC' := hid hC; clear h0 h1 h2 h3 h4 h6 hk hC
          try simp only [Act.put, List.setIfInBounds_toArray, List.set_cons_succ, List.set_cons_zero]
          go_wp2_with fail
          have h0 := H0'.out; have h1 := H1'.out; have h2 := H2'.out; have h3 := H3'.out; have h4 := H4'.out; have h6 := H6'.out; have hk := HK'.out; have hC := HC'.out
          exact ⟨x0, x1, x2, x3, x4, _, (by first | (simp only [Act.put, List.setIfInBounds_toArray, List.set_cons_succ, List.set_cons_zero]; done) | rfl), (fun h => h0 (by simpa using h)), (fun h => h1 (by simpa using h)), (fun h => h2 (by simpa using h)), (fun h => h3 (by simpa using h)), (fun h => h4 (by simpa using h)), (fun _ => rfl), (by simpa using hk), hC⟩
        · -- 7
          obtain ⟨x0, x1, x2, x3, x4, x6, rfl, h0, h1, h2, h3, h4, h6, hk, hC⟩ := hI
          simp [Region.binds] at hdep
          obtain rfl := h3 (by first | exact hdep | exact hdep.1 | exact hdep.2 | exact hdep.2.1 | exact hdep.2.2 | simp_all)
          obtain rfl := h6 (by first | exact hdep | exact hdep.1 | exact hdep.2 | exact hdep.2.1 | exact hdep.2.2 | simp_all)
          cases hoth : f' 5
          all_goals
            have hko := hk
            simp only [hf, hoth, Bool.false_eq_true, if_false, if_true] at hko
            have y7 := hko.cell 7; have z7 := hko.frozen 7
            have y8 := hko.cell 8; have z8 := hko.frozen 8
            simp only [List.getElem?_toArray, List.getElem?_cons_zero, List.getElem?_cons_succ] at y7 y8
            have HKO := hid hko; have HOT := hid hoth; clear hko hoth
            have H0' := hid h0; have H1' := hid h1; have H2' := hid h2; have H3' := hid h3; have H4' := hid h4; have H6' := hid h6; have HK' := hid hk; have HC' := hid hC; clear h0 h1 h2 h3 h4 h6 hk hC
            try simp only [Act.put, List.setIfInBounds_toArray, List.set_cons_succ, List.set_cons_zero]
            go_wp2_with fail
            have h0 := H0'.out; have h1 := H1'.out; have h2 := H2'.out; have h3 := H3'.out; have h4 := H4'.out; have h6 := H6'.out; have hk := HK'.out; have hC := HC'.out
            obtain ⟨hkn, hcn⟩ := tstore HKO.out _ _
            exact ⟨x0, x1, x2, _, x4, _, (by first | (simp only [Act.put, List.setIfInBounds_toArray, List.set_cons_succ, List.set_cons_zero]; done) | rfl), (fun h => h0 (by simpa using h)), (fun h => h1 (by simpa using h)), (fun h => h2 (by simpa using h)), (fun _ => rfl), (fun h => h4 (by simpa using h)), (fun _ => rfl), (by simpa [HOT.out] using hkn), (hC.trans hcn)⟩
      · intro f' a' wx hall hI
        obtain ⟨x0, x1, x2, x3, x4, x6, rfl, h0, h1, h2, h3, h4, h6, hk, hC⟩ := hI
        obtain rfl := h0 (hall 0 (by simp))
        obtain rfl := h1 (hall 1 (by simp))
        obtain rfl := h2 (hall 2 (by simp))
        obtain rfl := h3 (hall 3 (by simp))
        obtain rfl := h4 (hall 4 (by simp))
        obtain rfl := h6 (hall 6 (by simp))
        rw [hall 5 (by simp), hall 7 (by simp), if_pos rfl, if_pos rfl] at hk
        clear h0 h1 h2 h3 h4 h6 hall f'
        try simp only [Act.put, List.setIfInBounds_toArray, List.set_cons_succ, List.set_cons_zero]
        have hkq := hk
        have hkm := hC.blk HKM.out (by omega)
        have hks := hC.blk HKS.out (by omega)
        have hkf := hC.blk HKF.out (by omega)
        have hb0 := HBB5.out.trans (hC.below (B := s) (fun x hx => by omega) (by have := HKM.out.lt; omega))
        clear HKM HKS HKF HKQ
        have HKM := hid hkm
        have HKS := hid hks
        have HKF := hid hkf
        have HKQ := hid hkq
        have HBX := hid hb0
        clear hkm hks hkf hkq hb0 hk hC
        have zhkm0 := HKM.out.cell 0
        have zhkm1 := HKM.out.cell 1
        have zhkm2 := HKM.out.cell 2
        have zhkm3 := HKM.out.cell 3
        have zhkm4 := HKM.out.cell 4
        have zhkm5 := HKM.out.cell 5
        have zhkm6 := HKM.out.cell 6
        have zhkm7 := HKM.out.cell 7
        have zhkm8 := HKM.out.cell 8
        have zhkm9 := HKM.out.cell 9
        have lhkm := HKM.out.lt
        have zhks0 := HKS.out.cell 0
        have zhks1 := HKS.out.cell 1
        have zhks2 := HKS.out.cell 2
        have lhks := HKS.out.lt
        have zhkf0 := HKF.out.cell 0
        have zhkf1 := HKF.out.cell 1
        have zhkf2 := HKF.out.cell 2
        have zhkf3 := HKF.out.cell 3
        have zhkf4 := HKF.out.cell 4
        have lhkf := HKF.out.lt
        simp only [List.getElem?_toArray, List.getElem?_cons_zero, List.getElem?_cons_succ] at zhkm0 zhkm1 zhkm2 zhkm3 zhkm4 zhkm5 zhkm6 zhkm7 zhkm8 zhkm9 zhks0 zhks1 zhks2 zhkf0 zhkf1 zhkf2 zhkf3 zhkf4
        go_wp2_with fail
        refine (HLS.out _ HBX.out).mono ?_
        rintro e w6 ⟨A4, c4, rfl, hs4, hb⟩
        clear lhkm lhks lhkf zhkm0 zhkm1 zhkm2 zhkm3 zhkm4 zhkm5 zhkm6 zhkm7 zhkm8 zhkm9 zhks0 zhks1 zhks2 zhkf0 zhkf1 zhkf2 zhkf3 zhkf4
        have hkm := HKM.out.below hb HKM.out.lt
        have hks := HKS.out.below hb HKS.out.lt
        have hkf := HKF.out.below hb HKF.out.lt
        have hkq := HKQ.out.below hb HKQ.out.lt
        have hb0 : Below s w w6 := HBX.out.trans (hb.mono (by have := HBX.out.size; omega))
        have HKM := hid hkm
        have HKS := hid hks
        have HKF := hid hkf
        have HKQ := hid hkq
        have HS4 := hid hs4
        have HBB6 := hid hb0
        clear hb0 hb hkm hks hkf hkq hs4
        have zhkm0 := HKM.out.cell 0
        have zhkm1 := HKM.out.cell 1
        have zhkm2 := HKM.out.cell 2
        have zhkm3 := HKM.out.cell 3
        have zhkm4 := HKM.out.cell 4
        have zhkm5 := HKM.out.cell 5
        have zhkm6 := HKM.out.cell 6
        have zhkm7 := HKM.out.cell 7
        have zhkm8 := HKM.out.cell 8
        have zhkm9 := HKM.out.cell 9
        have lhkm := HKM.out.lt
        have zhks0 := HKS.out.cell 0
        have zhks1 := HKS.out.cell 1
        have zhks2 := HKS.out.cell 2
        have lhks := HKS.out.lt
        have zhkf0 := HKF.out.cell 0
        have zhkf1 := HKF.out.cell 1
        have zhkf2 := HKF.out.cell 2
        have zhkf3 := HKF.out.cell 3
        have zhkf4 := HKF.out.cell 4
        have lhkf := HKF.out.lt
        simp only [List.getElem?_toArray, List.getElem?_cons_zero, List.getElem?_cons_succ] at zhkm0 zhkm1 zhkm2 zhkm3 zhkm4 zhkm5 zhkm6 zhkm7 zhkm8 zhkm9 zhks0 zhks1 zhks2 zhkf0 zhkf1 zhkf2 zhkf3 zhkf4
        obtain ⟨p4, hz⟩ : ∃ p, w6.heap.size = p := ⟨_, rfl⟩
        rw [hz] at lhkm
        rw [hz] at lhks
        rw [hz] at lhkf
        go_wp2_with fail
        have hk4 : Blk (w6.alloc (.cells #[.int .u8 (R.k : Int), .int .u64 (R.n0 : Int), .int .u64 (R.n1 : Int), .int .u64 (R.n2 : Int), .int .u64 (R.n3 : Int), .int .u64 (R.n4 : Int), .int .u64 (R.n5 : Int), .string R.s0, .string R.s1, .slice A4 R.l.length c4] 29)) (p4) 29 #[.int .u8 (R.k : Int), .int .u64 (R.n0 : Int), .int .u64 (R.n1 : Int), .int .u64 (R.n2 : Int), .int .u64 (R.n3 : Int), .int .u64 (R.n4 : Int), .int .u64 (R.n5 : Int), .string R.s0, .string R.s1, .slice A4 R.l.length c4] := by
          have h := (Blk.new w6 29 #[.int .u8 (R.k : Int), .int .u64 (R.n0 : Int), .int .u64 (R.n1 : Int), .int .u64 (R.n2 : Int), .int .u64 (R.n3 : Int), .int .u64 (R.n4 : Int), .int .u64 (R.n5 : Int), .string R.s0, .string R.s1, .slice A4 R.l.length c4])
          rw [hz] at h; exact h
        have hkm := (HKM.out.alloc (.cells #[.int .u8 (R.k : Int), .int .u64 (R.n0 : Int), .int .u64 (R.n1 : Int), .int .u64 (R.n2 : Int), .int .u64 (R.n3 : Int), .int .u64 (R.n4 : Int), .int .u64 (R.n5 : Int), .string R.s0, .string R.s1, .slice A4 R.l.length c4] 29))
        have hks := (HKS.out.alloc (.cells #[.int .u8 (R.k : Int), .int .u64 (R.n0 : Int), .int .u64 (R.n1 : Int), .int .u64 (R.n2 : Int), .int .u64 (R.n3 : Int), .int .u64 (R.n4 : Int), .int .u64 (R.n5 : Int), .string R.s0, .string R.s1, .slice A4 R.l.length c4] 29))
        have hkf := (HKF.out.alloc (.cells #[.int .u8 (R.k : Int), .int .u64 (R.n0 : Int), .int .u64 (R.n1 : Int), .int .u64 (R.n2 : Int), .int .u64 (R.n3 : Int), .int .u64 (R.n4 : Int), .int .u64 (R.n5 : Int), .string R.s0, .string R.s1, .slice A4 R.l.length c4] 29))
        have hkq := (HKQ.out.alloc (.cells #[.int .u8 (R.k : Int), .int .u64 (R.n0 : Int), .int .u64 (R.n1 : Int), .int .u64 (R.n2 : Int), .int .u64 (R.n3 : Int), .int .u64 (R.n4 : Int), .int .u64 (R.n5 : Int), .string R.s0, .string R.s1, .slice A4 R.l.length c4] 29))
        have hs4 := HS4.out.below (bw_a (Below.refl w6.heap.size w6) (.cells #[.int .u8 (R.k : Int), .int .u64 (R.n0 : Int), .int .u64 (R.n1 : Int), .int .u64 (R.n2 : Int), .int .u64 (R.n3 : Int), .int .u64 (R.n4 : Int), .int .u64 (R.n5 : Int), .string R.s0, .string R.s1, .slice A4 R.l.length c4] 29))
        have hb0 : Below s w (w6.alloc (.cells #[.int .u8 (R.k : Int), .int .u64 (R.n0 : Int), .int .u64 (R.n1 : Int), .int .u64 (R.n2 : Int), .int .u64 (R.n3 : Int), .int .u64 (R.n4 : Int), .int .u64 (R.n5 : Int), .string R.s0, .string R.s1, .slice A4 R.l.length c4] 29)) := HBB6.out.trans ((bw_a (Below.refl w6.heap.size w6) (.cells #[.int .u8 (R.k : Int), .int .u64 (R.n0 : Int), .int .u64 (R.n1 : Int), .int .u64 (R.n2 : Int), .int .u64 (R.n3 : Int), .int .u64 (R.n4 : Int), .int .u64 (R.n5 : Int), .string R.s0, .string R.s1, .slice A4 R.l.length c4] 29)).mono (by have := HBB6.out.size; omega))
        have hsz : ((w6.alloc (.cells #[.int .u8 (R.k : Int), .int .u64 (R.n0 : Int), .int .u64 (R.n1 : Int), .int .u64 (R.n2 : Int), .int .u64 (R.n3 : Int), .int .u64 (R.n4 : Int), .int .u64 (R.n5 : Int), .string R.s0, .string R.s1, .slice A4 R.l.length c4] 29))).heap.size = p4 + 1 := by simp [hz]
        generalize hW7 : (w6.alloc (.cells #[.int .u8 (R.k : Int), .int .u64 (R.n0 : Int), .int .u64 (R.n1 : Int), .int .u64 (R.n2 : Int), .int .u64 (R.n3 : Int), .int .u64 (R.n4 : Int), .int .u64 (R.n5 : Int), .string R.s0, .string R.s1, .slice A4 R.l.length c4] 29)) = W7 at *
        have HKM := hid hkm
        have HKS := hid hks
        have HKF := hid hkf
        have HKQ := hid hkq
        have HK4 := hid hk4
        have HS4 := hid hs4
        have HBB7 := hid hb0
        have HSZ7 := hid hsz
        clear hb0 hsz hz hW7 hkm hks hkf hkq hk4 hs4
        refine (HRS.out _ HBB7.out).mono ?_
        rintro e w8 ⟨A5, c5, rfl, hs5, hb⟩
        clear lhkm lhks lhkf zhkm0 zhkm1 zhkm2 zhkm3 zhkm4 zhkm5 zhkm6 zhkm7 zhkm8 zhkm9 zhks0 zhks1 zhks2 zhkf0 zhkf1 zhkf2 zhkf3 zhkf4
        have hkm := HKM.out.below hb HKM.out.lt
        have hks := HKS.out.below hb HKS.out.lt
        have hkf := HKF.out.below hb HKF.out.lt
        have hkq := HKQ.out.below hb HKQ.out.lt
        have hk4 := HK4.out.below hb HK4.out.lt
        have hs4 := HS4.out.below hb
        have hb0 : Below s w w8 := HBB7.out.trans (hb.mono (by have := HBB7.out.size; omega))
        have HKM := hid hkm
        have HKS := hid hks
        have HKF := hid hkf
        have HKQ := hid hkq
        have HK4 := hid hk4
        have HS4 := hid hs4
        have HS5 := hid hs5
        have HBB8 := hid hb0
        clear hb0 hb hkm hks hkf hkq hk4 hs4 hs5
        have zhk40 := HK4.out.cell 0
        have zhk41 := HK4.out.cell 1
        have zhk42 := HK4.out.cell 2
        have zhk43 := HK4.out.cell 3
        have zhk44 := HK4.out.cell 4
        have zhk45 := HK4.out.cell 5
        have zhk46 := HK4.out.cell 6
        have zhk47 := HK4.out.cell 7
        have zhk48 := HK4.out.cell 8
        have zhk49 := HK4.out.cell 9
        have lhk4 := HK4.out.lt
        simp only [List.getElem?_toArray, List.getElem?_cons_zero, List.getElem?_cons_succ] at zhk40 zhk41 zhk42 zhk43 zhk44 zhk45 zhk46 zhk47 zhk48 zhk49
        obtain ⟨p5, hz⟩ : ∃ p, w8.heap.size = p := ⟨_, rfl⟩
        rw [hz] at lhk4
        go_wp2_with fail
        have hk5 : Blk (w8.alloc (.cells #[.int .u8 (R.k : Int), .int .u64 (R.n0 : Int), .int .u64 (R.n1 : Int), .int .u64 (R.n2 : Int), .int .u64 (R.n3 : Int), .int .u64 (R.n4 : Int), .int .u64 (R.n5 : Int), .string R.s0, .string R.s1, .slice A5 R.l.length c5] 29)) (p5) 29 #[.int .u8 (R.k : Int), .int .u64 (R.n0 : Int), .int .u64 (R.n1 : Int), .int .u64 (R.n2 : Int), .int .u64 (R.n3 : Int), .int .u64 (R.n4 : Int), .int .u64 (R.n5 : Int), .string R.s0, .string R.s1, .slice A5 R.l.length c5] := by
          have h := (Blk.new w8 29 #[.int .u8 (R.k : Int), .int .u64 (R.n0 : Int), .int .u64 (R.n1 : Int), .int .u64 (R.n2 : Int), .int .u64 (R.n3 : Int), .int .u64 (R.n4 : Int), .int .u64 (R.n5 : Int), .string R.s0, .string R.s1, .slice A5 R.l.length c5])
          rw [hz] at h; exact h
        have hkm := (HKM.out.alloc (.cells #[.int .u8 (R.k : Int), .int .u64 (R.n0 : Int), .int .u64 (R.n1 : Int), .int .u64 (R.n2 : Int), .int .u64 (R.n3 : Int), .int .u64 (R.n4 : Int), .int .u64 (R.n5 : Int), .string R.s0, .string R.s1, .slice A5 R.l.length c5] 29))
        have hks := (HKS.out.alloc (.cells #[.int .u8 (R.k : Int), .int .u64 (R.n0 : Int), .int .u64 (R.n1 : Int), .int .u64 (R.n2 : Int), .int .u64 (R.n3 : Int), .int .u64 (R.n4 : Int), .int .u64 (R.n5 : Int), .string R.s0, .string R.s1, .slice A5 R.l.length c5] 29))
        have hkf := (HKF.out.alloc (.cells #[.int .u8 (R.k : Int), .int .u64 (R.n0 : Int), .int .u64 (R.n1 : Int), .int .u64 (R.n2 : Int), .int .u64 (R.n3 : Int), .int .u64 (R.n4 : Int), .int .u64 (R.n5 : Int), .string R.s0, .string R.s1, .slice A5 R.l.length c5] 29))
        have hkq := (HKQ.out.alloc (.cells #[.int .u8 (R.k : Int), .int .u64 (R.n0 : Int), .int .u64 (R.n1 : Int), .int .u64 (R.n2 : Int), .int .u64 (R.n3 : Int), .int .u64 (R.n4 : Int), .int .u64 (R.n5 : Int), .string R.s0, .string R.s1, .slice A5 R.l.length c5] 29))
        have hk4 := (HK4.out.alloc (.cells #[.int .u8 (R.k : Int), .int .u64 (R.n0 : Int), .int .u64 (R.n1 : Int), .int .u64 (R.n2 : Int), .int .u64 (R.n3 : Int), .int .u64 (R.n4 : Int), .int .u64 (R.n5 : Int), .string R.s0, .string R.s1, .slice A5 R.l.length c5] 29))
        have hs4 := HS4.out.below (bw_a (Below.refl w8.heap.size w8) (.cells #[.int .u8 (R.k : Int), .int .u64 (R.n0 : Int), .int .u64 (R.n1 : Int), .int .u64 (R.n2 : Int), .int .u64 (R.n3 : Int), .int .u64 (R.n4 : Int), .int .u64 (R.n5 : Int), .string R.s0, .string R.s1, .slice A5 R.l.length c5] 29))
        have hs5 := HS5.out.below (bw_a (Below.refl w8.heap.size w8) (.cells #[.int .u8 (R.k : Int), .int .u64 (R.n0 : Int), .int .u64 (R.n1 : Int), .int .u64 (R.n2 : Int), .int .u64 (R.n3 : Int), .int .u64 (R.n4 : Int), .int .u64 (R.n5 : Int), .string R.s0, .string R.s1, .slice A5 R.l.length c5] 29))
        have hb0 : Below s w (w8.alloc (.cells #[.int .u8 (R.k : Int), .int .u64 (R.n0 : Int), .int .u64 (R.n1 : Int), .int .u64 (R.n2 : Int), .int .u64 (R.n3 : Int), .int .u64 (R.n4 : Int), .int .u64 (R.n5 : Int), .string R.s0, .string R.s1, .slice A5 R.l.length c5] 29)) := HBB8.out.trans ((bw_a (Below.refl w8.heap.size w8) (.cells #[.int .u8 (R.k : Int), .int .u64 (R.n0 : Int), .int .u64 (R.n1 : Int), .int .u64 (R.n2 : Int), .int .u64 (R.n3 : Int), .int .u64 (R.n4 : Int), .int .u64 (R.n5 : Int), .string R.s0, .string R.s1, .slice A5 R.l.length c5] 29)).mono (by have := HBB8.out.size; omega))
        have hsz : ((w8.alloc (.cells #[.int .u8 (R.k : Int), .int .u64 (R.n0 : Int), .int .u64 (R.n1 : Int), .int .u64 (R.n2 : Int), .int .u64 (R.n3 : Int), .int .u64 (R.n4 : Int), .int .u64 (R.n5 : Int), .string R.s0, .string R.s1, .slice A5 R.l.length c5] 29))).heap.size = p5 + 1 := by simp [hz]
        generalize hW9 : (w8.alloc (.cells #[.int .u8 (R.k : Int), .int .u64 (R.n0 : Int), .int .u64 (R.n1 : Int), .int .u64 (R.n2 : Int), .int .u64 (R.n3 : Int), .int .u64 (R.n4 : Int), .int .u64 (R.n5 : Int), .string R.s0, .string R.s1, .slice A5 R.l.length c5] 29)) = W9 at *
        have HKM := hid hkm
        have HKS := hid hks
        have HKF := hid hkf
        have HKQ := hid hkq
        have HK4 := hid hk4
        have HK5 := hid hk5
        have HS4 := hid hs4
        have HS5 := hid hs5
        have HBB9 := hid hb0
        have HSZ9 := hid hsz
        clear hb0 hsz hz hW9 hkm hks hkf hkq hk4 hk5 hs4 hs5
        refine (HSA.out _ _ _ _ _ HS4.out HS5.out).mono ?_
        rintro e w10 ⟨rfl, hb⟩
        clear lhk4 zhk40 zhk41 zhk42 zhk43 zhk44 zhk45 zhk46 zhk47 zhk48 zhk49
        have hkm := HKM.out.below hb HKM.out.lt
        have hks := HKS.out.below hb HKS.out.lt
        have hkf := HKF.out.below hb HKF.out.lt
        have hkq := HKQ.out.below hb HKQ.out.lt
        have hk4 := HK4.out.below hb HK4.out.lt
        have hk5 := HK5.out.below hb HK5.out.lt
        have hs4 := HS4.out.below hb
        have hs5 := HS5.out.below hb
        have hb0 : Below s w w10 := HBB9.out.trans (hb.mono (by have := HBB9.out.size; omega))
        have HKM := hid hkm
        have HKS := hid hks
        have HKF := hid hkf
        have HKQ := hid hkq
        have HK4 := hid hk4
        have HK5 := hid hk5
        have HS4 := hid hs4
        have HS5 := hid hs5
        have HBB10 := hid hb0
        clear hb0 hb hkm hks hkf hkq hk4 hk5 hs4 hs5
        have zhkm0 := HKM.out.cell 0
        have zhkm1 := HKM.out.cell 1
        have zhkm2 := HKM.out.cell 2
        have zhkm3 := HKM.out.cell 3
        have zhkm4 := HKM.out.cell 4
        have zhkm5 := HKM.out.cell 5
        have zhkm6 := HKM.out.cell 6
        have zhkm7 := HKM.out.cell 7
        have zhkm8 := HKM.out.cell 8
        have zhkm9 := HKM.out.cell 9
        have lhkm := HKM.out.lt
        have zhkq0 := HKQ.out.cell 0
        have zhkq1 := HKQ.out.cell 1
        have zhkq2 := HKQ.out.cell 2
        have zhkq3 := HKQ.out.cell 3
        have zhkq4 := HKQ.out.cell 4
        have zhkq5 := HKQ.out.cell 5
        have zhkq6 := HKQ.out.cell 6
        have zhkq7 := HKQ.out.cell 7
        have zhkq8 := HKQ.out.cell 8
        have zhkq9 := HKQ.out.cell 9
        have lhkq := HKQ.out.lt
        simp only [List.getElem?_toArray, List.getElem?_cons_zero, List.getElem?_cons_succ] at zhkm0 zhkm1 zhkm2 zhkm3 zhkm4 zhkm5 zhkm6 zhkm7 zhkm8 zhkm9 zhkq0 zhkq1 zhkq2 zhkq3 zhkq4 zhkq5 zhkq6 zhkq7 zhkq8 zhkq9
        have hen := fun W => eq_nums M.n0 M.n1 M.n2 M.n3 M.n4 M.n5 M.n0 M.n1 M.n2 M.n3 M.n4 M.n5 W
        have het := fun W => eq_texts M.s0 M.s1 M.s0 M.s1 W
        rw [decide_eq_true (by exact ⟨rfl, rfl, rfl, rfl, rfl, rfl⟩)] at hen
        rw [decide_eq_true (by exact ⟨rfl, rfl⟩)] at het
        go_wp2_with fail
        go_ret
        exact ⟨rfl, HBB10.out⟩
end Go.Proofs.Ytmcebepfoleknaa
