/- lenient.Set. · The document's Fields. -/
import Derived.Test.YtpmfdlghckfgiaaLenText
import Derived.Test.YtpmfdlghckfgiaaRefOne
import Derived.Test.YtpmfdlghckfgiaaG6
import Derived.Test.YtpmfdlghckfgiaaG0
set_option linter.unusedVariables false
namespace Go.Proofs.Ytpmfdlghckfgiaa
open Go.RowKit
theorem ltext_any (m : MV) (num t i : Int) (n : Nat) (q : ByteArray) (B : Nat) (w : World) (hp : plB t i = true) (h7 : 7 ≤ t) (hq : q.size ≤ 9223372036854775807) (hB0 : B ≤ w.heap.size) (ho : w.ownsRow B 9 1 (.slice m.A m.l.length m.c) m.l.length (m.l.map sv)) :
    Calls Try.prog 26 #[mvV m, .agg #[.int .i64 num, .int .i64 t, .int .i64 i], .string q] w fun e w' => ∃ A' c', e = .returned (.tuple #[mvV { setM m t i n q with A := A', c := c' }, .int .i64 (setE m t i q)]) ∧ w'.ownsRow B 9 1 (.slice A' (setM m t i n q).l.length c') (setM m t i n q).l.length ((setM m t i n q).l.map sv) ∧ Below B w w' := by
  have hpl : (7 ≤ t ∧ t ≤ 9 ∧ (i = 0 ∨ i = 1)) ∨ t = 10 := by
    unfold plB at hp
    simp only [Bool.or_eq_true, decide_eq_true_eq] at hp
    omega
  rcases hpl with ⟨-, h9, hi⟩ | rfl
  · have hE0 : setE m t i q = chk q (mostN t : Nat) := by
      unfold setE
      rw [if_neg (by rw [hp]; simp), if_neg (by omega), if_pos h9]
    by_cases hE : chk q (mostN t : Nat) = 0
    · have hM : setM m t i n q = m.setS i q := by
        unfold setM
        rw [if_neg (by rw [hE0]; simp [hE]), if_neg (by omega), if_pos h9]
      rw [hE0, hE, hM]
      refine (ltext_text m.k m.n0 m.n1 m.n2 m.n3 m.n4 m.n5 m.s0 m.s1 m.A m.c m.l.length num t i q w ⟨h7, h9⟩ hi hq hE).mono ?_
      rintro e w' ⟨he, hb⟩
      exact ⟨m.A, m.c, he, own_below ho hb, hb.mono hB0⟩
    · have hM : setM m t i n q = ZM := by
        unfold setM
        rw [if_pos (by rw [hE0]; exact hE)]
      rw [hE0, hM]
      refine (ltext_bad m.k m.n0 m.n1 m.n2 m.n3 m.n4 m.n5 m.s0 m.s1 m.A m.c m.l.length num t i q w (by omega) hq hE).mono ?_
      rintro e w' ⟨he, hb⟩
      exact ⟨none, 0, he, World.ownsRow_nil _ _ _ _, hb.mono hB0⟩
  · by_cases h64 : 64 ≤ m.l.length
    · have hE0 : setE m 10 i q = 2 := by
        unfold setE
        rw [if_neg (by rw [hp]; simp), if_neg (by omega), if_neg (by omega), if_pos h64]
      have hM : setM m 10 i n q = ZM := by
        unfold setM
        rw [if_pos (by rw [hE0]; decide)]
      rw [hE0, hM]
      refine (ltext_long m.k m.n0 m.n1 m.n2 m.n3 m.n4 m.n5 m.s0 m.s1 m.A m.c m.l.length num i q w h64).mono ?_
      rintro e w' ⟨he, hb⟩
      exact ⟨none, 0, he, World.ownsRow_nil _ _ _ _, hb.mono hB0⟩
    · have hE0 : setE m 10 i q = chk q 64 := by
        unfold setE
        rw [if_neg (by rw [hp]; simp), if_neg (by omega), if_neg (by omega), if_neg h64]
      by_cases hE : chk q 64 = 0
      · have hM : setM m 10 i n q = { m with l := m.l ++ [q] } := by
          unfold setM
          rw [if_neg (by rw [hE0]; simp [hE]), if_neg (by omega), if_neg (by omega)]
        rw [hE0, hE, hM]
        refine (ltext_list m.k m.n0 m.n1 m.n2 m.n3 m.n4 m.n5 m.s0 m.s1 m.A m.c m.l.length m.l num i q B w (by omega) rfl hq hE hB0 ho).mono ?_
        rintro e w' ⟨A', c', he, ho', hb⟩
        have hl1 : (m.l ++ [q]).length = m.l.length + 1 := by simp
        refine ⟨A', c', ?_, by rw [hl1]; exact ho', hb⟩
        rw [he]
        unfold mvV mvA
        simp only [List.length_append, List.length_cons, List.length_nil]
      · have hM : setM m 10 i n q = ZM := by
          unfold setM
          rw [if_pos (by rw [hE0]; exact hE)]
        rw [hE0, hM]
        refine (ltext_bad m.k m.n0 m.n1 m.n2 m.n3 m.n4 m.n5 m.s0 m.s1 m.A m.c m.l.length num 10 i q w (by omega) hq hE).mono ?_
        rintro e w' ⟨he, hb⟩
        exact ⟨none, 0, he, World.ownsRow_nil _ _ _ _, hb.mono hB0⟩
theorem conv_bs11 {P : Program} {w : World} {src dst e : TypeId} {A : Option Addr} {n c : Nat} {vs : List UInt8} (hsl : Sl w A c (vs.map bv)) (hn : vs.length = n) (hs : P.underlying src = some (.slice e)) (he : P.underlying e = some (.int .u8)) (hd : P.underlying dst = some .string) :
    (convert src dst (.slice A n c)).run P w = .ok (.string ⟨vs.toArray⟩) w := by
  subst hn
  cases A with
  | none =>
    obtain hnil := hsl.rd.none_nil
    obtain rfl : vs = [] := by simpa using hnil
    obtain rfl := hsl.nil0 rfl
    exact run_convert_bytes_nil w src e hs he 0 0 dst hd
  | some a =>
    exact run_convert_bytes_back _ src dst e _ _ vs hs he hd fun j hj => by
      have := hsl.rd.addr j (bv vs[j]) (by simp [hj])
      simpa [bv] using this
set_option maxRecDepth 100000 in
set_option maxHeartbeats 1000000 in
theorem lset_none (m : MV) (num t i : Int) (fnum fw : Int) (fn : Nat) (fA : Option Addr) (xl fc : Nat) (fat : Int) (w : World) (hp : plB t i = false) : Calls Try.prog 14 #[mvV m, .agg #[.int .i64 num, .int .i64 t, .int .i64 i], .agg #[.int .i64 fnum, .int .u8 fw, .int .u64 (fn : Int), .slice fA xl fc, .int .i64 fat]] w fun e w' => e = .returned (.tuple #[.agg #[.int .u8 0, .int .u64 0, .int .u64 0, .int .u64 0, .int .u64 0, .int .u64 0, .int .u64 0, .string ⟨#[]⟩, .string ⟨#[]⟩, .slice none 0 0], .int .i64 7]) ∧ Below w.heap.size w w' := by
  have hpl := fun W => placed_any m num t i W
  simp only [hp] at hpl
  unfold mvV mvA at hpl ⊢
  obtain ⟨len, hlen⟩ : ∃ n, m.l.length = n := ⟨_, rfl⟩
  simp only [hlen] at hpl ⊢
  obtain ⟨s, hws⟩ : ∃ s, w.heap.size = s := ⟨_, rfl⟩
  rw [hws]
  have HPL := hid hpl
  clear hpl hlen
  go_enter Try.func14, Try.ntmps14
  go_wp2_with fail
  obtain ⟨W, hW⟩ : ∃ W, (((w.alloc (.cells #[.int .u8 (m.k : Int), .int .u64 (m.n0 : Int), .int .u64 (m.n1 : Int), .int .u64 (m.n2 : Int), .int .u64 (m.n3 : Int), .int .u64 (m.n4 : Int), .int .u64 (m.n5 : Int), .string m.s0, .string m.s1, .slice m.A len m.c] 29)).alloc (.cells #[.int .i64 num, .int .i64 t, .int .i64 i] 48)).alloc (.cells #[.int .i64 fnum, .int .u8 fw, .int .u64 (fn : Int), .slice fA xl fc, .int .i64 fat] 50)).alloc (.cells #[.int .u8 0, .int .u64 0, .int .u64 0, .int .u64 0, .int .u64 0, .int .u64 0, .int .u64 0, .string ⟨#[]⟩, .string ⟨#[]⟩, .slice none 0 0] 29) = W := ⟨_, rfl⟩
  have hk0 : Blk W s 29 #[.int .u8 (m.k : Int), .int .u64 (m.n0 : Int), .int .u64 (m.n1 : Int), .int .u64 (m.n2 : Int), .int .u64 (m.n3 : Int), .int .u64 (m.n4 : Int), .int .u64 (m.n5 : Int), .string m.s0, .string m.s1, .slice m.A len m.c] := by rw [← hW, ← hws]; exact (((Blk.new w _ _).alloc _).alloc _).alloc _
  have hk1 : Blk W (s + 1) 48 #[.int .i64 num, .int .i64 t, .int .i64 i] := by
    have h1 := ((Blk.new (w.alloc (.cells #[.int .u8 (m.k : Int), .int .u64 (m.n0 : Int), .int .u64 (m.n1 : Int), .int .u64 (m.n2 : Int), .int .u64 (m.n3 : Int), .int .u64 (m.n4 : Int), .int .u64 (m.n5 : Int), .string m.s0, .string m.s1, .slice m.A len m.c] 29)) 48 #[.int .i64 num, .int .i64 t, .int .i64 i]).alloc (.cells #[.int .i64 fnum, .int .u8 fw, .int .u64 (fn : Int), .slice fA xl fc, .int .i64 fat] 50)).alloc (.cells #[.int .u8 0, .int .u64 0, .int .u64 0, .int .u64 0, .int .u64 0, .int .u64 0, .int .u64 0, .string ⟨#[]⟩, .string ⟨#[]⟩, .slice none 0 0] 29)
    rw [World.size_alloc, hws, hW] at h1; exact h1
  have hk2 : Blk W (s + 1 + 1) 50 #[.int .i64 fnum, .int .u8 fw, .int .u64 (fn : Int), .slice fA xl fc, .int .i64 fat] := by
    have h1 := (Blk.new ((w.alloc (.cells #[.int .u8 (m.k : Int), .int .u64 (m.n0 : Int), .int .u64 (m.n1 : Int), .int .u64 (m.n2 : Int), .int .u64 (m.n3 : Int), .int .u64 (m.n4 : Int), .int .u64 (m.n5 : Int), .string m.s0, .string m.s1, .slice m.A len m.c] 29)).alloc (.cells #[.int .i64 num, .int .i64 t, .int .i64 i] 48)) 50 #[.int .i64 fnum, .int .u8 fw, .int .u64 (fn : Int), .slice fA xl fc, .int .i64 fat]).alloc (.cells #[.int .u8 0, .int .u64 0, .int .u64 0, .int .u64 0, .int .u64 0, .int .u64 0, .int .u64 0, .string ⟨#[]⟩, .string ⟨#[]⟩, .slice none 0 0] 29)
    rw [World.size_alloc, World.size_alloc, hws, hW] at h1; exact h1
  have hk3 : Blk W (s + 1 + 1 + 1) 29 #[.int .u8 0, .int .u64 0, .int .u64 0, .int .u64 0, .int .u64 0, .int .u64 0, .int .u64 0, .string ⟨#[]⟩, .string ⟨#[]⟩, .slice none 0 0] := by
    have h1 := Blk.new (((w.alloc (.cells #[.int .u8 (m.k : Int), .int .u64 (m.n0 : Int), .int .u64 (m.n1 : Int), .int .u64 (m.n2 : Int), .int .u64 (m.n3 : Int), .int .u64 (m.n4 : Int), .int .u64 (m.n5 : Int), .string m.s0, .string m.s1, .slice m.A len m.c] 29)).alloc (.cells #[.int .i64 num, .int .i64 t, .int .i64 i] 48)).alloc (.cells #[.int .i64 fnum, .int .u8 fw, .int .u64 (fn : Int), .slice fA xl fc, .int .i64 fat] 50)) 29 #[.int .u8 0, .int .u64 0, .int .u64 0, .int .u64 0, .int .u64 0, .int .u64 0, .int .u64 0, .string ⟨#[]⟩, .string ⟨#[]⟩, .slice none 0 0]
    rw [World.size_alloc, World.size_alloc, World.size_alloc, hws, hW] at h1; exact h1
  have hB : Below s w W := by rw [← hW, ← hws]; exact bw_a (bw_a (bw_a (bw_a (Below.refl _ w) _) _) _) _
  have hl3 := hk3.lt
  rw [hW]
  clear hW
  refine (HPL.out W).mono ?_
  rintro e w1 ⟨rfl, hb1⟩
  have hk3 := hk3.below hb1 hl3
  have hB := hB.trans (hb1.mono (by omega))
  have r0 := hk3.cell 0
  have r1 := hk3.cell 1
  have r2 := hk3.cell 2
  have r3 := hk3.cell 3
  have r4 := hk3.cell 4
  have r5 := hk3.cell 5
  have r6 := hk3.cell 6
  have r7 := hk3.cell 7
  have r8 := hk3.cell 8
  have r9 := hk3.cell 9
  simp only [List.getElem?_toArray, List.getElem?_cons_zero, List.getElem?_cons_succ] at r0 r1 r2 r3 r4 r5 r6 r7 r8 r9
  have g0 := hk3.frozen 0
  have g1 := hk3.frozen 1
  have g2 := hk3.frozen 2
  have g3 := hk3.frozen 3
  have g4 := hk3.frozen 4
  have g5 := hk3.frozen 5
  have g6 := hk3.frozen 6
  have g7 := hk3.frozen 7
  have g8 := hk3.frozen 8
  have g9 := hk3.frozen 9
  have HK3 := hid hk3; have HB := hid hB
  clear hk0 hk1 hk2 hk3 hB hb1
  go_wp2_with fail
  have HE := hid (mstore HK3.out (.int .u8 0) (.int .u64 0) (.int .u64 0) (.int .u64 0) (.int .u64 0) (.int .u64 0) (.int .u64 0) (.string ⟨#[]⟩) (.string ⟨#[]⟩) (.slice none 0 0))
  clear r0 r1 r2 r3 r4 r5 r6 r7 r8 r9 g0 g1 g2 g3 g4 g5 g6 g7 g8 g9
  generalize World.setCell (World.setCell _ _ _) _ _ = W9 at *
  have hz := HE.out.1
  have r0 := hz.cell 0
  have r1 := hz.cell 1
  have r2 := hz.cell 2
  have r3 := hz.cell 3
  have r4 := hz.cell 4
  have r5 := hz.cell 5
  have r6 := hz.cell 6
  have r7 := hz.cell 7
  have r8 := hz.cell 8
  have r9 := hz.cell 9
  simp only [List.getElem?_toArray, List.getElem?_cons_zero, List.getElem?_cons_succ] at r0 r1 r2 r3 r4 r5 r6 r7 r8 r9
  refine bodyPost_ret (v := .tuple #[.agg #[.int .u8 0, .int .u64 0, .int .u64 0, .int .u64 0, .int .u64 0, .int .u64 0, .int .u64 0, .string ⟨#[]⟩, .string ⟨#[]⟩, .slice none 0 0], .int .i64 7]) (by simp [results, Try.results14, go_sem, r0, r1, r2, r3, r4, r5, r6, r7, r8, r9]) rfl ?_
  exact ⟨rfl, HB.out.trans (HE.out.2.below (B := s) (fun k hk => by omega) (by have := HB.out.size; omega))⟩
theorem setM_ac (m : MV) (A A' : Option Addr) (c c' : Nat) (t i : Int) (n : Nat) (q : ByteArray) : { setM { m with A := A, c := c } t i n q with A := A', c := c' } = { setM m t i n q with A := A', c := c' } := by
  have e : setE { m with A := A, c := c } t i q = setE m t i q := rfl
  unfold setM
  rw [e]
  split
  · rfl
  split
  · rfl
  split <;> rfl
theorem setM_acl (m : MV) (A : Option Addr) (c : Nat) (t i : Int) (n : Nat) (q : ByteArray) : (setM { m with A := A, c := c } t i n q).l = (setM m t i n q).l := by
  have e : setE { m with A := A, c := c } t i q = setE m t i q := rfl
  unfold setM
  rw [e]
  split
  · rfl
  split
  · rfl
  split <;> rfl
set_option maxRecDepth 100000 in
set_option maxHeartbeats 3000000 in
theorem lset_text (m : MV) (num t i : Int) (fnum fw : Int) (fn : Nat) (fA : Option Addr) (xl fc : Nat) (fat : Int) (xs : List UInt8) (w : World) (hp : plB t i = true) (h7 : 7 ≤ t) (hlm : m.l.length ≤ 1000000) (hsm : Sl w m.A m.c (m.l.map sv)) (hxl : xs.length = xl) (hx : xl ≤ 9223372036854775807) (hsf : Sl w fA fc (xs.map bv)) :
    Calls Try.prog 14 #[mvV m, .agg #[.int .i64 num, .int .i64 t, .int .i64 i], .agg #[.int .i64 fnum, .int .u8 fw, .int .u64 (fn : Int), .slice fA xl fc, .int .i64 fat]] w fun e w' => ∃ A' c', e = .returned (.tuple #[mvV { setM m t i fn ⟨xs.toArray⟩ with A := A', c := c' }, .int .i64 (setE m t i ⟨xs.toArray⟩)]) ∧ w'.ownsRow w.heap.size 9 1 (.slice A' (setM m t i fn ⟨xs.toArray⟩).l.length c') (setM m t i fn ⟨xs.toArray⟩).l.length ((setM m t i fn ⟨xs.toArray⟩).l.map sv) ∧ Below w.heap.size w w' := by
  have hpl := fun W => placed_any m num t i W
  simp only [hp] at hpl
  have hcp := fun W (hW : Below w.heap.size w W) => vcopy_any m W hlm (hsm.below hW)
  have hq : (⟨xs.toArray⟩ : ByteArray).size ≤ 9223372036854775807 := by show xs.toArray.size ≤ _; simp; omega
  have htx : ∀ A1 c1 B W, B ≤ W.heap.size → W.ownsRow B 9 1 (.slice A1 m.l.length c1) m.l.length (m.l.map sv) → Calls Try.prog 26 #[mvV { m with A := A1, c := c1 }, .agg #[.int .i64 num, .int .i64 t, .int .i64 i], .string ⟨xs.toArray⟩] W fun e w' => ∃ A' c', e = .returned (.tuple #[mvV { setM m t i fn ⟨xs.toArray⟩ with A := A', c := c' }, .int .i64 (setE m t i ⟨xs.toArray⟩)]) ∧ w'.ownsRow B 9 1 (.slice A' (setM m t i fn ⟨xs.toArray⟩).l.length c') (setM m t i fn ⟨xs.toArray⟩).l.length ((setM m t i fn ⟨xs.toArray⟩).l.map sv) ∧ Below B W w' := fun A1 c1 B W hB ho => (ltext_any { m with A := A1, c := c1 } num t i fn ⟨xs.toArray⟩ B W hp h7 hq hB ho).mono (by
    rintro e w' ⟨A', c', he, hs, hb⟩
    rw [setM_ac] at he
    rw [setM_acl] at hs
    exact ⟨A', c', he, hs, hb⟩)
  have ht : t = 7 ∨ t = 8 ∨ t = 9 ∨ t = 10 := by
    unfold plB at hp
    simp only [Bool.or_eq_true, decide_eq_true_eq] at hp
    omega
  generalize hE : setE m t i ⟨xs.toArray⟩ = E at *
  obtain ⟨U, hU⟩ : ∃ U, setM m t i fn ⟨xs.toArray⟩ = U := ⟨_, rfl⟩
  simp only [hU] at htx ⊢
  unfold mvV mvA at *
  simp only at hcp htx ⊢
  obtain ⟨lu, hlu⟩ : ∃ n, U.l.length = n := ⟨_, rfl⟩
  simp only [hlu] at htx ⊢
  obtain ⟨len, hlen⟩ : ∃ n, m.l.length = n := ⟨_, rfl⟩
  simp only [hlen] at hpl hcp htx ⊢
  obtain ⟨s, hws⟩ : ∃ s, w.heap.size = s := ⟨_, rfl⟩
  rw [hws] at hcp ⊢
  have HPL := hid hpl; have HCP := hid hcp; have HTX := hid htx; have HSF := hid hsf; have HXL := hid hxl
  clear hpl hcp htx hsf hsm hlen hlm hE hU hlu hxl hp h7
  go_enter Try.func14, Try.ntmps14
  go_wp2_with fail
  obtain ⟨W, hW⟩ : ∃ W, (((w.alloc (.cells #[.int .u8 (m.k : Int), .int .u64 (m.n0 : Int), .int .u64 (m.n1 : Int), .int .u64 (m.n2 : Int), .int .u64 (m.n3 : Int), .int .u64 (m.n4 : Int), .int .u64 (m.n5 : Int), .string m.s0, .string m.s1, .slice m.A len m.c] 29)).alloc (.cells #[.int .i64 num, .int .i64 t, .int .i64 i] 48)).alloc (.cells #[.int .i64 fnum, .int .u8 fw, .int .u64 (fn : Int), .slice fA xl fc, .int .i64 fat] 50)).alloc (.cells #[.int .u8 0, .int .u64 0, .int .u64 0, .int .u64 0, .int .u64 0, .int .u64 0, .int .u64 0, .string ⟨#[]⟩, .string ⟨#[]⟩, .slice none 0 0] 29) = W := ⟨_, rfl⟩
  have hk0 : Blk W s 29 #[.int .u8 (m.k : Int), .int .u64 (m.n0 : Int), .int .u64 (m.n1 : Int), .int .u64 (m.n2 : Int), .int .u64 (m.n3 : Int), .int .u64 (m.n4 : Int), .int .u64 (m.n5 : Int), .string m.s0, .string m.s1, .slice m.A len m.c] := by rw [← hW, ← hws]; exact (((Blk.new w _ _).alloc _).alloc _).alloc _
  have hk1 : Blk W (s + 1) 48 #[.int .i64 num, .int .i64 t, .int .i64 i] := by
    have h1 := ((Blk.new (w.alloc (.cells #[.int .u8 (m.k : Int), .int .u64 (m.n0 : Int), .int .u64 (m.n1 : Int), .int .u64 (m.n2 : Int), .int .u64 (m.n3 : Int), .int .u64 (m.n4 : Int), .int .u64 (m.n5 : Int), .string m.s0, .string m.s1, .slice m.A len m.c] 29)) 48 #[.int .i64 num, .int .i64 t, .int .i64 i]).alloc (.cells #[.int .i64 fnum, .int .u8 fw, .int .u64 (fn : Int), .slice fA xl fc, .int .i64 fat] 50)).alloc (.cells #[.int .u8 0, .int .u64 0, .int .u64 0, .int .u64 0, .int .u64 0, .int .u64 0, .int .u64 0, .string ⟨#[]⟩, .string ⟨#[]⟩, .slice none 0 0] 29)
    rw [World.size_alloc, hws, hW] at h1; exact h1
  have hk2 : Blk W (s + 1 + 1) 50 #[.int .i64 fnum, .int .u8 fw, .int .u64 (fn : Int), .slice fA xl fc, .int .i64 fat] := by
    have h1 := (Blk.new ((w.alloc (.cells #[.int .u8 (m.k : Int), .int .u64 (m.n0 : Int), .int .u64 (m.n1 : Int), .int .u64 (m.n2 : Int), .int .u64 (m.n3 : Int), .int .u64 (m.n4 : Int), .int .u64 (m.n5 : Int), .string m.s0, .string m.s1, .slice m.A len m.c] 29)).alloc (.cells #[.int .i64 num, .int .i64 t, .int .i64 i] 48)) 50 #[.int .i64 fnum, .int .u8 fw, .int .u64 (fn : Int), .slice fA xl fc, .int .i64 fat]).alloc (.cells #[.int .u8 0, .int .u64 0, .int .u64 0, .int .u64 0, .int .u64 0, .int .u64 0, .int .u64 0, .string ⟨#[]⟩, .string ⟨#[]⟩, .slice none 0 0] 29)
    rw [World.size_alloc, World.size_alloc, hws, hW] at h1; exact h1
  have hk3 : Blk W (s + 1 + 1 + 1) 29 #[.int .u8 0, .int .u64 0, .int .u64 0, .int .u64 0, .int .u64 0, .int .u64 0, .int .u64 0, .string ⟨#[]⟩, .string ⟨#[]⟩, .slice none 0 0] := by
    have h1 := Blk.new (((w.alloc (.cells #[.int .u8 (m.k : Int), .int .u64 (m.n0 : Int), .int .u64 (m.n1 : Int), .int .u64 (m.n2 : Int), .int .u64 (m.n3 : Int), .int .u64 (m.n4 : Int), .int .u64 (m.n5 : Int), .string m.s0, .string m.s1, .slice m.A len m.c] 29)).alloc (.cells #[.int .i64 num, .int .i64 t, .int .i64 i] 48)).alloc (.cells #[.int .i64 fnum, .int .u8 fw, .int .u64 (fn : Int), .slice fA xl fc, .int .i64 fat] 50)) 29 #[.int .u8 0, .int .u64 0, .int .u64 0, .int .u64 0, .int .u64 0, .int .u64 0, .int .u64 0, .string ⟨#[]⟩, .string ⟨#[]⟩, .slice none 0 0]
    rw [World.size_alloc, World.size_alloc, World.size_alloc, hws, hW] at h1; exact h1
  have hB : Below s w W := by rw [← hW, ← hws]; exact bw_a (bw_a (bw_a (bw_a (Below.refl _ w) _) _) _) _
  have hl3 := hk3.lt
  rw [hW]
  clear hW
  refine (HPL.out W).mono ?_
  rintro e w1 ⟨rfl, hb1⟩
  have hk0 := hk0.below hb1 (by omega)
  have hk1 := hk1.below hb1 (by omega)
  have hk2 := hk2.below hb1 (by omega)
  have hk3 := hk3.below hb1 hl3
  have hB := hB.trans (hb1.mono (by omega))
  have hl4 := hk3.lt
  have c0 := hk0.cell 0
  have c1 := hk0.cell 1
  have c2 := hk0.cell 2
  have c3 := hk0.cell 3
  have c4 := hk0.cell 4
  have c5 := hk0.cell 5
  have c6 := hk0.cell 6
  have c7 := hk0.cell 7
  have c8 := hk0.cell 8
  have c9 := hk0.cell 9
  simp only [List.getElem?_toArray, List.getElem?_cons_zero, List.getElem?_cons_succ] at c0 c1 c2 c3 c4 c5 c6 c7 c8 c9
  have HK0 := hid hk0; have HK1 := hid hk1; have HK2 := hid hk2; have HK3 := hid hk3; have HB := hid hB
  clear hk0 hk1 hk2 hk3 hB hb1
  go_wp2_with fail
  refine (HCP.out _ HB.out).mono ?_
  rintro e w2 ⟨A1, k1, rfl, ho2, hb2⟩
  have hk0 := HK0.out.below hb2 (by omega)
  have hk1 := HK1.out.below hb2 (by omega)
  have hk2 := HK2.out.below hb2 (by omega)
  have hk3 := HK3.out.below hb2 hl4
  have hB := HB.out.trans (hb2.mono (by omega))
  have hz2 := hb2.size
  have hl5 := hk3.lt
  clear c0 c1 c2 c3 c4 c5 c6 c7 c8 c9
  have c0 := hk0.cell 0
  have c1 := hk0.cell 1
  have c2 := hk0.cell 2
  have c3 := hk0.cell 3
  have c4 := hk0.cell 4
  have c5 := hk0.cell 5
  have c6 := hk0.cell 6
  have c7 := hk0.cell 7
  have c8 := hk0.cell 8
  have c9 := hk0.cell 9
  simp only [List.getElem?_toArray, List.getElem?_cons_zero, List.getElem?_cons_succ] at c0 c1 c2 c3 c4 c5 c6 c7 c8 c9
  have f0 := hk0.frozen 0
  have f1 := hk0.frozen 1
  have f2 := hk0.frozen 2
  have f3 := hk0.frozen 3
  have f4 := hk0.frozen 4
  have f5 := hk0.frozen 5
  have f6 := hk0.frozen 6
  have f7 := hk0.frozen 7
  have f8 := hk0.frozen 8
  have f9 := hk0.frozen 9
  have e0 := hk1.cell 0
  have e1 := hk1.cell 1
  have e2 := hk1.cell 2
  simp only [List.getElem?_toArray, List.getElem?_cons_zero, List.getElem?_cons_succ] at e0 e1 e2
  have d0 := hk2.cell 0
  have d1 := hk2.cell 1
  have d2 := hk2.cell 2
  have d3 := hk2.cell 3
  have d4 := hk2.cell 4
  simp only [List.getElem?_toArray, List.getElem?_cons_zero, List.getElem?_cons_succ] at d0 d1 d2 d3 d4
  have r0 := hk3.cell 0
  have r1 := hk3.cell 1
  have r2 := hk3.cell 2
  have r3 := hk3.cell 3
  have r4 := hk3.cell 4
  have r5 := hk3.cell 5
  have r6 := hk3.cell 6
  have r7 := hk3.cell 7
  have r8 := hk3.cell 8
  have r9 := hk3.cell 9
  simp only [List.getElem?_toArray, List.getElem?_cons_zero, List.getElem?_cons_succ] at r0 r1 r2 r3 r4 r5 r6 r7 r8 r9
  have g0 := hk3.frozen 0
  have g1 := hk3.frozen 1
  have g2 := hk3.frozen 2
  have g3 := hk3.frozen 3
  have g4 := hk3.frozen 4
  have g5 := hk3.frozen 5
  have g6 := hk3.frozen 6
  have g7 := hk3.frozen 7
  have g8 := hk3.frozen 8
  have g9 := hk3.frozen 9
  have hms := mstore hk0 (.int .u8 (m.k : Int)) (.int .u64 (m.n0 : Int)) (.int .u64 (m.n1 : Int)) (.int .u64 (m.n2 : Int)) (.int .u64 (m.n3 : Int)) (.int .u64 (m.n4 : Int)) (.int .u64 (m.n5 : Int)) (.string m.s0) (.string m.s1) (.slice A1 len k1)
  have hbm := hms.2.below (B := s) (fun k hk => by omega) (by omega)
  have hsw := HSF.out.below (show Below w.heap.size w _ from by rw [hws]; exact hB.trans hbm)
  have hcv := conv_bs11 (P := Try.prog) (src := 22) (dst := 9) hsw HXL.out Try.underlying22 Try.underlying5 Try.underlying9
  have how := own_chgS ho2 hms.2 (fun g e h => by have := ho2.lt g e; omega)
  have HT := hid (HTX.out A1 k1 w1.heap.size _ (by have := hms.2.size; omega) (own_mono how (by omega)))
  have hk3e : Blk _ (s + 1 + 1 + 1) 29 #[.int .u8 0, .int .u64 0, .int .u64 0, .int .u64 0, .int .u64 0, .int .u64 0, .int .u64 0, .string ⟨#[]⟩, .string ⟨#[]⟩, .slice none 0 0] := (hms.2.block _ hk3.lt (by show ¬ (s + 1 + 1 + 1 = s); omega)).trans hk3
  have HK3E := hid hk3e
  have HM := hid hms; have HBM := hid (hB.trans hbm); have HK3 := hid hk3
  clear hk3e hms hbm hsw how ho2 hb2 hk0 hk1 hk2 hk3 hB
  rcases ht with rfl | rfl | rfl | rfl
  all_goals
    go_wp2_with fail
    refine HT.out.mono ?_
    rintro e w6 ⟨A', c', rfl, ho6, hb6⟩
    have hk3 := HK3E.out.below hb6 hl4
    have hB := HBM.out.trans (hb6.mono (show s ≤ w1.heap.size by omega))
    have hz6 := hk3.lt
    clear c0 c1 c2 c3 c4 c5 c6 c7 c8 c9 f0 f1 f2 f3 f4 f5 f6 f7 f8 f9 e0 e1 e2 d0 d1 d2 d3 d4 r0 r1 r2 r3 r4 r5 r6 r7 r8 r9 g0 g1 g2 g3 g4 g5 g6 g7 g8 g9 hcv HK3E HM HBM HK3
    have r0 := hk3.cell 0
    have r1 := hk3.cell 1
    have r2 := hk3.cell 2
    have r3 := hk3.cell 3
    have r4 := hk3.cell 4
    have r5 := hk3.cell 5
    have r6 := hk3.cell 6
    have r7 := hk3.cell 7
    have r8 := hk3.cell 8
    have r9 := hk3.cell 9
    simp only [List.getElem?_toArray, List.getElem?_cons_zero, List.getElem?_cons_succ] at r0 r1 r2 r3 r4 r5 r6 r7 r8 r9
    have g0 := hk3.frozen 0
    have g1 := hk3.frozen 1
    have g2 := hk3.frozen 2
    have g3 := hk3.frozen 3
    have g4 := hk3.frozen 4
    have g5 := hk3.frozen 5
    have g6 := hk3.frozen 6
    have g7 := hk3.frozen 7
    have g8 := hk3.frozen 8
    have g9 := hk3.frozen 9
    have HK3 := hid hk3; have HB6 := hid hB; have HO6 := hid ho6
    clear hk3 hB ho6 hb6 HT
    go_wp2_with fail
    have HE := hid (mstore HK3.out (.int .u8 (U.k : Int)) (.int .u64 (U.n0 : Int)) (.int .u64 (U.n1 : Int)) (.int .u64 (U.n2 : Int)) (.int .u64 (U.n3 : Int)) (.int .u64 (U.n4 : Int)) (.int .u64 (U.n5 : Int)) (.string U.s0) (.string U.s1) (.slice A' lu c'))
    clear r0 r1 r2 r3 r4 r5 r6 r7 r8 r9 g0 g1 g2 g3 g4 g5 g6 g7 g8 g9
    generalize World.setCell (World.setCell _ _ _) _ _ = W9 at *
    have hz := HE.out.1
    have r0 := hz.cell 0
    have r1 := hz.cell 1
    have r2 := hz.cell 2
    have r3 := hz.cell 3
    have r4 := hz.cell 4
    have r5 := hz.cell 5
    have r6 := hz.cell 6
    have r7 := hz.cell 7
    have r8 := hz.cell 8
    have r9 := hz.cell 9
    simp only [List.getElem?_toArray, List.getElem?_cons_zero, List.getElem?_cons_succ] at r0 r1 r2 r3 r4 r5 r6 r7 r8 r9
    refine bodyPost_ret (v := .tuple #[.agg #[.int .u8 (U.k : Int), .int .u64 (U.n0 : Int), .int .u64 (U.n1 : Int), .int .u64 (U.n2 : Int), .int .u64 (U.n3 : Int), .int .u64 (U.n4 : Int), .int .u64 (U.n5 : Int), .string U.s0, .string U.s1, .slice A' lu c'], .int .i64 E]) (by simp [results, Try.results14, go_sem, r0, r1, r2, r3, r4, r5, r6, r7, r8, r9]) rfl ?_
    exact ⟨A', c', rfl, own_mono (own_chgS HO6.out HE.out.2 (fun g e h => by have := HO6.out.lt g e; omega)) (by omega), HB6.out.trans (HE.out.2.below (B := s) (fun k hk => by omega) (by omega))⟩
end Go.Proofs.Ytpmfdlghckfgiaa
set_option linter.unusedVariables false
namespace Go.Proofs.Ytpmfdlghckfgiaa
open Go.RowKit
theorem FarS.or_new {A : Option Addr} {c n : Nat} {xs : List UInt8} {W : World} {S T : Nat → Prop} (h : FarS A n S) (hs : Sl W A c (xs.map bv)) (hn : xs.length = n) (hT : ∀ k, T k → S k ∨ W.heap.size ≤ k) : FarS A n T := by
  intro hp b off he hT'
  rcases hT b hT' with h1 | h1
  · exact h hp b off he h1
  · obtain ⟨b2, o2, e2, hlt, _⟩ := hs.rd 0 (bv (xs[0]'(by omega))) (by simp [List.getElem?_eq_getElem (show 0 < xs.length by omega)])
    rw [he] at e2
    injection e2 with e2
    injection e2 with e3 e4
    omega
set_option maxRecDepth 100000 in
set_option maxHeartbeats 4000000 in
theorem rflds_any (bs : List UInt8) (n : Nat) (A : Option Addr) (c : Nat) (w : World) (hn : bs.length = n) (hl : n ≤ 100000) (hs : Sl w A c (bs.map bv)) :
    Calls Try.prog 17 #[.slice A n c] w fun e W' => (((flds bs n 0).2.1 = 0 ∧ ∃ v pre, e = .returned (.tuple #[v, .agg #[.int .i64 0, .int .i64 0]]) ∧ W'.ownsRow w.heap.size 50 5 v pre.length (pre.flatMap fvC) ∧ fvAll pre (flds bs n 0).1 ∧ ∀ f ∈ pre, Sl W' f.s.A f.s.c (f.s.xs.map bv)) ∨
      ((flds bs n 0).2.1 ≠ 0 ∧ e = .returned (.tuple #[.slice none 0 0, .agg #[.int .i64 ((flds bs n 0).2.1 : Nat), .int .i64 ((flds bs n 0).2.2 : Nat)]]))) ∧ Below w.heap.size w W' := by
  obtain ⟨i5, hi5, hi50, hi51, hi52⟩ := info_parts Try.infoField
  have hcap := hs.cap
  have hsm := hs.small
  rw [List.length_map, hn] at hcap
  obtain ⟨R, hR⟩ : ∃ R : Ending → World → Prop, R = fun e W' => (((flds bs n 0).2.1 = 0 ∧ ∃ v pre, e = .returned (.tuple #[v, .agg #[.int .i64 0, .int .i64 0]]) ∧ W'.ownsRow w.heap.size 50 5 v pre.length (pre.flatMap fvC) ∧ fvAll pre (flds bs n 0).1 ∧ ∀ f ∈ pre, Sl W' f.s.A f.s.c (f.s.xs.map bv)) ∨
      ((flds bs n 0).2.1 ≠ 0 ∧ e = .returned (.tuple #[.slice none 0 0, .agg #[.int .i64 ((flds bs n 0).2.1 : Nat), .int .i64 ((flds bs n 0).2.2 : Nat)]]))) ∧ Below w.heap.size w W' := ⟨_, rfl⟩
  rw [← hR]
  have HR := hid hR
  have HS := hid hs
  have HN := hid hn
  clear hs hn hR
  go_enter Try.func17, Try.ntmps17
  go_wp2_with fail
  obtain ⟨s, hsz⟩ : ∃ s, w.heap.size = s := ⟨_, rfl⟩
  obtain ⟨Wa, hWa⟩ : ∃ Wa, (w.alloc (.cells #[.int .i64 0, .int .i64 0] 32)).alloc (.cells #[.slice A n c, .int .i64 0] 79) = Wa := ⟨_, rfl⟩
  have hba : Below s w Wa := by rw [← hWa, ← hsz]; exact bw_a (bw_a (Below.refl _ w) _) _
  have hk0 : Blk Wa s 32 #[.int .i64 0, .int .i64 0] := by rw [← hWa, ← hsz]; exact (Blk.new w _ _).alloc _
  have hk1 : Blk Wa (s + 1) 79 #[.slice A n c, .int .i64 0] := by
    have h := Blk.new (w.alloc (.cells #[.int .i64 0, .int .i64 0] 32)) 79 #[.slice A n c, .int .i64 0]
    rwa [World.size_alloc, hsz, hWa] at h
  have hr0 : Rin 79 Wa (s + 1) A c bs 0 := by
    refine ⟨by rw [HN.out]; exact hk1, HS.out.below (by rw [hsz]; exact hba), Nat.zero_le _, far_new HS.out (by omega)⟩
  rw [hWa, hsz]
  generalize hq : s + 1 = q at *
  go_loopw [5] (fun v wr => ∃ (p fu : Nat) (pre : List FV), p ≤ n ∧ pre.length ≤ p ∧ n - p ≤ fu ∧ Rin 79 wr q A c bs p ∧ wr.ownsRow s 50 5 v pre.length (pre.flatMap fvC) ∧ (∀ f ∈ pre, Sl wr f.s.A f.s.c (f.s.xs.map bv) ∧ FarS f.s.A f.s.xs.length (fun k => k = s ∨ k = q ∨ v.ownBlock = some k)) ∧
      Blk wr s 32 #[.int .i64 0, .int .i64 0] ∧ Below s w wr ∧ ∃ rs, fvAll pre rs ∧ flds bs n 0 = (rs ++ (flds bs fu p).1, (flds bs fu p).2.1, (flds bs fu p).2.2)) (fun _ wr => n - (intOf ((wr.cell? ⟨q, 1, none⟩).getD undef)).toNat)
  case atStart => exact ⟨0, n, [], by omega, by simp, by omega, hr0, World.ownsRow_nil _ _ _ _, fun f hf => by simp at hf, hk0, hba, [], trivial, by simp⟩
  case round =>
    obtain ⟨p, fu, pre, hp, hpl, hf, hr, ho, hsl, hk, hB, rs, hrs, hfl⟩ := hrel
    have hqw := hr.blk.lt
    have hkq := hr.blk
    have hc1 : wr.cell? ⟨q, 1, none⟩ = some (.int .i64 (p : Int)) := by simpa using hr.blk.cell 1
    obtain ⟨vA, vc, rfl⟩ : ∃ vA vc, u5 = .slice vA pre.length vc := by
      rcases ho.2 with ⟨rfl, h⟩ | ⟨g, cap, cur, rfl, _⟩
      · exact ⟨none, 0, by rw [h]⟩
      · exact ⟨_, _, rfl⟩
    by_cases hlt : p < n
    · have hone := rone_any wr q A c bs p (by rw [HN.out]; exact hl) hr
      have hof := rOne_facts bs p (by rw [HN.out]; exact hp)
      have hst := fun he => flds_step bs fu p (by rw [HN.out]; exact hlt) (by rw [HN.out]; exact hf) he
      have hbd := fun he => flds_bad bs fu p (by rw [HN.out]; exact hlt) (by rw [HN.out]; exact hf) he
      generalize rOne bs p = r at *
      obtain ⟨rnum, rw', rn, rxs, re, rp, rnx⟩ := r
      simp only at hone hof hst hbd
      generalize hxl : rxs.length = xl at *
      have HONE := hid hone
      have HOF := hid hof
      have HST := hid hst
      have HBD := hid hbd
      have HO := hid ho
      have HSL := hid hsl
      have HK := hid hk
      have HB := hid hB
      have HRS := hid hrs
      have HFL := hid hfl
      have HXL := hid hxl
      have HNQ := hid (own_blk_ne ho hkq (by decide))
      have HNS := hid (own_blk_ne ho hk (by decide))
      have HC1 := hid hc1
      clear hone hof hst hbd hr ho hsl hk hB hrs hfl hxl hk0 hk1 hr0 hba hWa
      by_cases he : re = 0
      · subst he
        go_wp2_with fail
        refine HONE.out.mono ?_
        rintro e w1 ⟨(⟨-, A3, c3, rfl, hs3, hf3⟩ | ⟨h, -⟩), hr1, ho1⟩
        rotate_left
        · exact absurd rfl h
        have hch1 : Chg (fun k => k = q) wr w1 := Chg.of_only ho1 rfl
        have hown1 := own_chgS HO.out hch1 (fun g hg hk => own_blk_ne HO.out hkq (by decide) (hk ▸ hg))
        have hl1 := hr1.blk.lt
        have hsq : s < q := by omega
        have hk1 := hch1.blk HK.out (by omega)
        have hsl1 : ∀ f ∈ pre, Sl w1 f.s.A f.s.c (f.s.xs.map bv) := fun f hf => hch1.sl (HSL.out f hf).1 (n := f.s.xs.length) ((HSL.out f hf).2.imp fun k hk => .inr (.inl hk)) (by simp)
        have hfarN : FarS A3 xl (fun k => k = s ∨ k = q ∨ (Value.slice vA pre.length vc).ownBlock = some k) := fun hp b off he hk => by
          rcases hk with hk | hk | hk
          · exact hf3 s HK.out.lt hp b off he hk
          · exact hf3 q hqw hp b off he hk
          · exact hf3 b (HO.out.lt b hk).2 hp b off he rfl
        obtain ⟨z, hz⟩ : ∃ z, w1.heap.size = z := ⟨_, rfl⟩
        have hzs : q < z := by omega
        have hrd : Rd (((w1.alloc (.cells #[.int .i64 rnum, .int .u8 rw', .int .u64 (rn : Int), .slice A3 xl c3, .int .i64 (p : Int)] 50)).alloc (.cells #[.int .i64 0, .int .i64 0] 32)).alloc (.cells #[.int .i64 rnum, .int .u8 rw', .int .u64 (rn : Int), .slice A3 xl c3, .int .i64 (p : Int)] 50)) (some ⟨z + 1 + 1, 0, none⟩) [.int .i64 rnum, .int .u8 rw', .int .u64 (rn : Int), .slice A3 xl c3, .int .i64 (p : Int)] := by
          have h := Rd.new ((w1.alloc (.cells #[.int .i64 rnum, .int .u8 rw', .int .u64 (rn : Int), .slice A3 xl c3, .int .i64 (p : Int)] 50)).alloc (.cells #[.int .i64 0, .int .i64 0] 32)) 50 #[.int .i64 rnum, .int .u8 rw', .int .u64 (rn : Int), .slice A3 xl c3, .int .i64 (p : Int)]
          rwa [World.size_alloc, World.size_alloc, hz] at h
        have hbz := HB.out.trans (hch1.below (B := s) (fun k hk => by omega) (by omega))
        have HOWN := hid (((hown1.alloc (.cells #[.int .i64 rnum, .int .u8 rw', .int .u64 (rn : Int), .slice A3 xl c3, .int .i64 (p : Int)] 50)).alloc (.cells #[.int .i64 0, .int .i64 0] 32)).alloc (.cells #[.int .i64 rnum, .int .u8 rw', .int .u64 (rn : Int), .slice A3 xl c3, .int .i64 (p : Int)] 50))
        have HRD := hid hrd
        have HBZ := hid hbz
        have HR1 := hid hr1
        have HK1 := hid hk1
        have HSL1 := hid hsl1
        have HFN := hid hfarN
        have HS3 := hid hs3
        have hpre : pre.length ≤ 100000 := by omega
        clear hrd hbz hr1 hk1 hsl1 hfarN hs3 hf3 hown1 hch1 ho1 hkq hc1
        go_wp2_with (at_builtin; refine wpList_append_new rfl _ _ 36 rfl s 50 i5 (.agg #[.int .i64 0, .int .u8 0, .int .u64 0, .slice none 0 0, .int .i64 0]) 5 56 Try.underlying36 hi5 hi50 hi51 hi52 rfl (by decide) _ _ _ rfl HOWN.out ⟨z + 1 + 1, 0, none⟩ 1 1 [.int .i64 rnum, .int .u8 rw', .int .u64 (rn : Int), .slice A3 xl c3, .int .i64 (p : Int)] rfl rfl HRD.out (by simp [Value.oneCell']) (by simp only [maxLen]; omega) (by omega) (by simp; omega) ?_; intro v4 w4 ho4 hg4 hnew4; have HO4 := hid ho4; have HG4 := hid hg4; have HN4 := hid hnew4; clear ho4 hg4 hnew4)
        have hch4 : Chg (fun k => (Value.slice vA pre.length vc).ownBlock = some k) w1 w4 := ((((Chg.refl _ w1).alloc _).alloc _).alloc _).trans (Chg.of_grown HG4.out fun g e => e)
        have hr4 := HR1.out.chgS hch4 HNQ.out (fun hp b off he hk => far_new HS.out (by rw [hsz]; exact (HO.out.lt b hk).1) hp b off he rfl)
        have hc4 : w4.cell? ⟨q, 1, none⟩ = some (.int .i64 (rnx : Int)) := by simpa using hr4.blk.cell 1
        have hnv : ∀ k, v4.ownBlock = some k → (Value.slice vA pre.length vc).ownBlock = some k ∨ w1.heap.size ≤ k := fun k hk => by
          rcases HN4.out with h | h
          · exact .inl (h ▸ hk)
          · right; have := h k hk; simp at this; omega
        obtain ⟨gg, hgg, hst⟩ := HST.out trivial
        obtain ⟨o1, o2, -⟩ := HOF.out.1 trivial
        rw [HN.out] at o2 hgg
        refine ⟨⟨rnx, gg, pre ++ [⟨rnum, rw', rn, ⟨A3, c3, rxs⟩, (p : Int)⟩], o2, by rw [List.length_append, List.length_singleton]; omega, hgg, hr4, ?_, ?_, hch4.blk HK1.out HNS.out, HBZ.out.trans (hch4.below (fun k hk => (HO.out.lt k hk).1) (by omega)), rs ++ [(⟨rnum, rw', rn, rxs, 0, rp, rnx⟩, p)], fvAll_snoc HRS.out ⟨rfl, rfl, rfl, rfl, rfl⟩, by rw [HFL.out, hst]; simp⟩, ?_⟩
        · rw [List.length_append, List.flatMap_append]
          simpa [fvC, HXL.out] using HO4.out
        · intro f hf
          rcases List.mem_append.1 hf with hf | hf
          · exact ⟨hch4.sl (HSL1.out f hf) (n := f.s.xs.length) ((HSL.out f hf).2.imp fun k hk => .inr (.inr hk)) (by simp), (HSL.out f hf).2.or_new (HSL1.out f hf) rfl fun k hk => by
              rcases hk with hk | hk | hk
              · exact .inl (.inl hk)
              · exact .inl (.inr (.inl hk))
              · exact (hnv k hk).imp (fun h => .inr (.inr h)) id⟩
          · obtain rfl := List.mem_singleton.1 hf
            refine ⟨hch4.sl HS3.out (n := xl) (HFN.out.imp fun k hk => .inr (.inr hk)) (by simp [HXL.out]), ?_⟩
            rw [show (SlV.xs _).length = xl from HXL.out]
            exact HFN.out.or_new HS3.out HXL.out fun k hk => by
              rcases hk with hk | hk | hk
              · exact .inl (.inl hk)
              · exact .inl (.inr (.inl hk))
              · exact (hnv k hk).imp (fun h => .inr (.inr h)) id
        · rw [HC1.out, hc4]
          simp [intOf]
          omega
      · have heb : (((re : Nat) : Int) != 0) = true := by simpa using he
        go_wp2_with fail
        refine HONE.out.mono ?_
        rintro e w1 ⟨(⟨h, -⟩ | ⟨-, rfl⟩), hr1, ho1⟩
        · exact absurd h he
        have hch1 : Chg (fun k => k = q) wr w1 := Chg.of_only ho1 rfl
        have hl1 := hr1.blk.lt
        have hsq : s < q := by omega
        have hk1 := hch1.blk HK.out (by omega)
        have hbz := HB.out.trans (hch1.below (B := s) (fun k hk => by omega) (by omega))
        have d0 := hk1.cell 0
        have d1 := hk1.cell 1
        have d2 := hk1.frozen 0
        have d3 := hk1.frozen 1
        simp only [List.getElem?_toArray, List.getElem?_cons_zero, List.getElem?_cons_succ] at d0 d1
        have HK1 := hid hk1
        have HBZ := hid hbz
        clear hch1 hk1 hbz hr1 ho1 hkq d0 d1 d2 d3 hc1
        go_wp2_with fail
        obtain ⟨W3, hW3⟩ : ∃ W3, (w1.alloc (.cells #[.int .i64 0, .int .u8 0, .int .u64 0, .slice none 0 0, .int .i64 0] 50)).alloc (.cells #[.int .i64 (re : Int), .int .i64 (rp : Int)] 32) = W3 := ⟨_, rfl⟩
        have hb3 : Below w1.heap.size w1 W3 := by rw [← hW3]; exact bw_a (bw_a (Below.refl _ w1) _) _
        have hk7 : Blk W3 (w1.heap.size + 1) 32 #[.int .i64 (re : Int), .int .i64 (rp : Int)] := by
          rw [← hW3]
          have h := Blk.new (w1.alloc (.cells #[.int .i64 0, .int .u8 0, .int .u64 0, .slice none 0 0, .int .i64 0] 50)) 32 #[.int .i64 (re : Int), .int .i64 (rp : Int)]
          rwa [World.size_alloc] at h
        have hk3 := HK1.out.below hb3 HK1.out.lt
        have d0 : W3.cell? ⟨s, 0, none⟩ = some (.int .i64 0) := hk3.cell 0
        have d1 : W3.cell? ⟨s, 1, none⟩ = some (.int .i64 0) := hk3.cell 1
        have d2 := hk3.frozen 0
        have d3 := hk3.frozen 1
        have e0 : W3.cell? ⟨w1.heap.size + 1, 0, none⟩ = some (.int .i64 (re : Int)) := hk7.cell 0
        have e1 : W3.cell? ⟨w1.heap.size + 1, 1, none⟩ = some (.int .i64 (rp : Int)) := hk7.cell 1
        have hl3 := hk3.lt
        have hl7 := hk7.lt
        have hne : w1.heap.size + 1 ≠ s := by omega
        have HB3 := hid (HBZ.out.trans (hb3.mono (show s ≤ w1.heap.size by omega)))
        rw [hW3]
        clear hW3 hb3 hk7 hk3
        go_region
        all_goals go_wp2_with fail
        all_goals
          refine bodyPost_ret (v := .tuple #[.slice none 0 0, .agg #[.int .i64 (re : Int), .int .i64 (rp : Int)]]) (by simp [results, Try.results17, go_sem, d0, d1]) rfl ?_
          rw [HR.out, HFL.out, HBD.out he]
          refine ⟨.inr ⟨he, rfl⟩, ?_⟩
          rw [hsz]
          exact below_drewN ((HB3.out.setCell (p := ⟨s, 0, none⟩) (Nat.le_refl _) _).setCell (p := ⟨s, 1, none⟩) (Nat.le_refl _) _) 1
    · obtain rfl : p = n := by omega
      have hE0 := flds_end bs fu p (by rw [HN.out]; omega)
      rw [hE0] at hfl
      simp only [List.append_nil] at hfl
      have d0 := hk.cell 0
      have d1 := hk.cell 1
      have d2 := hk.frozen 0
      have d3 := hk.frozen 1
      simp only [List.getElem?_toArray, List.getElem?_cons_zero, List.getElem?_cons_succ] at d0 d1
      have HO := hid ho
      have HSL := hid hsl
      have HK := hid hk
      have HB := hid hB
      have HRS := hid hrs
      have HFL := hid hfl
      clear ho hsl hk hB hrs hfl hkq hr
      go_wp2_with fail
      have hf : Blk ((wr.setCell ⟨s, 0, none⟩ (.int .i64 0)).setCell ⟨s, 1, none⟩ (.int .i64 0)) s 32 #[.int .i64 0, .int .i64 0] := by simpa using (HK.out.set_ 0 (.int .i64 0)).set_ 1 (.int .i64 0)
      have hc : Chg (fun k => k = s) wr ((wr.setCell ⟨s, 0, none⟩ (.int .i64 0)).setCell ⟨s, 1, none⟩ (.int .i64 0)) := ((Chg.refl (fun k => k = s) wr).set_ (.inl rfl) 0 (.int .i64 0)).set_ (.inl rfl) 1 (.int .i64 0)
      have hnS := own_blk_ne HO.out HK.out (by decide)
      have f0 := hf.cell 0
      have f1 := hf.cell 1
      simp only [List.getElem?_toArray, List.getElem?_cons_zero, List.getElem?_cons_succ] at f0 f1
      generalize World.setCell (World.setCell _ _ _) _ _ = W9 at *
      refine bodyPost_ret (v := .tuple #[.slice vA pre.length vc, .agg #[.int .i64 0, .int .i64 0]]) (by simp [results, Try.results17, go_sem, f0, f1]) rfl ?_
      rw [HR.out, HFL.out]
      refine ⟨.inl ⟨rfl, _, pre, rfl, ?_, HRS.out, fun f hf => hc.sl (HSL.out f hf).1 (n := f.s.xs.length) ?_ (by simp)⟩, ?_⟩
      · rw [hsz]
        exact own_chgS HO.out hc fun g hg hk => hnS (by rw [← hk]; exact hg)
      · exact (HSL.out f hf).2.imp fun k hk => .inl hk
      · rw [hsz]
        exact HB.out.trans (hc.below (fun k hk => by omega) (by have := HK.out.lt; omega))
end Go.Proofs.Ytpmfdlghckfgiaa
