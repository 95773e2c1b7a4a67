/- lenient.Set. -/
import Derived.Test.YtnfodgjihdoncaaLenText
set_option linter.unusedVariables false
namespace Go.Proofs.Ytnfodgjihdoncaa
open Go.RowKit
theorem ltext_any (m : MV) (num t i : Int) (n : Nat) (q : ByteArray) (B : Nat) (w : World) (hp : plB t i = true) (h7 : 7 ≤ t) (hq : q.size ≤ 9223372036854775807) (hB0 : B ≤ w.heap.size) (ho : w.ownsRow B 9 1 (.slice m.A m.l.length m.c) m.l.length (m.l.map sv)) :
    Calls Try.prog 72 #[mvV m, .agg #[.int .i64 num, .int .i64 t, .int .i64 i], .string q] w fun e w' => ∃ A' c', e = .returned (.tuple #[mvV { setM m t i n q with A := A', c := c' }, .int .i64 (setE m t i q)]) ∧ w'.ownsRow B 9 1 (.slice A' (setM m t i n q).l.length c') (setM m t i n q).l.length ((setM m t i n q).l.map sv) ∧ Below B w w' := by
  have hpl : (7 ≤ t ∧ t ≤ 9 ∧ (i = 0 ∨ i = 1)) ∨ t = 10 := by
    unfold plB at hp
    simp only [Bool.or_eq_true, decide_eq_true_eq] at hp
    omega
  rcases hpl with ⟨-, h9, hi⟩ | rfl
  · have hE0 : setE m t i q = chk q (mostN t : Nat) := by
      unfold setE
      rw [if_neg (by rw [hp]; simp), if_neg (by omega), if_pos h9]
    by_cases hE : chk q (mostN t : Nat) = 0
    · have hM : setM m t i n q = m.setS i q := by
        unfold setM
        rw [if_neg (by rw [hE0]; simp [hE]), if_neg (by omega), if_pos h9]
      rw [hE0, hE, hM]
      refine (ltext_text m.k m.n0 m.n1 m.n2 m.n3 m.n4 m.n5 m.s0 m.s1 m.A m.c m.l.length num t i q w ⟨h7, h9⟩ hi hq hE).mono ?_
      rintro e w' ⟨he, hb⟩
      exact ⟨m.A, m.c, he, own_below ho hb, hb.mono hB0⟩
    · have hM : setM m t i n q = ZM := by
        unfold setM
        rw [if_pos (by rw [hE0]; exact hE)]
      rw [hE0, hM]
      refine (ltext_bad m.k m.n0 m.n1 m.n2 m.n3 m.n4 m.n5 m.s0 m.s1 m.A m.c m.l.length num t i q w (by omega) hq hE).mono ?_
      rintro e w' ⟨he, hb⟩
      exact ⟨none, 0, he, World.ownsRow_nil _ _ _ _, hb.mono hB0⟩
  · by_cases h64 : 64 ≤ m.l.length
    · have hE0 : setE m 10 i q = 2 := by
        unfold setE
        rw [if_neg (by rw [hp]; simp), if_neg (by omega), if_neg (by omega), if_pos h64]
      have hM : setM m 10 i n q = ZM := by
        unfold setM
        rw [if_pos (by rw [hE0]; decide)]
      rw [hE0, hM]
      refine (ltext_long m.k m.n0 m.n1 m.n2 m.n3 m.n4 m.n5 m.s0 m.s1 m.A m.c m.l.length num i q w h64).mono ?_
      rintro e w' ⟨he, hb⟩
      exact ⟨none, 0, he, World.ownsRow_nil _ _ _ _, hb.mono hB0⟩
    · have hE0 : setE m 10 i q = chk q 64 := by
        unfold setE
        rw [if_neg (by rw [hp]; simp), if_neg (by omega), if_neg (by omega), if_neg h64]
      by_cases hE : chk q 64 = 0
      · have hM : setM m 10 i n q = { m with l := m.l ++ [q] } := by
          unfold setM
          rw [if_neg (by rw [hE0]; simp [hE]), if_neg (by omega), if_neg (by omega)]
        rw [hE0, hE, hM]
        refine (ltext_list m.k m.n0 m.n1 m.n2 m.n3 m.n4 m.n5 m.s0 m.s1 m.A m.c m.l.length m.l num i q B w (by omega) rfl hq hE hB0 ho).mono ?_
        rintro e w' ⟨A', c', he, ho', hb⟩
        have hl1 : (m.l ++ [q]).length = m.l.length + 1 := by simp
        refine ⟨A', c', ?_, by rw [hl1]; exact ho', hb⟩
        rw [he]
        unfold mvV mvA
        simp only [List.length_append, List.length_cons, List.length_nil]
      · have hM : setM m 10 i n q = ZM := by
          unfold setM
          rw [if_pos (by rw [hE0]; exact hE)]
        rw [hE0, hM]
        refine (ltext_bad m.k m.n0 m.n1 m.n2 m.n3 m.n4 m.n5 m.s0 m.s1 m.A m.c m.l.length num 10 i q w (by omega) hq hE).mono ?_
        rintro e w' ⟨he, hb⟩
        exact ⟨none, 0, he, World.ownsRow_nil _ _ _ _, hb.mono hB0⟩
theorem conv_bs11 {P : Program} {w : World} {src dst e : TypeId} {A : Option Addr} {n c : Nat} {vs : List UInt8} (hsl : Sl w A c (vs.map bv)) (hn : vs.length = n) (hs : P.underlying src = some (.slice e)) (he : P.underlying e = some (.int .u8)) (hd : P.underlying dst = some .string) :
    (convert src dst (.slice A n c)).run P w = .ok (.string ⟨vs.toArray⟩) w := by
  subst hn
  cases A with
  | none =>
    obtain hnil := hsl.rd.none_nil
    obtain rfl : vs = [] := by simpa using hnil
    obtain rfl := hsl.nil0 rfl
    exact run_convert_bytes_nil w src e hs he 0 0 dst hd
  | some a =>
    exact run_convert_bytes_back _ src dst e _ _ vs hs he hd fun j hj => by
      have := hsl.rd.addr j (bv vs[j]) (by simp [hj])
      simpa [bv] using this
set_option maxRecDepth 100000 in
set_option maxHeartbeats 1000000 in
theorem lset_none (m : MV) (num t i : Int) (fnum fw : Int) (fn : Nat) (fA : Option Addr) (xl fc : Nat) (fat : Int) (w : World) (hp : plB t i = false) : Calls Try.prog 50 #[mvV m, .agg #[.int .i64 num, .int .i64 t, .int .i64 i], .agg #[.int .i64 fnum, .int .u8 fw, .int .u64 (fn : Int), .slice fA xl fc, .int .i64 fat]] w fun e w' => e = .returned (.tuple #[.agg #[.int .u8 0, .int .u64 0, .int .u64 0, .int .u64 0, .int .u64 0, .int .u64 0, .int .u64 0, .string ⟨#[]⟩, .string ⟨#[]⟩, .slice none 0 0], .int .i64 7]) ∧ Below w.heap.size w w' := by
  have hpl := fun W => placed_any m num t i W
  simp only [hp] at hpl
  unfold mvV mvA at hpl ⊢
  obtain ⟨len, hlen⟩ : ∃ n, m.l.length = n := ⟨_, rfl⟩
  simp only [hlen] at hpl ⊢
  obtain ⟨s, hws⟩ : ∃ s, w.heap.size = s := ⟨_, rfl⟩
  rw [hws]
  have HPL := hid hpl
  clear hpl hlen
  go_enter Try.func50, Try.ntmps50
  go_wp2_with fail
  obtain ⟨W, hW⟩ : ∃ W, (((w.alloc (.cells #[.int .u8 (m.k : Int), .int .u64 (m.n0 : Int), .int .u64 (m.n1 : Int), .int .u64 (m.n2 : Int), .int .u64 (m.n3 : Int), .int .u64 (m.n4 : Int), .int .u64 (m.n5 : Int), .string m.s0, .string m.s1, .slice m.A len m.c] 27)).alloc (.cells #[.int .i64 num, .int .i64 t, .int .i64 i] 93)).alloc (.cells #[.int .i64 fnum, .int .u8 fw, .int .u64 (fn : Int), .slice fA xl fc, .int .i64 fat] 95)).alloc (.cells #[.int .u8 0, .int .u64 0, .int .u64 0, .int .u64 0, .int .u64 0, .int .u64 0, .int .u64 0, .string ⟨#[]⟩, .string ⟨#[]⟩, .slice none 0 0] 27) = W := ⟨_, rfl⟩
  have hk0 : Blk W s 27 #[.int .u8 (m.k : Int), .int .u64 (m.n0 : Int), .int .u64 (m.n1 : Int), .int .u64 (m.n2 : Int), .int .u64 (m.n3 : Int), .int .u64 (m.n4 : Int), .int .u64 (m.n5 : Int), .string m.s0, .string m.s1, .slice m.A len m.c] := by rw [← hW, ← hws]; exact (((Blk.new w _ _).alloc _).alloc _).alloc _
  have hk1 : Blk W (s + 1) 93 #[.int .i64 num, .int .i64 t, .int .i64 i] := by
    have h1 := ((Blk.new (w.alloc (.cells #[.int .u8 (m.k : Int), .int .u64 (m.n0 : Int), .int .u64 (m.n1 : Int), .int .u64 (m.n2 : Int), .int .u64 (m.n3 : Int), .int .u64 (m.n4 : Int), .int .u64 (m.n5 : Int), .string m.s0, .string m.s1, .slice m.A len m.c] 27)) 93 #[.int .i64 num, .int .i64 t, .int .i64 i]).alloc (.cells #[.int .i64 fnum, .int .u8 fw, .int .u64 (fn : Int), .slice fA xl fc, .int .i64 fat] 95)).alloc (.cells #[.int .u8 0, .int .u64 0, .int .u64 0, .int .u64 0, .int .u64 0, .int .u64 0, .int .u64 0, .string ⟨#[]⟩, .string ⟨#[]⟩, .slice none 0 0] 27)
    rw [World.size_alloc, hws, hW] at h1; exact h1
  have hk2 : Blk W (s + 1 + 1) 95 #[.int .i64 fnum, .int .u8 fw, .int .u64 (fn : Int), .slice fA xl fc, .int .i64 fat] := by
    have h1 := (Blk.new ((w.alloc (.cells #[.int .u8 (m.k : Int), .int .u64 (m.n0 : Int), .int .u64 (m.n1 : Int), .int .u64 (m.n2 : Int), .int .u64 (m.n3 : Int), .int .u64 (m.n4 : Int), .int .u64 (m.n5 : Int), .string m.s0, .string m.s1, .slice m.A len m.c] 27)).alloc (.cells #[.int .i64 num, .int .i64 t, .int .i64 i] 93)) 95 #[.int .i64 fnum, .int .u8 fw, .int .u64 (fn : Int), .slice fA xl fc, .int .i64 fat]).alloc (.cells #[.int .u8 0, .int .u64 0, .int .u64 0, .int .u64 0, .int .u64 0, .int .u64 0, .int .u64 0, .string ⟨#[]⟩, .string ⟨#[]⟩, .slice none 0 0] 27)
    rw [World.size_alloc, World.size_alloc, hws, hW] at h1; exact h1
  have hk3 : Blk W (s + 1 + 1 + 1) 27 #[.int .u8 0, .int .u64 0, .int .u64 0, .int .u64 0, .int .u64 0, .int .u64 0, .int .u64 0, .string ⟨#[]⟩, .string ⟨#[]⟩, .slice none 0 0] := by
    have h1 := Blk.new (((w.alloc (.cells #[.int .u8 (m.k : Int), .int .u64 (m.n0 : Int), .int .u64 (m.n1 : Int), .int .u64 (m.n2 : Int), .int .u64 (m.n3 : Int), .int .u64 (m.n4 : Int), .int .u64 (m.n5 : Int), .string m.s0, .string m.s1, .slice m.A len m.c] 27)).alloc (.cells #[.int .i64 num, .int .i64 t, .int .i64 i] 93)).alloc (.cells #[.int .i64 fnum, .int .u8 fw, .int .u64 (fn : Int), .slice fA xl fc, .int .i64 fat] 95)) 27 #[.int .u8 0, .int .u64 0, .int .u64 0, .int .u64 0, .int .u64 0, .int .u64 0, .int .u64 0, .string ⟨#[]⟩, .string ⟨#[]⟩, .slice none 0 0]
    rw [World.size_alloc, World.size_alloc, World.size_alloc, hws, hW] at h1; exact h1
  have hB : Below s w W := by rw [← hW, ← hws]; exact bw_a (bw_a (bw_a (bw_a (Below.refl _ w) _) _) _) _
  have hl3 := hk3.lt
  rw [hW]
  clear hW
  refine (HPL.out W).mono ?_
  rintro e w1 ⟨rfl, hb1⟩
  have hk3 := hk3.below hb1 hl3
  have hB := hB.trans (hb1.mono (by omega))
  have r0 := hk3.cell 0
  have r1 := hk3.cell 1
  have r2 := hk3.cell 2
  have r3 := hk3.cell 3
  have r4 := hk3.cell 4
  have r5 := hk3.cell 5
  have r6 := hk3.cell 6
  have r7 := hk3.cell 7
  have r8 := hk3.cell 8
  have r9 := hk3.cell 9
  simp only [List.getElem?_toArray, List.getElem?_cons_zero, List.getElem?_cons_succ] at r0 r1 r2 r3 r4 r5 r6 r7 r8 r9
  have g0 := hk3.frozen 0
  have g1 := hk3.frozen 1
  have g2 := hk3.frozen 2
  have g3 := hk3.frozen 3
  have g4 := hk3.frozen 4
  have g5 := hk3.frozen 5
  have g6 := hk3.frozen 6
  have g7 := hk3.frozen 7
  have g8 := hk3.frozen 8
  have g9 := hk3.frozen 9
  have HK3 := hid hk3; have HB := hid hB
  clear hk0 hk1 hk2 hk3 hB hb1
  go_wp2_with fail
  have HE := hid (mstore HK3.out (.int .u8 0) (.int .u64 0) (.int .u64 0) (.int .u64 0) (.int .u64 0) (.int .u64 0) (.int .u64 0) (.string ⟨#[]⟩) (.string ⟨#[]⟩) (.slice none 0 0))
  clear r0 r1 r2 r3 r4 r5 r6 r7 r8 r9 g0 g1 g2 g3 g4 g5 g6 g7 g8 g9
  generalize World.setCell (World.setCell _ _ _) _ _ = W9 at *
  have hz := HE.out.1
  have r0 := hz.cell 0
  have r1 := hz.cell 1
  have r2 := hz.cell 2
  have r3 := hz.cell 3
  have r4 := hz.cell 4
  have r5 := hz.cell 5
  have r6 := hz.cell 6
  have r7 := hz.cell 7
  have r8 := hz.cell 8
  have r9 := hz.cell 9
  simp only [List.getElem?_toArray, List.getElem?_cons_zero, List.getElem?_cons_succ] at r0 r1 r2 r3 r4 r5 r6 r7 r8 r9
  refine bodyPost_ret (v := .tuple #[.agg #[.int .u8 0, .int .u64 0, .int .u64 0, .int .u64 0, .int .u64 0, .int .u64 0, .int .u64 0, .string ⟨#[]⟩, .string ⟨#[]⟩, .slice none 0 0], .int .i64 7]) (by simp [results, Try.results50, go_sem, r0, r1, r2, r3, r4, r5, r6, r7, r8, r9]) rfl ?_
  exact ⟨rfl, HB.out.trans (HE.out.2.below (B := s) (fun k hk => by omega) (by have := HB.out.size; omega))⟩
theorem setM_ac (m : MV) (A A' : Option Addr) (c c' : Nat) (t i : Int) (n : Nat) (q : ByteArray) : { setM { m with A := A, c := c } t i n q with A := A', c := c' } = { setM m t i n q with A := A', c := c' } := by
  have e : setE { m with A := A, c := c } t i q = setE m t i q := rfl
  unfold setM
  rw [e]
  split
  · rfl
  split
  · rfl
  split <;> rfl
theorem setM_acl (m : MV) (A : Option Addr) (c : Nat) (t i : Int) (n : Nat) (q : ByteArray) : (setM { m with A := A, c := c } t i n q).l = (setM m t i n q).l := by
  have e : setE { m with A := A, c := c } t i q = setE m t i q := rfl
  unfold setM
  rw [e]
  split
  · rfl
  split
  · rfl
  split <;> rfl
set_option maxRecDepth 100000 in
set_option maxHeartbeats 3000000 in
theorem lset_text (m : MV) (num t i : Int) (fnum fw : Int) (fn : Nat) (fA : Option Addr) (xl fc : Nat) (fat : Int) (xs : List UInt8) (w : World) (hp : plB t i = true) (h7 : 7 ≤ t) (hlm : m.l.length ≤ 1000000) (hsm : Sl w m.A m.c (m.l.map sv)) (hxl : xs.length = xl) (hx : xl ≤ 9223372036854775807) (hsf : Sl w fA fc (xs.map bv)) :
    Calls Try.prog 50 #[mvV m, .agg #[.int .i64 num, .int .i64 t, .int .i64 i], .agg #[.int .i64 fnum, .int .u8 fw, .int .u64 (fn : Int), .slice fA xl fc, .int .i64 fat]] w fun e w' => ∃ A' c', e = .returned (.tuple #[mvV { setM m t i fn ⟨xs.toArray⟩ with A := A', c := c' }, .int .i64 (setE m t i ⟨xs.toArray⟩)]) ∧ w'.ownsRow w.heap.size 9 1 (.slice A' (setM m t i fn ⟨xs.toArray⟩).l.length c') (setM m t i fn ⟨xs.toArray⟩).l.length ((setM m t i fn ⟨xs.toArray⟩).l.map sv) ∧ Below w.heap.size w w' := by
  have hpl := fun W => placed_any m num t i W
  simp only [hp] at hpl
  have hcp := fun W (hW : Below w.heap.size w W) => vcopy_any m W hlm (hsm.below hW)
  have hq : (⟨xs.toArray⟩ : ByteArray).size ≤ 9223372036854775807 := by show xs.toArray.size ≤ _; simp; omega
  have htx : ∀ A1 c1 B W, B ≤ W.heap.size → W.ownsRow B 9 1 (.slice A1 m.l.length c1) m.l.length (m.l.map sv) → Calls Try.prog 72 #[mvV { m with A := A1, c := c1 }, .agg #[.int .i64 num, .int .i64 t, .int .i64 i], .string ⟨xs.toArray⟩] W fun e w' => ∃ A' c', e = .returned (.tuple #[mvV { setM m t i fn ⟨xs.toArray⟩ with A := A', c := c' }, .int .i64 (setE m t i ⟨xs.toArray⟩)]) ∧ w'.ownsRow B 9 1 (.slice A' (setM m t i fn ⟨xs.toArray⟩).l.length c') (setM m t i fn ⟨xs.toArray⟩).l.length ((setM m t i fn ⟨xs.toArray⟩).l.map sv) ∧ Below B W w' := fun A1 c1 B W hB ho => (ltext_any { m with A := A1, c := c1 } num t i fn ⟨xs.toArray⟩ B W hp h7 hq hB ho).mono (by
    rintro e w' ⟨A', c', he, hs, hb⟩
    rw [setM_ac] at he
    rw [setM_acl] at hs
    exact ⟨A', c', he, hs, hb⟩)
  have ht : t = 7 ∨ t = 8 ∨ t = 9 ∨ t = 10 := by
    unfold plB at hp
    simp only [Bool.or_eq_true, decide_eq_true_eq] at hp
    omega
  generalize hE : setE m t i ⟨xs.toArray⟩ = E at *
  obtain ⟨U, hU⟩ : ∃ U, setM m t i fn ⟨xs.toArray⟩ = U := ⟨_, rfl⟩
  simp only [hU] at htx ⊢
  unfold mvV mvA at *
  simp only at hcp htx ⊢
  obtain ⟨lu, hlu⟩ : ∃ n, U.l.length = n := ⟨_, rfl⟩
  simp only [hlu] at htx ⊢
  obtain ⟨len, hlen⟩ : ∃ n, m.l.length = n := ⟨_, rfl⟩
  simp only [hlen] at hpl hcp htx ⊢
  obtain ⟨s, hws⟩ : ∃ s, w.heap.size = s := ⟨_, rfl⟩
  rw [hws] at hcp ⊢
  have HPL := hid hpl; have HCP := hid hcp; have HTX := hid htx; have HSF := hid hsf; have HXL := hid hxl
  clear hpl hcp htx hsf hsm hlen hlm hE hU hlu hxl hp h7
  go_enter Try.func50, Try.ntmps50
  go_wp2_with fail
  obtain ⟨W, hW⟩ : ∃ W, (((w.alloc (.cells #[.int .u8 (m.k : Int), .int .u64 (m.n0 : Int), .int .u64 (m.n1 : Int), .int .u64 (m.n2 : Int), .int .u64 (m.n3 : Int), .int .u64 (m.n4 : Int), .int .u64 (m.n5 : Int), .string m.s0, .string m.s1, .slice m.A len m.c] 27)).alloc (.cells #[.int .i64 num, .int .i64 t, .int .i64 i] 93)).alloc (.cells #[.int .i64 fnum, .int .u8 fw, .int .u64 (fn : Int), .slice fA xl fc, .int .i64 fat] 95)).alloc (.cells #[.int .u8 0, .int .u64 0, .int .u64 0, .int .u64 0, .int .u64 0, .int .u64 0, .int .u64 0, .string ⟨#[]⟩, .string ⟨#[]⟩, .slice none 0 0] 27) = W := ⟨_, rfl⟩
  have hk0 : Blk W s 27 #[.int .u8 (m.k : Int), .int .u64 (m.n0 : Int), .int .u64 (m.n1 : Int), .int .u64 (m.n2 : Int), .int .u64 (m.n3 : Int), .int .u64 (m.n4 : Int), .int .u64 (m.n5 : Int), .string m.s0, .string m.s1, .slice m.A len m.c] := by rw [← hW, ← hws]; exact (((Blk.new w _ _).alloc _).alloc _).alloc _
  have hk1 : Blk W (s + 1) 93 #[.int .i64 num, .int .i64 t, .int .i64 i] := by
    have h1 := ((Blk.new (w.alloc (.cells #[.int .u8 (m.k : Int), .int .u64 (m.n0 : Int), .int .u64 (m.n1 : Int), .int .u64 (m.n2 : Int), .int .u64 (m.n3 : Int), .int .u64 (m.n4 : Int), .int .u64 (m.n5 : Int), .string m.s0, .string m.s1, .slice m.A len m.c] 27)) 93 #[.int .i64 num, .int .i64 t, .int .i64 i]).alloc (.cells #[.int .i64 fnum, .int .u8 fw, .int .u64 (fn : Int), .slice fA xl fc, .int .i64 fat] 95)).alloc (.cells #[.int .u8 0, .int .u64 0, .int .u64 0, .int .u64 0, .int .u64 0, .int .u64 0, .int .u64 0, .string ⟨#[]⟩, .string ⟨#[]⟩, .slice none 0 0] 27)
    rw [World.size_alloc, hws, hW] at h1; exact h1
  have hk2 : Blk W (s + 1 + 1) 95 #[.int .i64 fnum, .int .u8 fw, .int .u64 (fn : Int), .slice fA xl fc, .int .i64 fat] := by
    have h1 := (Blk.new ((w.alloc (.cells #[.int .u8 (m.k : Int), .int .u64 (m.n0 : Int), .int .u64 (m.n1 : Int), .int .u64 (m.n2 : Int), .int .u64 (m.n3 : Int), .int .u64 (m.n4 : Int), .int .u64 (m.n5 : Int), .string m.s0, .string m.s1, .slice m.A len m.c] 27)).alloc (.cells #[.int .i64 num, .int .i64 t, .int .i64 i] 93)) 95 #[.int .i64 fnum, .int .u8 fw, .int .u64 (fn : Int), .slice fA xl fc, .int .i64 fat]).alloc (.cells #[.int .u8 0, .int .u64 0, .int .u64 0, .int .u64 0, .int .u64 0, .int .u64 0, .int .u64 0, .string ⟨#[]⟩, .string ⟨#[]⟩, .slice none 0 0] 27)
    rw [World.size_alloc, World.size_alloc, hws, hW] at h1; exact h1
  have hk3 : Blk W (s + 1 + 1 + 1) 27 #[.int .u8 0, .int .u64 0, .int .u64 0, .int .u64 0, .int .u64 0, .int .u64 0, .int .u64 0, .string ⟨#[]⟩, .string ⟨#[]⟩, .slice none 0 0] := by
    have h1 := Blk.new (((w.alloc (.cells #[.int .u8 (m.k : Int), .int .u64 (m.n0 : Int), .int .u64 (m.n1 : Int), .int .u64 (m.n2 : Int), .int .u64 (m.n3 : Int), .int .u64 (m.n4 : Int), .int .u64 (m.n5 : Int), .string m.s0, .string m.s1, .slice m.A len m.c] 27)).alloc (.cells #[.int .i64 num, .int .i64 t, .int .i64 i] 93)).alloc (.cells #[.int .i64 fnum, .int .u8 fw, .int .u64 (fn : Int), .slice fA xl fc, .int .i64 fat] 95)) 27 #[.int .u8 0, .int .u64 0, .int .u64 0, .int .u64 0, .int .u64 0, .int .u64 0, .int .u64 0, .string ⟨#[]⟩, .string ⟨#[]⟩, .slice none 0 0]
    rw [World.size_alloc, World.size_alloc, World.size_alloc, hws, hW] at h1; exact h1
  have hB : Below s w W := by rw [← hW, ← hws]; exact bw_a (bw_a (bw_a (bw_a (Below.refl _ w) _) _) _) _
  have hl3 := hk3.lt
  rw [hW]
  clear hW
  refine (HPL.out W).mono ?_
  rintro e w1 ⟨rfl, hb1⟩
  have hk0 := hk0.below hb1 (by omega)
  have hk1 := hk1.below hb1 (by omega)
  have hk2 := hk2.below hb1 (by omega)
  have hk3 := hk3.below hb1 hl3
  have hB := hB.trans (hb1.mono (by omega))
  have hl4 := hk3.lt
  have c0 := hk0.cell 0
  have c1 := hk0.cell 1
  have c2 := hk0.cell 2
  have c3 := hk0.cell 3
  have c4 := hk0.cell 4
  have c5 := hk0.cell 5
  have c6 := hk0.cell 6
  have c7 := hk0.cell 7
  have c8 := hk0.cell 8
  have c9 := hk0.cell 9
  simp only [List.getElem?_toArray, List.getElem?_cons_zero, List.getElem?_cons_succ] at c0 c1 c2 c3 c4 c5 c6 c7 c8 c9
  have HK0 := hid hk0; have HK1 := hid hk1; have HK2 := hid hk2; have HK3 := hid hk3; have HB := hid hB
  clear hk0 hk1 hk2 hk3 hB hb1
  go_wp2_with fail
  refine (HCP.out _ HB.out).mono ?_
  rintro e w2 ⟨A1, k1, rfl, ho2, hb2⟩
  have hk0 := HK0.out.below hb2 (by omega)
  have hk1 := HK1.out.below hb2 (by omega)
  have hk2 := HK2.out.below hb2 (by omega)
  have hk3 := HK3.out.below hb2 hl4
  have hB := HB.out.trans (hb2.mono (by omega))
  have hz2 := hb2.size
  have hl5 := hk3.lt
  clear c0 c1 c2 c3 c4 c5 c6 c7 c8 c9
  have c0 := hk0.cell 0
  have c1 := hk0.cell 1
  have c2 := hk0.cell 2
  have c3 := hk0.cell 3
  have c4 := hk0.cell 4
  have c5 := hk0.cell 5
  have c6 := hk0.cell 6
  have c7 := hk0.cell 7
  have c8 := hk0.cell 8
  have c9 := hk0.cell 9
  simp only [List.getElem?_toArray, List.getElem?_cons_zero, List.getElem?_cons_succ] at c0 c1 c2 c3 c4 c5 c6 c7 c8 c9
  have f0 := hk0.frozen 0
  have f1 := hk0.frozen 1
  have f2 := hk0.frozen 2
  have f3 := hk0.frozen 3
  have f4 := hk0.frozen 4
  have f5 := hk0.frozen 5
  have f6 := hk0.frozen 6
  have f7 := hk0.frozen 7
  have f8 := hk0.frozen 8
  have f9 := hk0.frozen 9
  have e0 := hk1.cell 0
  have e1 := hk1.cell 1
  have e2 := hk1.cell 2
  simp only [List.getElem?_toArray, List.getElem?_cons_zero, List.getElem?_cons_succ] at e0 e1 e2
  have d0 := hk2.cell 0
  have d1 := hk2.cell 1
  have d2 := hk2.cell 2
  have d3 := hk2.cell 3
  have d4 := hk2.cell 4
  simp only [List.getElem?_toArray, List.getElem?_cons_zero, List.getElem?_cons_succ] at d0 d1 d2 d3 d4
  have r0 := hk3.cell 0
  have r1 := hk3.cell 1
  have r2 := hk3.cell 2
  have r3 := hk3.cell 3
  have r4 := hk3.cell 4
  have r5 := hk3.cell 5
  have r6 := hk3.cell 6
  have r7 := hk3.cell 7
  have r8 := hk3.cell 8
  have r9 := hk3.cell 9
  simp only [List.getElem?_toArray, List.getElem?_cons_zero, List.getElem?_cons_succ] at r0 r1 r2 r3 r4 r5 r6 r7 r8 r9
  have g0 := hk3.frozen 0
  have g1 := hk3.frozen 1
  have g2 := hk3.frozen 2
  have g3 := hk3.frozen 3
  have g4 := hk3.frozen 4
  have g5 := hk3.frozen 5
  have g6 := hk3.frozen 6
  have g7 := hk3.frozen 7
  have g8 := hk3.frozen 8
  have g9 := hk3.frozen 9
  have hms := mstore hk0 (.int .u8 (m.k : Int)) (.int .u64 (m.n0 : Int)) (.int .u64 (m.n1 : Int)) (.int .u64 (m.n2 : Int)) (.int .u64 (m.n3 : Int)) (.int .u64 (m.n4 : Int)) (.int .u64 (m.n5 : Int)) (.string m.s0) (.string m.s1) (.slice A1 len k1)
  have hbm := hms.2.below (B := s) (fun k hk => by omega) (by omega)
  have hsw := HSF.out.below (show Below w.heap.size w _ from by rw [hws]; exact hB.trans hbm)
  have hcv := conv_bs11 (P := Try.prog) (src := 30) (dst := 9) hsw HXL.out Try.underlying30 Try.underlying5 Try.underlying9
  have how := own_chgS ho2 hms.2 (fun g e h => by have := ho2.lt g e; omega)
  have HT := hid (HTX.out A1 k1 w1.heap.size _ (by have := hms.2.size; omega) (own_mono how (by omega)))
  have hk3e : Blk _ (s + 1 + 1 + 1) 27 #[.int .u8 0, .int .u64 0, .int .u64 0, .int .u64 0, .int .u64 0, .int .u64 0, .int .u64 0, .string ⟨#[]⟩, .string ⟨#[]⟩, .slice none 0 0] := (hms.2.block _ hk3.lt (by show ¬ (s + 1 + 1 + 1 = s); omega)).trans hk3
  have HK3E := hid hk3e
  have HM := hid hms; have HBM := hid (hB.trans hbm); have HK3 := hid hk3
  clear hk3e hms hbm hsw how ho2 hb2 hk0 hk1 hk2 hk3 hB
  rcases ht with rfl | rfl | rfl | rfl
  all_goals
    go_wp2_with fail
    refine HT.out.mono ?_
    rintro e w6 ⟨A', c', rfl, ho6, hb6⟩
    have hk3 := HK3E.out.below hb6 hl4
    have hB := HBM.out.trans (hb6.mono (show s ≤ w1.heap.size by omega))
    have hz6 := hk3.lt
    clear c0 c1 c2 c3 c4 c5 c6 c7 c8 c9 f0 f1 f2 f3 f4 f5 f6 f7 f8 f9 e0 e1 e2 d0 d1 d2 d3 d4 r0 r1 r2 r3 r4 r5 r6 r7 r8 r9 g0 g1 g2 g3 g4 g5 g6 g7 g8 g9 hcv HK3E HM HBM HK3
    have r0 := hk3.cell 0
    have r1 := hk3.cell 1
    have r2 := hk3.cell 2
    have r3 := hk3.cell 3
    have r4 := hk3.cell 4
    have r5 := hk3.cell 5
    have r6 := hk3.cell 6
    have r7 := hk3.cell 7
    have r8 := hk3.cell 8
    have r9 := hk3.cell 9
    simp only [List.getElem?_toArray, List.getElem?_cons_zero, List.getElem?_cons_succ] at r0 r1 r2 r3 r4 r5 r6 r7 r8 r9
    have g0 := hk3.frozen 0
    have g1 := hk3.frozen 1
    have g2 := hk3.frozen 2
    have g3 := hk3.frozen 3
    have g4 := hk3.frozen 4
    have g5 := hk3.frozen 5
    have g6 := hk3.frozen 6
    have g7 := hk3.frozen 7
    have g8 := hk3.frozen 8
    have g9 := hk3.frozen 9
    have HK3 := hid hk3; have HB6 := hid hB; have HO6 := hid ho6
    clear hk3 hB ho6 hb6 HT
    go_wp2_with fail
    have HE := hid (mstore HK3.out (.int .u8 (U.k : Int)) (.int .u64 (U.n0 : Int)) (.int .u64 (U.n1 : Int)) (.int .u64 (U.n2 : Int)) (.int .u64 (U.n3 : Int)) (.int .u64 (U.n4 : Int)) (.int .u64 (U.n5 : Int)) (.string U.s0) (.string U.s1) (.slice A' lu c'))
    clear r0 r1 r2 r3 r4 r5 r6 r7 r8 r9 g0 g1 g2 g3 g4 g5 g6 g7 g8 g9
    generalize World.setCell (World.setCell _ _ _) _ _ = W9 at *
    have hz := HE.out.1
    have r0 := hz.cell 0
    have r1 := hz.cell 1
    have r2 := hz.cell 2
    have r3 := hz.cell 3
    have r4 := hz.cell 4
    have r5 := hz.cell 5
    have r6 := hz.cell 6
    have r7 := hz.cell 7
    have r8 := hz.cell 8
    have r9 := hz.cell 9
    simp only [List.getElem?_toArray, List.getElem?_cons_zero, List.getElem?_cons_succ] at r0 r1 r2 r3 r4 r5 r6 r7 r8 r9
    refine bodyPost_ret (v := .tuple #[.agg #[.int .u8 (U.k : Int), .int .u64 (U.n0 : Int), .int .u64 (U.n1 : Int), .int .u64 (U.n2 : Int), .int .u64 (U.n3 : Int), .int .u64 (U.n4 : Int), .int .u64 (U.n5 : Int), .string U.s0, .string U.s1, .slice A' lu c'], .int .i64 E]) (by simp [results, Try.results50, go_sem, r0, r1, r2, r3, r4, r5, r6, r7, r8, r9]) rfl ?_
    exact ⟨A', c', rfl, own_mono (own_chgS HO6.out HE.out.2 (fun g e h => by have := HO6.out.lt g e; omega)) (by omega), HB6.out.trans (HE.out.2.below (B := s) (fun k hk => by omega) (by omega))⟩
end Go.Proofs.Ytnfodgjihdoncaa
