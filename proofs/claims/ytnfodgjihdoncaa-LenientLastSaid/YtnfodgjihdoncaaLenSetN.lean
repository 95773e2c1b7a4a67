/- lenient.Set of numbers. -/
import Derived.Test.YtnfodgjihdoncaaLenSetT
set_option linter.unusedVariables false
namespace Go.Proofs.Ytnfodgjihdoncaa
open Go.RowKit
set_option maxRecDepth 100000 in
set_option maxHeartbeats 8000000 in
theorem lset_num0 (m : MV) (num t i : Int) (fnum fw : Int) (fn : Nat) (fA : Option Addr) (xl fc : Nat) (fat : Int) (w : World) (ht : 1 ≤ t ∧ t ≤ 6) (hi : 0 ≤ i ∧ i < 6) (hfn : fn ≤ 18446744073709551615) (hlm : m.l.length ≤ 1000000) (hsm : Sl w m.A m.c (m.l.map sv)) :
    Calls Try.prog 50 #[mvV m, .agg #[.int .i64 num, .int .i64 t, .int .i64 i], .agg #[.int .i64 fnum, .int .u8 fw, .int .u64 (fn : Int), .slice fA xl fc, .int .i64 fat]] w fun e w' => ∃ A' c', e = .returned (.tuple #[mvV { m.setN i (numV t fn) with A := A', c := c' }, .int .i64 0]) ∧ w'.ownsRow w.heap.size 9 1 (.slice A' m.l.length c') m.l.length (m.l.map sv) ∧ Below w.heap.size w w' := by
  have hp : plB t i = true := by unfold plB; simp only [Bool.or_eq_true, decide_eq_true_eq]; omega
  have hpl := fun W => placed_any m num t i W
  simp only [hp] at hpl
  have hcp := fun W (hW : Below w.heap.size w W) => vcopy_any m W hlm (hsm.below hW)
  have hln := fun W => lnum_any t fn W hfn
  obtain ⟨U, hU⟩ : ∃ U, m.setN i (numV t fn) = U := ⟨_, rfl⟩
  obtain ⟨x, hx⟩ : ∃ x, numV t fn = x := ⟨_, rfl⟩
  simp only [hx] at hln hU
  unfold mvV mvA at hpl hcp
  simp only at hcp
  obtain ⟨len, hlen⟩ : ∃ n, m.l.length = n := ⟨_, rfl⟩
  simp only [hlen] at hpl hcp
  obtain ⟨s, hws⟩ : ∃ s, w.heap.size = s := ⟨_, rfl⟩
  rw [hws] at hcp
  have hgo : Calls Try.prog 50 #[.agg #[.int .u8 (m.k : Int), .int .u64 (m.n0 : Int), .int .u64 (m.n1 : Int), .int .u64 (m.n2 : Int), .int .u64 (m.n3 : Int), .int .u64 (m.n4 : Int), .int .u64 (m.n5 : Int), .string m.s0, .string m.s1, .slice m.A len m.c], .agg #[.int .i64 num, .int .i64 t, .int .i64 i], .agg #[.int .i64 fnum, .int .u8 fw, .int .u64 (fn : Int), .slice fA xl fc, .int .i64 fat]] w fun e w' => ∃ A' c', e = .returned (.tuple #[.agg #[.int .u8 (m.k : Int), .int .u64 ((if i = 0 then x else m.n0 : Nat) : Int), .int .u64 ((if i = 1 then x else m.n1 : Nat) : Int), .int .u64 ((if i = 2 then x else m.n2 : Nat) : Int), .int .u64 ((if i = 3 then x else m.n3 : Nat) : Int), .int .u64 ((if i = 4 then x else m.n4 : Nat) : Int), .int .u64 ((if i = 5 then x else m.n5 : Nat) : Int), .string m.s0, .string m.s1, .slice A' len c'], .int .i64 0]) ∧ w'.ownsRow s 9 1 (.slice A' len c') len (m.l.map sv) ∧ Below s w w' := by
    have HPL := hid hpl; have HCP := hid hcp; have HLN := hid hln
    clear hpl hcp hln hsm hlen hlm hU hp hx
    go_enter Try.func50, Try.ntmps50
    go_wp2_with fail
    obtain ⟨W, hW⟩ : ∃ W, (((w.alloc (.cells #[.int .u8 (m.k : Int), .int .u64 (m.n0 : Int), .int .u64 (m.n1 : Int), .int .u64 (m.n2 : Int), .int .u64 (m.n3 : Int), .int .u64 (m.n4 : Int), .int .u64 (m.n5 : Int), .string m.s0, .string m.s1, .slice m.A len m.c] 27)).alloc (.cells #[.int .i64 num, .int .i64 t, .int .i64 i] 93)).alloc (.cells #[.int .i64 fnum, .int .u8 fw, .int .u64 (fn : Int), .slice fA xl fc, .int .i64 fat] 95)).alloc (.cells #[.int .u8 0, .int .u64 0, .int .u64 0, .int .u64 0, .int .u64 0, .int .u64 0, .int .u64 0, .string ⟨#[]⟩, .string ⟨#[]⟩, .slice none 0 0] 27) = W := ⟨_, rfl⟩
    have hk0 : Blk W s 27 #[.int .u8 (m.k : Int), .int .u64 (m.n0 : Int), .int .u64 (m.n1 : Int), .int .u64 (m.n2 : Int), .int .u64 (m.n3 : Int), .int .u64 (m.n4 : Int), .int .u64 (m.n5 : Int), .string m.s0, .string m.s1, .slice m.A len m.c] := by rw [← hW, ← hws]; exact (((Blk.new w _ _).alloc _).alloc _).alloc _
    have hk1 : Blk W (s + 1) 93 #[.int .i64 num, .int .i64 t, .int .i64 i] := by
      have h1 := ((Blk.new (w.alloc (.cells #[.int .u8 (m.k : Int), .int .u64 (m.n0 : Int), .int .u64 (m.n1 : Int), .int .u64 (m.n2 : Int), .int .u64 (m.n3 : Int), .int .u64 (m.n4 : Int), .int .u64 (m.n5 : Int), .string m.s0, .string m.s1, .slice m.A len m.c] 27)) 93 #[.int .i64 num, .int .i64 t, .int .i64 i]).alloc (.cells #[.int .i64 fnum, .int .u8 fw, .int .u64 (fn : Int), .slice fA xl fc, .int .i64 fat] 95)).alloc (.cells #[.int .u8 0, .int .u64 0, .int .u64 0, .int .u64 0, .int .u64 0, .int .u64 0, .int .u64 0, .string ⟨#[]⟩, .string ⟨#[]⟩, .slice none 0 0] 27)
      rw [World.size_alloc, hws, hW] at h1; exact h1
    have hk2 : Blk W (s + 1 + 1) 95 #[.int .i64 fnum, .int .u8 fw, .int .u64 (fn : Int), .slice fA xl fc, .int .i64 fat] := by
      have h1 := (Blk.new ((w.alloc (.cells #[.int .u8 (m.k : Int), .int .u64 (m.n0 : Int), .int .u64 (m.n1 : Int), .int .u64 (m.n2 : Int), .int .u64 (m.n3 : Int), .int .u64 (m.n4 : Int), .int .u64 (m.n5 : Int), .string m.s0, .string m.s1, .slice m.A len m.c] 27)).alloc (.cells #[.int .i64 num, .int .i64 t, .int .i64 i] 93)) 95 #[.int .i64 fnum, .int .u8 fw, .int .u64 (fn : Int), .slice fA xl fc, .int .i64 fat]).alloc (.cells #[.int .u8 0, .int .u64 0, .int .u64 0, .int .u64 0, .int .u64 0, .int .u64 0, .int .u64 0, .string ⟨#[]⟩, .string ⟨#[]⟩, .slice none 0 0] 27)
      rw [World.size_alloc, World.size_alloc, hws, hW] at h1; exact h1
    have hk3 : Blk W (s + 1 + 1 + 1) 27 #[.int .u8 0, .int .u64 0, .int .u64 0, .int .u64 0, .int .u64 0, .int .u64 0, .int .u64 0, .string ⟨#[]⟩, .string ⟨#[]⟩, .slice none 0 0] := by
      have h1 := Blk.new (((w.alloc (.cells #[.int .u8 (m.k : Int), .int .u64 (m.n0 : Int), .int .u64 (m.n1 : Int), .int .u64 (m.n2 : Int), .int .u64 (m.n3 : Int), .int .u64 (m.n4 : Int), .int .u64 (m.n5 : Int), .string m.s0, .string m.s1, .slice m.A len m.c] 27)).alloc (.cells #[.int .i64 num, .int .i64 t, .int .i64 i] 93)).alloc (.cells #[.int .i64 fnum, .int .u8 fw, .int .u64 (fn : Int), .slice fA xl fc, .int .i64 fat] 95)) 27 #[.int .u8 0, .int .u64 0, .int .u64 0, .int .u64 0, .int .u64 0, .int .u64 0, .int .u64 0, .string ⟨#[]⟩, .string ⟨#[]⟩, .slice none 0 0]
      rw [World.size_alloc, World.size_alloc, World.size_alloc, hws, hW] at h1; exact h1
    have hB : Below s w W := by rw [← hW, ← hws]; exact bw_a (bw_a (bw_a (bw_a (Below.refl _ w) _) _) _) _
    have hl3 := hk3.lt
    rw [hW]
    clear hW
    refine (HPL.out W).mono ?_
    rintro e w1 ⟨rfl, hb1⟩
    have hk0 := hk0.below hb1 (by omega)
    have hk1 := hk1.below hb1 (by omega)
    have hk2 := hk2.below hb1 (by omega)
    have hk3 := hk3.below hb1 hl3
    have hB := hB.trans (hb1.mono (by omega))
    have hl4 := hk3.lt
    have c0 := hk0.cell 0
    have c1 := hk0.cell 1
    have c2 := hk0.cell 2
    have c3 := hk0.cell 3
    have c4 := hk0.cell 4
    have c5 := hk0.cell 5
    have c6 := hk0.cell 6
    have c7 := hk0.cell 7
    have c8 := hk0.cell 8
    have c9 := hk0.cell 9
    simp only [List.getElem?_toArray, List.getElem?_cons_zero, List.getElem?_cons_succ] at c0 c1 c2 c3 c4 c5 c6 c7 c8 c9
    have HK0 := hid hk0; have HK1 := hid hk1; have HK2 := hid hk2; have HK3 := hid hk3; have HB := hid hB
    clear hk0 hk1 hk2 hk3 hB hb1
    go_wp2_with fail
    refine (HCP.out _ HB.out).mono ?_
    rintro e w2 ⟨A1, k1, rfl, ho2, hb2⟩
    have hk0 := HK0.out.below hb2 (by omega)
    have hk1 := HK1.out.below hb2 (by omega)
    have hk2 := HK2.out.below hb2 (by omega)
    have hk3 := HK3.out.below hb2 hl4
    have hB := HB.out.trans (hb2.mono (by omega))
    have hz2 := hb2.size
    have hl5 := hk3.lt
    clear c0 c1 c2 c3 c4 c5 c6 c7 c8 c9
    have c0 := hk0.cell 0
    have c1 := hk0.cell 1
    have c2 := hk0.cell 2
    have c3 := hk0.cell 3
    have c4 := hk0.cell 4
    have c5 := hk0.cell 5
    have c6 := hk0.cell 6
    have c7 := hk0.cell 7
    have c8 := hk0.cell 8
    have c9 := hk0.cell 9
    simp only [List.getElem?_toArray, List.getElem?_cons_zero, List.getElem?_cons_succ] at c0 c1 c2 c3 c4 c5 c6 c7 c8 c9
    have f0 := hk0.frozen 0
    have f1 := hk0.frozen 1
    have f2 := hk0.frozen 2
    have f3 := hk0.frozen 3
    have f4 := hk0.frozen 4
    have f5 := hk0.frozen 5
    have f6 := hk0.frozen 6
    have f7 := hk0.frozen 7
    have f8 := hk0.frozen 8
    have f9 := hk0.frozen 9
    have e0 := hk1.cell 0
    have e1 := hk1.cell 1
    have e2 := hk1.cell 2
    simp only [List.getElem?_toArray, List.getElem?_cons_zero, List.getElem?_cons_succ] at e0 e1 e2
    have hms := mstore hk0 (.int .u8 (m.k : Int)) (.int .u64 (m.n0 : Int)) (.int .u64 (m.n1 : Int)) (.int .u64 (m.n2 : Int)) (.int .u64 (m.n3 : Int)) (.int .u64 (m.n4 : Int)) (.int .u64 (m.n5 : Int)) (.string m.s0) (.string m.s1) (.slice A1 len k1)
    have hbm := hB.trans (hms.2.below (B := s) (fun k hk => by omega) (by omega))
    have how := own_chgS ho2 hms.2 (fun g e h => by have := ho2.lt g e; omega)
    have hk1e : Blk _ (s + 1) 93 #[.int .i64 num, .int .i64 t, .int .i64 i] := (hms.2.block _ hk1.lt (by show ¬ (s + 1 = s); omega)).trans hk1
    have hk2e : Blk _ (s + 1 + 1) 95 #[.int .i64 fnum, .int .u8 fw, .int .u64 (fn : Int), .slice fA xl fc, .int .i64 fat] := (hms.2.block _ hk2.lt (by show ¬ (s + 1 + 1 = s); omega)).trans hk2
    have hk3e : Blk _ (s + 1 + 1 + 1) 27 #[.int .u8 0, .int .u64 0, .int .u64 0, .int .u64 0, .int .u64 0, .int .u64 0, .int .u64 0, .string ⟨#[]⟩, .string ⟨#[]⟩, .slice none 0 0] := (hms.2.block _ hk3.lt (by show ¬ (s + 1 + 1 + 1 = s); omega)).trans hk3
    have hk0e := hms.1
    have q7 : (t == 7) = false := by simp; omega
    have q8 : (t == 8) = false := by simp; omega
    have q9 : (t == 9) = false := by simp; omega
    have q10 : (t == 10) = false := by simp; omega
    have HBM := hid hbm; have HOW := hid how; have HK0E := hid hk0e; have HK1E := hid hk1e; have HK2E := hid hk2e; have HK3E := hid hk3e
    clear hms hbm how hk1e hk2e hk3e hk0e hk0 hk1 hk2 hk3 ho2 hb2 hB HK0 HK1 HK2 HK3
    go_wp2_with fail
    obtain ⟨Wb, hWb⟩ : ∃ Wb, ((((((((((w2.setCell ⟨s, 0, none⟩ (.int .u8 (m.k : Int))).setCell ⟨s, 1, none⟩ (.int .u64 (m.n0 : Int))).setCell ⟨s, 2, none⟩ (.int .u64 (m.n1 : Int))).setCell ⟨s, 3, none⟩ (.int .u64 (m.n2 : Int))).setCell ⟨s, 4, none⟩ (.int .u64 (m.n3 : Int))).setCell ⟨s, 5, none⟩ (.int .u64 (m.n4 : Int))).setCell ⟨s, 6, none⟩ (.int .u64 (m.n5 : Int))).setCell ⟨s, 7, none⟩ (.string m.s0)).setCell ⟨s, 8, none⟩ (.string m.s1)).setCell ⟨s, 9, none⟩ (.slice A1 len k1)) = Wb := ⟨_, rfl⟩
    rw [hWb] at HBM HOW HK0E HK1E HK2E HK3E ⊢
    clear hWb
    have hle := HK3E.out.lt
    have h0 := HK0E.out; have h1 := HK1E.out; have h2 := HK2E.out
    clear c0 c1 c2 c3 c4 c5 c6 c7 c8 c9 f0 f1 f2 f3 f4 f5 f6 f7 f8 f9 e0 e1 e2
    have c0 := h0.cell 0
    have c1 := h0.cell 1
    have c2 := h0.cell 2
    have c3 := h0.cell 3
    have c4 := h0.cell 4
    have c5 := h0.cell 5
    have c6 := h0.cell 6
    have c7 := h0.cell 7
    have c8 := h0.cell 8
    have c9 := h0.cell 9
    simp only [List.getElem?_toArray, List.getElem?_cons_zero, List.getElem?_cons_succ] at c0 c1 c2 c3 c4 c5 c6 c7 c8 c9
    have f0 := h0.frozen 0
    have f1 := h0.frozen 1
    have f2 := h0.frozen 2
    have f3 := h0.frozen 3
    have f4 := h0.frozen 4
    have f5 := h0.frozen 5
    have f6 := h0.frozen 6
    have f7 := h0.frozen 7
    have f8 := h0.frozen 8
    have f9 := h0.frozen 9
    have e0 := h1.cell 0
    have e1 := h1.cell 1
    have e2 := h1.cell 2
    simp only [List.getElem?_toArray, List.getElem?_cons_zero, List.getElem?_cons_succ] at e0 e1 e2
    have d0 := h2.cell 0
    have d1 := h2.cell 1
    have d2 := h2.cell 2
    have d3 := h2.cell 3
    have d4 := h2.cell 4
    simp only [List.getElem?_toArray, List.getElem?_cons_zero, List.getElem?_cons_succ] at d0 d1 d2 d3 d4
    clear h0 h1 h2
    have ne1 : ¬ (s + 1 + 1 = s) := by omega
    have ne2 : ¬ (s = s + 1 + 1) := by omega
    have ne3 : ¬ (s + 1 = s) := by omega
    have ne4 : ¬ (s = s + 1) := by omega
    have hii : i = 0 ∨ i = 1 ∨ i = 2 ∨ i = 3 ∨ i = 4 ∨ i = 5 := by omega
    rcases hii with rfl | rfl | rfl | rfl | rfl | rfl
    · go_region_held3 (fun w' => w'.cell? ⟨s + 1, 1, none⟩ = some (.int .i64 t) ∧ w'.cell? ⟨s + 1, 2, none⟩ = some (.int .i64 0) ∧ w'.cell? ⟨s + 1 + 1, 2, none⟩ = some (.int .u64 (fn : Int))) (first | exact ⟨e1, e2, d2⟩ | go_keep) (first | (go_at_call 73; refine (HLN.out _).mono ?_; rintro e w5 ⟨rfl, rfl⟩))
      have hk0 : Blk (Wb.setCell ⟨s, 1, none⟩ (.int .u64 (x : Int))).drew s 27 #[.int .u8 (m.k : Int), .int .u64 (x : Int), .int .u64 (m.n1 : Int), .int .u64 (m.n2 : Int), .int .u64 (m.n3 : Int), .int .u64 (m.n4 : Int), .int .u64 (m.n5 : Int), .string m.s0, .string m.s1, .slice A1 len k1] := by have h := HK0E.out.set_ 1 (.int .u64 (x : Int)); simp at h; exact h
      have hk3 : Blk (Wb.setCell ⟨s, 1, none⟩ (.int .u64 (x : Int))).drew (s + 1 + 1 + 1) 27 #[.int .u8 0, .int .u64 0, .int .u64 0, .int .u64 0, .int .u64 0, .int .u64 0, .int .u64 0, .string ⟨#[]⟩, .string ⟨#[]⟩, .slice none 0 0] := HK3E.out.far (p := ⟨s, 1, none⟩) (by show s + 1 + 1 + 1 ≠ s; omega) (.int .u64 (x : Int))
      have hcs := (Chg.refl (fun k => k = s) Wb).set_ (.inl rfl) 1 (.int .u64 (x : Int))
      have ho0 : (Wb.setCell ⟨s, 1, none⟩ (.int .u64 (x : Int))).ownsRow (w1.heap.size + 2) 9 1 (.slice A1 len k1) len (m.l.map sv) := own_chgS HOW.out hcs (fun g e h => by have := HOW.out.lt g e; omega)
      have ho : ((Wb.setCell ⟨s, 1, none⟩ (.int .u64 (x : Int))).drew).ownsRow (w1.heap.size + 2) 9 1 (.slice A1 len k1) len (m.l.map sv) := ho0
      have hbs : Below s w (Wb.setCell ⟨s, 1, none⟩ (.int .u64 (x : Int))).drew := by
        have b := hcs.below (B := s) (fun k hk => by omega) (by omega)
        exact HBM.out.trans ⟨b.os, b.tape, b.output, b.size, b.block⟩
      clear hcs ho0 c0 c1 c2 c3 c4 c5 c6 c7 c8 c9 f0 f1 f2 f3 f4 f5 f6 f7 f8 f9 e0 e1 e2 d0 d1 d2 d3 d4 HK0E HK1E HK2E HK3E HOW HBM
      generalize (Wb.setCell ⟨s, 1, none⟩ (.int .u64 (x : Int))).drew = Wc at *
      have c0 := hk0.cell 0
      have c1 := hk0.cell 1
      have c2 := hk0.cell 2
      have c3 := hk0.cell 3
      have c4 := hk0.cell 4
      have c5 := hk0.cell 5
      have c6 := hk0.cell 6
      have c7 := hk0.cell 7
      have c8 := hk0.cell 8
      have c9 := hk0.cell 9
      simp only [List.getElem?_toArray, List.getElem?_cons_zero, List.getElem?_cons_succ] at c0 c1 c2 c3 c4 c5 c6 c7 c8 c9
      have r0 := hk3.cell 0
      have r1 := hk3.cell 1
      have r2 := hk3.cell 2
      have r3 := hk3.cell 3
      have r4 := hk3.cell 4
      have r5 := hk3.cell 5
      have r6 := hk3.cell 6
      have r7 := hk3.cell 7
      have r8 := hk3.cell 8
      have r9 := hk3.cell 9
      simp only [List.getElem?_toArray, List.getElem?_cons_zero, List.getElem?_cons_succ] at r0 r1 r2 r3 r4 r5 r6 r7 r8 r9
      have g0 := hk3.frozen 0
      have g1 := hk3.frozen 1
      have g2 := hk3.frozen 2
      have g3 := hk3.frozen 3
      have g4 := hk3.frozen 4
      have g5 := hk3.frozen 5
      have g6 := hk3.frozen 6
      have g7 := hk3.frozen 7
      have g8 := hk3.frozen 8
      have g9 := hk3.frozen 9
      have hl9 := hk3.lt
      have HK3 := hid hk3; have HO := hid ho; have HB9 := hid hbs
      clear hk0 hk3 ho hbs
      go_wp2_with fail
      have HE := hid (mstore HK3.out (.int .u8 (m.k : Int)) (.int .u64 (x : Int)) (.int .u64 (m.n1 : Int)) (.int .u64 (m.n2 : Int)) (.int .u64 (m.n3 : Int)) (.int .u64 (m.n4 : Int)) (.int .u64 (m.n5 : Int)) (.string m.s0) (.string m.s1) (.slice A1 len k1))
      clear c0 c1 c2 c3 c4 c5 c6 c7 c8 c9
      clear r0 r1 r2 r3 r4 r5 r6 r7 r8 r9 g0 g1 g2 g3 g4 g5 g6 g7 g8 g9
      generalize World.setCell (World.setCell _ _ _) _ _ = W9 at *
      have hz := HE.out.1
      have r0 := hz.cell 0
      have r1 := hz.cell 1
      have r2 := hz.cell 2
      have r3 := hz.cell 3
      have r4 := hz.cell 4
      have r5 := hz.cell 5
      have r6 := hz.cell 6
      have r7 := hz.cell 7
      have r8 := hz.cell 8
      have r9 := hz.cell 9
      simp only [List.getElem?_toArray, List.getElem?_cons_zero, List.getElem?_cons_succ] at r0 r1 r2 r3 r4 r5 r6 r7 r8 r9
      refine bodyPost_ret (v := .tuple #[.agg #[.int .u8 (m.k : Int), .int .u64 (x : Int), .int .u64 (m.n1 : Int), .int .u64 (m.n2 : Int), .int .u64 (m.n3 : Int), .int .u64 (m.n4 : Int), .int .u64 (m.n5 : Int), .string m.s0, .string m.s1, .slice A1 len k1], .int .i64 0]) (by simp [results, Try.results50, go_sem, r0, r1, r2, r3, r4, r5, r6, r7, r8, r9]) rfl ?_
      exact ⟨A1, k1, by simp, own_mono (own_chgS HO.out HE.out.2 (fun g e h => by have := HO.out.lt g e; omega)) (by omega), HB9.out.trans (HE.out.2.below (B := s) (fun k hk => by omega) (by omega))⟩
    · go_region_held3 (fun w' => w'.cell? ⟨s + 1, 1, none⟩ = some (.int .i64 t) ∧ w'.cell? ⟨s + 1, 2, none⟩ = some (.int .i64 1) ∧ w'.cell? ⟨s + 1 + 1, 2, none⟩ = some (.int .u64 (fn : Int))) (first | exact ⟨e1, e2, d2⟩ | go_keep) (first | (go_at_call 73; refine (HLN.out _).mono ?_; rintro e w5 ⟨rfl, rfl⟩))
      have hk0 : Blk (Wb.setCell ⟨s, 2, none⟩ (.int .u64 (x : Int))).drew s 27 #[.int .u8 (m.k : Int), .int .u64 (m.n0 : Int), .int .u64 (x : Int), .int .u64 (m.n2 : Int), .int .u64 (m.n3 : Int), .int .u64 (m.n4 : Int), .int .u64 (m.n5 : Int), .string m.s0, .string m.s1, .slice A1 len k1] := by have h := HK0E.out.set_ 2 (.int .u64 (x : Int)); simp at h; exact h
      have hk3 : Blk (Wb.setCell ⟨s, 2, none⟩ (.int .u64 (x : Int))).drew (s + 1 + 1 + 1) 27 #[.int .u8 0, .int .u64 0, .int .u64 0, .int .u64 0, .int .u64 0, .int .u64 0, .int .u64 0, .string ⟨#[]⟩, .string ⟨#[]⟩, .slice none 0 0] := HK3E.out.far (p := ⟨s, 2, none⟩) (by show s + 1 + 1 + 1 ≠ s; omega) (.int .u64 (x : Int))
      have hcs := (Chg.refl (fun k => k = s) Wb).set_ (.inl rfl) 2 (.int .u64 (x : Int))
      have ho0 : (Wb.setCell ⟨s, 2, none⟩ (.int .u64 (x : Int))).ownsRow (w1.heap.size + 2) 9 1 (.slice A1 len k1) len (m.l.map sv) := own_chgS HOW.out hcs (fun g e h => by have := HOW.out.lt g e; omega)
      have ho : ((Wb.setCell ⟨s, 2, none⟩ (.int .u64 (x : Int))).drew).ownsRow (w1.heap.size + 2) 9 1 (.slice A1 len k1) len (m.l.map sv) := ho0
      have hbs : Below s w (Wb.setCell ⟨s, 2, none⟩ (.int .u64 (x : Int))).drew := by
        have b := hcs.below (B := s) (fun k hk => by omega) (by omega)
        exact HBM.out.trans ⟨b.os, b.tape, b.output, b.size, b.block⟩
      clear hcs ho0 c0 c1 c2 c3 c4 c5 c6 c7 c8 c9 f0 f1 f2 f3 f4 f5 f6 f7 f8 f9 e0 e1 e2 d0 d1 d2 d3 d4 HK0E HK1E HK2E HK3E HOW HBM
      generalize (Wb.setCell ⟨s, 2, none⟩ (.int .u64 (x : Int))).drew = Wc at *
      have c0 := hk0.cell 0
      have c1 := hk0.cell 1
      have c2 := hk0.cell 2
      have c3 := hk0.cell 3
      have c4 := hk0.cell 4
      have c5 := hk0.cell 5
      have c6 := hk0.cell 6
      have c7 := hk0.cell 7
      have c8 := hk0.cell 8
      have c9 := hk0.cell 9
      simp only [List.getElem?_toArray, List.getElem?_cons_zero, List.getElem?_cons_succ] at c0 c1 c2 c3 c4 c5 c6 c7 c8 c9
      have r0 := hk3.cell 0
      have r1 := hk3.cell 1
      have r2 := hk3.cell 2
      have r3 := hk3.cell 3
      have r4 := hk3.cell 4
      have r5 := hk3.cell 5
      have r6 := hk3.cell 6
      have r7 := hk3.cell 7
      have r8 := hk3.cell 8
      have r9 := hk3.cell 9
      simp only [List.getElem?_toArray, List.getElem?_cons_zero, List.getElem?_cons_succ] at r0 r1 r2 r3 r4 r5 r6 r7 r8 r9
      have g0 := hk3.frozen 0
      have g1 := hk3.frozen 1
      have g2 := hk3.frozen 2
      have g3 := hk3.frozen 3
      have g4 := hk3.frozen 4
      have g5 := hk3.frozen 5
      have g6 := hk3.frozen 6
      have g7 := hk3.frozen 7
      have g8 := hk3.frozen 8
      have g9 := hk3.frozen 9
      have hl9 := hk3.lt
      have HK3 := hid hk3; have HO := hid ho; have HB9 := hid hbs
      clear hk0 hk3 ho hbs
      go_wp2_with fail
      have HE := hid (mstore HK3.out (.int .u8 (m.k : Int)) (.int .u64 (m.n0 : Int)) (.int .u64 (x : Int)) (.int .u64 (m.n2 : Int)) (.int .u64 (m.n3 : Int)) (.int .u64 (m.n4 : Int)) (.int .u64 (m.n5 : Int)) (.string m.s0) (.string m.s1) (.slice A1 len k1))
      clear c0 c1 c2 c3 c4 c5 c6 c7 c8 c9
      clear r0 r1 r2 r3 r4 r5 r6 r7 r8 r9 g0 g1 g2 g3 g4 g5 g6 g7 g8 g9
      generalize World.setCell (World.setCell _ _ _) _ _ = W9 at *
      have hz := HE.out.1
      have r0 := hz.cell 0
      have r1 := hz.cell 1
      have r2 := hz.cell 2
      have r3 := hz.cell 3
      have r4 := hz.cell 4
      have r5 := hz.cell 5
      have r6 := hz.cell 6
      have r7 := hz.cell 7
      have r8 := hz.cell 8
      have r9 := hz.cell 9
      simp only [List.getElem?_toArray, List.getElem?_cons_zero, List.getElem?_cons_succ] at r0 r1 r2 r3 r4 r5 r6 r7 r8 r9
      refine bodyPost_ret (v := .tuple #[.agg #[.int .u8 (m.k : Int), .int .u64 (m.n0 : Int), .int .u64 (x : Int), .int .u64 (m.n2 : Int), .int .u64 (m.n3 : Int), .int .u64 (m.n4 : Int), .int .u64 (m.n5 : Int), .string m.s0, .string m.s1, .slice A1 len k1], .int .i64 0]) (by simp [results, Try.results50, go_sem, r0, r1, r2, r3, r4, r5, r6, r7, r8, r9]) rfl ?_
      exact ⟨A1, k1, by simp, own_mono (own_chgS HO.out HE.out.2 (fun g e h => by have := HO.out.lt g e; omega)) (by omega), HB9.out.trans (HE.out.2.below (B := s) (fun k hk => by omega) (by omega))⟩
    · go_region_held3 (fun w' => w'.cell? ⟨s + 1, 1, none⟩ = some (.int .i64 t) ∧ w'.cell? ⟨s + 1, 2, none⟩ = some (.int .i64 2) ∧ w'.cell? ⟨s + 1 + 1, 2, none⟩ = some (.int .u64 (fn : Int))) (first | exact ⟨e1, e2, d2⟩ | go_keep) (first | (go_at_call 73; refine (HLN.out _).mono ?_; rintro e w5 ⟨rfl, rfl⟩))
      have hk0 : Blk (Wb.setCell ⟨s, 3, none⟩ (.int .u64 (x : Int))).drew s 27 #[.int .u8 (m.k : Int), .int .u64 (m.n0 : Int), .int .u64 (m.n1 : Int), .int .u64 (x : Int), .int .u64 (m.n3 : Int), .int .u64 (m.n4 : Int), .int .u64 (m.n5 : Int), .string m.s0, .string m.s1, .slice A1 len k1] := by have h := HK0E.out.set_ 3 (.int .u64 (x : Int)); simp at h; exact h
      have hk3 : Blk (Wb.setCell ⟨s, 3, none⟩ (.int .u64 (x : Int))).drew (s + 1 + 1 + 1) 27 #[.int .u8 0, .int .u64 0, .int .u64 0, .int .u64 0, .int .u64 0, .int .u64 0, .int .u64 0, .string ⟨#[]⟩, .string ⟨#[]⟩, .slice none 0 0] := HK3E.out.far (p := ⟨s, 3, none⟩) (by show s + 1 + 1 + 1 ≠ s; omega) (.int .u64 (x : Int))
      have hcs := (Chg.refl (fun k => k = s) Wb).set_ (.inl rfl) 3 (.int .u64 (x : Int))
      have ho0 : (Wb.setCell ⟨s, 3, none⟩ (.int .u64 (x : Int))).ownsRow (w1.heap.size + 2) 9 1 (.slice A1 len k1) len (m.l.map sv) := own_chgS HOW.out hcs (fun g e h => by have := HOW.out.lt g e; omega)
      have ho : ((Wb.setCell ⟨s, 3, none⟩ (.int .u64 (x : Int))).drew).ownsRow (w1.heap.size + 2) 9 1 (.slice A1 len k1) len (m.l.map sv) := ho0
      have hbs : Below s w (Wb.setCell ⟨s, 3, none⟩ (.int .u64 (x : Int))).drew := by
        have b := hcs.below (B := s) (fun k hk => by omega) (by omega)
        exact HBM.out.trans ⟨b.os, b.tape, b.output, b.size, b.block⟩
      clear hcs ho0 c0 c1 c2 c3 c4 c5 c6 c7 c8 c9 f0 f1 f2 f3 f4 f5 f6 f7 f8 f9 e0 e1 e2 d0 d1 d2 d3 d4 HK0E HK1E HK2E HK3E HOW HBM
      generalize (Wb.setCell ⟨s, 3, none⟩ (.int .u64 (x : Int))).drew = Wc at *
      have c0 := hk0.cell 0
      have c1 := hk0.cell 1
      have c2 := hk0.cell 2
      have c3 := hk0.cell 3
      have c4 := hk0.cell 4
      have c5 := hk0.cell 5
      have c6 := hk0.cell 6
      have c7 := hk0.cell 7
      have c8 := hk0.cell 8
      have c9 := hk0.cell 9
      simp only [List.getElem?_toArray, List.getElem?_cons_zero, List.getElem?_cons_succ] at c0 c1 c2 c3 c4 c5 c6 c7 c8 c9
      have r0 := hk3.cell 0
      have r1 := hk3.cell 1
      have r2 := hk3.cell 2
      have r3 := hk3.cell 3
      have r4 := hk3.cell 4
      have r5 := hk3.cell 5
      have r6 := hk3.cell 6
      have r7 := hk3.cell 7
      have r8 := hk3.cell 8
      have r9 := hk3.cell 9
      simp only [List.getElem?_toArray, List.getElem?_cons_zero, List.getElem?_cons_succ] at r0 r1 r2 r3 r4 r5 r6 r7 r8 r9
      have g0 := hk3.frozen 0
      have g1 := hk3.frozen 1
      have g2 := hk3.frozen 2
      have g3 := hk3.frozen 3
      have g4 := hk3.frozen 4
      have g5 := hk3.frozen 5
      have g6 := hk3.frozen 6
      have g7 := hk3.frozen 7
      have g8 := hk3.frozen 8
      have g9 := hk3.frozen 9
      have hl9 := hk3.lt
      have HK3 := hid hk3; have HO := hid ho; have HB9 := hid hbs
      clear hk0 hk3 ho hbs
      go_wp2_with fail
      have HE := hid (mstore HK3.out (.int .u8 (m.k : Int)) (.int .u64 (m.n0 : Int)) (.int .u64 (m.n1 : Int)) (.int .u64 (x : Int)) (.int .u64 (m.n3 : Int)) (.int .u64 (m.n4 : Int)) (.int .u64 (m.n5 : Int)) (.string m.s0) (.string m.s1) (.slice A1 len k1))
      clear c0 c1 c2 c3 c4 c5 c6 c7 c8 c9
      clear r0 r1 r2 r3 r4 r5 r6 r7 r8 r9 g0 g1 g2 g3 g4 g5 g6 g7 g8 g9
      generalize World.setCell (World.setCell _ _ _) _ _ = W9 at *
      have hz := HE.out.1
      have r0 := hz.cell 0
      have r1 := hz.cell 1
      have r2 := hz.cell 2
      have r3 := hz.cell 3
      have r4 := hz.cell 4
      have r5 := hz.cell 5
      have r6 := hz.cell 6
      have r7 := hz.cell 7
      have r8 := hz.cell 8
      have r9 := hz.cell 9
      simp only [List.getElem?_toArray, List.getElem?_cons_zero, List.getElem?_cons_succ] at r0 r1 r2 r3 r4 r5 r6 r7 r8 r9
      refine bodyPost_ret (v := .tuple #[.agg #[.int .u8 (m.k : Int), .int .u64 (m.n0 : Int), .int .u64 (m.n1 : Int), .int .u64 (x : Int), .int .u64 (m.n3 : Int), .int .u64 (m.n4 : Int), .int .u64 (m.n5 : Int), .string m.s0, .string m.s1, .slice A1 len k1], .int .i64 0]) (by simp [results, Try.results50, go_sem, r0, r1, r2, r3, r4, r5, r6, r7, r8, r9]) rfl ?_
      exact ⟨A1, k1, by simp, own_mono (own_chgS HO.out HE.out.2 (fun g e h => by have := HO.out.lt g e; omega)) (by omega), HB9.out.trans (HE.out.2.below (B := s) (fun k hk => by omega) (by omega))⟩
    · go_region_held3 (fun w' => w'.cell? ⟨s + 1, 1, none⟩ = some (.int .i64 t) ∧ w'.cell? ⟨s + 1, 2, none⟩ = some (.int .i64 3) ∧ w'.cell? ⟨s + 1 + 1, 2, none⟩ = some (.int .u64 (fn : Int))) (first | exact ⟨e1, e2, d2⟩ | go_keep) (first | (go_at_call 73; refine (HLN.out _).mono ?_; rintro e w5 ⟨rfl, rfl⟩))
      have hk0 : Blk (Wb.setCell ⟨s, 4, none⟩ (.int .u64 (x : Int))).drew s 27 #[.int .u8 (m.k : Int), .int .u64 (m.n0 : Int), .int .u64 (m.n1 : Int), .int .u64 (m.n2 : Int), .int .u64 (x : Int), .int .u64 (m.n4 : Int), .int .u64 (m.n5 : Int), .string m.s0, .string m.s1, .slice A1 len k1] := by have h := HK0E.out.set_ 4 (.int .u64 (x : Int)); simp at h; exact h
      have hk3 : Blk (Wb.setCell ⟨s, 4, none⟩ (.int .u64 (x : Int))).drew (s + 1 + 1 + 1) 27 #[.int .u8 0, .int .u64 0, .int .u64 0, .int .u64 0, .int .u64 0, .int .u64 0, .int .u64 0, .string ⟨#[]⟩, .string ⟨#[]⟩, .slice none 0 0] := HK3E.out.far (p := ⟨s, 4, none⟩) (by show s + 1 + 1 + 1 ≠ s; omega) (.int .u64 (x : Int))
      have hcs := (Chg.refl (fun k => k = s) Wb).set_ (.inl rfl) 4 (.int .u64 (x : Int))
      have ho0 : (Wb.setCell ⟨s, 4, none⟩ (.int .u64 (x : Int))).ownsRow (w1.heap.size + 2) 9 1 (.slice A1 len k1) len (m.l.map sv) := own_chgS HOW.out hcs (fun g e h => by have := HOW.out.lt g e; omega)
      have ho : ((Wb.setCell ⟨s, 4, none⟩ (.int .u64 (x : Int))).drew).ownsRow (w1.heap.size + 2) 9 1 (.slice A1 len k1) len (m.l.map sv) := ho0
      have hbs : Below s w (Wb.setCell ⟨s, 4, none⟩ (.int .u64 (x : Int))).drew := by
        have b := hcs.below (B := s) (fun k hk => by omega) (by omega)
        exact HBM.out.trans ⟨b.os, b.tape, b.output, b.size, b.block⟩
      clear hcs ho0 c0 c1 c2 c3 c4 c5 c6 c7 c8 c9 f0 f1 f2 f3 f4 f5 f6 f7 f8 f9 e0 e1 e2 d0 d1 d2 d3 d4 HK0E HK1E HK2E HK3E HOW HBM
      generalize (Wb.setCell ⟨s, 4, none⟩ (.int .u64 (x : Int))).drew = Wc at *
      have c0 := hk0.cell 0
      have c1 := hk0.cell 1
      have c2 := hk0.cell 2
      have c3 := hk0.cell 3
      have c4 := hk0.cell 4
      have c5 := hk0.cell 5
      have c6 := hk0.cell 6
      have c7 := hk0.cell 7
      have c8 := hk0.cell 8
      have c9 := hk0.cell 9
      simp only [List.getElem?_toArray, List.getElem?_cons_zero, List.getElem?_cons_succ] at c0 c1 c2 c3 c4 c5 c6 c7 c8 c9
      have r0 := hk3.cell 0
      have r1 := hk3.cell 1
      have r2 := hk3.cell 2
      have r3 := hk3.cell 3
      have r4 := hk3.cell 4
      have r5 := hk3.cell 5
      have r6 := hk3.cell 6
      have r7 := hk3.cell 7
      have r8 := hk3.cell 8
      have r9 := hk3.cell 9
      simp only [List.getElem?_toArray, List.getElem?_cons_zero, List.getElem?_cons_succ] at r0 r1 r2 r3 r4 r5 r6 r7 r8 r9
      have g0 := hk3.frozen 0
      have g1 := hk3.frozen 1
      have g2 := hk3.frozen 2
      have g3 := hk3.frozen 3
      have g4 := hk3.frozen 4
      have g5 := hk3.frozen 5
      have g6 := hk3.frozen 6
      have g7 := hk3.frozen 7
      have g8 := hk3.frozen 8
      have g9 := hk3.frozen 9
      have hl9 := hk3.lt
      have HK3 := hid hk3; have HO := hid ho; have HB9 := hid hbs
      clear hk0 hk3 ho hbs
      go_wp2_with fail
      have HE := hid (mstore HK3.out (.int .u8 (m.k : Int)) (.int .u64 (m.n0 : Int)) (.int .u64 (m.n1 : Int)) (.int .u64 (m.n2 : Int)) (.int .u64 (x : Int)) (.int .u64 (m.n4 : Int)) (.int .u64 (m.n5 : Int)) (.string m.s0) (.string m.s1) (.slice A1 len k1))
      clear c0 c1 c2 c3 c4 c5 c6 c7 c8 c9
      clear r0 r1 r2 r3 r4 r5 r6 r7 r8 r9 g0 g1 g2 g3 g4 g5 g6 g7 g8 g9
      generalize World.setCell (World.setCell _ _ _) _ _ = W9 at *
      have hz := HE.out.1
      have r0 := hz.cell 0
      have r1 := hz.cell 1
      have r2 := hz.cell 2
      have r3 := hz.cell 3
      have r4 := hz.cell 4
      have r5 := hz.cell 5
      have r6 := hz.cell 6
      have r7 := hz.cell 7
      have r8 := hz.cell 8
      have r9 := hz.cell 9
      simp only [List.getElem?_toArray, List.getElem?_cons_zero, List.getElem?_cons_succ] at r0 r1 r2 r3 r4 r5 r6 r7 r8 r9
      refine bodyPost_ret (v := .tuple #[.agg #[.int .u8 (m.k : Int), .int .u64 (m.n0 : Int), .int .u64 (m.n1 : Int), .int .u64 (m.n2 : Int), .int .u64 (x : Int), .int .u64 (m.n4 : Int), .int .u64 (m.n5 : Int), .string m.s0, .string m.s1, .slice A1 len k1], .int .i64 0]) (by simp [results, Try.results50, go_sem, r0, r1, r2, r3, r4, r5, r6, r7, r8, r9]) rfl ?_
      exact ⟨A1, k1, by simp, own_mono (own_chgS HO.out HE.out.2 (fun g e h => by have := HO.out.lt g e; omega)) (by omega), HB9.out.trans (HE.out.2.below (B := s) (fun k hk => by omega) (by omega))⟩
    · go_region_held3 (fun w' => w'.cell? ⟨s + 1, 1, none⟩ = some (.int .i64 t) ∧ w'.cell? ⟨s + 1, 2, none⟩ = some (.int .i64 4) ∧ w'.cell? ⟨s + 1 + 1, 2, none⟩ = some (.int .u64 (fn : Int))) (first | exact ⟨e1, e2, d2⟩ | go_keep) (first | (go_at_call 73; refine (HLN.out _).mono ?_; rintro e w5 ⟨rfl, rfl⟩))
      have hk0 : Blk (Wb.setCell ⟨s, 5, none⟩ (.int .u64 (x : Int))).drew s 27 #[.int .u8 (m.k : Int), .int .u64 (m.n0 : Int), .int .u64 (m.n1 : Int), .int .u64 (m.n2 : Int), .int .u64 (m.n3 : Int), .int .u64 (x : Int), .int .u64 (m.n5 : Int), .string m.s0, .string m.s1, .slice A1 len k1] := by have h := HK0E.out.set_ 5 (.int .u64 (x : Int)); simp at h; exact h
      have hk3 : Blk (Wb.setCell ⟨s, 5, none⟩ (.int .u64 (x : Int))).drew (s + 1 + 1 + 1) 27 #[.int .u8 0, .int .u64 0, .int .u64 0, .int .u64 0, .int .u64 0, .int .u64 0, .int .u64 0, .string ⟨#[]⟩, .string ⟨#[]⟩, .slice none 0 0] := HK3E.out.far (p := ⟨s, 5, none⟩) (by show s + 1 + 1 + 1 ≠ s; omega) (.int .u64 (x : Int))
      have hcs := (Chg.refl (fun k => k = s) Wb).set_ (.inl rfl) 5 (.int .u64 (x : Int))
      have ho0 : (Wb.setCell ⟨s, 5, none⟩ (.int .u64 (x : Int))).ownsRow (w1.heap.size + 2) 9 1 (.slice A1 len k1) len (m.l.map sv) := own_chgS HOW.out hcs (fun g e h => by have := HOW.out.lt g e; omega)
      have ho : ((Wb.setCell ⟨s, 5, none⟩ (.int .u64 (x : Int))).drew).ownsRow (w1.heap.size + 2) 9 1 (.slice A1 len k1) len (m.l.map sv) := ho0
      have hbs : Below s w (Wb.setCell ⟨s, 5, none⟩ (.int .u64 (x : Int))).drew := by
        have b := hcs.below (B := s) (fun k hk => by omega) (by omega)
        exact HBM.out.trans ⟨b.os, b.tape, b.output, b.size, b.block⟩
      clear hcs ho0 c0 c1 c2 c3 c4 c5 c6 c7 c8 c9 f0 f1 f2 f3 f4 f5 f6 f7 f8 f9 e0 e1 e2 d0 d1 d2 d3 d4 HK0E HK1E HK2E HK3E HOW HBM
      generalize (Wb.setCell ⟨s, 5, none⟩ (.int .u64 (x : Int))).drew = Wc at *
      have c0 := hk0.cell 0
      have c1 := hk0.cell 1
      have c2 := hk0.cell 2
      have c3 := hk0.cell 3
      have c4 := hk0.cell 4
      have c5 := hk0.cell 5
      have c6 := hk0.cell 6
      have c7 := hk0.cell 7
      have c8 := hk0.cell 8
      have c9 := hk0.cell 9
      simp only [List.getElem?_toArray, List.getElem?_cons_zero, List.getElem?_cons_succ] at c0 c1 c2 c3 c4 c5 c6 c7 c8 c9
      have r0 := hk3.cell 0
      have r1 := hk3.cell 1
      have r2 := hk3.cell 2
      have r3 := hk3.cell 3
      have r4 := hk3.cell 4
      have r5 := hk3.cell 5
      have r6 := hk3.cell 6
      have r7 := hk3.cell 7
      have r8 := hk3.cell 8
      have r9 := hk3.cell 9
      simp only [List.getElem?_toArray, List.getElem?_cons_zero, List.getElem?_cons_succ] at r0 r1 r2 r3 r4 r5 r6 r7 r8 r9
      have g0 := hk3.frozen 0
      have g1 := hk3.frozen 1
      have g2 := hk3.frozen 2
      have g3 := hk3.frozen 3
      have g4 := hk3.frozen 4
      have g5 := hk3.frozen 5
      have g6 := hk3.frozen 6
      have g7 := hk3.frozen 7
      have g8 := hk3.frozen 8
      have g9 := hk3.frozen 9
      have hl9 := hk3.lt
      have HK3 := hid hk3; have HO := hid ho; have HB9 := hid hbs
      clear hk0 hk3 ho hbs
      go_wp2_with fail
      have HE := hid (mstore HK3.out (.int .u8 (m.k : Int)) (.int .u64 (m.n0 : Int)) (.int .u64 (m.n1 : Int)) (.int .u64 (m.n2 : Int)) (.int .u64 (m.n3 : Int)) (.int .u64 (x : Int)) (.int .u64 (m.n5 : Int)) (.string m.s0) (.string m.s1) (.slice A1 len k1))
      clear c0 c1 c2 c3 c4 c5 c6 c7 c8 c9
      clear r0 r1 r2 r3 r4 r5 r6 r7 r8 r9 g0 g1 g2 g3 g4 g5 g6 g7 g8 g9
      generalize World.setCell (World.setCell _ _ _) _ _ = W9 at *
      have hz := HE.out.1
      have r0 := hz.cell 0
      have r1 := hz.cell 1
      have r2 := hz.cell 2
      have r3 := hz.cell 3
      have r4 := hz.cell 4
      have r5 := hz.cell 5
      have r6 := hz.cell 6
      have r7 := hz.cell 7
      have r8 := hz.cell 8
      have r9 := hz.cell 9
      simp only [List.getElem?_toArray, List.getElem?_cons_zero, List.getElem?_cons_succ] at r0 r1 r2 r3 r4 r5 r6 r7 r8 r9
      refine bodyPost_ret (v := .tuple #[.agg #[.int .u8 (m.k : Int), .int .u64 (m.n0 : Int), .int .u64 (m.n1 : Int), .int .u64 (m.n2 : Int), .int .u64 (m.n3 : Int), .int .u64 (x : Int), .int .u64 (m.n5 : Int), .string m.s0, .string m.s1, .slice A1 len k1], .int .i64 0]) (by simp [results, Try.results50, go_sem, r0, r1, r2, r3, r4, r5, r6, r7, r8, r9]) rfl ?_
      exact ⟨A1, k1, by simp, own_mono (own_chgS HO.out HE.out.2 (fun g e h => by have := HO.out.lt g e; omega)) (by omega), HB9.out.trans (HE.out.2.below (B := s) (fun k hk => by omega) (by omega))⟩
    · go_region_held3 (fun w' => w'.cell? ⟨s + 1, 1, none⟩ = some (.int .i64 t) ∧ w'.cell? ⟨s + 1, 2, none⟩ = some (.int .i64 5) ∧ w'.cell? ⟨s + 1 + 1, 2, none⟩ = some (.int .u64 (fn : Int))) (first | exact ⟨e1, e2, d2⟩ | go_keep) (first | (go_at_call 73; refine (HLN.out _).mono ?_; rintro e w5 ⟨rfl, rfl⟩))
      have hk0 : Blk (Wb.setCell ⟨s, 6, none⟩ (.int .u64 (x : Int))).drew s 27 #[.int .u8 (m.k : Int), .int .u64 (m.n0 : Int), .int .u64 (m.n1 : Int), .int .u64 (m.n2 : Int), .int .u64 (m.n3 : Int), .int .u64 (m.n4 : Int), .int .u64 (x : Int), .string m.s0, .string m.s1, .slice A1 len k1] := by have h := HK0E.out.set_ 6 (.int .u64 (x : Int)); simp at h; exact h
      have hk3 : Blk (Wb.setCell ⟨s, 6, none⟩ (.int .u64 (x : Int))).drew (s + 1 + 1 + 1) 27 #[.int .u8 0, .int .u64 0, .int .u64 0, .int .u64 0, .int .u64 0, .int .u64 0, .int .u64 0, .string ⟨#[]⟩, .string ⟨#[]⟩, .slice none 0 0] := HK3E.out.far (p := ⟨s, 6, none⟩) (by show s + 1 + 1 + 1 ≠ s; omega) (.int .u64 (x : Int))
      have hcs := (Chg.refl (fun k => k = s) Wb).set_ (.inl rfl) 6 (.int .u64 (x : Int))
      have ho0 : (Wb.setCell ⟨s, 6, none⟩ (.int .u64 (x : Int))).ownsRow (w1.heap.size + 2) 9 1 (.slice A1 len k1) len (m.l.map sv) := own_chgS HOW.out hcs (fun g e h => by have := HOW.out.lt g e; omega)
      have ho : ((Wb.setCell ⟨s, 6, none⟩ (.int .u64 (x : Int))).drew).ownsRow (w1.heap.size + 2) 9 1 (.slice A1 len k1) len (m.l.map sv) := ho0
      have hbs : Below s w (Wb.setCell ⟨s, 6, none⟩ (.int .u64 (x : Int))).drew := by
        have b := hcs.below (B := s) (fun k hk => by omega) (by omega)
        exact HBM.out.trans ⟨b.os, b.tape, b.output, b.size, b.block⟩
      clear hcs ho0 c0 c1 c2 c3 c4 c5 c6 c7 c8 c9 f0 f1 f2 f3 f4 f5 f6 f7 f8 f9 e0 e1 e2 d0 d1 d2 d3 d4 HK0E HK1E HK2E HK3E HOW HBM
      generalize (Wb.setCell ⟨s, 6, none⟩ (.int .u64 (x : Int))).drew = Wc at *
      have c0 := hk0.cell 0
      have c1 := hk0.cell 1
      have c2 := hk0.cell 2
      have c3 := hk0.cell 3
      have c4 := hk0.cell 4
      have c5 := hk0.cell 5
      have c6 := hk0.cell 6
      have c7 := hk0.cell 7
      have c8 := hk0.cell 8
      have c9 := hk0.cell 9
      simp only [List.getElem?_toArray, List.getElem?_cons_zero, List.getElem?_cons_succ] at c0 c1 c2 c3 c4 c5 c6 c7 c8 c9
      have r0 := hk3.cell 0
      have r1 := hk3.cell 1
      have r2 := hk3.cell 2
      have r3 := hk3.cell 3
      have r4 := hk3.cell 4
      have r5 := hk3.cell 5
      have r6 := hk3.cell 6
      have r7 := hk3.cell 7
      have r8 := hk3.cell 8
      have r9 := hk3.cell 9
      simp only [List.getElem?_toArray, List.getElem?_cons_zero, List.getElem?_cons_succ] at r0 r1 r2 r3 r4 r5 r6 r7 r8 r9
      have g0 := hk3.frozen 0
      have g1 := hk3.frozen 1
      have g2 := hk3.frozen 2
      have g3 := hk3.frozen 3
      have g4 := hk3.frozen 4
      have g5 := hk3.frozen 5
      have g6 := hk3.frozen 6
      have g7 := hk3.frozen 7
      have g8 := hk3.frozen 8
      have g9 := hk3.frozen 9
      have hl9 := hk3.lt
      have HK3 := hid hk3; have HO := hid ho; have HB9 := hid hbs
      clear hk0 hk3 ho hbs
      go_wp2_with fail
      have HE := hid (mstore HK3.out (.int .u8 (m.k : Int)) (.int .u64 (m.n0 : Int)) (.int .u64 (m.n1 : Int)) (.int .u64 (m.n2 : Int)) (.int .u64 (m.n3 : Int)) (.int .u64 (m.n4 : Int)) (.int .u64 (x : Int)) (.string m.s0) (.string m.s1) (.slice A1 len k1))
      clear c0 c1 c2 c3 c4 c5 c6 c7 c8 c9
      clear r0 r1 r2 r3 r4 r5 r6 r7 r8 r9 g0 g1 g2 g3 g4 g5 g6 g7 g8 g9
      generalize World.setCell (World.setCell _ _ _) _ _ = W9 at *
      have hz := HE.out.1
      have r0 := hz.cell 0
      have r1 := hz.cell 1
      have r2 := hz.cell 2
      have r3 := hz.cell 3
      have r4 := hz.cell 4
      have r5 := hz.cell 5
      have r6 := hz.cell 6
      have r7 := hz.cell 7
      have r8 := hz.cell 8
      have r9 := hz.cell 9
      simp only [List.getElem?_toArray, List.getElem?_cons_zero, List.getElem?_cons_succ] at r0 r1 r2 r3 r4 r5 r6 r7 r8 r9
      refine bodyPost_ret (v := .tuple #[.agg #[.int .u8 (m.k : Int), .int .u64 (m.n0 : Int), .int .u64 (m.n1 : Int), .int .u64 (m.n2 : Int), .int .u64 (m.n3 : Int), .int .u64 (m.n4 : Int), .int .u64 (x : Int), .string m.s0, .string m.s1, .slice A1 len k1], .int .i64 0]) (by simp [results, Try.results50, go_sem, r0, r1, r2, r3, r4, r5, r6, r7, r8, r9]) rfl ?_
      exact ⟨A1, k1, by simp, own_mono (own_chgS HO.out HE.out.2 (fun g e h => by have := HO.out.lt g e; omega)) (by omega), HB9.out.trans (HE.out.2.below (B := s) (fun k hk => by omega) (by omega))⟩
  rw [hws]
  rw [← hlen] at hgo
  refine hgo.mono ?_
  rintro e w' ⟨A', c', he, ho, hb⟩
  refine ⟨A', c', ?_, ho, hb⟩
  rw [he, ← hx]
  rfl
end Go.Proofs.Ytnfodgjihdoncaa
