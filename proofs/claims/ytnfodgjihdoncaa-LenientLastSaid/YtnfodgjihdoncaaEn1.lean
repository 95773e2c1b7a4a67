/- encode.parts of a text. · encode.parts of a number with a sign. · encode.parts of a list. · encode.parts of a list: the walk. -/
import Derived.Test.YtnfodgjihdoncaaEncParts
import Derived.Laws.AppendOwn
set_option linter.unusedVariables false
namespace Go.Proofs.Ytnfodgjihdoncaa
open Go.RowKit
/-- A string's bytes, in a row of their own. -/
theorem conv_any (s : ByteArray) (hsz : s.size ≤ 9223372036854775807) (W : World) (N : Nat) (hN : W.heap.size = N) : ∃ c W4, (convert 9 30 (.string s)).run Try.prog W = .ok (.slice (some ⟨N, 0, none⟩) s.size c) W4 ∧ Sl W4 (some ⟨N, 0, none⟩) c (s.data.toList.map bv) ∧ Below W.heap.size W W4 ∧ W4.heap.size = N + 1 := by
  subst hN
  refine ⟨_, _, Lib.run_convert_string_bytes W _ _ 5 s Try.underlying9 Try.underlying30 Try.underlying5, ?_, ?_, Lib.bytesWorld_size W _ s⟩
  · refine ⟨?_, ?_, (fun h => by cases h), fun k u hk => ⟨W.heap.size, 0, rfl, by rw [Lib.bytesWorld_size]; omega, ?_⟩⟩
    · have h := grownCap_ge W s.size 0 5
      rw [List.length_map]
      exact h
    · exact grownCap_le_maxLen W s.size 0 5 hsz
    · rw [List.getElem?_map] at hk
      obtain ⟨x, hx, rfl⟩ := Option.map_eq_some_iff.1 hk
      have hl : k < s.data.toList.length := (List.getElem?_eq_some_iff.1 hx).1
      have h := Lib.bytesWorld_cell W 5 s k hl
      rw [Nat.zero_add, h, List.getD, hx]
      rfl
  · refine ⟨?_, ?_, ?_, by rw [Lib.bytesWorld_size]; omega, fun k hk => Lib.bytesWorld_at_old W _ s k hk⟩
    all_goals first | rfl | simp [Lib.bytesWorld, World.freeze, World.alloc, World.drew, -World.alloc_eq, -World.drew_eq]
theorem parts_fin2 {w W : World} {m : MV} {num t i : Int} {s : ByteArray} {g c : Nat} {A : Option Addr} (hpw : partW m num t i = [(num, 2, 0, s.data.toList)]) (hn1 : -9223372036854775808 ≤ num) (hn2 : num ≤ 9223372036854775807) (hB : Below w.heap.size w W) (hg : w.heap.size ≤ g) (hk : Blk W g 95 #[.int .i64 num, .int .u8 2, .int .u64 0, .slice A s.size c, .int .i64 0]) (hs : Sl W A c (s.data.toList.map bv)) : PartsR m num t i w (.returned (.slice (some ⟨g, 0, none⟩) 1 1)) W := by
  refine ⟨[⟨num, 2, 0, ⟨A, c, s.data.toList⟩, 0⟩], _, rfl, own_one hg hk, by rw [hpw]; rfl, fun f hf => ?_, hB⟩
  simp only [List.mem_singleton] at hf
  subst hf
  exact ⟨by dsimp only; omega, by dsimp only; omega, by dsimp only; omega, hn1, hn2, by dsimp only; omega, by dsimp only; omega, hs⟩
set_option maxRecDepth 100000 in
set_option maxHeartbeats 4000000 in
theorem parts_text (m : MV) (num t : Int) (i : Nat) (w : World) (hok : MvOk w m) (hi : i ≤ 1) (ht : t = 7 ∨ t = 8 ∨ t = 9) (hn1 : -9223372036854775808 ≤ num) (hn2 : num ≤ 9223372036854775807) :
    Calls Try.prog 106 #[mvV m, .agg #[.int .i64 num, .int .i64 t, .int .i64 (i : Int)]] w (PartsR m num t i w) := by
  have hpw : partW m num t (i : Int) = [(num, 2, 0, (m.text (i : Int)).data.toList)] := by
    unfold partW
    rw [if_neg (by omega), if_pos (by omega)]
  have hww : wireN t = 2 := by unfold wireN; rw [if_neg (by omega), if_neg (by omega), if_pos (by omega)]
  obtain ⟨R, hR⟩ : ∃ R, PartsR m num t i w = R := ⟨_, rfl⟩
  rw [hR]
  have HR := hid hR
  have hwi := fun W => swire_any t W
  have HPW := hid hpw
  rw [hww] at hwi
  have hz0 := hok.s 0
  have hz1 := hok.s 1
  have HZ0 : Hid (m.s0.size ≤ 9223372036854775807) := hid hz0
  have HZ1 : Hid (m.s1.size ≤ 9223372036854775807) := hid hz1
  clear hR hpw hok hww hz0 hz1
  generalize wireK t = wk at *
  have hmi : m.text (i : Int) = [m.s0, m.s1].getD i ⟨#[]⟩ := by
    have hi : i = 0 ∨ i = 1 := by omega
    rcases hi with rfl | rfl <;> rfl
  rw [hmi] at HPW
  clear hmi
  unfold mvV mvA
  generalize m.l.length = len at *
  have hi : i = 0 ∨ i = 1 := by omega
  rcases ht with rfl | rfl | rfl <;> rcases hi with rfl | rfl
  · go_enter Try.func106, Try.ntmps106
    go_wp2_with fail
    refine (hwi _).mono ?_
    rintro e w3 ⟨rfl, rfl⟩
    go_wp2_with fail
    obtain ⟨c4, W4, hcv, hs4, hb4, hz4⟩ := conv_any m.s0 HZ0.out (((w.alloc (.cells #[.int .u8 (m.k : Int), .int .u64 (m.n0 : Int), .int .u64 (m.n1 : Int), .int .u64 (m.n2 : Int), .int .u64 (m.n3 : Int), .int .u64 (m.n4 : Int), .int .u64 (m.n5 : Int), .string m.s0, .string m.s1, .slice m.A len m.c] 27)).alloc (.cells #[.int .i64 num, .int .i64 7, .int .i64 0] 93)).alloc (.cells #[.int .i64 num, .int .u8 2, .int .u64 0, .slice none 0 0, .int .i64 0] 95)) (w.heap.size + 1 + 1 + 1) (by simp only [World.size_alloc])
    rw [hcv]
    have hkf : Blk W4 (w.heap.size + 1 + 1) 95 #[.int .i64 num, .int .u8 2, .int .u64 0, .slice none 0 0, .int .i64 0] := (blk_top (by simp only [World.size_alloc])).below hb4 (by simp only [World.size_alloc]; omega)
    have f0 := hkf.cell 0
    have f1 := hkf.cell 1
    have f2 := hkf.cell 2
    have f3 := hkf.cell 3
    have f4 := hkf.cell 4
    have g3 := hkf.frozen 3
    simp only [List.getElem?_toArray, List.getElem?_cons_zero, List.getElem?_cons_succ] at f0 f1 f2 f3 f4
    have HB4 := hid ((bw_a (bw_a (bw_a (Below.refl _ w) (_ : Obj)) (_ : Obj)) (_ : Obj) : Below w.heap.size w (((w.alloc (.cells #[.int .u8 (m.k : Int), .int .u64 (m.n0 : Int), .int .u64 (m.n1 : Int), .int .u64 (m.n2 : Int), .int .u64 (m.n3 : Int), .int .u64 (m.n4 : Int), .int .u64 (m.n5 : Int), .string m.s0, .string m.s1, .slice m.A len m.c] 27)).alloc (.cells #[.int .i64 num, .int .i64 7, .int .i64 0] 93)).alloc (.cells #[.int .i64 num, .int .u8 2, .int .u64 0, .slice none 0 0, .int .i64 0] 95))).trans (hb4.mono (by simp only [World.size_alloc]; omega)))
    have HS4 := hid hs4
    have HZ4 := hid hz4
    clear hcv hb4 hs4 hz4 hkf
    go_wp2_with fail
    rw [← HR.out]
    show PartsR _ _ _ _ _ (.returned (.slice (some ⟨W4.heap.size, 0, none⟩) 1 1)) _
    refine parts_fin2 (s := m.s0) HPW.out hn1 hn2 (bw_a (HB4.out.setCell (p := ⟨w.heap.size + 1 + 1, 3, none⟩) (by show w.heap.size ≤ w.heap.size + 1 + 1; omega) _) _) (by have := HZ4.out; omega) (blk_top (by simp)) ?_
    exact (((Chg.refl (fun k => k = w.heap.size + 1 + 1) W4).set_ (.inl rfl) 3 _).alloc _).sl HS4.out (fun _ b off e h => by injection e with e; injection e with e1 e2; omega) rfl
  · go_enter Try.func106, Try.ntmps106
    go_wp2_with fail
    refine (hwi _).mono ?_
    rintro e w3 ⟨rfl, rfl⟩
    go_wp2_with fail
    obtain ⟨c4, W4, hcv, hs4, hb4, hz4⟩ := conv_any m.s1 HZ1.out (((w.alloc (.cells #[.int .u8 (m.k : Int), .int .u64 (m.n0 : Int), .int .u64 (m.n1 : Int), .int .u64 (m.n2 : Int), .int .u64 (m.n3 : Int), .int .u64 (m.n4 : Int), .int .u64 (m.n5 : Int), .string m.s0, .string m.s1, .slice m.A len m.c] 27)).alloc (.cells #[.int .i64 num, .int .i64 7, .int .i64 1] 93)).alloc (.cells #[.int .i64 num, .int .u8 2, .int .u64 0, .slice none 0 0, .int .i64 0] 95)) (w.heap.size + 1 + 1 + 1) (by simp only [World.size_alloc])
    rw [hcv]
    have hkf : Blk W4 (w.heap.size + 1 + 1) 95 #[.int .i64 num, .int .u8 2, .int .u64 0, .slice none 0 0, .int .i64 0] := (blk_top (by simp only [World.size_alloc])).below hb4 (by simp only [World.size_alloc]; omega)
    have f0 := hkf.cell 0
    have f1 := hkf.cell 1
    have f2 := hkf.cell 2
    have f3 := hkf.cell 3
    have f4 := hkf.cell 4
    have g3 := hkf.frozen 3
    simp only [List.getElem?_toArray, List.getElem?_cons_zero, List.getElem?_cons_succ] at f0 f1 f2 f3 f4
    have HB4 := hid ((bw_a (bw_a (bw_a (Below.refl _ w) (_ : Obj)) (_ : Obj)) (_ : Obj) : Below w.heap.size w (((w.alloc (.cells #[.int .u8 (m.k : Int), .int .u64 (m.n0 : Int), .int .u64 (m.n1 : Int), .int .u64 (m.n2 : Int), .int .u64 (m.n3 : Int), .int .u64 (m.n4 : Int), .int .u64 (m.n5 : Int), .string m.s0, .string m.s1, .slice m.A len m.c] 27)).alloc (.cells #[.int .i64 num, .int .i64 7, .int .i64 1] 93)).alloc (.cells #[.int .i64 num, .int .u8 2, .int .u64 0, .slice none 0 0, .int .i64 0] 95))).trans (hb4.mono (by simp only [World.size_alloc]; omega)))
    have HS4 := hid hs4
    have HZ4 := hid hz4
    clear hcv hb4 hs4 hz4 hkf
    go_wp2_with fail
    rw [← HR.out]
    show PartsR _ _ _ _ _ (.returned (.slice (some ⟨W4.heap.size, 0, none⟩) 1 1)) _
    refine parts_fin2 (s := m.s1) HPW.out hn1 hn2 (bw_a (HB4.out.setCell (p := ⟨w.heap.size + 1 + 1, 3, none⟩) (by show w.heap.size ≤ w.heap.size + 1 + 1; omega) _) _) (by have := HZ4.out; omega) (blk_top (by simp)) ?_
    exact (((Chg.refl (fun k => k = w.heap.size + 1 + 1) W4).set_ (.inl rfl) 3 _).alloc _).sl HS4.out (fun _ b off e h => by injection e with e; injection e with e1 e2; omega) rfl
  · go_enter Try.func106, Try.ntmps106
    go_wp2_with fail
    refine (hwi _).mono ?_
    rintro e w3 ⟨rfl, rfl⟩
    go_wp2_with fail
    obtain ⟨c4, W4, hcv, hs4, hb4, hz4⟩ := conv_any m.s0 HZ0.out (((w.alloc (.cells #[.int .u8 (m.k : Int), .int .u64 (m.n0 : Int), .int .u64 (m.n1 : Int), .int .u64 (m.n2 : Int), .int .u64 (m.n3 : Int), .int .u64 (m.n4 : Int), .int .u64 (m.n5 : Int), .string m.s0, .string m.s1, .slice m.A len m.c] 27)).alloc (.cells #[.int .i64 num, .int .i64 8, .int .i64 0] 93)).alloc (.cells #[.int .i64 num, .int .u8 2, .int .u64 0, .slice none 0 0, .int .i64 0] 95)) (w.heap.size + 1 + 1 + 1) (by simp only [World.size_alloc])
    rw [hcv]
    have hkf : Blk W4 (w.heap.size + 1 + 1) 95 #[.int .i64 num, .int .u8 2, .int .u64 0, .slice none 0 0, .int .i64 0] := (blk_top (by simp only [World.size_alloc])).below hb4 (by simp only [World.size_alloc]; omega)
    have f0 := hkf.cell 0
    have f1 := hkf.cell 1
    have f2 := hkf.cell 2
    have f3 := hkf.cell 3
    have f4 := hkf.cell 4
    have g3 := hkf.frozen 3
    simp only [List.getElem?_toArray, List.getElem?_cons_zero, List.getElem?_cons_succ] at f0 f1 f2 f3 f4
    have HB4 := hid ((bw_a (bw_a (bw_a (Below.refl _ w) (_ : Obj)) (_ : Obj)) (_ : Obj) : Below w.heap.size w (((w.alloc (.cells #[.int .u8 (m.k : Int), .int .u64 (m.n0 : Int), .int .u64 (m.n1 : Int), .int .u64 (m.n2 : Int), .int .u64 (m.n3 : Int), .int .u64 (m.n4 : Int), .int .u64 (m.n5 : Int), .string m.s0, .string m.s1, .slice m.A len m.c] 27)).alloc (.cells #[.int .i64 num, .int .i64 8, .int .i64 0] 93)).alloc (.cells #[.int .i64 num, .int .u8 2, .int .u64 0, .slice none 0 0, .int .i64 0] 95))).trans (hb4.mono (by simp only [World.size_alloc]; omega)))
    have HS4 := hid hs4
    have HZ4 := hid hz4
    clear hcv hb4 hs4 hz4 hkf
    go_wp2_with fail
    rw [← HR.out]
    show PartsR _ _ _ _ _ (.returned (.slice (some ⟨W4.heap.size, 0, none⟩) 1 1)) _
    refine parts_fin2 (s := m.s0) HPW.out hn1 hn2 (bw_a (HB4.out.setCell (p := ⟨w.heap.size + 1 + 1, 3, none⟩) (by show w.heap.size ≤ w.heap.size + 1 + 1; omega) _) _) (by have := HZ4.out; omega) (blk_top (by simp)) ?_
    exact (((Chg.refl (fun k => k = w.heap.size + 1 + 1) W4).set_ (.inl rfl) 3 _).alloc _).sl HS4.out (fun _ b off e h => by injection e with e; injection e with e1 e2; omega) rfl
  · go_enter Try.func106, Try.ntmps106
    go_wp2_with fail
    refine (hwi _).mono ?_
    rintro e w3 ⟨rfl, rfl⟩
    go_wp2_with fail
    obtain ⟨c4, W4, hcv, hs4, hb4, hz4⟩ := conv_any m.s1 HZ1.out (((w.alloc (.cells #[.int .u8 (m.k : Int), .int .u64 (m.n0 : Int), .int .u64 (m.n1 : Int), .int .u64 (m.n2 : Int), .int .u64 (m.n3 : Int), .int .u64 (m.n4 : Int), .int .u64 (m.n5 : Int), .string m.s0, .string m.s1, .slice m.A len m.c] 27)).alloc (.cells #[.int .i64 num, .int .i64 8, .int .i64 1] 93)).alloc (.cells #[.int .i64 num, .int .u8 2, .int .u64 0, .slice none 0 0, .int .i64 0] 95)) (w.heap.size + 1 + 1 + 1) (by simp only [World.size_alloc])
    rw [hcv]
    have hkf : Blk W4 (w.heap.size + 1 + 1) 95 #[.int .i64 num, .int .u8 2, .int .u64 0, .slice none 0 0, .int .i64 0] := (blk_top (by simp only [World.size_alloc])).below hb4 (by simp only [World.size_alloc]; omega)
    have f0 := hkf.cell 0
    have f1 := hkf.cell 1
    have f2 := hkf.cell 2
    have f3 := hkf.cell 3
    have f4 := hkf.cell 4
    have g3 := hkf.frozen 3
    simp only [List.getElem?_toArray, List.getElem?_cons_zero, List.getElem?_cons_succ] at f0 f1 f2 f3 f4
    have HB4 := hid ((bw_a (bw_a (bw_a (Below.refl _ w) (_ : Obj)) (_ : Obj)) (_ : Obj) : Below w.heap.size w (((w.alloc (.cells #[.int .u8 (m.k : Int), .int .u64 (m.n0 : Int), .int .u64 (m.n1 : Int), .int .u64 (m.n2 : Int), .int .u64 (m.n3 : Int), .int .u64 (m.n4 : Int), .int .u64 (m.n5 : Int), .string m.s0, .string m.s1, .slice m.A len m.c] 27)).alloc (.cells #[.int .i64 num, .int .i64 8, .int .i64 1] 93)).alloc (.cells #[.int .i64 num, .int .u8 2, .int .u64 0, .slice none 0 0, .int .i64 0] 95))).trans (hb4.mono (by simp only [World.size_alloc]; omega)))
    have HS4 := hid hs4
    have HZ4 := hid hz4
    clear hcv hb4 hs4 hz4 hkf
    go_wp2_with fail
    rw [← HR.out]
    show PartsR _ _ _ _ _ (.returned (.slice (some ⟨W4.heap.size, 0, none⟩) 1 1)) _
    refine parts_fin2 (s := m.s1) HPW.out hn1 hn2 (bw_a (HB4.out.setCell (p := ⟨w.heap.size + 1 + 1, 3, none⟩) (by show w.heap.size ≤ w.heap.size + 1 + 1; omega) _) _) (by have := HZ4.out; omega) (blk_top (by simp)) ?_
    exact (((Chg.refl (fun k => k = w.heap.size + 1 + 1) W4).set_ (.inl rfl) 3 _).alloc _).sl HS4.out (fun _ b off e h => by injection e with e; injection e with e1 e2; omega) rfl
  · go_enter Try.func106, Try.ntmps106
    go_wp2_with fail
    refine (hwi _).mono ?_
    rintro e w3 ⟨rfl, rfl⟩
    go_wp2_with fail
    obtain ⟨c4, W4, hcv, hs4, hb4, hz4⟩ := conv_any m.s0 HZ0.out (((w.alloc (.cells #[.int .u8 (m.k : Int), .int .u64 (m.n0 : Int), .int .u64 (m.n1 : Int), .int .u64 (m.n2 : Int), .int .u64 (m.n3 : Int), .int .u64 (m.n4 : Int), .int .u64 (m.n5 : Int), .string m.s0, .string m.s1, .slice m.A len m.c] 27)).alloc (.cells #[.int .i64 num, .int .i64 9, .int .i64 0] 93)).alloc (.cells #[.int .i64 num, .int .u8 2, .int .u64 0, .slice none 0 0, .int .i64 0] 95)) (w.heap.size + 1 + 1 + 1) (by simp only [World.size_alloc])
    rw [hcv]
    have hkf : Blk W4 (w.heap.size + 1 + 1) 95 #[.int .i64 num, .int .u8 2, .int .u64 0, .slice none 0 0, .int .i64 0] := (blk_top (by simp only [World.size_alloc])).below hb4 (by simp only [World.size_alloc]; omega)
    have f0 := hkf.cell 0
    have f1 := hkf.cell 1
    have f2 := hkf.cell 2
    have f3 := hkf.cell 3
    have f4 := hkf.cell 4
    have g3 := hkf.frozen 3
    simp only [List.getElem?_toArray, List.getElem?_cons_zero, List.getElem?_cons_succ] at f0 f1 f2 f3 f4
    have HB4 := hid ((bw_a (bw_a (bw_a (Below.refl _ w) (_ : Obj)) (_ : Obj)) (_ : Obj) : Below w.heap.size w (((w.alloc (.cells #[.int .u8 (m.k : Int), .int .u64 (m.n0 : Int), .int .u64 (m.n1 : Int), .int .u64 (m.n2 : Int), .int .u64 (m.n3 : Int), .int .u64 (m.n4 : Int), .int .u64 (m.n5 : Int), .string m.s0, .string m.s1, .slice m.A len m.c] 27)).alloc (.cells #[.int .i64 num, .int .i64 9, .int .i64 0] 93)).alloc (.cells #[.int .i64 num, .int .u8 2, .int .u64 0, .slice none 0 0, .int .i64 0] 95))).trans (hb4.mono (by simp only [World.size_alloc]; omega)))
    have HS4 := hid hs4
    have HZ4 := hid hz4
    clear hcv hb4 hs4 hz4 hkf
    go_wp2_with fail
    rw [← HR.out]
    show PartsR _ _ _ _ _ (.returned (.slice (some ⟨W4.heap.size, 0, none⟩) 1 1)) _
    refine parts_fin2 (s := m.s0) HPW.out hn1 hn2 (bw_a (HB4.out.setCell (p := ⟨w.heap.size + 1 + 1, 3, none⟩) (by show w.heap.size ≤ w.heap.size + 1 + 1; omega) _) _) (by have := HZ4.out; omega) (blk_top (by simp)) ?_
    exact (((Chg.refl (fun k => k = w.heap.size + 1 + 1) W4).set_ (.inl rfl) 3 _).alloc _).sl HS4.out (fun _ b off e h => by injection e with e; injection e with e1 e2; omega) rfl
  · go_enter Try.func106, Try.ntmps106
    go_wp2_with fail
    refine (hwi _).mono ?_
    rintro e w3 ⟨rfl, rfl⟩
    go_wp2_with fail
    obtain ⟨c4, W4, hcv, hs4, hb4, hz4⟩ := conv_any m.s1 HZ1.out (((w.alloc (.cells #[.int .u8 (m.k : Int), .int .u64 (m.n0 : Int), .int .u64 (m.n1 : Int), .int .u64 (m.n2 : Int), .int .u64 (m.n3 : Int), .int .u64 (m.n4 : Int), .int .u64 (m.n5 : Int), .string m.s0, .string m.s1, .slice m.A len m.c] 27)).alloc (.cells #[.int .i64 num, .int .i64 9, .int .i64 1] 93)).alloc (.cells #[.int .i64 num, .int .u8 2, .int .u64 0, .slice none 0 0, .int .i64 0] 95)) (w.heap.size + 1 + 1 + 1) (by simp only [World.size_alloc])
    rw [hcv]
    have hkf : Blk W4 (w.heap.size + 1 + 1) 95 #[.int .i64 num, .int .u8 2, .int .u64 0, .slice none 0 0, .int .i64 0] := (blk_top (by simp only [World.size_alloc])).below hb4 (by simp only [World.size_alloc]; omega)
    have f0 := hkf.cell 0
    have f1 := hkf.cell 1
    have f2 := hkf.cell 2
    have f3 := hkf.cell 3
    have f4 := hkf.cell 4
    have g3 := hkf.frozen 3
    simp only [List.getElem?_toArray, List.getElem?_cons_zero, List.getElem?_cons_succ] at f0 f1 f2 f3 f4
    have HB4 := hid ((bw_a (bw_a (bw_a (Below.refl _ w) (_ : Obj)) (_ : Obj)) (_ : Obj) : Below w.heap.size w (((w.alloc (.cells #[.int .u8 (m.k : Int), .int .u64 (m.n0 : Int), .int .u64 (m.n1 : Int), .int .u64 (m.n2 : Int), .int .u64 (m.n3 : Int), .int .u64 (m.n4 : Int), .int .u64 (m.n5 : Int), .string m.s0, .string m.s1, .slice m.A len m.c] 27)).alloc (.cells #[.int .i64 num, .int .i64 9, .int .i64 1] 93)).alloc (.cells #[.int .i64 num, .int .u8 2, .int .u64 0, .slice none 0 0, .int .i64 0] 95))).trans (hb4.mono (by simp only [World.size_alloc]; omega)))
    have HS4 := hid hs4
    have HZ4 := hid hz4
    clear hcv hb4 hs4 hz4 hkf
    go_wp2_with fail
    rw [← HR.out]
    show PartsR _ _ _ _ _ (.returned (.slice (some ⟨W4.heap.size, 0, none⟩) 1 1)) _
    refine parts_fin2 (s := m.s1) HPW.out hn1 hn2 (bw_a (HB4.out.setCell (p := ⟨w.heap.size + 1 + 1, 3, none⟩) (by show w.heap.size ≤ w.heap.size + 1 + 1; omega) _) _) (by have := HZ4.out; omega) (blk_top (by simp)) ?_
    exact (((Chg.refl (fun k => k = w.heap.size + 1 + 1) W4).set_ (.inl rfl) 3 _).alloc _).sl HS4.out (fun _ b off e h => by injection e with e; injection e with e1 e2; omega) rfl
end Go.Proofs.Ytnfodgjihdoncaa
set_option linter.unusedVariables false
namespace Go.Proofs.Ytnfodgjihdoncaa
open Go.RowKit
theorem w64_range (n : Int) : -9223372036854775808 ≤ wrap64 n ∧ wrap64 n ≤ 9223372036854775807 := by unfold wrap64; omega
set_option maxRecDepth 100000 in
set_option maxHeartbeats 4000000 in
theorem parts_zig (m : MV) (num i : Int) (w : World) (hok : MvOk w m) (hn1 : -9223372036854775808 ≤ num) (hn2 : num ≤ 9223372036854775807) :
    Calls Try.prog 106 #[mvV m, .agg #[.int .i64 num, .int .i64 3, .int .i64 i]] w (PartsR m num 3 i w) := by
  have hr := w64_range (m.num i : Nat)
  have hz := zig_range _ hr.1 hr.2
  have hpw : partW m num 3 i = [(num, ((0 : Nat) : Int), (zig (wrap64 (m.num i : Nat))).toNat, [])] := by
    unfold partW
    rw [if_neg (by omega), if_neg (by omega), if_pos rfl]
    rfl
  obtain ⟨q, hq⟩ : ∃ q : Nat, zig (wrap64 (m.num i : Nat)) = (q : Int) := ⟨_, (Int.toNat_of_nonneg hz.1).symm⟩
  have hzg := fun W => zig_any (wrap64 (m.num i : Nat)) W hr.1 hr.2
  rw [hq] at hpw hzg
  have hq2 : q ≤ 18446744073709551615 := by rw [hq] at hz; omega
  have hvi := fun W => vint_any m i W
  have hwi := fun W => swire_any 3 W
  rw [show wireN 3 = 0 from rfl] at hwi
  obtain ⟨R, hR⟩ : ∃ R, PartsR m num 3 i w = R := ⟨_, rfl⟩
  rw [hR]
  have HR := hid hR
  have HPW := hid hpw
  clear hR hpw hok hq hz hr
  generalize wireK 3 = wk at *
  generalize wrap64 (m.num i : Nat) = y at *
  unfold mvV mvA at *
  generalize m.l.length = len at *
  go_enter Try.func106, Try.ntmps106
  go_wp2_with fail
  refine (hwi _).mono ?_
  rintro e w3 ⟨rfl, rfl⟩
  go_wp2_with fail
  refine (hvi _).mono ?_
  rintro e w4 ⟨rfl, hb4⟩
  have hkf : Blk w4 (w.heap.size + 1 + 1) 95 #[.int .i64 num, .int .u8 0, .int .u64 0, .slice none 0 0, .int .i64 0] := (blk_top (by simp only [World.size_alloc])).below hb4 (by simp only [World.size_alloc]; omega)
  have hB4 := (bw_a (bw_a (bw_a (Below.refl _ w) _) _) _).trans (hb4.mono (by simp only [World.size_alloc]; omega))
  have hz4 := hb4.size
  simp only [World.size_alloc] at hz4
  have f0 := hkf.cell 0
  have f1 := hkf.cell 1
  have f2 := hkf.cell 2
  have f3 := hkf.cell 3
  have f4 := hkf.cell 4
  have g2 := hkf.frozen 2
  simp only [List.getElem?_toArray, List.getElem?_cons_zero, List.getElem?_cons_succ] at f0 f1 f2 f3 f4
  have HB4 := hid hB4
  clear hb4 hkf hB4
  go_wp2_with fail
  refine (hzg _).mono ?_
  rintro e w5 ⟨rfl, rfl⟩
  go_wp2_with fail
  rw [← HR.out]
  show PartsR _ _ _ _ _ (.returned (.slice (some ⟨w4.heap.size, 0, none⟩) 1 1)) _
  refine parts_fin (q := q) HPW.out (by omega) hq2 hn1 hn2 (bw_a (HB4.out.setCell (p := ⟨w.heap.size + 1 + 1, 2, none⟩) (by show w.heap.size ≤ w.heap.size + 1 + 1; omega) _) _) (by omega) (blk_top (by simp))
end Go.Proofs.Ytnfodgjihdoncaa
set_option linter.unusedVariables false
namespace Go.Proofs.Ytnfodgjihdoncaa
open Go.RowKit
/-- A row of bytes starts there. -/
def U8 (w : World) (A : Option Addr) : Prop := ∃ g cs k, A = some ⟨g, 0, none⟩ ∧ w.heap[g]? = some (.cells cs 5 k)
theorem conv8_any (s : ByteArray) (hsz : s.size ≤ 9223372036854775807) (W : World) (N : Nat) (hN : W.heap.size = N) : ∃ c W4, (convert 9 30 (.string s)).run Try.prog W = .ok (.slice (some ⟨N, 0, none⟩) s.size c) W4 ∧ Sl W4 (some ⟨N, 0, none⟩) c (s.data.toList.map bv) ∧ Below W.heap.size W W4 ∧ W4.heap.size = N + 1 ∧ U8 W4 (some ⟨N, 0, none⟩) := by
  obtain ⟨c, W4, h1, h2, h3, h4⟩ := conv_any s hsz W N hN
  refine ⟨c, W4, h1, h2, h3, h4, N, ?_⟩
  have h5 := (Lib.run_convert_string_bytes (P := Try.prog) W _ _ 5 s Try.underlying9 Try.underlying30 Try.underlying5).symm.trans h1
  injection h5 with h6 h7
  subst h7
  subst hN
  exact ⟨_, _, rfl, Lib.bytesWorld_at_new W _ s⟩
theorem U8.chg {S : Nat → Prop} {w w' : World} {A : Option Addr} (h : U8 w A) (hc : Chg S w w') (hn : ∀ g, A = some ⟨g, 0, none⟩ → ¬ S g) : U8 w' A := by
  obtain ⟨g, cs, k, rfl, hg⟩ := h
  exact ⟨g, cs, k, rfl, (hc.block g (Array.getElem?_eq_some_iff.1 hg).1 (hn g rfl)).trans hg⟩
theorem U8.ne_blk {w : World} {g : Nat} {t : TypeId} {cs : Array Value} {q : Nat} (h : U8 w (some ⟨g, 0, none⟩)) (hb : Blk w q t cs) (ht : t ≠ 5) : g ≠ q := by
  rintro rfl
  obtain ⟨g2, cs2, k2, e, h2⟩ := h
  injection e with e
  injection e with e
  subst e
  have h3 := h2.symm.trans hb
  injection h3 with h3
  injection h3 with h4 h5
  exact ht h5.symm
theorem U8.ne_own {w : World} {g : Nat} {B n sz : Nat} {v : Value} {t : TypeId} {xs : List Value} (h : U8 w (some ⟨g, 0, none⟩)) (ho : w.ownsRow B t sz v n xs) (ht : t ≠ 5) : ¬ v.ownBlock = some g := by
  intro hv
  rcases ho.2 with ⟨e, hx⟩ | ⟨g2, cap, cur, e, hb, hg, hnc, hcm, hcs, htake⟩
  · rw [e] at hv; simp [Value.ownBlock] at hv
  · rw [e] at hv
    simp only [Value.ownBlock, Option.some.injEq] at hv
    subst hv
    exact U8.ne_blk h hg ht rfl
theorem own_baseE {w : World} {B B2 n sz : Nat} {v : Value} {t : TypeId} {xs : List Value} (ho : w.ownsRow B t sz v n xs) (hle : B2 ≤ B) : w.ownsRow B2 t sz v n xs := by
  refine ⟨ho.1, ?_⟩
  rcases ho.2 with h | ⟨g2, cap, cur, e, hb, rest⟩
  · exact .inl h
  · exact .inr ⟨g2, cap, cur, e, Nat.le_trans hle hb, rest⟩
theorem FvOk.chg {S : Nat → Prop} {w w' : World} {f : FV} (h : FvOk w f) (hc : Chg S w w') (hu : U8 w f.s.A) (hn : ∀ g, f.s.A = some ⟨g, 0, none⟩ → ¬ S g) : FvOk w' f := by
  refine ⟨h.w0, h.w1, h.n, h.n1, h.n2, h.a1, h.a2, hc.sl h.s (fun _ b off e hb => ?_) rfl⟩
  obtain ⟨g, cs, k, e2, hg⟩ := hu
  rw [e2] at e
  injection e with e
  injection e with e
  subst e
  exact hn _ e2 hb
end Go.Proofs.Ytnfodgjihdoncaa
set_option linter.unusedVariables false
namespace Go.Proofs.Ytnfodgjihdoncaa
open Go.RowKit
set_option maxRecDepth 100000 in
set_option maxHeartbeats 4000000 in
theorem parts_list (m : MV) (num i : Int) (w : World) (hok : MvOk w m) (hlen : m.l.length ≤ 100) (hn1 : -9223372036854775808 ≤ num) (hn2 : num ≤ 9223372036854775807) :
    Calls Try.prog 106 #[mvV m, .agg #[.int .i64 num, .int .i64 10, .int .i64 i]] w (PartsR m num 10 i w) := by
  obtain ⟨i5, hi5, hi50, hi51, hi52⟩ := info_parts Try.infoField
  have hpw : partW m num 10 i = m.l.map (fun s => (num, 2, 0, s.data.toList)) := by
    unfold partW
    rw [if_pos rfl]
  have hwi := fun W => swire_any 10 W
  rw [show wireN 10 = 2 from rfl] at hwi
  have hsl := hok.l
  have hes := hok.e
  obtain ⟨R, hR⟩ : ∃ R, PartsR m num 10 i w = R := ⟨_, rfl⟩
  rw [hR]
  have HR := hid hR
  have HPW := hid hpw
  have HSL := hid hsl
  have HES := hid hes
  clear hR hpw hok hsl hes
  generalize wireK 10 = wk at *
  unfold mvV mvA
  obtain ⟨ln, hln⟩ : ∃ n, m.l.length = n := ⟨_, rfl⟩
  rw [hln] at hlen ⊢
  have HLN := hid hln
  clear hln
  go_enter Try.func106, Try.ntmps106
  go_wp2_with fail
  refine (hwi _).mono ?_
  rintro e w3 ⟨rfl, rfl⟩
  go_wp2_with fail
  have hk0 : Blk (((w.alloc (.cells #[.int .u8 (m.k : Int), .int .u64 (m.n0 : Int), .int .u64 (m.n1 : Int), .int .u64 (m.n2 : Int), .int .u64 (m.n3 : Int), .int .u64 (m.n4 : Int), .int .u64 (m.n5 : Int), .string m.s0, .string m.s1, .slice m.A ln m.c] 27)).alloc (.cells #[.int .i64 num, .int .i64 10, .int .i64 i] 93)).alloc (.cells #[.int .i64 num, .int .u8 2, .int .u64 0, .slice none 0 0, .int .i64 0] 95)) (w.heap.size + 1 + 1) 95 #[.int .i64 num, .int .u8 2, .int .u64 0, .slice none 0 0, .int .i64 0] := blk_top (by simp only [World.size_alloc])
  have hB0 := bw_a (bw_a (bw_a (Below.refl _ w) (.cells #[.int .u8 (m.k : Int), .int .u64 (m.n0 : Int), .int .u64 (m.n1 : Int), .int .u64 (m.n2 : Int), .int .u64 (m.n3 : Int), .int .u64 (m.n4 : Int), .int .u64 (m.n5 : Int), .string m.s0, .string m.s1, .slice m.A ln m.c] 27)) (.cells #[.int .i64 num, .int .i64 10, .int .i64 i] 93)) (.cells #[.int .i64 num, .int .u8 2, .int .u64 0, .slice none 0 0, .int .i64 0] 95)
  have HK0 := hid hk0
  have HB0 := hid hB0
  clear hk0 hB0
  generalize ((w.alloc (.cells #[.int .u8 (m.k : Int), .int .u64 (m.n0 : Int), .int .u64 (m.n1 : Int), .int .u64 (m.n2 : Int), .int .u64 (m.n3 : Int), .int .u64 (m.n4 : Int), .int .u64 (m.n5 : Int), .string m.s0, .string m.s1, .slice m.A ln m.c] 27)).alloc (.cells #[.int .i64 num, .int .i64 10, .int .i64 i] 93)).alloc (.cells #[.int .i64 num, .int .u8 2, .int .u64 0, .slice none 0 0, .int .i64 0] 95) = W0 at *
  go_loopw [8, 45] (fun ov ix wr => ∃ (j : Nat) (l : List FV) (Ax : Option Addr) (nx cx : Nat), j ≤ ln ∧ ix = .int .i64 (j : Int) ∧ l.length = j ∧ wr.ownsRow (w.heap.size + 3) 95 5 ov j (l.flatMap fvC) ∧ l.map fvW = (m.l.take j).map (fun s => (num, 2, 0, s.data.toList)) ∧ (∀ f ∈ l, FvOk wr f ∧ U8 wr f.s.A) ∧ Blk wr (w.heap.size + 1 + 1) 95 #[.int .i64 num, .int .u8 2, .int .u64 0, .slice Ax nx cx, .int .i64 0] ∧ Below w.heap.size w wr) (fun _ ix _ => ln - (intOf ix).toNat)
  case atStart => exact ⟨0, [], none, 0, 0, by omega, rfl, rfl, World.ownsRow_nil _ _ _ _, by simp, by simp, HK0.out, HB0.out⟩
  case round =>
    obtain ⟨j, l, Ax, nx, cx, hj, rfl, hll, hrow, hlm, hfo, hkf, hB⟩ := hrel
    by_cases hlt : j < ln
    · have hjl : j < m.l.length := by have := HLN.out; omega
      have hn0 : (m.l.map sv)[j]? = some (.string m.l[j]) := by rw [List.getElem?_map, List.getElem?_eq_getElem hjl]; rfl
      have hsz := HES.out m.l[j] (List.getElem_mem hjl)
      have htk : (m.l.take (j + 1)).map (fun s => (num, (2 : Int), (0 : Nat), s.data.toList)) = (m.l.take j).map (fun s => (num, (2 : Int), (0 : Nat), s.data.toList)) ++ [(num, 2, 0, m.l[j].data.toList)] := by rw [List.take_succ_eq_append_getElem hjl, List.map_append]; rfl
      obtain ⟨b, off, hA, hbw, t0⟩ := HSL.out.rd _ _ hn0
      have t0 := (hB.cell (p := ⟨b, off + j, none⟩) hbw).trans t0
      rw [hA]
      clear hn0 hA
      generalize m.l[j] = s at *
      obtain ⟨c4, W4, hcv, hs4, hb4, hz4, hu4⟩ := conv8_any s hsz wr wr.heap.size rfl
      have hji : (j : Int) < (ln : Int) := by omega
      have hj0 : (0 : Int) ≤ (j : Int) := by omega
      have hkl := hkf.lt
      have hkf4 := hkf.below hb4 hkf.lt
      have hc5 : Chg (fun k => k = w.heap.size + 1 + 1) wr (W4.setCell ⟨w.heap.size + 1 + 1, 3, none⟩ (.slice (some ⟨wr.heap.size, 0, none⟩) s.size c4)) := Chg.set_ (S := fun k => k = w.heap.size + 1 + 1) (Chg.of_new hb4) (.inl rfl) 3 _
      have hrow5 := own_chgS hrow hc5 (fun g hg e => by have := (hrow.lt g hg).1; omega)
      have hkf5 := hkf4.set_ 3 (.slice (some ⟨wr.heap.size, 0, none⟩) s.size c4)
      have f0 := hkf4.cell 0
      have f1 := hkf4.cell 1
      have f2 := hkf4.cell 2
      have f3 := hkf4.cell 3
      have f4 := hkf4.cell 4
      have g3 := hkf4.frozen 3
      simp only [List.getElem?_toArray, List.getElem?_cons_zero, List.getElem?_cons_succ] at f0 f1 f2 f3 f4
      simp at hkf5
      have HB := hid hB
      have HROW := hid hrow
      have HROW5 := hid hrow5
      have HLM := hid hlm
      have HFO := hid hfo
      have HKF := hid hkf
      have HKF5 := hid hkf5
      have HC5 := hid hc5
      have HCV := hid hcv
      have HS4 := hid hs4
      have HB4 := hid hb4
      have hzz : wr.heap.size + 1 ≤ W4.heap.size := by rw [hz4]; exact Nat.le_refl _
      have HZ4 := hid hz4
      have HU4 := hid hu4
      have HTK := hid htk
      have HLL := hid hll
      clear hB hrow hrow5 hlm hfo hkf hkf5 hkf4 hc5 hcv hs4 hb4 hz4 hu4 htk hll
      go_wp2_with fail
      rw [HCV.out]
      have hse : (W4.setCell ⟨w.heap.size + 1 + 1, 3, none⟩ (.slice (some ⟨wr.heap.size, 0, none⟩) s.size c4)).heap.size = W4.heap.size := by simp
      have hrd := Rd.new (W4.setCell ⟨w.heap.size + 1 + 1, 3, none⟩ (.slice (some ⟨wr.heap.size, 0, none⟩) s.size c4)) 95 #[.int .i64 num, .int .u8 2, .int .u64 0, .slice (some ⟨wr.heap.size, 0, none⟩) s.size c4, .int .i64 0]
      rw [hse] at hrd
      have HRD := hid hrd
      clear hse hrd
      go_wp2_with (at_builtin; refine wpList_append_rd rfl (.tmp 52) (.tmp 54) 87 rfl (w.heap.size + 3) 95 i5 (.agg #[.int .i64 0, .int .u8 0, .int .u64 0, .slice none 0 0, .int .i64 0]) 5 56 Try.underlying87 hi5 hi50 hi51 hi52 rfl (by decide) _ _ _ rfl (HROW5.out.alloc _) (some ⟨W4.heap.size, 0, none⟩) 1 1 [.int .i64 num, .int .u8 2, .int .u64 0, .slice (some ⟨wr.heap.size, 0, none⟩) s.size c4, .int .i64 0] rfl rfl HRD.out (fun h => by cases h) (by simp [Value.oneCell']) (by simp only [maxLen]; omega) (by omega) (by simp; omega) ?_; intro v6 w6 hown6 hgrow6)
      have hc6 := (Chg.of_new (S := fun k => u8.ownBlock = some k) (bw_a (Below.refl _ (W4.setCell ⟨w.heap.size + 1 + 1, 3, none⟩ (.slice (some ⟨wr.heap.size, 0, none⟩) s.size c4))) (.cells #[.int .i64 num, .int .u8 2, .int .u64 0, .slice (some ⟨wr.heap.size, 0, none⟩) s.size c4, .int .i64 0] 95))).trans (.of_grown hgrow6 fun g hg => hg)
      have hB5 := (HB.out.trans (HB4.out.mono HB.out.size)).setCell (p := ⟨w.heap.size + 1 + 1, 3, none⟩) (by show w.heap.size ≤ w.heap.size + 1 + 1; omega) (.slice (some ⟨wr.heap.size, 0, none⟩) s.size c4)
      have hB6 := bw_g (bw_a hB5 (.cells #[.int .i64 num, .int .u8 2, .int .u64 0, .slice (some ⟨wr.heap.size, 0, none⟩) s.size c4, .int .i64 0] 95)) hgrow6 (fun k ek => by have := (HROW.out.lt k ek).1; omega)
      have hc45 : Chg (fun k => k = w.heap.size + 1 + 1) W4 (W4.setCell ⟨w.heap.size + 1 + 1, 3, none⟩ (.slice (some ⟨wr.heap.size, 0, none⟩) s.size c4)) := Chg.set_ (S := fun k => k = w.heap.size + 1 + 1) (Chg.refl _ W4) (.inl rfl) 3 _
      refine ⟨⟨j + 1, l ++ [⟨num, 2, 0, ⟨some ⟨wr.heap.size, 0, none⟩, c4, s.data.toList⟩, 0⟩], some ⟨wr.heap.size, 0, none⟩, s.size, c4, by omega, by go_num, by rw [List.length_append, HLL.out]; rfl, ?_, ?_, ?_, hc6.blk HKF5.out (fun ek => by have := (HROW.out.lt _ ek).1; omega), hB6⟩, by simp [intOf] <;> omega⟩
      · rw [List.flatMap_append]
        simpa [fvC] using hown6
      · rw [List.map_append, HLM.out, HTK.out]; rfl
      · intro f hf
        rcases List.mem_append.1 hf with hf | hf
        · obtain ⟨h1, h2⟩ := HFO.out f hf
          have n1 : ∀ g, f.s.A = some ⟨g, 0, none⟩ → ¬ g = w.heap.size + 1 + 1 := fun g e => by
            rw [e] at h2
            exact U8.ne_blk h2 HKF.out (by decide)
          have h3 := FvOk.chg h1 HC5.out h2 n1
          have h4 := U8.chg h2 HC5.out n1
          have n2 : ∀ g, f.s.A = some ⟨g, 0, none⟩ → ¬ u8.ownBlock = some g := fun g e => by
            rw [e] at h4
            exact U8.ne_own h4 HROW5.out (by decide)
          exact ⟨FvOk.chg h3 hc6 h4 n2, U8.chg h4 hc6 n2⟩
        · simp only [List.mem_singleton] at hf
          subst hf
          have h5 := hc45.sl (n := s.data.toList.length) HS4.out (fun _ b off e h => by injection e with e; injection e with e1 e2; omega) (by rw [List.length_map])
          have h6 := HU4.out.chg hc45 (fun g e h => by injection e with e; injection e with e1 e2; omega)
          have h7 := hc6.sl (n := s.data.toList.length) h5 (fun _ b off e h => by injection e with e; injection e with e1 e2; have := (HROW.out.lt _ h).2; omega) (by rw [List.length_map])
          have h8 := h6.chg hc6 (fun g e h => by injection e with e; injection e with e1 e2; have := (HROW.out.lt _ h).2; omega)
          exact ⟨⟨by dsimp only; omega, by dsimp only; omega, by dsimp only; omega, hn1, hn2, by dsimp only; omega, by dsimp only; omega, h7⟩, h8⟩
    · obtain rfl : j = ln := by omega
      go_wp2_with fail
      rw [← HR.out]
      refine ⟨l, _, rfl, by rw [hll]; exact own_baseE hrow (by omega), by rw [hlm, HPW.out, List.take_of_length_le (by rw [HLN.out]; omega)], fun f hf => (hfo f hf).1, hB⟩
end Go.Proofs.Ytnfodgjihdoncaa
