/- encode.parts of a text. · encode.parts of a number with a sign. · encode.parts of a list. · encode.parts of a list: the walk. · The document's Clean and Check of messages. · The document's Check of messages. · encode.Field. · A field's bytes, in the document's words. · A range over a function of which the iterator's own memory ends where it says itself, and whose arguments are told by a relation. · encode.each: the bytes of a message's fields, one by one. · encode.Bytes. · The document's Field. · What a message's bytes say: plain mathematics. · How long a message's bytes are at most, and in which order its fields stand: plain mathematics. · A message of which one field has nothing: plain mathematics. -/
import Derived.Test.YtealjpolomhdeaaGreatG4
import Derived.Laws.AppendOwn
import Derived.Test.YtealjpolomhdeaaGreatG0
import Derived.Shelf.RegionOpen
import Derived.Sort.QuietIn
set_option linter.unusedVariables false
namespace Go.Proofs.YtealjpolomhdeaaGreat
open Go.RowKit
/-- A string's bytes, in a row of their own. -/
theorem conv_any (s : ByteArray) (hsz : s.size ≤ 9223372036854775807) (W : World) (N : Nat) (hN : W.heap.size = N) : ∃ c W4, (convert 9 22 (.string s)).run Tryz.prog W = .ok (.slice (some ⟨N, 0, none⟩) s.size c) W4 ∧ Sl W4 (some ⟨N, 0, none⟩) c (s.data.toList.map bv) ∧ Below W.heap.size W W4 ∧ W4.heap.size = N + 1 := by
  subst hN
  refine ⟨_, _, Lib.run_convert_string_bytes W _ _ 5 s Tryz.underlying9 Tryz.underlying22 Tryz.underlying5, ?_, ?_, Lib.bytesWorld_size W _ s⟩
  · refine ⟨?_, ?_, (fun h => by cases h), fun k u hk => ⟨W.heap.size, 0, rfl, by rw [Lib.bytesWorld_size]; omega, ?_⟩⟩
    · have h := grownCap_ge W s.size 0 5
      rw [List.length_map]
      exact h
    · exact grownCap_le_maxLen W s.size 0 5 hsz
    · rw [List.getElem?_map] at hk
      obtain ⟨x, hx, rfl⟩ := Option.map_eq_some_iff.1 hk
      have hl : k < s.data.toList.length := (List.getElem?_eq_some_iff.1 hx).1
      have h := Lib.bytesWorld_cell W 5 s k hl
      rw [Nat.zero_add, h, List.getD, hx]
      rfl
  · refine ⟨?_, ?_, ?_, by rw [Lib.bytesWorld_size]; omega, fun k hk => Lib.bytesWorld_at_old W _ s k hk⟩
    all_goals first | rfl | simp [Lib.bytesWorld, World.freeze, World.alloc, World.drew, -World.alloc_eq, -World.drew_eq]
theorem parts_fin2 {w W : World} {m : MV} {num t i : Int} {s : ByteArray} {g c : Nat} {A : Option Addr} (hpw : partW m num t i = [(num, 2, 0, s.data.toList)]) (hn1 : -9223372036854775808 ≤ num) (hn2 : num ≤ 9223372036854775807) (hB : Below w.heap.size w W) (hg : w.heap.size ≤ g) (hk : Blk W g 76 #[.int .i64 num, .int .u8 2, .int .u64 0, .slice A s.size c, .int .i64 0]) (hs : Sl W A c (s.data.toList.map bv)) : PartsR m num t i w (.returned (.slice (some ⟨g, 0, none⟩) 1 1)) W := by
  refine ⟨[⟨num, 2, 0, ⟨A, c, s.data.toList⟩, 0⟩], _, rfl, own_one hg hk, by rw [hpw]; rfl, fun f hf => ?_, hB⟩
  simp only [List.mem_singleton] at hf
  subst hf
  exact ⟨by dsimp only; omega, by dsimp only; omega, by dsimp only; omega, hn1, hn2, by dsimp only; omega, by dsimp only; omega, hs⟩
set_option maxRecDepth 100000 in
set_option maxHeartbeats 4000000 in
theorem parts_text (m : MV) (num t : Int) (i : Nat) (w : World) (hok : MvOk w m) (hi : i ≤ 1) (ht : t = 7 ∨ t = 8 ∨ t = 9) (hn1 : -9223372036854775808 ≤ num) (hn2 : num ≤ 9223372036854775807) :
    Calls Tryz.prog 96 #[mvV m, .agg #[.int .i64 num, .int .i64 t, .int .i64 (i : Int)]] w (PartsR m num t i w) := by
  have hpw : partW m num t (i : Int) = [(num, 2, 0, (m.text (i : Int)).data.toList)] := by
    unfold partW
    rw [if_neg (by omega), if_pos (by omega)]
  have hww : wireN t = 2 := by unfold wireN; rw [if_neg (by omega), if_neg (by omega), if_pos (by omega)]
  obtain ⟨R, hR⟩ : ∃ R, PartsR m num t i w = R := ⟨_, rfl⟩
  rw [hR]
  have HR := hid hR
  have hwi := fun W => swire_any t W
  have HPW := hid hpw
  rw [hww] at hwi
  have hz0 := hok.s 0
  have hz1 := hok.s 1
  have HZ0 : Hid (m.s0.size ≤ 9223372036854775807) := hid hz0
  have HZ1 : Hid (m.s1.size ≤ 9223372036854775807) := hid hz1
  clear hR hpw hok hww hz0 hz1
  generalize wireK t = wk at *
  have hmi : m.text (i : Int) = [m.s0, m.s1].getD i ⟨#[]⟩ := by
    have hi : i = 0 ∨ i = 1 := by omega
    rcases hi with rfl | rfl <;> rfl
  rw [hmi] at HPW
  clear hmi
  unfold mvV mvA
  generalize m.l.length = len at *
  have hi : i = 0 ∨ i = 1 := by omega
  rcases ht with rfl | rfl | rfl <;> rcases hi with rfl | rfl
  · go_enter Tryz.func96, Tryz.ntmps96
    go_wp2_with fail
    refine (hwi _).mono ?_
    rintro e w3 ⟨rfl, rfl⟩
    go_wp2_with fail
    obtain ⟨c4, W4, hcv, hs4, hb4, hz4⟩ := conv_any m.s0 HZ0.out (((w.alloc (.cells #[.int .u8 (m.k : Int), .int .u64 (m.n0 : Int), .int .u64 (m.n1 : Int), .int .u64 (m.n2 : Int), .int .u64 (m.n3 : Int), .int .u64 (m.n4 : Int), .int .u64 (m.n5 : Int), .string m.s0, .string m.s1, .slice m.A len m.c] 29)).alloc (.cells #[.int .i64 num, .int .i64 7, .int .i64 0] 69)).alloc (.cells #[.int .i64 num, .int .u8 2, .int .u64 0, .slice none 0 0, .int .i64 0] 76)) (w.heap.size + 1 + 1 + 1) (by simp only [World.size_alloc])
    rw [hcv]
    have hkf : Blk W4 (w.heap.size + 1 + 1) 76 #[.int .i64 num, .int .u8 2, .int .u64 0, .slice none 0 0, .int .i64 0] := (blk_top (by simp only [World.size_alloc])).below hb4 (by simp only [World.size_alloc]; omega)
    have f0 := hkf.cell 0
    have f1 := hkf.cell 1
    have f2 := hkf.cell 2
    have f3 := hkf.cell 3
    have f4 := hkf.cell 4
    have g3 := hkf.frozen 3
    simp only [List.getElem?_toArray, List.getElem?_cons_zero, List.getElem?_cons_succ] at f0 f1 f2 f3 f4
    have HB4 := hid ((bw_a (bw_a (bw_a (Below.refl _ w) (_ : Obj)) (_ : Obj)) (_ : Obj) : Below w.heap.size w (((w.alloc (.cells #[.int .u8 (m.k : Int), .int .u64 (m.n0 : Int), .int .u64 (m.n1 : Int), .int .u64 (m.n2 : Int), .int .u64 (m.n3 : Int), .int .u64 (m.n4 : Int), .int .u64 (m.n5 : Int), .string m.s0, .string m.s1, .slice m.A len m.c] 29)).alloc (.cells #[.int .i64 num, .int .i64 7, .int .i64 0] 69)).alloc (.cells #[.int .i64 num, .int .u8 2, .int .u64 0, .slice none 0 0, .int .i64 0] 76))).trans (hb4.mono (by simp only [World.size_alloc]; omega)))
    have HS4 := hid hs4
    have HZ4 := hid hz4
    clear hcv hb4 hs4 hz4 hkf
    go_wp2_with fail
    rw [← HR.out]
    show PartsR _ _ _ _ _ (.returned (.slice (some ⟨W4.heap.size, 0, none⟩) 1 1)) _
    refine parts_fin2 (s := m.s0) HPW.out hn1 hn2 (bw_a (HB4.out.setCell (p := ⟨w.heap.size + 1 + 1, 3, none⟩) (by show w.heap.size ≤ w.heap.size + 1 + 1; omega) _) _) (by have := HZ4.out; omega) (blk_top (by simp)) ?_
    exact (((Chg.refl (fun k => k = w.heap.size + 1 + 1) W4).set_ (.inl rfl) 3 _).alloc _).sl HS4.out (fun _ b off e h => by injection e with e; injection e with e1 e2; omega) rfl
  · go_enter Tryz.func96, Tryz.ntmps96
    go_wp2_with fail
    refine (hwi _).mono ?_
    rintro e w3 ⟨rfl, rfl⟩
    go_wp2_with fail
    obtain ⟨c4, W4, hcv, hs4, hb4, hz4⟩ := conv_any m.s1 HZ1.out (((w.alloc (.cells #[.int .u8 (m.k : Int), .int .u64 (m.n0 : Int), .int .u64 (m.n1 : Int), .int .u64 (m.n2 : Int), .int .u64 (m.n3 : Int), .int .u64 (m.n4 : Int), .int .u64 (m.n5 : Int), .string m.s0, .string m.s1, .slice m.A len m.c] 29)).alloc (.cells #[.int .i64 num, .int .i64 7, .int .i64 1] 69)).alloc (.cells #[.int .i64 num, .int .u8 2, .int .u64 0, .slice none 0 0, .int .i64 0] 76)) (w.heap.size + 1 + 1 + 1) (by simp only [World.size_alloc])
    rw [hcv]
    have hkf : Blk W4 (w.heap.size + 1 + 1) 76 #[.int .i64 num, .int .u8 2, .int .u64 0, .slice none 0 0, .int .i64 0] := (blk_top (by simp only [World.size_alloc])).below hb4 (by simp only [World.size_alloc]; omega)
    have f0 := hkf.cell 0
    have f1 := hkf.cell 1
    have f2 := hkf.cell 2
    have f3 := hkf.cell 3
    have f4 := hkf.cell 4
    have g3 := hkf.frozen 3
    simp only [List.getElem?_toArray, List.getElem?_cons_zero, List.getElem?_cons_succ] at f0 f1 f2 f3 f4
    have HB4 := hid ((bw_a (bw_a (bw_a (Below.refl _ w) (_ : Obj)) (_ : Obj)) (_ : Obj) : Below w.heap.size w (((w.alloc (.cells #[.int .u8 (m.k : Int), .int .u64 (m.n0 : Int), .int .u64 (m.n1 : Int), .int .u64 (m.n2 : Int), .int .u64 (m.n3 : Int), .int .u64 (m.n4 : Int), .int .u64 (m.n5 : Int), .string m.s0, .string m.s1, .slice m.A len m.c] 29)).alloc (.cells #[.int .i64 num, .int .i64 7, .int .i64 1] 69)).alloc (.cells #[.int .i64 num, .int .u8 2, .int .u64 0, .slice none 0 0, .int .i64 0] 76))).trans (hb4.mono (by simp only [World.size_alloc]; omega)))
    have HS4 := hid hs4
    have HZ4 := hid hz4
    clear hcv hb4 hs4 hz4 hkf
    go_wp2_with fail
    rw [← HR.out]
    show PartsR _ _ _ _ _ (.returned (.slice (some ⟨W4.heap.size, 0, none⟩) 1 1)) _
    refine parts_fin2 (s := m.s1) HPW.out hn1 hn2 (bw_a (HB4.out.setCell (p := ⟨w.heap.size + 1 + 1, 3, none⟩) (by show w.heap.size ≤ w.heap.size + 1 + 1; omega) _) _) (by have := HZ4.out; omega) (blk_top (by simp)) ?_
    exact (((Chg.refl (fun k => k = w.heap.size + 1 + 1) W4).set_ (.inl rfl) 3 _).alloc _).sl HS4.out (fun _ b off e h => by injection e with e; injection e with e1 e2; omega) rfl
  · go_enter Tryz.func96, Tryz.ntmps96
    go_wp2_with fail
    refine (hwi _).mono ?_
    rintro e w3 ⟨rfl, rfl⟩
    go_wp2_with fail
    obtain ⟨c4, W4, hcv, hs4, hb4, hz4⟩ := conv_any m.s0 HZ0.out (((w.alloc (.cells #[.int .u8 (m.k : Int), .int .u64 (m.n0 : Int), .int .u64 (m.n1 : Int), .int .u64 (m.n2 : Int), .int .u64 (m.n3 : Int), .int .u64 (m.n4 : Int), .int .u64 (m.n5 : Int), .string m.s0, .string m.s1, .slice m.A len m.c] 29)).alloc (.cells #[.int .i64 num, .int .i64 8, .int .i64 0] 69)).alloc (.cells #[.int .i64 num, .int .u8 2, .int .u64 0, .slice none 0 0, .int .i64 0] 76)) (w.heap.size + 1 + 1 + 1) (by simp only [World.size_alloc])
    rw [hcv]
    have hkf : Blk W4 (w.heap.size + 1 + 1) 76 #[.int .i64 num, .int .u8 2, .int .u64 0, .slice none 0 0, .int .i64 0] := (blk_top (by simp only [World.size_alloc])).below hb4 (by simp only [World.size_alloc]; omega)
    have f0 := hkf.cell 0
    have f1 := hkf.cell 1
    have f2 := hkf.cell 2
    have f3 := hkf.cell 3
    have f4 := hkf.cell 4
    have g3 := hkf.frozen 3
    simp only [List.getElem?_toArray, List.getElem?_cons_zero, List.getElem?_cons_succ] at f0 f1 f2 f3 f4
    have HB4 := hid ((bw_a (bw_a (bw_a (Below.refl _ w) (_ : Obj)) (_ : Obj)) (_ : Obj) : Below w.heap.size w (((w.alloc (.cells #[.int .u8 (m.k : Int), .int .u64 (m.n0 : Int), .int .u64 (m.n1 : Int), .int .u64 (m.n2 : Int), .int .u64 (m.n3 : Int), .int .u64 (m.n4 : Int), .int .u64 (m.n5 : Int), .string m.s0, .string m.s1, .slice m.A len m.c] 29)).alloc (.cells #[.int .i64 num, .int .i64 8, .int .i64 0] 69)).alloc (.cells #[.int .i64 num, .int .u8 2, .int .u64 0, .slice none 0 0, .int .i64 0] 76))).trans (hb4.mono (by simp only [World.size_alloc]; omega)))
    have HS4 := hid hs4
    have HZ4 := hid hz4
    clear hcv hb4 hs4 hz4 hkf
    go_wp2_with fail
    rw [← HR.out]
    show PartsR _ _ _ _ _ (.returned (.slice (some ⟨W4.heap.size, 0, none⟩) 1 1)) _
    refine parts_fin2 (s := m.s0) HPW.out hn1 hn2 (bw_a (HB4.out.setCell (p := ⟨w.heap.size + 1 + 1, 3, none⟩) (by show w.heap.size ≤ w.heap.size + 1 + 1; omega) _) _) (by have := HZ4.out; omega) (blk_top (by simp)) ?_
    exact (((Chg.refl (fun k => k = w.heap.size + 1 + 1) W4).set_ (.inl rfl) 3 _).alloc _).sl HS4.out (fun _ b off e h => by injection e with e; injection e with e1 e2; omega) rfl
  · go_enter Tryz.func96, Tryz.ntmps96
    go_wp2_with fail
    refine (hwi _).mono ?_
    rintro e w3 ⟨rfl, rfl⟩
    go_wp2_with fail
    obtain ⟨c4, W4, hcv, hs4, hb4, hz4⟩ := conv_any m.s1 HZ1.out (((w.alloc (.cells #[.int .u8 (m.k : Int), .int .u64 (m.n0 : Int), .int .u64 (m.n1 : Int), .int .u64 (m.n2 : Int), .int .u64 (m.n3 : Int), .int .u64 (m.n4 : Int), .int .u64 (m.n5 : Int), .string m.s0, .string m.s1, .slice m.A len m.c] 29)).alloc (.cells #[.int .i64 num, .int .i64 8, .int .i64 1] 69)).alloc (.cells #[.int .i64 num, .int .u8 2, .int .u64 0, .slice none 0 0, .int .i64 0] 76)) (w.heap.size + 1 + 1 + 1) (by simp only [World.size_alloc])
    rw [hcv]
    have hkf : Blk W4 (w.heap.size + 1 + 1) 76 #[.int .i64 num, .int .u8 2, .int .u64 0, .slice none 0 0, .int .i64 0] := (blk_top (by simp only [World.size_alloc])).below hb4 (by simp only [World.size_alloc]; omega)
    have f0 := hkf.cell 0
    have f1 := hkf.cell 1
    have f2 := hkf.cell 2
    have f3 := hkf.cell 3
    have f4 := hkf.cell 4
    have g3 := hkf.frozen 3
    simp only [List.getElem?_toArray, List.getElem?_cons_zero, List.getElem?_cons_succ] at f0 f1 f2 f3 f4
    have HB4 := hid ((bw_a (bw_a (bw_a (Below.refl _ w) (_ : Obj)) (_ : Obj)) (_ : Obj) : Below w.heap.size w (((w.alloc (.cells #[.int .u8 (m.k : Int), .int .u64 (m.n0 : Int), .int .u64 (m.n1 : Int), .int .u64 (m.n2 : Int), .int .u64 (m.n3 : Int), .int .u64 (m.n4 : Int), .int .u64 (m.n5 : Int), .string m.s0, .string m.s1, .slice m.A len m.c] 29)).alloc (.cells #[.int .i64 num, .int .i64 8, .int .i64 1] 69)).alloc (.cells #[.int .i64 num, .int .u8 2, .int .u64 0, .slice none 0 0, .int .i64 0] 76))).trans (hb4.mono (by simp only [World.size_alloc]; omega)))
    have HS4 := hid hs4
    have HZ4 := hid hz4
    clear hcv hb4 hs4 hz4 hkf
    go_wp2_with fail
    rw [← HR.out]
    show PartsR _ _ _ _ _ (.returned (.slice (some ⟨W4.heap.size, 0, none⟩) 1 1)) _
    refine parts_fin2 (s := m.s1) HPW.out hn1 hn2 (bw_a (HB4.out.setCell (p := ⟨w.heap.size + 1 + 1, 3, none⟩) (by show w.heap.size ≤ w.heap.size + 1 + 1; omega) _) _) (by have := HZ4.out; omega) (blk_top (by simp)) ?_
    exact (((Chg.refl (fun k => k = w.heap.size + 1 + 1) W4).set_ (.inl rfl) 3 _).alloc _).sl HS4.out (fun _ b off e h => by injection e with e; injection e with e1 e2; omega) rfl
  · go_enter Tryz.func96, Tryz.ntmps96
    go_wp2_with fail
    refine (hwi _).mono ?_
    rintro e w3 ⟨rfl, rfl⟩
    go_wp2_with fail
    obtain ⟨c4, W4, hcv, hs4, hb4, hz4⟩ := conv_any m.s0 HZ0.out (((w.alloc (.cells #[.int .u8 (m.k : Int), .int .u64 (m.n0 : Int), .int .u64 (m.n1 : Int), .int .u64 (m.n2 : Int), .int .u64 (m.n3 : Int), .int .u64 (m.n4 : Int), .int .u64 (m.n5 : Int), .string m.s0, .string m.s1, .slice m.A len m.c] 29)).alloc (.cells #[.int .i64 num, .int .i64 9, .int .i64 0] 69)).alloc (.cells #[.int .i64 num, .int .u8 2, .int .u64 0, .slice none 0 0, .int .i64 0] 76)) (w.heap.size + 1 + 1 + 1) (by simp only [World.size_alloc])
    rw [hcv]
    have hkf : Blk W4 (w.heap.size + 1 + 1) 76 #[.int .i64 num, .int .u8 2, .int .u64 0, .slice none 0 0, .int .i64 0] := (blk_top (by simp only [World.size_alloc])).below hb4 (by simp only [World.size_alloc]; omega)
    have f0 := hkf.cell 0
    have f1 := hkf.cell 1
    have f2 := hkf.cell 2
    have f3 := hkf.cell 3
    have f4 := hkf.cell 4
    have g3 := hkf.frozen 3
    simp only [List.getElem?_toArray, List.getElem?_cons_zero, List.getElem?_cons_succ] at f0 f1 f2 f3 f4
    have HB4 := hid ((bw_a (bw_a (bw_a (Below.refl _ w) (_ : Obj)) (_ : Obj)) (_ : Obj) : Below w.heap.size w (((w.alloc (.cells #[.int .u8 (m.k : Int), .int .u64 (m.n0 : Int), .int .u64 (m.n1 : Int), .int .u64 (m.n2 : Int), .int .u64 (m.n3 : Int), .int .u64 (m.n4 : Int), .int .u64 (m.n5 : Int), .string m.s0, .string m.s1, .slice m.A len m.c] 29)).alloc (.cells #[.int .i64 num, .int .i64 9, .int .i64 0] 69)).alloc (.cells #[.int .i64 num, .int .u8 2, .int .u64 0, .slice none 0 0, .int .i64 0] 76))).trans (hb4.mono (by simp only [World.size_alloc]; omega)))
    have HS4 := hid hs4
    have HZ4 := hid hz4
    clear hcv hb4 hs4 hz4 hkf
    go_wp2_with fail
    rw [← HR.out]
    show PartsR _ _ _ _ _ (.returned (.slice (some ⟨W4.heap.size, 0, none⟩) 1 1)) _
    refine parts_fin2 (s := m.s0) HPW.out hn1 hn2 (bw_a (HB4.out.setCell (p := ⟨w.heap.size + 1 + 1, 3, none⟩) (by show w.heap.size ≤ w.heap.size + 1 + 1; omega) _) _) (by have := HZ4.out; omega) (blk_top (by simp)) ?_
    exact (((Chg.refl (fun k => k = w.heap.size + 1 + 1) W4).set_ (.inl rfl) 3 _).alloc _).sl HS4.out (fun _ b off e h => by injection e with e; injection e with e1 e2; omega) rfl
  · go_enter Tryz.func96, Tryz.ntmps96
    go_wp2_with fail
    refine (hwi _).mono ?_
    rintro e w3 ⟨rfl, rfl⟩
    go_wp2_with fail
    obtain ⟨c4, W4, hcv, hs4, hb4, hz4⟩ := conv_any m.s1 HZ1.out (((w.alloc (.cells #[.int .u8 (m.k : Int), .int .u64 (m.n0 : Int), .int .u64 (m.n1 : Int), .int .u64 (m.n2 : Int), .int .u64 (m.n3 : Int), .int .u64 (m.n4 : Int), .int .u64 (m.n5 : Int), .string m.s0, .string m.s1, .slice m.A len m.c] 29)).alloc (.cells #[.int .i64 num, .int .i64 9, .int .i64 1] 69)).alloc (.cells #[.int .i64 num, .int .u8 2, .int .u64 0, .slice none 0 0, .int .i64 0] 76)) (w.heap.size + 1 + 1 + 1) (by simp only [World.size_alloc])
    rw [hcv]
    have hkf : Blk W4 (w.heap.size + 1 + 1) 76 #[.int .i64 num, .int .u8 2, .int .u64 0, .slice none 0 0, .int .i64 0] := (blk_top (by simp only [World.size_alloc])).below hb4 (by simp only [World.size_alloc]; omega)
    have f0 := hkf.cell 0
    have f1 := hkf.cell 1
    have f2 := hkf.cell 2
    have f3 := hkf.cell 3
    have f4 := hkf.cell 4
    have g3 := hkf.frozen 3
    simp only [List.getElem?_toArray, List.getElem?_cons_zero, List.getElem?_cons_succ] at f0 f1 f2 f3 f4
    have HB4 := hid ((bw_a (bw_a (bw_a (Below.refl _ w) (_ : Obj)) (_ : Obj)) (_ : Obj) : Below w.heap.size w (((w.alloc (.cells #[.int .u8 (m.k : Int), .int .u64 (m.n0 : Int), .int .u64 (m.n1 : Int), .int .u64 (m.n2 : Int), .int .u64 (m.n3 : Int), .int .u64 (m.n4 : Int), .int .u64 (m.n5 : Int), .string m.s0, .string m.s1, .slice m.A len m.c] 29)).alloc (.cells #[.int .i64 num, .int .i64 9, .int .i64 1] 69)).alloc (.cells #[.int .i64 num, .int .u8 2, .int .u64 0, .slice none 0 0, .int .i64 0] 76))).trans (hb4.mono (by simp only [World.size_alloc]; omega)))
    have HS4 := hid hs4
    have HZ4 := hid hz4
    clear hcv hb4 hs4 hz4 hkf
    go_wp2_with fail
    rw [← HR.out]
    show PartsR _ _ _ _ _ (.returned (.slice (some ⟨W4.heap.size, 0, none⟩) 1 1)) _
    refine parts_fin2 (s := m.s1) HPW.out hn1 hn2 (bw_a (HB4.out.setCell (p := ⟨w.heap.size + 1 + 1, 3, none⟩) (by show w.heap.size ≤ w.heap.size + 1 + 1; omega) _) _) (by have := HZ4.out; omega) (blk_top (by simp)) ?_
    exact (((Chg.refl (fun k => k = w.heap.size + 1 + 1) W4).set_ (.inl rfl) 3 _).alloc _).sl HS4.out (fun _ b off e h => by injection e with e; injection e with e1 e2; omega) rfl
end Go.Proofs.YtealjpolomhdeaaGreat
set_option linter.unusedVariables false
namespace Go.Proofs.YtealjpolomhdeaaGreat
open Go.RowKit
theorem w64_range (n : Int) : -9223372036854775808 ≤ wrap64 n ∧ wrap64 n ≤ 9223372036854775807 := by unfold wrap64; omega
set_option maxRecDepth 100000 in
set_option maxHeartbeats 4000000 in
theorem parts_zig (m : MV) (num i : Int) (w : World) (hok : MvOk w m) (hn1 : -9223372036854775808 ≤ num) (hn2 : num ≤ 9223372036854775807) :
    Calls Tryz.prog 96 #[mvV m, .agg #[.int .i64 num, .int .i64 3, .int .i64 i]] w (PartsR m num 3 i w) := by
  have hr := w64_range (m.num i : Nat)
  have hz := zig_range _ hr.1 hr.2
  have hpw : partW m num 3 i = [(num, ((0 : Nat) : Int), (zig (wrap64 (m.num i : Nat))).toNat, [])] := by
    unfold partW
    rw [if_neg (by omega), if_neg (by omega), if_pos rfl]
    rfl
  obtain ⟨q, hq⟩ : ∃ q : Nat, zig (wrap64 (m.num i : Nat)) = (q : Int) := ⟨_, (Int.toNat_of_nonneg hz.1).symm⟩
  have hzg := fun W => zig_any (wrap64 (m.num i : Nat)) W hr.1 hr.2
  rw [hq] at hpw hzg
  have hq2 : q ≤ 18446744073709551615 := by rw [hq] at hz; omega
  have hvi := fun W => vint_any m i W
  have hwi := fun W => swire_any 3 W
  rw [show wireN 3 = 0 from rfl] at hwi
  obtain ⟨R, hR⟩ : ∃ R, PartsR m num 3 i w = R := ⟨_, rfl⟩
  rw [hR]
  have HR := hid hR
  have HPW := hid hpw
  clear hR hpw hok hq hz hr
  generalize wireK 3 = wk at *
  generalize wrap64 (m.num i : Nat) = y at *
  unfold mvV mvA at *
  generalize m.l.length = len at *
  go_enter Tryz.func96, Tryz.ntmps96
  go_wp2_with fail
  refine (hwi _).mono ?_
  rintro e w3 ⟨rfl, rfl⟩
  go_wp2_with fail
  refine (hvi _).mono ?_
  rintro e w4 ⟨rfl, hb4⟩
  have hkf : Blk w4 (w.heap.size + 1 + 1) 76 #[.int .i64 num, .int .u8 0, .int .u64 0, .slice none 0 0, .int .i64 0] := (blk_top (by simp only [World.size_alloc])).below hb4 (by simp only [World.size_alloc]; omega)
  have hB4 := (bw_a (bw_a (bw_a (Below.refl _ w) _) _) _).trans (hb4.mono (by simp only [World.size_alloc]; omega))
  have hz4 := hb4.size
  simp only [World.size_alloc] at hz4
  have f0 := hkf.cell 0
  have f1 := hkf.cell 1
  have f2 := hkf.cell 2
  have f3 := hkf.cell 3
  have f4 := hkf.cell 4
  have g2 := hkf.frozen 2
  simp only [List.getElem?_toArray, List.getElem?_cons_zero, List.getElem?_cons_succ] at f0 f1 f2 f3 f4
  have HB4 := hid hB4
  clear hb4 hkf hB4
  go_wp2_with fail
  refine (hzg _).mono ?_
  rintro e w5 ⟨rfl, rfl⟩
  go_wp2_with fail
  rw [← HR.out]
  show PartsR _ _ _ _ _ (.returned (.slice (some ⟨w4.heap.size, 0, none⟩) 1 1)) _
  refine parts_fin (q := q) HPW.out (by omega) hq2 hn1 hn2 (bw_a (HB4.out.setCell (p := ⟨w.heap.size + 1 + 1, 2, none⟩) (by show w.heap.size ≤ w.heap.size + 1 + 1; omega) _) _) (by omega) (blk_top (by simp))
end Go.Proofs.YtealjpolomhdeaaGreat
set_option linter.unusedVariables false
namespace Go.Proofs.YtealjpolomhdeaaGreat
open Go.RowKit
/-- A row of bytes starts there. -/
def U8 (w : World) (A : Option Addr) : Prop := ∃ g cs k, A = some ⟨g, 0, none⟩ ∧ w.heap[g]? = some (.cells cs 5 k)
theorem conv8_any (s : ByteArray) (hsz : s.size ≤ 9223372036854775807) (W : World) (N : Nat) (hN : W.heap.size = N) : ∃ c W4, (convert 9 22 (.string s)).run Tryz.prog W = .ok (.slice (some ⟨N, 0, none⟩) s.size c) W4 ∧ Sl W4 (some ⟨N, 0, none⟩) c (s.data.toList.map bv) ∧ Below W.heap.size W W4 ∧ W4.heap.size = N + 1 ∧ U8 W4 (some ⟨N, 0, none⟩) := by
  obtain ⟨c, W4, h1, h2, h3, h4⟩ := conv_any s hsz W N hN
  refine ⟨c, W4, h1, h2, h3, h4, N, ?_⟩
  have h5 := (Lib.run_convert_string_bytes (P := Tryz.prog) W _ _ 5 s Tryz.underlying9 Tryz.underlying22 Tryz.underlying5).symm.trans h1
  injection h5 with h6 h7
  subst h7
  subst hN
  exact ⟨_, _, rfl, Lib.bytesWorld_at_new W _ s⟩
theorem U8.chg {S : Nat → Prop} {w w' : World} {A : Option Addr} (h : U8 w A) (hc : Chg S w w') (hn : ∀ g, A = some ⟨g, 0, none⟩ → ¬ S g) : U8 w' A := by
  obtain ⟨g, cs, k, rfl, hg⟩ := h
  exact ⟨g, cs, k, rfl, (hc.block g (Array.getElem?_eq_some_iff.1 hg).1 (hn g rfl)).trans hg⟩
theorem U8.ne_blk {w : World} {g : Nat} {t : TypeId} {cs : Array Value} {q : Nat} (h : U8 w (some ⟨g, 0, none⟩)) (hb : Blk w q t cs) (ht : t ≠ 5) : g ≠ q := by
  rintro rfl
  obtain ⟨g2, cs2, k2, e, h2⟩ := h
  injection e with e
  injection e with e
  subst e
  have h3 := h2.symm.trans hb
  injection h3 with h3
  injection h3 with h4 h5
  exact ht h5.symm
theorem U8.ne_own {w : World} {g : Nat} {B n sz : Nat} {v : Value} {t : TypeId} {xs : List Value} (h : U8 w (some ⟨g, 0, none⟩)) (ho : w.ownsRow B t sz v n xs) (ht : t ≠ 5) : ¬ v.ownBlock = some g := by
  intro hv
  rcases ho.2 with ⟨e, hx⟩ | ⟨g2, cap, cur, e, hb, hg, hnc, hcm, hcs, htake⟩
  · rw [e] at hv; simp [Value.ownBlock] at hv
  · rw [e] at hv
    simp only [Value.ownBlock, Option.some.injEq] at hv
    subst hv
    exact U8.ne_blk h hg ht rfl
theorem own_baseE {w : World} {B B2 n sz : Nat} {v : Value} {t : TypeId} {xs : List Value} (ho : w.ownsRow B t sz v n xs) (hle : B2 ≤ B) : w.ownsRow B2 t sz v n xs := by
  refine ⟨ho.1, ?_⟩
  rcases ho.2 with h | ⟨g2, cap, cur, e, hb, rest⟩
  · exact .inl h
  · exact .inr ⟨g2, cap, cur, e, Nat.le_trans hle hb, rest⟩
theorem FvOk.chg {S : Nat → Prop} {w w' : World} {f : FV} (h : FvOk w f) (hc : Chg S w w') (hu : U8 w f.s.A) (hn : ∀ g, f.s.A = some ⟨g, 0, none⟩ → ¬ S g) : FvOk w' f := by
  refine ⟨h.w0, h.w1, h.n, h.n1, h.n2, h.a1, h.a2, hc.sl h.s (fun _ b off e hb => ?_) rfl⟩
  obtain ⟨g, cs, k, e2, hg⟩ := hu
  rw [e2] at e
  injection e with e
  injection e with e
  subst e
  exact hn _ e2 hb
end Go.Proofs.YtealjpolomhdeaaGreat
set_option linter.unusedVariables false
namespace Go.Proofs.YtealjpolomhdeaaGreat
open Go.RowKit
set_option maxRecDepth 100000 in
set_option maxHeartbeats 4000000 in
theorem parts_list (m : MV) (num i : Int) (w : World) (hok : MvOk w m) (hlen : m.l.length ≤ 100) (hn1 : -9223372036854775808 ≤ num) (hn2 : num ≤ 9223372036854775807) :
    Calls Tryz.prog 96 #[mvV m, .agg #[.int .i64 num, .int .i64 10, .int .i64 i]] w (PartsR m num 10 i w) := by
  obtain ⟨i5, hi5, hi50, hi51, hi52⟩ := info_parts Tryz.infoField
  have hpw : partW m num 10 i = m.l.map (fun s => (num, 2, 0, s.data.toList)) := by
    unfold partW
    rw [if_pos rfl]
  have hwi := fun W => swire_any 10 W
  rw [show wireN 10 = 2 from rfl] at hwi
  have hsl := hok.l
  have hes := hok.e
  obtain ⟨R, hR⟩ : ∃ R, PartsR m num 10 i w = R := ⟨_, rfl⟩
  rw [hR]
  have HR := hid hR
  have HPW := hid hpw
  have HSL := hid hsl
  have HES := hid hes
  clear hR hpw hok hsl hes
  generalize wireK 10 = wk at *
  unfold mvV mvA
  obtain ⟨ln, hln⟩ : ∃ n, m.l.length = n := ⟨_, rfl⟩
  rw [hln] at hlen ⊢
  have HLN := hid hln
  clear hln
  go_enter Tryz.func96, Tryz.ntmps96
  go_wp2_with fail
  refine (hwi _).mono ?_
  rintro e w3 ⟨rfl, rfl⟩
  go_wp2_with fail
  have hk0 : Blk (((w.alloc (.cells #[.int .u8 (m.k : Int), .int .u64 (m.n0 : Int), .int .u64 (m.n1 : Int), .int .u64 (m.n2 : Int), .int .u64 (m.n3 : Int), .int .u64 (m.n4 : Int), .int .u64 (m.n5 : Int), .string m.s0, .string m.s1, .slice m.A ln m.c] 29)).alloc (.cells #[.int .i64 num, .int .i64 10, .int .i64 i] 69)).alloc (.cells #[.int .i64 num, .int .u8 2, .int .u64 0, .slice none 0 0, .int .i64 0] 76)) (w.heap.size + 1 + 1) 76 #[.int .i64 num, .int .u8 2, .int .u64 0, .slice none 0 0, .int .i64 0] := blk_top (by simp only [World.size_alloc])
  have hB0 := bw_a (bw_a (bw_a (Below.refl _ w) (.cells #[.int .u8 (m.k : Int), .int .u64 (m.n0 : Int), .int .u64 (m.n1 : Int), .int .u64 (m.n2 : Int), .int .u64 (m.n3 : Int), .int .u64 (m.n4 : Int), .int .u64 (m.n5 : Int), .string m.s0, .string m.s1, .slice m.A ln m.c] 29)) (.cells #[.int .i64 num, .int .i64 10, .int .i64 i] 69)) (.cells #[.int .i64 num, .int .u8 2, .int .u64 0, .slice none 0 0, .int .i64 0] 76)
  have HK0 := hid hk0
  have HB0 := hid hB0
  clear hk0 hB0
  generalize ((w.alloc (.cells #[.int .u8 (m.k : Int), .int .u64 (m.n0 : Int), .int .u64 (m.n1 : Int), .int .u64 (m.n2 : Int), .int .u64 (m.n3 : Int), .int .u64 (m.n4 : Int), .int .u64 (m.n5 : Int), .string m.s0, .string m.s1, .slice m.A ln m.c] 29)).alloc (.cells #[.int .i64 num, .int .i64 10, .int .i64 i] 69)).alloc (.cells #[.int .i64 num, .int .u8 2, .int .u64 0, .slice none 0 0, .int .i64 0] 76) = W0 at *
  go_loopw [8, 45] (fun ov ix wr => ∃ (j : Nat) (l : List FV) (Ax : Option Addr) (nx cx : Nat), j ≤ ln ∧ ix = .int .i64 (j : Int) ∧ l.length = j ∧ wr.ownsRow (w.heap.size + 3) 76 5 ov j (l.flatMap fvC) ∧ l.map fvW = (m.l.take j).map (fun s => (num, 2, 0, s.data.toList)) ∧ (∀ f ∈ l, FvOk wr f ∧ U8 wr f.s.A) ∧ Blk wr (w.heap.size + 1 + 1) 76 #[.int .i64 num, .int .u8 2, .int .u64 0, .slice Ax nx cx, .int .i64 0] ∧ Below w.heap.size w wr) (fun _ ix _ => ln - (intOf ix).toNat)
  case atStart => exact ⟨0, [], none, 0, 0, by omega, rfl, rfl, World.ownsRow_nil _ _ _ _, by simp, by simp, HK0.out, HB0.out⟩
  case round =>
    obtain ⟨j, l, Ax, nx, cx, hj, rfl, hll, hrow, hlm, hfo, hkf, hB⟩ := hrel
    by_cases hlt : j < ln
    · have hjl : j < m.l.length := by have := HLN.out; omega
      have hn0 : (m.l.map sv)[j]? = some (.string m.l[j]) := by rw [List.getElem?_map, List.getElem?_eq_getElem hjl]; rfl
      have hsz := HES.out m.l[j] (List.getElem_mem hjl)
      have htk : (m.l.take (j + 1)).map (fun s => (num, (2 : Int), (0 : Nat), s.data.toList)) = (m.l.take j).map (fun s => (num, (2 : Int), (0 : Nat), s.data.toList)) ++ [(num, 2, 0, m.l[j].data.toList)] := by rw [List.take_succ_eq_append_getElem hjl, List.map_append]; rfl
      obtain ⟨b, off, hA, hbw, t0⟩ := HSL.out.rd _ _ hn0
      have t0 := (hB.cell (p := ⟨b, off + j, none⟩) hbw).trans t0
      rw [hA]
      clear hn0 hA
      generalize m.l[j] = s at *
      obtain ⟨c4, W4, hcv, hs4, hb4, hz4, hu4⟩ := conv8_any s hsz wr wr.heap.size rfl
      have hji : (j : Int) < (ln : Int) := by omega
      have hj0 : (0 : Int) ≤ (j : Int) := by omega
      have hkl := hkf.lt
      have hkf4 := hkf.below hb4 hkf.lt
      have hc5 : Chg (fun k => k = w.heap.size + 1 + 1) wr (W4.setCell ⟨w.heap.size + 1 + 1, 3, none⟩ (.slice (some ⟨wr.heap.size, 0, none⟩) s.size c4)) := Chg.set_ (S := fun k => k = w.heap.size + 1 + 1) (Chg.of_new hb4) (.inl rfl) 3 _
      have hrow5 := own_chgS hrow hc5 (fun g hg e => by have := (hrow.lt g hg).1; omega)
      have hkf5 := hkf4.set_ 3 (.slice (some ⟨wr.heap.size, 0, none⟩) s.size c4)
      have f0 := hkf4.cell 0
      have f1 := hkf4.cell 1
      have f2 := hkf4.cell 2
      have f3 := hkf4.cell 3
      have f4 := hkf4.cell 4
      have g3 := hkf4.frozen 3
      simp only [List.getElem?_toArray, List.getElem?_cons_zero, List.getElem?_cons_succ] at f0 f1 f2 f3 f4
      simp at hkf5
      have HB := hid hB
      have HROW := hid hrow
      have HROW5 := hid hrow5
      have HLM := hid hlm
      have HFO := hid hfo
      have HKF := hid hkf
      have HKF5 := hid hkf5
      have HC5 := hid hc5
      have HCV := hid hcv
      have HS4 := hid hs4
      have HB4 := hid hb4
      have hzz : wr.heap.size + 1 ≤ W4.heap.size := by rw [hz4]; exact Nat.le_refl _
      have HZ4 := hid hz4
      have HU4 := hid hu4
      have HTK := hid htk
      have HLL := hid hll
      clear hB hrow hrow5 hlm hfo hkf hkf5 hkf4 hc5 hcv hs4 hb4 hz4 hu4 htk hll
      go_wp2_with fail
      rw [HCV.out]
      have hse : (W4.setCell ⟨w.heap.size + 1 + 1, 3, none⟩ (.slice (some ⟨wr.heap.size, 0, none⟩) s.size c4)).heap.size = W4.heap.size := by simp
      have hrd := Rd.new (W4.setCell ⟨w.heap.size + 1 + 1, 3, none⟩ (.slice (some ⟨wr.heap.size, 0, none⟩) s.size c4)) 76 #[.int .i64 num, .int .u8 2, .int .u64 0, .slice (some ⟨wr.heap.size, 0, none⟩) s.size c4, .int .i64 0]
      rw [hse] at hrd
      have HRD := hid hrd
      clear hse hrd
      go_wp2_with (at_builtin; refine wpList_append_rd rfl (.tmp 52) (.tmp 54) 70 rfl (w.heap.size + 3) 76 i5 (.agg #[.int .i64 0, .int .u8 0, .int .u64 0, .slice none 0 0, .int .i64 0]) 5 56 Tryz.underlying70 hi5 hi50 hi51 hi52 rfl (by decide) _ _ _ rfl (HROW5.out.alloc _) (some ⟨W4.heap.size, 0, none⟩) 1 1 [.int .i64 num, .int .u8 2, .int .u64 0, .slice (some ⟨wr.heap.size, 0, none⟩) s.size c4, .int .i64 0] rfl rfl HRD.out (fun h => by cases h) (by simp [Value.oneCell']) (by simp only [maxLen]; omega) (by omega) (by simp; omega) ?_; intro v6 w6 hown6 hgrow6)
      have hc6 := (Chg.of_new (S := fun k => u8.ownBlock = some k) (bw_a (Below.refl _ (W4.setCell ⟨w.heap.size + 1 + 1, 3, none⟩ (.slice (some ⟨wr.heap.size, 0, none⟩) s.size c4))) (.cells #[.int .i64 num, .int .u8 2, .int .u64 0, .slice (some ⟨wr.heap.size, 0, none⟩) s.size c4, .int .i64 0] 76))).trans (.of_grown hgrow6 fun g hg => hg)
      have hB5 := (HB.out.trans (HB4.out.mono HB.out.size)).setCell (p := ⟨w.heap.size + 1 + 1, 3, none⟩) (by show w.heap.size ≤ w.heap.size + 1 + 1; omega) (.slice (some ⟨wr.heap.size, 0, none⟩) s.size c4)
      have hB6 := bw_g (bw_a hB5 (.cells #[.int .i64 num, .int .u8 2, .int .u64 0, .slice (some ⟨wr.heap.size, 0, none⟩) s.size c4, .int .i64 0] 76)) hgrow6 (fun k ek => by have := (HROW.out.lt k ek).1; omega)
      have hc45 : Chg (fun k => k = w.heap.size + 1 + 1) W4 (W4.setCell ⟨w.heap.size + 1 + 1, 3, none⟩ (.slice (some ⟨wr.heap.size, 0, none⟩) s.size c4)) := Chg.set_ (S := fun k => k = w.heap.size + 1 + 1) (Chg.refl _ W4) (.inl rfl) 3 _
      refine ⟨⟨j + 1, l ++ [⟨num, 2, 0, ⟨some ⟨wr.heap.size, 0, none⟩, c4, s.data.toList⟩, 0⟩], some ⟨wr.heap.size, 0, none⟩, s.size, c4, by omega, by go_num, by rw [List.length_append, HLL.out]; rfl, ?_, ?_, ?_, hc6.blk HKF5.out (fun ek => by have := (HROW.out.lt _ ek).1; omega), hB6⟩, by simp [intOf] <;> omega⟩
      · rw [List.flatMap_append]
        simpa [fvC] using hown6
      · rw [List.map_append, HLM.out, HTK.out]; rfl
      · intro f hf
        rcases List.mem_append.1 hf with hf | hf
        · obtain ⟨h1, h2⟩ := HFO.out f hf
          have n1 : ∀ g, f.s.A = some ⟨g, 0, none⟩ → ¬ g = w.heap.size + 1 + 1 := fun g e => by
            rw [e] at h2
            exact U8.ne_blk h2 HKF.out (by decide)
          have h3 := FvOk.chg h1 HC5.out h2 n1
          have h4 := U8.chg h2 HC5.out n1
          have n2 : ∀ g, f.s.A = some ⟨g, 0, none⟩ → ¬ u8.ownBlock = some g := fun g e => by
            rw [e] at h4
            exact U8.ne_own h4 HROW5.out (by decide)
          exact ⟨FvOk.chg h3 hc6 h4 n2, U8.chg h4 hc6 n2⟩
        · simp only [List.mem_singleton] at hf
          subst hf
          have h5 := hc45.sl (n := s.data.toList.length) HS4.out (fun _ b off e h => by injection e with e; injection e with e1 e2; omega) (by rw [List.length_map])
          have h6 := HU4.out.chg hc45 (fun g e h => by injection e with e; injection e with e1 e2; omega)
          have h7 := hc6.sl (n := s.data.toList.length) h5 (fun _ b off e h => by injection e with e; injection e with e1 e2; have := (HROW.out.lt _ h).2; omega) (by rw [List.length_map])
          have h8 := h6.chg hc6 (fun g e h => by injection e with e; injection e with e1 e2; have := (HROW.out.lt _ h).2; omega)
          exact ⟨⟨by dsimp only; omega, by dsimp only; omega, by dsimp only; omega, hn1, hn2, by dsimp only; omega, by dsimp only; omega, h7⟩, h8⟩
    · obtain rfl : j = ln := by omega
      go_wp2_with fail
      rw [← HR.out]
      refine ⟨l, _, rfl, by rw [hll]; exact own_baseE hrow (by omega), by rw [hlm, HPW.out, List.take_of_length_le (by rw [HLN.out]; omega)], fun f hf => (hfo f hf).1, hB⟩
end Go.Proofs.YtealjpolomhdeaaGreat
set_option linter.unusedVariables false
namespace Go.Proofs.YtealjpolomhdeaaGreat
open Go.RowKit
theorem held13 {w w' : World} (hc : Below w.heap.size w w') {p0 p1 p2 p3 p4 p5 p6 p7 p8 p9 p10 p11 p12 : Addr} {x0 x1 x2 x3 x4 x5 x6 x7 x8 x9 x10 x11 x12 : Value} (h : w.cell? p0 = some x0 ∧ w.cell? p1 = some x1 ∧ w.cell? p2 = some x2 ∧ w.cell? p3 = some x3 ∧ w.cell? p4 = some x4 ∧ w.cell? p5 = some x5 ∧ w.cell? p6 = some x6 ∧ w.cell? p7 = some x7 ∧ w.cell? p8 = some x8 ∧ w.cell? p9 = some x9 ∧ w.cell? p10 = some x10 ∧ w.cell? p11 = some x11 ∧ w.cell? p12 = some x12) : w'.cell? p0 = some x0 ∧ w'.cell? p1 = some x1 ∧ w'.cell? p2 = some x2 ∧ w'.cell? p3 = some x3 ∧ w'.cell? p4 = some x4 ∧ w'.cell? p5 = some x5 ∧ w'.cell? p6 = some x6 ∧ w'.cell? p7 = some x7 ∧ w'.cell? p8 = some x8 ∧ w'.cell? p9 = some x9 ∧ w'.cell? p10 = some x10 ∧ w'.cell? p11 = some x11 ∧ w'.cell? p12 = some x12 := by
  obtain ⟨h0, h1, h2, h3, h4, h5, h6, h7, h8, h9, h10, h11, h12⟩ := h
  have f : ∀ (p : Addr) (x : Value), w.cell? p = some x → w'.cell? p = some x := fun p x h => (hc.cell (World.block_lt_of_cell? w p h)).trans h
  exact ⟨f _ _ h0, f _ _ h1, f _ _ h2, f _ _ h3, f _ _ h4, f _ _ h5, f _ _ h6, f _ _ h7, f _ _ h8, f _ _ h9, f _ _ h10, f _ _ h11, f _ _ h12⟩
theorem kc_i64 (k : Int) (i : Nat) (x : Int) : (#[.int .u8 k, .int .u64 0, .int .u64 0, .int .u64 0, .int .u64 0, .int .u64 0, .int .u64 0, .string ⟨#[]⟩, .string ⟨#[]⟩, .slice none 0 0] : Array Value)[i]? ≠ some (.int .i64 x) := by
  match i with
  | 0 => simp
  | 1 => simp
  | 2 => simp
  | 3 => simp
  | 4 => simp
  | 5 => simp
  | 6 => simp
  | 7 => simp
  | 8 => simp
  | 9 => simp
  | n + 10 => simp
def clA (m : MV) (l : List SRow) : Array Value := mvA (keptM l m)
theorem clA_zero (m : MV) : clA m [] = #[.int .u8 (m.k : Int), .int .u64 0, .int .u64 0, .int .u64 0, .int .u64 0, .int .u64 0, .int .u64 0, .string ⟨#[]⟩, .string ⟨#[]⟩, .slice none 0 0] := by
  unfold clA mvA keptM; simp [mkN, mkS, mkL, ka, kb]
theorem clA_num (m : MV) (l : List SRow) (r : SRow) (h : r.typ ≤ 6) (hs : r.slot ≤ 5) : (clA m l).setIfInBounds (1 + r.slot) (.int .u64 (m.num (r.slot : Nat) : Nat)) = clA m (l ++ [r]) := by
  have hi : r.slot = 0 ∨ r.slot = 1 ∨ r.slot = 2 ∨ r.slot = 3 ∨ r.slot = 4 ∨ r.slot = 5 := by omega
  have h7 : ¬ (7 ≤ r.typ ∧ r.typ ≤ 9) := by omega
  have h10 : ¬ r.typ = 10 := by omega
  unfold clA mvA keptM
  simp only [mkN_app, mkS_app, mkL_app]
  rcases hi with hi | hi | hi | hi | hi | hi <;> rw [hi] <;> simp [h, h7, h10, ka, kb, MV.num]
theorem clA_text (m : MV) (l : List SRow) (r : SRow) (h : 7 ≤ r.typ ∧ r.typ ≤ 9) (hs : r.slot ≤ 1) : (clA m l).setIfInBounds (7 + r.slot) (.string (m.text (r.slot : Nat))) = clA m (l ++ [r]) := by
  have hi : r.slot = 0 ∨ r.slot = 1 := by omega
  have h7 : ¬ r.typ ≤ 6 := by omega
  have h10 : ¬ r.typ = 10 := by omega
  unfold clA mvA keptM
  simp only [mkN_app, mkS_app, mkL_app]
  rcases hi with hi | hi <;> rw [hi] <;> simp [h, h7, h10, ka, kb, MV.text]
theorem clA_list (m : MV) (l : List SRow) (r : SRow) (h : r.typ = 10) : (clA m l).setIfInBounds 9 (.slice m.A m.l.length m.c) = clA m (l ++ [r]) := by
  have h7 : ¬ r.typ ≤ 6 := by omega
  have h9 : ¬ (7 ≤ r.typ ∧ r.typ ≤ 9) := by omega
  unfold clA mvA keptM
  simp only [mkN_app, mkS_app, mkL_app]
  simp [h, ka, kb]
theorem clA_cell (m : MV) (l : List SRow) (i : Nat) (h : i < 10) : ∃ u, (clA m l)[i]? = some u := by
  have hi : i = 0 ∨ i = 1 ∨ i = 2 ∨ i = 3 ∨ i = 4 ∨ i = 5 ∨ i = 6 ∨ i = 7 ∨ i = 8 ∨ i = 9 := by omega
  rcases hi with rfl | rfl | rfl | rfl | rfl | rfl | rfl | rfl | rfl | rfl <;> exact ⟨_, rfl⟩
set_option maxRecDepth 100000 in
set_option maxHeartbeats 4000000 in
theorem rclean_any (m : MV) (v : Int) (w : World) (hk : m.k ≤ 255) (hv1 : -9223372036854775808 ≤ v) (hv2 : v ≤ 9223372036854775807) : Calls Tryz.prog 48 #[mvV m, .int .i64 v] w fun e w' => e = .returned (mvV (keptM (ofL (m.k : Int) v) m)) ∧ Below w.heap.size w w' := by
  have hof := fun W => r8of_any (m.k : Int) v W (by omega) (by omega) hv1 hv2
  unfold OfR at hof
  have hq40 := ofL_le40 (m.k : Int) v
  have hmem : ∀ r ∈ ofL (m.k : Int) v, r ∈ ROWS := fun r hr => ofL_mem _ v hr
  generalize ofL (m.k : Int) v = L at *
  have hpl := fun (num t i : Int) W => rplace_any m num t i W
  have hcz := clA_zero m
  have hcn := clA_num m
  have hct := clA_text m
  have hcl := clA_list m
  have hcc := clA_cell m
  have p1 := pl_num m
  have p7 := pl_text m
  have p10 := pl_list m
  obtain ⟨a1, a2, a3, a4, a5, a6, t7, t8, ad9, ln9, cp9, hx⟩ : ∃ (a1 a2 a3 a4 a5 a6 : Nat) (t7 t8 : ByteArray) (ad9 : Option Addr) (ln9 cp9 : Nat), clA m L = #[.int .u8 (m.k : Int), .int .u64 (a1 : Int), .int .u64 (a2 : Int), .int .u64 (a3 : Int), .int .u64 (a4 : Int), .int .u64 (a5 : Int), .int .u64 (a6 : Int), .string t7, .string t8, .slice ad9 ln9 cp9] := ⟨_, _, _, _, _, _, _, _, _, _, _, rfl⟩
  have hvx : mvV (keptM L m) = .agg #[.int .u8 (m.k : Int), .int .u64 (a1 : Int), .int .u64 (a2 : Int), .int .u64 (a3 : Int), .int .u64 (a4 : Int), .int .u64 (a5 : Int), .int .u64 (a6 : Int), .string t7, .string t8, .slice ad9 ln9 cp9] := by rw [← hx]; rfl
  rw [hvx]
  clear hvx
  generalize clA m = cl at *
  obtain ⟨len, hlen⟩ : ∃ n, m.l.length = n := ⟨_, rfl⟩
  unfold mvV mvA at *
  rw [hlen] at p10 hcl hpl ⊢
  obtain ⟨nL, hnL⟩ : ∃ n, L.length = n := ⟨_, rfl⟩
  rw [hnL] at hq40 hof
  obtain ⟨s, hws⟩ : ∃ s, w.heap.size = s := ⟨_, rfl⟩
  have HNL := hid hnL
  have HOF := hid hof
  have HPL := hid hpl
  have HMEM := hid hmem
  have HCZ := hid hcz
  have HCN := hid hcn
  have HCT := hid hct
  have HCL := hid hcl
  have HCC := hid hcc
  have HP1 := hid p1
  have HP7 := hid p7
  have HP10 := hid p10
  have HXX := hid hx
  clear hlen hnL hof hpl hmem hcz hcn hct hcl hcc p1 p7 p10 hx
  rw [hws]
  go_enter Tryz.func48, Tryz.ntmps48
  go_wp2_with fail
  have hz : (((w.alloc (.cells #[.int .u8 (m.k : Int), .int .u64 (m.n0 : Int), .int .u64 (m.n1 : Int), .int .u64 (m.n2 : Int), .int .u64 (m.n3 : Int), .int .u64 (m.n4 : Int), .int .u64 (m.n5 : Int), .string m.s0, .string m.s1, .slice m.A len m.c] 29)).alloc (.cells #[.int .u8 0, .int .u64 0, .int .u64 0, .int .u64 0, .int .u64 0, .int .u64 0, .int .u64 0, .string ⟨#[]⟩, .string ⟨#[]⟩, .slice none 0 0] 29)).alloc (.cells #[.int .u8 (m.k : Int), .int .u64 0, .int .u64 0, .int .u64 0, .int .u64 0, .int .u64 0, .int .u64 0, .string ⟨#[]⟩, .string ⟨#[]⟩, .slice none 0 0] 29)).heap.size = s + 3 := by simp [hws]
  have hb0 := bw_a (bw_a (bw_a (Below.refl w.heap.size w) (.cells #[.int .u8 (m.k : Int), .int .u64 (m.n0 : Int), .int .u64 (m.n1 : Int), .int .u64 (m.n2 : Int), .int .u64 (m.n3 : Int), .int .u64 (m.n4 : Int), .int .u64 (m.n5 : Int), .string m.s0, .string m.s1, .slice m.A len m.c] 29)) (.cells #[.int .u8 0, .int .u64 0, .int .u64 0, .int .u64 0, .int .u64 0, .int .u64 0, .int .u64 0, .string ⟨#[]⟩, .string ⟨#[]⟩, .slice none 0 0] 29)) (.cells #[.int .u8 (m.k : Int), .int .u64 0, .int .u64 0, .int .u64 0, .int .u64 0, .int .u64 0, .int .u64 0, .string ⟨#[]⟩, .string ⟨#[]⟩, .slice none 0 0] 29)
  have hk0 := ((Blk.new w 29 #[.int .u8 (m.k : Int), .int .u64 (m.n0 : Int), .int .u64 (m.n1 : Int), .int .u64 (m.n2 : Int), .int .u64 (m.n3 : Int), .int .u64 (m.n4 : Int), .int .u64 (m.n5 : Int), .string m.s0, .string m.s1, .slice m.A len m.c]).alloc (.cells #[.int .u8 0, .int .u64 0, .int .u64 0, .int .u64 0, .int .u64 0, .int .u64 0, .int .u64 0, .string ⟨#[]⟩, .string ⟨#[]⟩, .slice none 0 0] 29)).alloc (.cells #[.int .u8 (m.k : Int), .int .u64 0, .int .u64 0, .int .u64 0, .int .u64 0, .int .u64 0, .int .u64 0, .string ⟨#[]⟩, .string ⟨#[]⟩, .slice none 0 0] 29)
  have hk1 := (Blk.new (w.alloc (.cells #[.int .u8 (m.k : Int), .int .u64 (m.n0 : Int), .int .u64 (m.n1 : Int), .int .u64 (m.n2 : Int), .int .u64 (m.n3 : Int), .int .u64 (m.n4 : Int), .int .u64 (m.n5 : Int), .string m.s0, .string m.s1, .slice m.A len m.c] 29)) 29 #[.int .u8 0, .int .u64 0, .int .u64 0, .int .u64 0, .int .u64 0, .int .u64 0, .int .u64 0, .string ⟨#[]⟩, .string ⟨#[]⟩, .slice none 0 0]).alloc (.cells #[.int .u8 (m.k : Int), .int .u64 0, .int .u64 0, .int .u64 0, .int .u64 0, .int .u64 0, .int .u64 0, .string ⟨#[]⟩, .string ⟨#[]⟩, .slice none 0 0] 29)
  have hk2 := Blk.new ((w.alloc (.cells #[.int .u8 (m.k : Int), .int .u64 (m.n0 : Int), .int .u64 (m.n1 : Int), .int .u64 (m.n2 : Int), .int .u64 (m.n3 : Int), .int .u64 (m.n4 : Int), .int .u64 (m.n5 : Int), .string m.s0, .string m.s1, .slice m.A len m.c] 29)).alloc (.cells #[.int .u8 0, .int .u64 0, .int .u64 0, .int .u64 0, .int .u64 0, .int .u64 0, .int .u64 0, .string ⟨#[]⟩, .string ⟨#[]⟩, .slice none 0 0] 29)) 29 #[.int .u8 (m.k : Int), .int .u64 0, .int .u64 0, .int .u64 0, .int .u64 0, .int .u64 0, .int .u64 0, .string ⟨#[]⟩, .string ⟨#[]⟩, .slice none 0 0]
  rw [World.size_alloc] at hk1 hk2
  rw [World.size_alloc] at hk2
  rw [hws] at hb0 hk0 hk1 hk2
  generalize ((w.alloc _).alloc _).alloc _ = W at *
  refine (HOF.out W).mono ?_
  rintro e w1 ⟨A, c, rfl, hs1, hb1⟩
  have hk0 := hk0.below hb1 (by omega)
  have hk1 := hk1.below hb1 (by omega)
  have hk2 := hk2.below hb1 (by omega)
  have hB1 := hb0.trans (hb1.mono (by omega))
  have hw1 : s + 3 ≤ w1.heap.size := by have := hb1.size; omega
  rw [← HCZ.out] at hk2
  have HS1 := hid hs1
  have HK0 := hid hk0
  have HK1 := hid hk1
  have HK2 := hid hk2
  have HB1 := hid hB1
  clear hs1 hb1 hb0 hz hk0 hk1 hk2 hB1 HOF
  go_wp2_with fail
  go_loopw [7] (fun i wr => ∃ j : Nat, j ≤ nL ∧ i = .int .i64 (j : Int) ∧ Blk wr (s + 2) 29 (cl (L.take j)) ∧ Chg (fun q => q = s + 2) w1 wr) (fun i _ => nL - (intOf i).toNat)
  case atStart => exact ⟨0, by omega, rfl, HK2.out, Chg.refl _ _⟩
  case round =>
    obtain ⟨j, hj, rfl, hk, hc⟩ := hrel
    have hls := hk.lt
    by_cases hlt : j < nL
    · have hjl : j < L.length := by have := HNL.out; omega
      have hn0' : (L.flatMap specC)[j * 3 + 0]? = _ := flatMap_get specC 3 L j 0 hjl (fun _ _ => rfl) (by omega)
      have hn1' : (L.flatMap specC)[j * 3 + 1]? = _ := flatMap_get specC 3 L j 1 hjl (fun _ _ => rfl) (by omega)
      have hn2' : (L.flatMap specC)[j * 3 + 2]? = _ := flatMap_get specC 3 L j 2 hjl (fun _ _ => rfl) (by omega)
      obtain ⟨b, off, hA, hbw, t0⟩ := HS1.out.rd _ _ hn0'
      subst hA
      have hbs : b ≠ s + 2 := by
        intro e
        subst e
        have h2 := HK2.out
        rw [HCZ.out] at h2
        have h1 := h2.cell (off + (j * 3 + 0))
        rw [t0] at h1
        exact kc_i64 _ _ _ h1.symm
      have t1 := HS1.out.rd.addr _ _ hn1'
      have t2 := HS1.out.rd.addr _ _ hn2'
      rw [addr_add] at t1 t2
      simp only [Nat.add_zero, ← Nat.add_assoc] at t0 t1 t2
      have hbb := hc.block b hbw hbs
      have t0 := (World.cell?_of_block (a := ⟨b, off + j * 3, none⟩) hbb).trans t0
      have t1 := (World.cell?_of_block (a := ⟨b, off + j * 3 + 1, none⟩) hbb).trans t1
      have t2 := (World.cell?_of_block (a := ⟨b, off + j * 3 + 2, none⟩) hbb).trans t2
      have hm := hc.blk HK0.out (by omega)
      have c0 := hm.cell 0
      have c1 := hm.cell 1
      have c2 := hm.cell 2
      have c3 := hm.cell 3
      have c4 := hm.cell 4
      have c5 := hm.cell 5
      have c6 := hm.cell 6
      have c7 := hm.cell 7
      have c8 := hm.cell 8
      have c9 := hm.cell 9
      simp only [List.getElem?_toArray, List.getElem?_cons_zero, List.getElem?_cons_succ] at c0 c1 c2 c3 c4 c5 c6 c7 c8 c9
      have hji : (j : Int) < (nL : Int) := by omega
      have hj0 : (0 : Int) ≤ (j : Int) := by omega
      have hro := row_ok2 (HMEM.out L[j] (List.getElem_mem hjl))
      have hcn := HCN.out (L.take j) L[j]
      have hct := HCT.out (L.take j) L[j]
      have hcl := HCL.out (L.take j) L[j]
      have htk : L.take (j + 1) = L.take j ++ [L[j]] := List.take_succ_eq_append_getElem hjl
      rw [← htk] at hcn hct hcl
      have hcell := HCC.out (L.take j)
      have hpl := fun W => HPL.out (L[j].num : Nat) (L[j].typ : Nat) (L[j].slot : Nat) W
      have p1 := HP1.out (L[j].typ : Nat) (L[j].slot : Nat)
      have p7 := HP7.out (L[j].typ : Nat) (L[j].slot : Nat)
      have p10 := HP10.out (L[j].slot : Nat)
      obtain ⟨Lj1, hLj1⟩ : ∃ x, L.take (j + 1) = x := ⟨_, rfl⟩
      rw [hLj1] at hcn hct hcl
      have HLJ := hid hLj1
      clear hLj1
      generalize L.take j = Lj at *
      clear hn0' hn1' hn2' htk hbb
      generalize L[j] = r at *
      obtain ⟨rk, si, nu, ty, sl⟩ := r
      simp only at t0 t1 t2 hro hcn hct hcl hpl p1 p7 p10
      obtain ⟨hro1, hro2, hro3, hro4⟩ := hro
      have HCJ := hid hcell
      have HKW := hid hk
      have HCW := hid hc
      have HBW := hid (HB1.out.trans (hc.below (B := s) (fun q hq => by omega) (by omega)))
      have HC := hid (And.intro c0 (And.intro c1 (And.intro c2 (And.intro c3 (And.intro c4 (And.intro c5 (And.intro c6 (And.intro c7 (And.intro c8 (And.intro c9 (And.intro t0 (And.intro t1 t2))))))))))))
      clear hcell hk hc hm
      have hcase : ty ≤ 6 ∨ (7 ≤ ty ∧ ty ≤ 9) ∨ ty = 10 := by omega

      rcases hcase with h | h | rfl
      · obtain ⟨q1, q2, q3⟩ := p1 (by omega)
        rw [q1, q2, q3] at hpl
        have hset := hcn h hro3
        have tI : (ty : Int) ≤ 6 := by omega
        have sI : (sl : Int) < 6 := by omega
        clear p10 q1 q2 q3 hcn hct hcl
        generalize m.num (sl : Nat) = x at *
        have HPP := hid hpl
        have HSET := hid hset
        have sI0 : (0 : Int) ≤ (sl : Int) := by omega
        clear hpl hset
        go_wp2_with fail
        go_region_held3 (fun w' => w'.cell? ⟨s, 0, none⟩ = some (.int .u8 (m.k : Int)) ∧ w'.cell? ⟨s, 1, none⟩ = some (.int .u64 (m.n0 : Int)) ∧ w'.cell? ⟨s, 2, none⟩ = some (.int .u64 (m.n1 : Int)) ∧ w'.cell? ⟨s, 3, none⟩ = some (.int .u64 (m.n2 : Int)) ∧ w'.cell? ⟨s, 4, none⟩ = some (.int .u64 (m.n3 : Int)) ∧ w'.cell? ⟨s, 5, none⟩ = some (.int .u64 (m.n4 : Int)) ∧ w'.cell? ⟨s, 6, none⟩ = some (.int .u64 (m.n5 : Int)) ∧ w'.cell? ⟨s, 7, none⟩ = some (.string m.s0) ∧ w'.cell? ⟨s, 8, none⟩ = some (.string m.s1) ∧ w'.cell? ⟨s, 9, none⟩ = some (.slice m.A len m.c) ∧ w'.cell? ⟨b, off + j * 3, none⟩ = some (.int .i64 (nu : Int)) ∧ w'.cell? ⟨b, off + j * 3 + 1, none⟩ = some (.int .i64 (ty : Int)) ∧ w'.cell? ⟨b, off + j * 3 + 2, none⟩ = some (.int .i64 (sl : Int))) (first | exact HC2.out | exact HC.out | go_keep) (first | (go_at_call 51; refine (HPP.out _).mono ?_; rintro e w2 ⟨rfl, hb2⟩; have HC2 := hid (held13 (w := wr.drewN 1) hb2 HC.out)))
        obtain ⟨y0, y1, y2, y3, y4, y5, y6, y7, y8, y9, z0, z1, z2⟩ := HC2.out
        have hbw2 := bw_t (bw_d (Below.refl _ wr) 1) hb2
        have hk2 := HKW.out.below hbw2 hls
        have hl2 := hk2.lt
        have hc2 := HCW.out.trans (Chg.of_new hbw2)
        obtain ⟨u, hu⟩ := HCJ.out (1 + sl) (by omega)
        have g0 := (hk2.cell (1 + sl)).trans hu
        have g1 := hk2.frozen (1 + sl)
        have hf := hk2.set_ (1 + sl) (.int .u64 (x : Int))
        rw [HSET.out] at hf
        have hc3 := hc2.set_ (g := s + 2) (.inl rfl) (1 + sl) (.int .u64 (x : Int))
        have HF := hid hf
        have HC3 := hid hc3
        clear hb2 hbw2 hk2 hc2 hu hf hc3 HC HC2 y0 y1 y2 y3 y4 y5 y6 y7 y8 y9 t0 t1 t2 c0 c1 c2 c3 c4 c5 c6 c7 c8 c9
        go_wp2_with fail
        exact ⟨⟨j + 1, by omega, by go_num, by rw [HLJ.out]; exact HF.out, HC3.out⟩, by simp [intOf] <;> omega⟩
      · obtain ⟨q1, q2, q3⟩ := p7 (by omega)
        rw [q1, q2, q3] at hpl
        have hset := hct h (hro4 h.1 h.2)
        have tI : ¬ (ty : Int) ≤ 6 := by omega
        have tJ : (ty : Int) ≤ 9 := by omega
        have sI : (sl : Int) < 2 := by have := hro4 h.1 h.2; omega
        clear p10 q1 q2 q3 hcn hct hcl
        generalize m.text (sl : Nat) = x at *
        have HPP := hid hpl
        have HSET := hid hset
        have sI0 : (0 : Int) ≤ (sl : Int) := by omega
        clear hpl hset
        go_wp2_with fail
        go_region_held3 (fun w' => w'.cell? ⟨s, 0, none⟩ = some (.int .u8 (m.k : Int)) ∧ w'.cell? ⟨s, 1, none⟩ = some (.int .u64 (m.n0 : Int)) ∧ w'.cell? ⟨s, 2, none⟩ = some (.int .u64 (m.n1 : Int)) ∧ w'.cell? ⟨s, 3, none⟩ = some (.int .u64 (m.n2 : Int)) ∧ w'.cell? ⟨s, 4, none⟩ = some (.int .u64 (m.n3 : Int)) ∧ w'.cell? ⟨s, 5, none⟩ = some (.int .u64 (m.n4 : Int)) ∧ w'.cell? ⟨s, 6, none⟩ = some (.int .u64 (m.n5 : Int)) ∧ w'.cell? ⟨s, 7, none⟩ = some (.string m.s0) ∧ w'.cell? ⟨s, 8, none⟩ = some (.string m.s1) ∧ w'.cell? ⟨s, 9, none⟩ = some (.slice m.A len m.c) ∧ w'.cell? ⟨b, off + j * 3, none⟩ = some (.int .i64 (nu : Int)) ∧ w'.cell? ⟨b, off + j * 3 + 1, none⟩ = some (.int .i64 (ty : Int)) ∧ w'.cell? ⟨b, off + j * 3 + 2, none⟩ = some (.int .i64 (sl : Int))) (first | exact HC2.out | exact HC.out | go_keep) (first | (go_at_call 51; refine (HPP.out _).mono ?_; rintro e w2 ⟨rfl, hb2⟩; have HC2 := hid (held13 (w := wr.drewN 1) hb2 HC.out)))
        obtain ⟨y0, y1, y2, y3, y4, y5, y6, y7, y8, y9, z0, z1, z2⟩ := HC2.out
        have hbw2 := bw_t (bw_d (Below.refl _ wr) 1) hb2
        have hk2 := HKW.out.below hbw2 hls
        have hl2 := hk2.lt
        have hc2 := HCW.out.trans (Chg.of_new hbw2)
        obtain ⟨u, hu⟩ := HCJ.out (7 + sl) (by omega)
        have g0 := (hk2.cell (7 + sl)).trans hu
        have g1 := hk2.frozen (7 + sl)
        have hf := hk2.set_ (7 + sl) (.string x)
        rw [HSET.out] at hf
        have hc3 := hc2.set_ (g := s + 2) (.inl rfl) (7 + sl) (.string x)
        have HF := hid hf
        have HC3 := hid hc3
        clear hb2 hbw2 hk2 hc2 hu hf hc3 HC HC2 y0 y1 y2 y3 y4 y5 y6 y7 y8 y9 t0 t1 t2 c0 c1 c2 c3 c4 c5 c6 c7 c8 c9
        go_wp2_with fail
        exact ⟨⟨j + 1, by omega, by go_num, by rw [HLJ.out]; exact HF.out, HC3.out⟩, by simp [intOf] <;> omega⟩
      · rw [show ((10 : Nat) : Int) = 10 from rfl] at hpl t1
        obtain ⟨q1, q2, q3⟩ := p10
        rw [q1, q2, q3] at hpl
        have hset := hcl rfl
        skip
        skip
        clear p1 p7 q1 q2 q3 hcn hct hcl
        skip
        have HPP := hid hpl
        have HSET := hid hset
        have sI0 : (0 : Int) ≤ (sl : Int) := by omega
        clear hpl hset
        go_wp2_with fail
        go_region_held3 (fun w' => w'.cell? ⟨s, 0, none⟩ = some (.int .u8 (m.k : Int)) ∧ w'.cell? ⟨s, 1, none⟩ = some (.int .u64 (m.n0 : Int)) ∧ w'.cell? ⟨s, 2, none⟩ = some (.int .u64 (m.n1 : Int)) ∧ w'.cell? ⟨s, 3, none⟩ = some (.int .u64 (m.n2 : Int)) ∧ w'.cell? ⟨s, 4, none⟩ = some (.int .u64 (m.n3 : Int)) ∧ w'.cell? ⟨s, 5, none⟩ = some (.int .u64 (m.n4 : Int)) ∧ w'.cell? ⟨s, 6, none⟩ = some (.int .u64 (m.n5 : Int)) ∧ w'.cell? ⟨s, 7, none⟩ = some (.string m.s0) ∧ w'.cell? ⟨s, 8, none⟩ = some (.string m.s1) ∧ w'.cell? ⟨s, 9, none⟩ = some (.slice m.A len m.c) ∧ w'.cell? ⟨b, off + j * 3, none⟩ = some (.int .i64 (nu : Int)) ∧ w'.cell? ⟨b, off + j * 3 + 1, none⟩ = some (.int .i64 10) ∧ w'.cell? ⟨b, off + j * 3 + 2, none⟩ = some (.int .i64 (sl : Int))) (first | exact HC2.out | exact HC.out | go_keep) (first | (go_at_call 51; refine (HPP.out _).mono ?_; rintro e w2 ⟨rfl, hb2⟩; have HC2 := hid (held13 (w := wr.drewN 1) hb2 HC.out)))
        obtain ⟨y0, y1, y2, y3, y4, y5, y6, y7, y8, y9, z0, z1, z2⟩ := HC2.out
        have hbw2 := bw_t (bw_d (Below.refl _ wr) 1) hb2
        have hk2 := HKW.out.below hbw2 hls
        have hl2 := hk2.lt
        have hc2 := HCW.out.trans (Chg.of_new hbw2)
        obtain ⟨u, hu⟩ := HCJ.out (9) (by omega)
        have g0 := (hk2.cell (9)).trans hu
        have g1 := hk2.frozen (9)
        have hf := hk2.set_ (9) (.slice m.A len m.c)
        rw [HSET.out] at hf
        have hc3 := hc2.set_ (g := s + 2) (.inl rfl) (9) (.slice m.A len m.c)
        have HF := hid hf
        have HC3 := hid hc3
        clear hb2 hbw2 hk2 hc2 hu hf hc3 HC HC2 y0 y1 y2 y3 y4 y5 y6 y7 y8 y9 t0 t1 t2 c0 c1 c2 c3 c4 c5 c6 c7 c8 c9
        go_wp2_with fail
        exact ⟨⟨j + 1, by omega, by go_num, by rw [HLJ.out]; exact HF.out, HC3.out⟩, by simp [intOf] <;> omega⟩
    · obtain rfl : j = nL := by omega
      rw [List.take_of_length_le (by have := HNL.out; omega), HXX.out] at hk
      have hr := hc.blk HK1.out (by omega)
      have c0 := hk.cell 0
      have c1 := hk.cell 1
      have c2 := hk.cell 2
      have c3 := hk.cell 3
      have c4 := hk.cell 4
      have c5 := hk.cell 5
      have c6 := hk.cell 6
      have c7 := hk.cell 7
      have c8 := hk.cell 8
      have c9 := hk.cell 9
      simp only [List.getElem?_toArray, List.getElem?_cons_zero, List.getElem?_cons_succ] at c0 c1 c2 c3 c4 c5 c6 c7 c8 c9
      have d0 := hr.cell 0
      have g0 := hr.frozen 0
      have d1 := hr.cell 1
      have g1 := hr.frozen 1
      have d2 := hr.cell 2
      have g2 := hr.frozen 2
      have d3 := hr.cell 3
      have g3 := hr.frozen 3
      have d4 := hr.cell 4
      have g4 := hr.frozen 4
      have d5 := hr.cell 5
      have g5 := hr.frozen 5
      have d6 := hr.cell 6
      have g6 := hr.frozen 6
      have d7 := hr.cell 7
      have g7 := hr.frozen 7
      have d8 := hr.cell 8
      have g8 := hr.frozen 8
      have d9 := hr.cell 9
      have g9 := hr.frozen 9
      simp only [List.getElem?_toArray, List.getElem?_cons_zero, List.getElem?_cons_succ] at d0 d1 d2 d3 d4 d5 d6 d7 d8 d9
      have hend := mstore hr (.int .u8 (m.k : Int)) (.int .u64 (a1 : Int)) (.int .u64 (a2 : Int)) (.int .u64 (a3 : Int)) (.int .u64 (a4 : Int)) (.int .u64 (a5 : Int)) (.int .u64 (a6 : Int)) (.string t7) (.string t8) (.slice ad9 ln9 cp9)
      have hbr := HB1.out.trans (hc.below (B := s) (fun q hq => by omega) (by omega))
      have hlr := hr.lt
      have HE := hid hend
      have HBR := hid hbr
      clear hend hbr hk hr hc
      go_wp2_with fail
      have hB := HBR.out.trans (HE.out.2.below (B := s) (fun g hg => by omega) (by omega))
      have hbk := HE.out.1
      have r0 := hbk.cell 0
      have r1 := hbk.cell 1
      have r2 := hbk.cell 2
      have r3 := hbk.cell 3
      have r4 := hbk.cell 4
      have r5 := hbk.cell 5
      have r6 := hbk.cell 6
      have r7 := hbk.cell 7
      have r8 := hbk.cell 8
      have r9 := hbk.cell 9
      clear HE hbk
      generalize World.setCell (World.setCell _ _ _) _ _ = W9 at *
      simp only [List.getElem?_toArray, List.getElem?_cons_zero, List.getElem?_cons_succ] at r0 r1 r2 r3 r4 r5 r6 r7 r8 r9
      refine bodyPost_ret (v := .agg #[.int .u8 (m.k : Int), .int .u64 (a1 : Int), .int .u64 (a2 : Int), .int .u64 (a3 : Int), .int .u64 (a4 : Int), .int .u64 (a5 : Int), .int .u64 (a6 : Int), .string t7, .string t8, .slice ad9 ln9 cp9]) (by simp [results, Tryz.results48, go_sem, r0, r1, r2, r3, r4, r5, r6, r7, r8, r9]) rfl ?_
      exact ⟨rfl, hB⟩
end Go.Proofs.YtealjpolomhdeaaGreat
set_option linter.unusedVariables false
namespace Go.Proofs.YtealjpolomhdeaaGreat
open Go.RowKit
set_option maxRecDepth 100000 in
set_option maxHeartbeats 4000000 in
theorem rcheck9_any (m : MV) (v : Int) (w : World) (hok : MvOk w m) (hv1 : -9223372036854775808 ≤ v) (hv2 : v ≤ 9223372036854775807) : Calls Tryz.prog 29 #[mvV m, .int .i64 v] w (FltOf w (chkV m (ofL (m.k : Int) v))) := by
  have hof := fun W => r8of_any (m.k : Int) v W (by omega) (by have := hok.k; omega) hv1 hv2
  unfold OfR at hof
  have hkp := fun W => rclean_any m v W hok.k hv1 hv2
  have hq40 := ofL_le40 (m.k : Int) v
  generalize ofL (m.k : Int) v = L at *
  have hsm := fun W (hW : Below w.heap.size w W) => rsame9_any m (keptM L m) W (hok.l.below hW) (kept_sl L (hok.l.below hW))
  have hwr := fun (num t i : Int) W (hW : Below w.heap.size w W) => rone9_any m num t i W (hok.below hW)
  have hV : chkV m L = if L.length = 0 then (7, 0) else if (chkL m L).1 ≠ 0 then chkL m L else if sameB m (keptM L m) then (0, 0) else (20, 0) := rfl
  generalize chkV m L = R at *
  generalize mvV (keptM L m) = kv at *
  generalize sameB m (keptM L m) = sb at *
  unfold mvV mvA at *
  generalize m.l.length = len at *
  obtain ⟨nL, hnL⟩ : ∃ n, L.length = n := ⟨_, rfl⟩
  rw [hnL] at hV hq40 hof
  have HNL := hid hnL
  have HSOF := hid hof
  have HKP := hid hkp
  have HSM := hid hsm
  have HWR := hid hwr
  have HV := hid hV
  clear hok hnL hof hkp hsm hwr hV
  obtain ⟨T, hT⟩ : ∃ T, FltOf w R = T := ⟨_, rfl⟩
  rw [hT]
  have HTT := hid hT
  clear hT
  obtain ⟨s, hws⟩ : ∃ s, w.heap.size = s := ⟨_, rfl⟩
  go_enter Tryz.func29, Tryz.ntmps29
  go_wp2_with fail
  have hz : ((w.alloc (.cells #[.int .u8 (m.k : Int), .int .u64 (m.n0 : Int), .int .u64 (m.n1 : Int), .int .u64 (m.n2 : Int), .int .u64 (m.n3 : Int), .int .u64 (m.n4 : Int), .int .u64 (m.n5 : Int), .string m.s0, .string m.s1, .slice m.A len m.c] 29)).alloc (.cells #[.int .i64 0, .int .i64 0] 32)).heap.size = s + 2 := by simp [hws]
  have hb0 := bw_a (bw_a (Below.refl w.heap.size w) (.cells #[.int .u8 (m.k : Int), .int .u64 (m.n0 : Int), .int .u64 (m.n1 : Int), .int .u64 (m.n2 : Int), .int .u64 (m.n3 : Int), .int .u64 (m.n4 : Int), .int .u64 (m.n5 : Int), .string m.s0, .string m.s1, .slice m.A len m.c] 29)) (.cells #[.int .i64 0, .int .i64 0] 32)
  have hk0 := (Blk.new w 29 #[.int .u8 (m.k : Int), .int .u64 (m.n0 : Int), .int .u64 (m.n1 : Int), .int .u64 (m.n2 : Int), .int .u64 (m.n3 : Int), .int .u64 (m.n4 : Int), .int .u64 (m.n5 : Int), .string m.s0, .string m.s1, .slice m.A len m.c]).alloc (.cells #[.int .i64 0, .int .i64 0] 32)
  have hk1 := Blk.new (w.alloc (.cells #[.int .u8 (m.k : Int), .int .u64 (m.n0 : Int), .int .u64 (m.n1 : Int), .int .u64 (m.n2 : Int), .int .u64 (m.n3 : Int), .int .u64 (m.n4 : Int), .int .u64 (m.n5 : Int), .string m.s0, .string m.s1, .slice m.A len m.c] 29)) 32 #[.int .i64 0, .int .i64 0]
  rw [World.size_alloc] at hk1
  rw [hws] at hb0 hk0 hk1
  generalize (w.alloc _).alloc _ = W at *
  refine (HSOF.out W).mono ?_
  rintro e w1 ⟨A, c, rfl, hs1, hb1⟩
  have hk0 := hk0.below hb1 (by omega)
  have hk1 := hk1.below hb1 (by omega)
  have hB1 := hb0.trans (hb1.mono (by omega))
  have hw1 : s + 2 ≤ w1.heap.size := by have := hb1.size; omega
  clear hb0 hb1 hz HSOF
  have HS1 := hid hs1

  have HK0 := hid hk0
  have HK1 := hid hk1
  have HB1 := hid hB1
  -- the end: a fault is stored
  have hend : ∀ (W9 : World) (x y : Int), Below w1.heap.size w1 W9 → R = (x, y) → ∃ W', W' = (W9.setCell ⟨s + 1, 0, none⟩ (.int .i64 x)).setCell ⟨s + 1, 1, none⟩ (.int .i64 y) ∧ Blk W' (s + 1) 32 #[.int .i64 x, .int .i64 y] ∧ FltOf w R (.returned (.agg #[.int .i64 x, .int .i64 y])) W' := by
    intro W9 x y hB hR
    have h1 := fstore (hk1.below hB hk1.lt) (.int .i64 x) (.int .i64 y)
    refine ⟨_, rfl, h1.1, by rw [hR], ?_⟩
    rw [hws]
    exact (hB1.trans (hB.mono (by omega))).trans (h1.2.below (B := s) (fun q hq => by omega) (by have := hB.size; omega))
  have hcl : ∀ (W9 : World), Below w1.heap.size w1 W9 → (W9.cell? ⟨s + 1, 0, none⟩ = some (.int .i64 0) ∧ W9.cell? ⟨s + 1, 1, none⟩ = some (.int .i64 0) ∧ W9.frozen? ⟨s + 1, 0, none⟩ = false ∧ W9.frozen? ⟨s + 1, 1, none⟩ = false) := by
    intro W9 hB
    have h1 := hk1.below hB hk1.lt
    exact ⟨h1.cell 0, h1.cell 1, h1.frozen 0, h1.frozen 1⟩
  have hcm : ∀ (W9 : World), Below w1.heap.size w1 W9 → Blk W9 s 29 #[.int .u8 (m.k : Int), .int .u64 (m.n0 : Int), .int .u64 (m.n1 : Int), .int .u64 (m.n2 : Int), .int .u64 (m.n3 : Int), .int .u64 (m.n4 : Int), .int .u64 (m.n5 : Int), .string m.s0, .string m.s1, .slice m.A len m.c] := fun W9 hB => hk0.below hB hk0.lt
  have HEND := hid hend
  have HCL := hid hcl
  have HCM := hid hcm
  clear hend hcl hcm hs1 hk0 hk1 hB1 HK1 HK0
  by_cases hn0 : nL = 0
  · have hR := HV.out
    rw [if_pos hn0] at hR
    subst hn0
    have HY := hid hR
    clear hR
    obtain ⟨c0, c1, f0, f1⟩ := HCL.out w1 (Below.refl _ _)
    go_wp2_with fail
    obtain ⟨W', hW', hbk, hfl⟩ := HEND.out w1 7 0 (Below.refl _ _) HY.out
    rw [← hW']
    have r0 := hbk.cell 0
    have r1 := hbk.cell 1
    simp only [List.getElem?_toArray, List.getElem?_cons_zero, List.getElem?_cons_succ] at r0 r1
    clear hW'
    refine bodyPost_ret (v := .agg #[.int .i64 7, .int .i64 0]) (by simp [results, Tryz.results29, go_sem, r0, r1]) rfl ?_
    rw [← HTT.out]
    exact hfl
  have hn1 : 0 < nL := by omega
  have hnb : ((nL : Int) == 0) = false := by simp; omega
  have hR := HV.out
  rw [if_neg hn0] at hR
  have HR := hid hR
  clear hR HV
  go_wp2_with fail
  go_loopw [6] (fun i wr => ∃ j : Nat, j ≤ nL ∧ i = .int .i64 (j : Int) ∧ chkL m L = chkL m (L.drop j) ∧ Below w1.heap.size w1 wr) (fun i _ => nL - (intOf i).toNat)
  case atStart => exact ⟨0, by omega, rfl, rfl, Below.refl _ _⟩
  case round =>
    obtain ⟨j, hj, rfl, hch, hB⟩ := hrel
    have hk := HCM.out wr hB
    have c0 := hk.cell 0
    have c1 := hk.cell 1
    have c2 := hk.cell 2
    have c3 := hk.cell 3
    have c4 := hk.cell 4
    have c5 := hk.cell 5
    have c6 := hk.cell 6
    have c7 := hk.cell 7
    have c8 := hk.cell 8
    have c9 := hk.cell 9
    simp only [List.getElem?_toArray, List.getElem?_cons_zero, List.getElem?_cons_succ] at c0 c1 c2 c3 c4 c5 c6 c7 c8 c9
    have hls := hk.lt
    by_cases hlt : j < nL
    · have hjl : j < L.length := by have := HNL.out; omega
      have hn0' : (L.flatMap specC)[j * 3 + 0]? = _ := flatMap_get specC 3 L j 0 hjl (fun _ _ => rfl) (by omega)
      have hn1' : (L.flatMap specC)[j * 3 + 1]? = _ := flatMap_get specC 3 L j 1 hjl (fun _ _ => rfl) (by omega)
      have hn2' : (L.flatMap specC)[j * 3 + 2]? = _ := flatMap_get specC 3 L j 2 hjl (fun _ _ => rfl) (by omega)
      obtain ⟨b, off, hA, hbw, t0⟩ := HS1.out.rd _ _ hn0'
      subst hA
      have t1 := HS1.out.rd.addr _ _ hn1'
      have t2 := HS1.out.rd.addr _ _ hn2'
      rw [addr_add] at t1 t2
      simp only [Nat.add_zero, ← Nat.add_assoc] at t0 t1 t2
      have t0 := (hB.cell (p := ⟨b, off + j * 3, none⟩) hbw).trans t0
      have t1 := (hB.cell (p := ⟨b, off + j * 3 + 1, none⟩) hbw).trans t1
      have t2 := (hB.cell (p := ⟨b, off + j * 3 + 2, none⟩) hbw).trans t2
      have hji : (j : Int) < (nL : Int) := by omega
      have hj0 : (0 : Int) ≤ (j : Int) := by omega
      have hat := chkL_at (m := m) hjl
      rw [← hch, fldE_eq] at hat
      have hwr := fun W hW => HWR.out (L[j].num : Nat) (L[j].typ : Nat) (L[j].slot : Nat) W hW
      clear hn0' hn1' hn2'
      generalize wrongE m (L[j].typ : Nat) (L[j].slot : Nat) = we at *
      generalize L[j] = r at *
      obtain ⟨rk, si, nu, ty, sl⟩ := r
      simp only at t0 t1 t2 hat hwr
      have HAT := hid hat
      have HW := hid hwr
      have HBB := hid hB
      have HCH := hid hch
      have HC := hid (And.intro c0 (And.intro c1 (And.intro c2 (And.intro c3 (And.intro c4 (And.intro c5 (And.intro c6 (And.intro c7 (And.intro c8 (And.intro c9 (And.intro t0 (And.intro t1 t2))))))))))))
      clear hat hwr hB hch hk
      have hWd : Below w.heap.size w (wr.drewN 1) := by rw [hws]; exact HB1.out.trans ((bw_d' HBB.out 1).mono (by omega))
      go_wp2_with fail
      go_region_held3 (fun w' => w'.cell? ⟨s, 0, none⟩ = some (.int .u8 (m.k : Int)) ∧ w'.cell? ⟨s, 1, none⟩ = some (.int .u64 (m.n0 : Int)) ∧ w'.cell? ⟨s, 2, none⟩ = some (.int .u64 (m.n1 : Int)) ∧ w'.cell? ⟨s, 3, none⟩ = some (.int .u64 (m.n2 : Int)) ∧ w'.cell? ⟨s, 4, none⟩ = some (.int .u64 (m.n3 : Int)) ∧ w'.cell? ⟨s, 5, none⟩ = some (.int .u64 (m.n4 : Int)) ∧ w'.cell? ⟨s, 6, none⟩ = some (.int .u64 (m.n5 : Int)) ∧ w'.cell? ⟨s, 7, none⟩ = some (.string m.s0) ∧ w'.cell? ⟨s, 8, none⟩ = some (.string m.s1) ∧ w'.cell? ⟨s, 9, none⟩ = some (.slice m.A len m.c) ∧ w'.cell? ⟨b, off + j * 3, none⟩ = some (.int .i64 (nu : Int)) ∧ w'.cell? ⟨b, off + j * 3 + 1, none⟩ = some (.int .i64 (ty : Int)) ∧ w'.cell? ⟨b, off + j * 3 + 2, none⟩ = some (.int .i64 (sl : Int))) (first | exact HC2.out | exact HC.out | go_keep) (first | (go_at_call 47; refine (HW.out _ hWd).mono ?_; rintro e w2 ⟨rfl, hb2⟩; have HC2 := hid (held13 (w := wr.drewN 1) hb2 HC.out)))
      have hbw2 := bw_t (bw_d (Below.refl _ wr) 1) hb2
      have hB2 := HBB.out.trans (hbw2.mono HBB.out.size)
      have HB2 := hid hB2
      obtain ⟨y0, y1, y2, y3, y4, y5, y6, y7, y8, y9, z0, z1, z2⟩ := HC2.out
      obtain ⟨g0, g1, f0, f1⟩ := HCL.out w2 hB2
      clear hb2 hbw2 hB2 HC HC2 hWd t0 t1 t2 c0 c1 c2 c3 c4 c5 c6 c7 c8 c9
      by_cases hwe : we = 0
      · have h2 := HAT.out
        rw [if_pos hwe] at h2
        subst hwe
        have HY := hid h2
        clear h2
        go_wp2_with fail
        exact ⟨⟨j + 1, by omega, by go_num, HY.out, HB2.out⟩, by simp [intOf] <;> omega⟩
      · have hwb : (we != 0) = true := by simpa using hwe
        have h2 := HAT.out
        rw [if_neg hwe] at h2
        have h3 := HR.out
        rw [h2, if_pos hwe] at h3
        have HY := hid h3
        clear h2 h3 hwe
        go_wp2_with fail
        obtain ⟨W', hW', hbk, hfl⟩ := HEND.out w2 we (nu : Int) HB2.out HY.out
        rw [← hW']
        have r0 := hbk.cell 0
        have r1 := hbk.cell 1
        simp only [List.getElem?_toArray, List.getElem?_cons_zero, List.getElem?_cons_succ] at r0 r1
        clear hW'
        refine bodyPost_ret (v := .agg #[.int .i64 we, .int .i64 (nu : Int)]) (by simp [results, Tryz.results29, go_sem, r0, r1]) rfl ?_
        rw [← HTT.out]
        exact hfl
    · obtain rfl : j = nL := by omega
      rw [chkL_end (by have := HNL.out; omega)] at hch
      have h3 := HR.out
      rw [hch] at h3
      have h4 : R = if sb then ((0 : Int), (0 : Int)) else (20, 0) := h3
      have HY := hid h4
      have HBR := hid hB
      have HC := hid (And.intro c0 (And.intro c1 (And.intro c2 (And.intro c3 (And.intro c4 (And.intro c5 (And.intro c6 (And.intro c7 (And.intro c8 c9)))))))))
      clear h3 h4 hB hch hk
      go_wp2_with fail
      go_region_held3 (fun w' => w'.cell? ⟨s, 0, none⟩ = some (.int .u8 (m.k : Int)) ∧ w'.cell? ⟨s, 1, none⟩ = some (.int .u64 (m.n0 : Int)) ∧ w'.cell? ⟨s, 2, none⟩ = some (.int .u64 (m.n1 : Int)) ∧ w'.cell? ⟨s, 3, none⟩ = some (.int .u64 (m.n2 : Int)) ∧ w'.cell? ⟨s, 4, none⟩ = some (.int .u64 (m.n3 : Int)) ∧ w'.cell? ⟨s, 5, none⟩ = some (.int .u64 (m.n4 : Int)) ∧ w'.cell? ⟨s, 6, none⟩ = some (.int .u64 (m.n5 : Int)) ∧ w'.cell? ⟨s, 7, none⟩ = some (.string m.s0) ∧ w'.cell? ⟨s, 8, none⟩ = some (.string m.s1) ∧ w'.cell? ⟨s, 9, none⟩ = some (.slice m.A len m.c)) (first | exact HC3.out | exact HC2.out | exact HC.out | go_keep) (first | (go_at_call 48; refine (HKP.out _).mono ?_; rintro e w2 ⟨rfl, hb2⟩; have HC2 := hid (heldm (w := wr.drewN 1) hb2 HC.out); have hW2 : Below w.heap.size w w2 := (by rw [hws]; exact HB1.out.trans ((HBR.out.trans ((bw_t (bw_d (Below.refl _ wr) 1) hb2).mono HBR.out.size)).mono (by omega)))) | (go_at_call 9; refine (HSM.out _ hW2).mono ?_; rintro e w3 ⟨rfl, hb3⟩; have HC3 := hid (heldm hb3 HC2.out)))
      have hB3 := HBR.out.trans ((bw_t (bw_t (bw_d (Below.refl _ wr) 1) hb2) hb3).mono HBR.out.size)
      have HB3 := hid hB3
      obtain ⟨g0, g1, f0, f1⟩ := HCL.out w3 hB3
      clear hB3 hb3 hb2 hW2 HC2 HC3
      cases sb with
      | true =>
        go_wp2_with fail
        obtain ⟨W', hW', hbk, hfl⟩ := HEND.out w3 0 0 HB3.out HY.out
        rw [← hW']
        have r0 := hbk.cell 0
        have r1 := hbk.cell 1
        simp only [List.getElem?_toArray, List.getElem?_cons_zero, List.getElem?_cons_succ] at r0 r1
        clear hW'
        refine bodyPost_ret (v := .agg #[.int .i64 0, .int .i64 0]) (by simp [results, Tryz.results29, go_sem, r0, r1]) rfl ?_
        rw [← HTT.out]
        exact hfl
      | false =>
        go_wp2_with fail
        obtain ⟨W', hW', hbk, hfl⟩ := HEND.out w3 20 0 HB3.out HY.out
        rw [← hW']
        have r0 := hbk.cell 0
        have r1 := hbk.cell 1
        simp only [List.getElem?_toArray, List.getElem?_cons_zero, List.getElem?_cons_succ] at r0 r1
        clear hW'
        refine bodyPost_ret (v := .agg #[.int .i64 20, .int .i64 0]) (by simp [results, Tryz.results29, go_sem, r0, r1]) rfl ?_
        rw [← HTT.out]
        exact hfl
end Go.Proofs.YtealjpolomhdeaaGreat
set_option linter.unusedVariables false
namespace Go.Proofs.YtealjpolomhdeaaGreat
open Go.RowKit
def wErr (x : Int × Int × Nat × List UInt8) : Nat := pErr x.1 x.2.1 x.2.2.2
def wB (x : Int × Int × Nat × List UInt8) : List UInt8 := pB x.1 x.2.1 x.2.2.1 x.2.2.2
/-- A field's bytes. -/
def fldB (m : MV) (num t i : Int) : List UInt8 := if dflB m t i then [] else if (partW m num t i).all (fun x => decide (wErr x = 0)) then (partW m num t i).flatMap wB else []
theorem dfl_cases {m : MV} {t i : Int} (h : dflB m t i = false) : ((t = 1 ∨ t = 2 ∨ t = 4 ∨ t = 5 ∨ t = 6) ∧ ∃ k : Nat, k ≤ 5 ∧ i = (k : Int)) ∨ t = 3 ∨ ((t = 7 ∨ t = 8 ∨ t = 9) ∧ ∃ k : Nat, k ≤ 1 ∧ i = (k : Int)) ∨ t = 10 := by
  by_cases c1 : 1 ≤ t ∧ t ≤ 6
  · rw [dfl_num _ _ _ c1] at h
    by_cases c3 : t = 3
    · exact .inr (.inl c3)
    by_cases c : i < 0 ∨ 6 ≤ i
    · rw [num_out _ _ c] at h; simp at h
    · exact .inl ⟨by omega, i.toNat, by omega, by omega⟩
  by_cases c2 : 7 ≤ t ∧ t ≤ 9
  · rw [dfl_text _ _ _ c2] at h
    by_cases c : i < 0 ∨ 2 ≤ i
    · rw [text_out _ _ c] at h; simp at h
    · exact .inr (.inr (.inl ⟨by omega, i.toNat, by omega, by omega⟩))
  by_cases c3 : t = 10
  · exact .inr (.inr (.inr c3))
  · rw [dfl_out _ _ _ (by omega)] at h; cases h
theorem parts_any (m : MV) (num t i : Int) (w : World) (hok : MvOk w m) (hd : dflB m t i = false) (hlen : m.l.length ≤ 100) (hn1 : -9223372036854775808 ≤ num) (hn2 : num ≤ 9223372036854775807) :
    Calls Tryz.prog 96 #[mvV m, .agg #[.int .i64 num, .int .i64 t, .int .i64 i]] w (PartsR m num t i w) := by
  rcases dfl_cases hd with ⟨h, k, hk, rfl⟩ | rfl | ⟨h, k, hk, rfl⟩ | rfl
  · exact parts_num m num t k w hok hk h hn1 hn2
  · exact parts_zig m num i w hok hn1 hn2
  · exact parts_text m num t k w hok hk h hn1 hn2
  · exact parts_list m num i w hok hlen hn1 hn2
/-- Few texts, none long. -/
structure MvSm (m : MV) : Prop where
  l : m.l.length ≤ 100
  s : ∀ i, (m.text i).size ≤ 8000
  e : ∀ s ∈ m.l, s.size ≤ 8000
theorem partW_facts {m : MV} {num t i : Int} (h : MvSm m) : (partW m num t i).length ≤ 100 ∧ ∀ x ∈ partW m num t i, x.2.2.2.length ≤ 8000 := by
  unfold partW
  split
  · refine ⟨by rw [List.length_map]; exact h.l, fun x hx => ?_⟩
    obtain ⟨s, hs, rfl⟩ := List.mem_map.1 hx
    exact h.e s hs
  split
  · refine ⟨by simp, fun x hx => ?_⟩
    simp only [List.mem_singleton] at hx
    subst hx
    exact h.s i
  split
  · refine ⟨by simp, fun x hx => ?_⟩
    simp only [List.mem_singleton] at hx
    subst hx
    exact Nat.zero_le _
  · refine ⟨by simp, fun x hx => ?_⟩
    simp only [List.mem_singleton] at hx
    subst hx
    exact Nat.zero_le _
theorem fld_put {m : MV} {num t i : Int} {l : List FV} (hd : dflB m t i = false) (hl : l.map fvW = partW m num t i) : fldB m num t i = if (putsE l 0).1 = 0 then l.flatMap pBF else [] := by
  have hb : (partW m num t i).flatMap wB = l.flatMap pBF := by rw [← hl, List.flatMap_map]; rfl
  unfold fldB
  rw [hd, hb]
  simp only [Bool.false_eq_true, if_false]
  by_cases c : (putsE l 0).1 = 0
  · have ha := putsE_all l 0 c
    rw [if_pos c, if_pos]
    rw [List.all_eq_true, ← hl]
    intro x hx
    obtain ⟨f, hf, rfl⟩ := List.mem_map.1 hx
    exact decide_eq_true (ha f hf)
  · rw [if_neg c, if_neg]
    intro h
    rw [List.all_eq_true, ← hl] at h
    have hz : ∀ f ∈ l, pErrF f = 0 := fun f hf => of_decide_eq_true (h _ (List.mem_map_of_mem hf))
    rw [putsE_zero l hz 0] at c
    exact c rfl
set_option maxRecDepth 100000 in
set_option maxHeartbeats 4000000 in
theorem field_any (m : MV) (num t i : Int) (w : World) (hok : MvOk w m) (hsm : MvSm m) (hn1 : -9223372036854775808 ≤ num) (hn2 : num ≤ 9223372036854775807) :
    Calls Tryz.prog 70 #[mvV m, .agg #[.int .i64 num, .int .i64 t, .int .i64 i]] w fun e w' => ∃ A c, e = .returned (.slice A (fldB m num t i).length c) ∧ Sl w' A c ((fldB m num t i).map bv) ∧ Below w.heap.size w w' := by
  obtain ⟨R, hR⟩ : ∃ R : Ending → World → Prop, R = fun e w' => ∃ A c, e = .returned (.slice A (fldB m num t i).length c) ∧ Sl w' A c ((fldB m num t i).map bv) ∧ Below w.heap.size w w' := ⟨_, rfl⟩
  rw [← hR]
  have HR := hid hR
  clear hR
  have hvd := fun W => vdef_any m num t i W
  have hpf := partW_facts (num := num) (t := t) (i := i) hsm
  have hpa := fun hd W (hW : Below w.heap.size w W) => parts_any m num t i W (hok.below hW) hd hsm.l hn1 hn2
  have hfz : dflB m t i = true → fldB m num t i = [] := fun h => by unfold fldB; rw [h]; rfl
  have hfp := fun (l : List FV) hd hl => fld_put (m := m) (num := num) (t := t) (i := i) (l := l) hd hl
  unfold PartsR at hpa
  generalize fldB m num t i = fb at *
  generalize partW m num t i = pw at *
  generalize dflB m t i = db at *
  clear hok hsm
  unfold mvV mvA at *
  generalize m.l.length = len at *
  obtain ⟨s, hws⟩ : ∃ s, w.heap.size = s := ⟨_, rfl⟩
  have hbx := bx2 w s len m num t i hws
  rw [hws] at hpa HR
  have HVD := hid hvd
  have HPA := hid hpa
  have HPF := hid hpf
  have HFZ := hid hfz
  have HFP := hid hfp
  clear hvd hpa hpf hfz hfp
  obtain ⟨W, hW⟩ : ∃ W, (w.alloc (.cells #[.int .u8 (m.k : Int), .int .u64 (m.n0 : Int), .int .u64 (m.n1 : Int), .int .u64 (m.n2 : Int), .int .u64 (m.n3 : Int), .int .u64 (m.n4 : Int), .int .u64 (m.n5 : Int), .string m.s0, .string m.s1, .slice m.A len m.c] 29)).alloc (.cells #[.int .i64 num, .int .i64 t, .int .i64 i] 69) = W := ⟨_, rfl⟩
  rw [hW] at hbx
  have HBX := hid hbx
  clear hbx
  have x0 := HBX.out.b0
  have x1 := HBX.out.b1
  have c0 := x0.cell 0
  have c1 := x0.cell 1
  have c2 := x0.cell 2
  have c3 := x0.cell 3
  have c4 := x0.cell 4
  have c5 := x0.cell 5
  have c6 := x0.cell 6
  have c7 := x0.cell 7
  have c8 := x0.cell 8
  have c9 := x0.cell 9
  have d0 := x1.cell 0
  have d1 := x1.cell 1
  have d2 := x1.cell 2
  simp only [List.getElem?_toArray, List.getElem?_cons_zero, List.getElem?_cons_succ] at c0 c1 c2 c3 c4 c5 c6 c7 c8 c9 d0 d1 d2
  clear x0 x1
  go_enter Tryz.func70, Tryz.ntmps70
  go_wp2_with fail
  clear hW
  refine (HVD.out W).mono ?_
  rintro e w1 ⟨rfl, hb1⟩
  clear c0 c1 c2 c3 c4 c5 c6 c7 c8 c9 d0 d1 d2
  have hlt := HBX.out.b1.lt
  have hk1 := HBX.out.b0.below hb1 (by omega)
  have hj1 := HBX.out.b1.below hb1 (by omega)
  have hB1 := HBX.out.bel.trans (hb1.mono (by omega))
  have c0 := hk1.cell 0
  have c1 := hk1.cell 1
  have c2 := hk1.cell 2
  have c3 := hk1.cell 3
  have c4 := hk1.cell 4
  have c5 := hk1.cell 5
  have c6 := hk1.cell 6
  have c7 := hk1.cell 7
  have c8 := hk1.cell 8
  have c9 := hk1.cell 9
  have d0 := hj1.cell 0
  have d1 := hj1.cell 1
  have d2 := hj1.cell 2
  simp only [List.getElem?_toArray, List.getElem?_cons_zero, List.getElem?_cons_succ] at c0 c1 c2 c3 c4 c5 c6 c7 c8 c9 d0 d1 d2
  have HB1 := hid hB1
  have hl1 := hj1.lt
  clear hk1 hj1 hb1 hB1
  cases db with
  | true =>
    have HFZT := hid (HFZ.out rfl)
    clear HFZ HFP HPA
    go_wp2_with fail
    rw [HR.out]
    exact ⟨none, 0, by rw [HFZT.out]; rfl, by rw [HFZT.out]; exact Sl.nil_ _, HB1.out⟩
  | false =>
    have HPT := hid (HPA.out rfl)
    have HFPT := hid (fun l => HFP.out l rfl)
    clear HPA HFP HFZ
    go_wp2_with fail
    refine (HPT.out _ HB1.out).mono ?_
    rintro e w2 ⟨l, v, rfl, ho, hlm, hfo, hb2⟩
    obtain ⟨A2, c2x, rfl, hs2⟩ := sln_own (by omega) ho
    have hll : l.length ≤ 100 := by have := HPF.out.1; rw [← hlm, List.length_map] at this; exact this
    have hput := sputs8_any l l.length A2 c2x w2 rfl hll hs2 hfo (fun f hf => by have := HPF.out.2 (fvW f) (by rw [← hlm]; exact List.mem_map_of_mem hf); exact this)
    have hfb := HFPT.out l hlm
    have HPUT := hid hput
    have HFB := hid hfb
    have HB2 := hid (HB1.out.trans (hb2.mono (by omega)))
    clear hput hfb hb2 hfo hlm hs2 ho c0 c1 c2 c3 c4 c5 c6 c7 c8 c9 d0 d1 d2
    generalize l.length = ll at *
    go_wp2_with fail
    refine HPUT.out.mono ?_
    rintro e w3 ⟨(⟨hz, v3, rfl, ho3⟩ | ⟨hz, rfl⟩), hb3⟩
    · obtain ⟨A3, c3, rfl, -, hs3⟩ := Sl.of_own ho3
      have hf := HFB.out
      rw [if_pos hz] at hf
      rw [← hf] at hs3 ⊢
      have HS3 := hid hs3
      have HB3 := hid (HB2.out.trans (hb3.mono (by have := HB2.out.size; omega)))
      clear hf hs3 ho3 hz hb3 HFB HPUT
      generalize hfl : fb.length = fl at *
      have HFL := hid hfl
      clear hfl
      go_wp2_with fail
      rw [HR.out]
      exact ⟨A3, c3, by first | rfl | (rw [HFL.out]; rfl), HS3.out.below (bw_a (Below.refl _ _) _), HB3.out.alloc (by have := HB3.out.size; omega) _⟩
    · have hf := HFB.out
      rw [if_neg hz] at hf
      have HF := hid hf
      have HB3 := hid (HB2.out.trans (hb3.mono (by have := HB2.out.size; omega)))
      clear hf hb3 HFB HPUT
      generalize (putsE l 0).1 = E1 at *
      generalize (putsE l 0).2 = E2 at *
      go_wp2_with fail
      rw [HR.out]
      exact ⟨none, 0, by rw [HF.out]; rfl, by rw [HF.out]; exact Sl.nil_ _, HB3.out.alloc (by have := HB3.out.size; omega) _⟩
end Go.Proofs.YtealjpolomhdeaaGreat
set_option linter.unusedVariables false
namespace Go.Proofs.YtealjpolomhdeaaGreat
open Go.RowKit
theorem partW_in {m : MV} {num t i : Int} {x : Int × Int × Nat × List UInt8} (ht1 : 1 ≤ t) (ht2 : t ≤ 10) (h : MvSm m) (hx : x ∈ partW m num t i) : x.1 = num ∧ (x.2.1 = 0 ∨ x.2.1 = 1 ∨ x.2.1 = 2 ∨ x.2.1 = 5) := by
  unfold partW at hx
  split at hx
  · obtain ⟨s, hs, rfl⟩ := List.mem_map.1 hx
    exact ⟨rfl, .inr (.inr (.inl rfl))⟩
  split at hx
  · simp only [List.mem_singleton] at hx
    subst hx
    exact ⟨rfl, .inr (.inr (.inl rfl))⟩
  split at hx
  · simp only [List.mem_singleton] at hx
    subst hx
    exact ⟨rfl, .inl rfl⟩
  · simp only [List.mem_singleton] at hx
    subst hx
    refine ⟨rfl, ?_⟩
    show ((wireN t : Nat) : Int) = 0 ∨ _
    unfold wireN
    split
    · exact .inr (.inr (.inr rfl))
    split
    · exact .inr (.inl rfl)
    · rw [if_neg (by omega)]
      exact .inl rfl
theorem partW_ne {m : MV} {num t i : Int} (hd : dflB m t i = false) : partW m num t i ≠ [] := by
  unfold partW
  split
  · rename_i h
    subst h
    rw [dfl_list] at hd
    intro h
    rw [List.map_eq_nil_iff] at h
    rw [h] at hd
    simp at hd
  split
  · simp
  split <;> simp
theorem fldB_in {m : MV} {num t i : Int} (hd : dflB m t i = false) (h : MvSm m) (h1 : 1 ≤ num) (h2 : num ≤ 536870911) : fldB m num t i = (partW m num t i).flatMap wB := by
  have ht : 1 ≤ t ∧ t ≤ 10 := by rcases dfl_cases hd with ⟨h, -⟩ | h | ⟨h, -⟩ | h <;> omega
  unfold fldB
  rw [hd, if_neg (by simp), if_pos]
  rw [List.all_eq_true]
  intro x hx
  obtain ⟨e, hw⟩ := partW_in ht.1 ht.2 h hx
  have hl := (partW_facts h).2 x hx
  refine decide_eq_true ?_
  unfold wErr pErr
  have hwb : wireB x.2.1 = true := by rcases hw with e | e | e | e <;> rw [e] <;> rfl
  rw [e, mk_ok h1 h2 hwb, if_neg (by simp), if_neg (by omega)]
theorem fldB_out {m : MV} {num t i : Int} (h : MvSm m) (hn : num < 1 ∨ 536870911 < num) : fldB m num t i = [] := by
  unfold fldB
  cases hd : dflB m t i with
  | true => rfl
  | false =>
    have ht : 1 ≤ t ∧ t ≤ 10 := by rcases dfl_cases hd with ⟨h, -⟩ | h | ⟨h, -⟩ | h <;> omega
    rw [if_neg (by simp), if_neg]
    intro ha
    rw [List.all_eq_true] at ha
    obtain ⟨x, hx⟩ := List.exists_mem_of_ne_nil _ (partW_ne (num := num) hd)
    have hz := of_decide_eq_true (ha x hx)
    obtain ⟨e, -⟩ := partW_in ht.1 ht.2 h hx
    unfold wErr pErr at hz
    rw [e] at hz
    have hm : mk num x.2.1 = (0, 1) := by unfold mk; rw [if_pos hn]
    rw [hm] at hz
    simp at hz
theorem small_sm {m : MV} (h : smallB m = true) : MvSm m := by
  obtain ⟨h1, h2, h3, h4⟩ := smallB_facts h
  refine ⟨by omega, fun i => ?_, fun s hs => by have := h4 s hs; omega⟩
  unfold MV.text
  split
  · exact h1
  · exact h2
  · decide
end Go.Proofs.YtealjpolomhdeaaGreat
set_option linter.unusedVariables false
namespace Go.Proofs.YtealjpolomhdeaaGreat
open Go.RowKit
/-- Some blocks lie as they lay. -/
def KBl (z b : Nat) (W W' : World) : Prop := ∀ q, z ≤ q → q < b → W'.heap[q]? = W.heap[q]?
theorem KBl.of_chg {z b : Nat} {W W' : World} {S : Nat → Prop} (h : Chg S W W') (hz : b ≤ W.heap.size) (h0 : ∀ q, z ≤ q → q < b → ¬ S q) : KBl z b W W' := fun q h1 h2 => h.block q (by omega) (h0 q h1 h2)
theorem KBl.trans {z b : Nat} {W W' W'' : World} (h : KBl z b W W') (k : KBl z b W' W'') : KBl z b W W'' := fun q h1 h2 => (k q h1 h2).trans (h q h1 h2)
theorem KBl.refl (z b : Nat) (W : World) : KBl z b W W := fun _ _ _ => rfl
theorem KBl.sub {z b a c : Nat} {W W' : World} (h : KBl z b W W') (h1 : z ≤ a) (h2 : c ≤ b) : KBl a c W W' := fun q g1 g2 => h q (by omega) (by omega)
theorem KBl.size {z b : Nat} {W W' : World} (h : KBl z b W W') (hz : z < b) (hb : b ≤ W.heap.size) : b ≤ W'.heap.size := by
  have h1 := h (b - 1) (by omega) (by omega)
  have h2 : W'.heap[b - 1]? = some W.heap[b - 1] := by rw [h1]; exact Array.getElem?_eq_getElem (by omega)
  have := (Array.getElem?_eq_some_iff.1 h2).1
  omega
theorem Sl.loop {W W' : World} {A : Option Addr} {c g : Nat} {xs : List Value} (h : Sl W A c xs) (hl : ∃ o, W.heap[g]? = some (.loop o)) (hc : Chg (fun q => q = g) W W') : Sl W' A c xs := by
  refine ⟨h.cap, h.small, h.nil0, fun k u hk => ?_⟩
  obtain ⟨b, off, rfl, hb, hcl⟩ := h.rd k u hk
  have hne : b ≠ g := by
    rintro rfl
    obtain ⟨o, ho⟩ := hl
    simp [World.cell?, ho] at hcl
  refine ⟨b, off, rfl, Nat.lt_of_lt_of_le hb hc.size, ?_⟩
  rw [← hcl]
  unfold World.cell?
  rw [hc.block b hb hne]
/-- How a round's body ends. -/
def bPost (z b : Nat) (I : Nat → World → Prop) (Ix : Code → World → Prop) (j : Nat) (W : World) : Exit → Act → World → Prop
  | .normal, _, W' => KBl z b W W' ∧ I (j + 1) W'
  | .ret, _, W' => KBl z b W W' ∧ Ix .ret W'
  | .exit id, _, W' => KBl z b W W' ∧ Ix (.exit id) W'
  | .goto t, _, W' => KBl z b W W' ∧ Ix (.goto t) W'
  | .panic _, _, _ => False
  | .outgrown, _, _ => False
set_option maxRecDepth 100000 in
set_option maxHeartbeats 2000000 in
theorem range_b {P : Program} {g : Operand} {ps : Array Tmp} {assign body : Code} {Q : Exit → Act → World → Prop} {a : Act} {w : World} (m : Nat) (hm : 2 ≤ m) (z : Nat) (hz : w.heap.size = z)
    {gf : Nat} {lb : Array Value} (hg : a.eval g = .func (.func gf) #[] lb) (eg : ∀ args w, (callFunc gf args).run P w = .ok (.enter gf args) w)
    (N : Nat) (E : Nat → Array Value → World → Prop) (hps : ∀ j xs W, E j xs W → xs.size = ps.size) (I : Nat → Nat → World → Prop) (Ix : Nat → Code → World → Prop)
    (hI : ∀ b j W W', I b j W → Chg (fun q => z ≤ q ∧ q < b) W W' → I b j W') (hIx : ∀ b c W W', Ix b c W → Chg (fun q => z ≤ q ∧ q < b) W W' → Ix b c W') (h0 : ∀ b W', z + 2 ≤ b → Below z w W' → I b 0 W')
    (hseq : ∀ (l : Nat) (J : Nat → Nat → World → Prop) (Jx : Nat → World → Prop) (W : World), W.heap.size = z + 2 → Below z w W → (∀ b j W, J b j W → I b j W ∧ z + 2 ≤ W.heap.size) → (∀ b j W W', z + 2 ≤ b → J b j W → Chg (fun q => z + 2 ≤ q ∧ q < b) W W' → J b j W') → (∀ b W W', z + 2 ≤ b → Jx b W → Chg (fun q => z + 2 ≤ q ∧ q < b) W W' → Jx b W') → (∀ b W', z + 2 ≤ b → Below (z + 2) W W' → J b 0 W') →
      (∀ b j W xs, j < N → z + 2 ≤ b → b ≤ W.heap.size → J b j W → E j xs W → YieldAt Fence.wide (m - 1 - 1) P l xs W fun e W' => (e = .returned (.bool true) ∧ J b (j + 1) W' ∧ KBl (z + 2) b W W' ∧ b ≤ W'.heap.size) ∨ (e = .returned (.bool false) ∧ Jx b W' ∧ KBl (z + 2) b W W' ∧ b ≤ W'.heap.size)) →
      CallsIn Fence.wide (m - 1) P gf (#[.func (.yield l) #[] #[]] ++ lb) W fun e W' => (∃ v, e = .returned v) ∧ ∃ b, z + 2 ≤ b ∧ (J b N W' ∨ Jx b W'))
    (hbody : ∀ (l b j : Nat) (W : World) (xs : Array Value), j < N → z + 2 ≤ b → b ≤ W.heap.size → I b j W → E j xs W → (∃ o, W.heap[z + 1]? = some (.loop o)) →
      assign.wpIn (Fence.wide.inRound l) (m - 1 - 1) P (Exit.then (fun a₁ W₁ => KBl z b W W₁ ∧ ∀ W₂, Chg (fun q => q = z + 1) W₁ W₂ → body.wpIn (Fence.wide.inRound l) (m - 1 - 1) P (bPost z b (I b) (Ix b) j W₂) a₁ W₂) (fun _ _ _ => False))
        { tmps := (ps.zip xs).foldl (fun t (p, v) => t.setIfInBounds p v) a.tmps, defers := [] } W)
    (hdone : ∀ b W, z + 2 ≤ b → I b N W → W.heap[z]? = some (.deferred (some [])) → Q .normal { a with defers := { target := .collected z, args := #[] } :: a.defers } W)
    (hstop : ∀ b c W, z + 2 ≤ b → Ix b c W → W.heap[z]? = some (.deferred (some [])) → c.wpIn Fence.wide m P Q { a with defers := { target := .collected z, args := #[] } :: a.defers } W) :
    (Code.rangeFunc g ps assign body).wpIn Fence.wide m P Q a w := by
  refine wpIn_rangeFunc fun fn _ => ?_
  obtain ⟨rec, hrec⟩ : ∃ rec : LoopState → Option Code → Loop, rec = fun st pe => { state := st, pending := pe, fn, tmps := a.tmps, params := ps, assign := assign, body := body, defers := z } := ⟨_, rfl⟩
  obtain ⟨W1, hW1⟩ : ∃ W1, (w.alloc (.deferred (some []))).alloc (.loop (rec .ready none)) = W1 := ⟨_, rfl⟩
  have hz1 : W1.heap.size = z + 2 := by rw [← hW1]; simp [hz]
  have hL1 : W1.heap[z + 1]? = some (.loop (rec .ready none)) := by
    rw [← hW1]; have := World.alloc_heap_new (w.alloc (.deferred (some []))) (.loop (rec .ready none)); rwa [World.size_alloc, hz] at this
  have hK1 : W1.heap[z]? = some (.deferred (some [])) := by
    have h := World.alloc_heap_new w (.deferred (some []))
    rw [hz] at h
    rw [← hW1]; exact (Below.heap_alloc _ _ _ (by simp [hz])).trans h
  have hB1 : Below z w W1 := by rw [← hW1, ← hz]; exact bw_a (bw_a (Below.refl _ w) _) _
  refine ⟨z + 1, [{ target := .collected z, args := #[] }], W1, { target := .fn (.func gf) lb, args := #[.func (.yield (z + 1)) #[] #[]] }, W1, gf, #[.func (.yield (z + 1)) #[] #[]] ++ lb, W1, ?_, ?_, fun _ _ => trivial, ?_, fun _ => by omega, ?_⟩
  · have h := run_enterLoop_outer (P := P) (w := w) fn a.tmps ps assign body
    rw [hz] at h
    rw [← hW1, hrec]
    exact h
  · unfold resolve rangeCall
    dsimp only
    rw [hg]
    simp [go_sem]
  · simp [invoke, go_sem, eg]
  · have hy : ∀ (W : World) (xs : Array Value), xs.size = ps.size → W.heap[z + 1]? = some (.loop (rec .ready none)) → (Instr.yield (z + 1) xs).run P W = .ok (.round (z + 1) fn ((ps.zip xs).foldl (fun t (p, v) => t.setIfInBounds p v) a.tmps) assign body) W := fun W xs hs h => by
      have h := run_yield (P := P) (args := xs) h (by rw [hrec]; exact hs)
      rw [hrec] at h
      simpa using h
    have hput : ∀ (W : World) (o : Obj) (b j : Nat), z + 2 ≤ b → I b j W → I b j (W.putObj (z + 1) o) := fun W o b j hb h => hI b j _ _ h (chg_putObj o (by omega))
    refine (hseq (z + 1) (fun b j W => I b j W ∧ z + 2 ≤ W.heap.size ∧ W.heap[z + 1]? = some (.loop (rec .ready none)) ∧ W.heap[z]? = some (.deferred (some []))) (fun b W => ∃ c, Ix b c W ∧ W.heap[z + 1]? = some (.loop (rec .done (some c))) ∧ W.heap[z]? = some (.deferred (some [])))
      W1 hz1 hB1 (fun b j W h => ⟨h.1, h.2.1⟩) (fun b j W W' hb h hc => ⟨hI b j _ _ h.1 (hc.mono fun _ _ hf => by omega), Nat.le_trans h.2.1 hc.size, (hc.block _ (by have := h.2.1; omega) (fun hf => by omega)).trans h.2.2.1, (hc.block _ (by have := h.2.1; omega) (fun hf => by omega)).trans h.2.2.2⟩) (fun b W W' hb ⟨c, h1, h2, h3⟩ hc => ⟨c, hIx b c _ _ h1 (hc.mono fun _ _ hf => by omega), (hc.block _ (Array.getElem?_eq_some_iff.1 h2).1 (fun hf => by omega)).trans h2, (hc.block _ (Array.getElem?_eq_some_iff.1 h3).1 (fun hf => by omega)).trans h3⟩)
      (fun b W' hb hB => ⟨h0 b W' hb (hB1.trans (hB.mono (by omega))), by have := hB.size; omega, (hB.block _ (by omega)).trans hL1, (hB.block _ (by omega)).trans hK1⟩) ?hY).mono ?fin
    case hY =>
      rintro b j W xs hj hb hbW ⟨hij, hsz, hr, hd⟩ hE
      refine ⟨fn, _, assign, body, hy W _ (hps j xs W hE) hr, roundIn_of_wpIn trivial ?_⟩
      refine wpIn_mono (hbody (z + 1) b j W xs hj hb hbW hij hE ⟨_, hr⟩) ?_
      intro e a1 W₁ hq
      cases e <;> try exact hq
      obtain ⟨hk, hbd⟩ := hq
      have hs1 := hk.size (by omega) hbW
      have hr1 := (hk (z + 1) (by omega) (by omega)).trans hr
      have hd1 := (hk z (by omega) (by omega)).trans hd
      have hbr := run_beginRound (P := P) hr1 (by rw [hrec])
      refine ⟨_, hbr, ?_⟩
      obtain ⟨W2, hW2⟩ : ∃ W2, W₁.putObj (z + 1) (.loop { rec .ready none with state := .busy }) = W2 := ⟨_, rfl⟩
      have hc2 : Chg (fun q => q = z + 1) W₁ W2 := by rw [← hW2]; exact chg_putObj _ rfl
      have hr2 : W2.heap[z + 1]? = some (.loop { rec .ready none with state := .busy }) := by rw [← hW2]; exact World.putObj_heap_same (Array.getElem?_eq_some_iff.1 hr1).1
      have hd2 := (hc2.block z (by omega) (by omega)).trans hd1
      rw [hW2]
      refine wpIn_mono (hbd W2 hc2) ?_
      have fin : ∀ (W' : World) (jump : Option Code), KBl z b W2 W' → ∃ W3, (Instr.endRound (z + 1) jump).run P W' = .ok (.bool jump.isNone) W3 ∧ Chg (fun q => z ≤ q ∧ q < b) W' W3 ∧ KBl (z + 2) b W W3 ∧ W3.heap[z + 1]? = some (.loop (rec (if jump.isNone then .ready else .done) jump)) ∧ W3.heap[z]? = some (.deferred (some [])) ∧ z + 2 ≤ W3.heap.size ∧ b ≤ W3.heap.size := by
        intro W' jump hk'
        have hr' := (hk' (z + 1) (by omega) (by omega)).trans hr2
        have hl' := (Array.getElem?_eq_some_iff.1 hr').1
        have hsz' : b ≤ W'.heap.size := hk'.size (by omega) (by have := hc2.size; omega)
        have hend := run_endRound (P := P) jump hr'
        have hcp := fun o => chg_putObj (W := W') (l := z + 1) (S := fun q => q = z + 1) o rfl
        refine ⟨_, hend, chg_putObj _ (by omega), ?_, ?_, ((hcp _).block z (by omega) (by omega)).trans ((hk' z (by omega) (by omega)).trans hd2), Nat.le_trans (by omega) (hcp _).size, Nat.le_trans hsz' (hcp _).size⟩
        · intro q g1 g2
          rw [show (W'.putObj (z + 1) _).heap[q]? = W'.heap[q]? from World.putObj_heap_other (by omega)]
          rw [hk' q (by omega) (by omega), hc2.block q (by omega) (by omega)]
          exact hk q (by omega) (by omega)
        simp only [hrec]
        exact World.putObj_heap_same hl'
      intro e a' W' hq
      cases e with
      | normal =>
        obtain ⟨hk', hi'⟩ := hq
        obtain ⟨W3, he3, hc3, hkn, hr3, hd3, hs3, hb3⟩ := fin W' none hk'
        exact ⟨_, W3, he3, .inl ⟨rfl, ⟨hI _ _ _ _ hi' hc3, hs3, hr3, hd3⟩, hkn, hb3⟩⟩
      | ret =>
        obtain ⟨hk', hi'⟩ := hq
        obtain ⟨W3, he3, hc3, hkn, hr3, hd3, hs3, hb3⟩ := fin W' (some .ret) hk'
        exact ⟨_, W3, he3, .inr ⟨rfl, ⟨.ret, hIx _ _ _ _ hi' hc3, hr3, hd3⟩, hkn, hb3⟩⟩
      | exit id =>
        obtain ⟨hk', hi'⟩ := hq
        obtain ⟨W3, he3, hc3, hkn, hr3, hd3, hs3, hb3⟩ := fin W' (some (.exit id)) hk'
        exact ⟨_, W3, he3, .inr ⟨rfl, ⟨.exit id, hIx _ _ _ _ hi' hc3, hr3, hd3⟩, hkn, hb3⟩⟩
      | goto t =>
        obtain ⟨hk', hi'⟩ := hq
        obtain ⟨W3, he3, hc3, hkn, hr3, hd3, hs3, hb3⟩ := fin W' (some (.goto t)) hk'
        exact ⟨_, W3, he3, .inr ⟨rfl, ⟨.goto t, hIx _ _ _ _ hi' hc3, hr3, hd3⟩, hkn, hb3⟩⟩
      | panic c => exact hq.elim
      | outgrown => exact hq.elim
    case fin =>
      rintro e W2 ⟨⟨v, rfl⟩, b, hb, (⟨hij, hs, hr, hd⟩ | ⟨c, hix, hr, hd⟩)⟩
      · refine ⟨none, _, by have := run_endLoop (P := P) hr (by rw [hrec]; simp); rw [hrec] at this; exact this, ?_⟩
        exact hdone b _ hb (hput _ _ _ _ hb hij) (((chg_putObj (S := fun q => q = z + 1) _ rfl).block z (by omega) (by omega)).trans hd)
      · refine ⟨some c, _, by have := run_endLoop (P := P) hr (by rw [hrec]; simp); rw [hrec] at this; exact this, ?_⟩
        have hlz := (Array.getElem?_eq_some_iff.1 hd).1
        exact hstop b c _ hb (hIx _ _ _ _ hix (chg_putObj _ (by omega))) (((chg_putObj (S := fun q => q = z + 1) _ rfl).block z hlz (by omega)).trans hd)
end Go.Proofs.YtealjpolomhdeaaGreat
set_option linter.unusedVariables false
namespace Go.Proofs.YtealjpolomhdeaaGreat
open Go.RowKit Go.Shelf
attribute [local go_sem] Oper.semAt_some
def fldR (M : MV) (r : SRow) : List UInt8 := fldB M (r.num : Nat) (r.typ : Nat) (r.slot : Nat)
/-- A message's bytes, if it may be. -/
def encB (M : MV) (L : List SRow) : List UInt8 := if (chkV M L).1 = 0 then L.flatMap (fldR M) else []
theorem wpListIn_append_none {F : Fence} {n : Nat} {P : Program} (w : World) {ops : Array Oper} {rest : List Oper} {o : Oper} {a : Act} {Q : Exit → Act → World → Prop} (hgd : o.guard = none) (s x : Operand) (t : TypeId)
    (ho : o.op = .call { callee := .builtin .append, args := #[s, x], argTypes := #[t, t] })
    (base : Nat) (e : TypeId) (i : TypeInfo) (size : Nat) (ht : P.underlying t = some (.slice e)) (hi : P.info? e = some i)
    (v : Value) (k : Nat) (xs : List Value) (hs : a.eval s = v) (hown : w.ownsRow base e size v k xs) (hx : a.eval x = .slice none 0 0)
    (h : wpListIn F n P ops Q rest (a.put o.dst v) w) : wpListIn F n P ops Q (o :: rest) a w := by
  refine wpListIn_plain hgd fun K hK' => ?_
  have hrun := run_append_owned_none (P := P) (w := w) base t o.type e i size ht hi v k xs hown
  unfold Oper.wpIn
  refine ⟨?_, ?_⟩
  · simp [Oper.about, ho, resolve, Target.leads, Sem.run_pure]
  · rw [Oper.semAt_plain F _ _ (by rw [ho]; intro c hc'; cases hc')]
    simp [execOp, ho, resolve, invoke, builtin, hs, hx, hrun, Result.andThen]
    exact hK' _ _ h
/-- append onto a row of the call's own, whatever slice the source is, within a fence -/
theorem wpListIn_append_sl {F : Fence} {n : Nat} {P : Program} (w : World) {ops : Array Oper} {rest : List Oper} {o : Oper} {a : Act} {Q : Exit → Act → World → Prop} (hgd : o.guard = none) (s x : Operand) (t : TypeId)
    (ho : o.op = .call { callee := .builtin .append, args := #[s, x], argTypes := #[t, t] })
    (base : Nat) (e : TypeId) (i : TypeInfo) (z : Value) (size bytes : Nat) (ht : P.underlying t = some (.slice e)) (hi : P.info? e = some i) (hz : i.zero = some z)
    (hsize : i.size = size) (hby : i.bytes = bytes) (hzs : z.cells.size = size) (hsz : 0 < size)
    (v : Value) (k : Nat) (xs : List Value) (hs : a.eval s = v) (hown : w.ownsRow base e size v k xs)
    (A : Option Addr) (m c : Nat) (news : List Value) (hx : a.eval x = .slice A m c) (hl : news.length = m * size) (hr : Rd w A news) (hn : A = none → c = 0) (h1 : ∀ u ∈ news, u.oneCell' = true)
    (h63 : k + m ≤ maxLen) (hbytes : (k + m) * bytes ≤ 140737488355328) (hbase : base ≤ w.heap.size)
    (h : ∀ v' w', w'.ownsRow base e size v' (k + m) (xs ++ news) → w.grownBy w' v.ownBlock → wpListIn F n P ops Q rest (a.put o.dst v') w') : wpListIn F n P ops Q (o :: rest) a w := by
  cases A with
  | none =>
    obtain rfl := hr.none_nil
    obtain rfl := hn rfl
    have hm : m = 0 := by
      have h0 : m * size = 0 := by simpa using hl.symm
      rcases Nat.mul_eq_zero.1 h0 with q | q <;> omega
    subst hm
    exact wpListIn_append_none w hgd s x t ho base e i size ht hi v k xs hs hown hx (h v w (by simpa using hown) ⟨rfl, rfl, rfl, Nat.le_refl _, fun _ _ _ => rfl⟩)
  | some ad => exact wpListIn_append_own w hgd s x t ho base e i z size bytes ht hi hz hsize hby hzs hsz v k xs hs hown ad m c news hx hl hr.addr h1 h63 hbytes hbase fun v' w' h2 h3 _ => h v' w' h2 h3
theorem own_kb {w w' : World} {B e sz n z b : Nat} {v : Value} {xs : List Value} (h : w.ownsRow B e sz v n xs) (hk : KBl z b w w') (hg : ∀ g, v.ownBlock = some g → z ≤ g ∧ g < b) : w'.ownsRow B e sz v n xs := by
  refine ⟨h.1, h.2.imp_right ?_⟩
  rintro ⟨g, cap, cur, rfl, hg1, hc1, r⟩
  have := hg g rfl
  exact ⟨g, cap, cur, rfl, hg1, (hk g this.1 this.2).trans hc1, r⟩
theorem own_sln {w : World} {B e sz n c : Nat} {A : Option Addr} {xs : List Value} (hsz : 0 < sz) (h : w.ownsRow B e sz (.slice A n c) n xs) : SlN w A n c sz xs := by
  obtain ⟨A', c', he, hs⟩ := SlN.of_own hsz h
  injection he with h1 h2 h3
  subst h1; subst h3
  exact hs
theorem eeach_in (m : Nat) (M : MV) (v : Int) (w : World) :
    CallsIn Fence.wide m Tryz.prog 46 #[mvV M, .int .i64 v] w fun e w' => e = .returned (.func (.func 69) #[] #[.pointer (some ⟨w.heap.size, 0, none⟩), .pointer (some ⟨w.heap.size + 1, 0, none⟩)]) ∧ w' = (w.alloc (.cells (mvA M) 29)).alloc (.cells #[.int .i64 v] 3) := by
  unfold mvV mvA
  generalize M.l.length = len
  refine callsIn_of_wp Tryz.func46 rfl trivial ?_ rfl
  simp only [Tryz.ntmps46, List.size_toArray, List.length_cons, List.length_nil, Nat.reduceAdd, Nat.reduceSub, Array.replicate_succ, Array.replicate_zero, List.push_toArray, List.append_toArray, List.nil_append, List.cons_append]
  gi_wp2
  go_ret
  exact ⟨rfl, rfl⟩
/-- What a round is handed. -/
def EArg (M : MV) (L : List SRow) (j : Nat) (xs : Array Value) (W : World) : Prop := ∃ r A c, L[j]? = some r ∧ xs = #[.slice A (fldR M r).length c] ∧ Sl W A c ((fldR M r).map bv)
set_option maxRecDepth 100000 in
set_option maxHeartbeats 4000000 in
theorem eeach1_in (m : Nat) (hm : 6 ≤ m) (M : MV) (v : Int) (l Bm Bv B0 : Nat) (hsm : MvSm M) (hv1 : -9223372036854775808 ≤ v) (hv2 : v ≤ 9223372036854775807) (J : Nat → Nat → World → Prop) (Jx : Nat → World → Prop) (W : World) (hB0 : W.heap.size = B0)
    (hJc : ∀ b j W, J b j W → Blk W Bm 29 (mvA M) ∧ Blk W Bv 3 #[.int .i64 v] ∧ MvOk W M) (h0 : ∀ b W', B0 ≤ b → Below B0 W W' → J b 0 W') (hJn : ∀ b j W W', B0 ≤ b → J b j W → Chg (fun q => B0 ≤ q ∧ q < b) W W' → J b j W')
    (hY : ∀ b j W xs, j < (ofL (M.k : Int) v).length → B0 ≤ b → b ≤ W.heap.size → J b j W → EArg M (ofL (M.k : Int) v) j xs W → YieldAt Fence.wide (m - 1) Tryz.prog l xs W fun e W' => (e = .returned (.bool true) ∧ J b (j + 1) W' ∧ KBl B0 b W W' ∧ b ≤ W'.heap.size) ∨ (e = .returned (.bool false) ∧ Jx b W' ∧ KBl B0 b W W' ∧ b ≤ W'.heap.size)) :
    CallsIn Fence.wide m Tryz.prog 69 #[.func (.yield l) #[] #[], .pointer (some ⟨Bm, 0, none⟩), .pointer (some ⟨Bv, 0, none⟩)] W fun e W' => (∃ v, e = .returned v) ∧ ∃ b, B0 ≤ b ∧ (J b (ofL (M.k : Int) v).length W' ∨ Jx b W') := by
  have h1 : 1 ≤ m := by omega
  obtain ⟨hbm, hbv, hok⟩ := hJc _ _ _ (h0 B0 W (Nat.le_refl _) ⟨rfl, rfl, rfl, Nat.le_refl _, fun _ _ => rfl⟩)
  have hsof := sof2_in (m - 1) (by omega) (M.k : Int) v W hv1 hv2
  have hq40 := ofL_le40 (M.k : Int) v
  have hmem := fun r (h : r ∈ ofL (M.k : Int) v) => row_ok (ofL_mem _ _ h)
  generalize ofL (M.k : Int) v = L at *
  obtain ⟨nL, hnL⟩ : ∃ n, L.length = n := ⟨_, rfl⟩
  rw [hnL] at hsof hq40 hY ⊢
  have hfd := fun (r : SRow) (hr : r ∈ L) W' (hW : MvOk W' M) => field_any M (r.num : Nat) (r.typ : Nat) (r.slot : Nat) W' hW hsm (by omega) (by have := hmem r hr; omega)
  have HNL := hid hnL
  have HFD := hid hfd
  have HY := hid hY
  have HJC := hid hJc
  have H0 := hid h0
  have HJN := hid hJn
  have HZ := hid hB0
  clear hnL hfd hY hJc h0 hJn hB0 hmem hok
  have c0 := hbm.cell 0
  have d0 := hbv.cell 0
  unfold mvV at HFD
  unfold mvA at c0 HFD HJC
  generalize M.l.length = len at *
  simp only [List.getElem?_toArray, List.getElem?_cons_zero] at c0 d0
  have HBM := hid hbm
  have HBV := hid hbv
  have HSOF := hid hsof
  clear hbm hbv hsof
  refine callsIn_of_wp Tryz.func69 rfl trivial ?_ rfl
  simp only [Tryz.ntmps69, List.size_toArray, List.length_cons, List.length_nil, Nat.reduceAdd, Nat.reduceSub, Array.replicate_succ, Array.replicate_zero, List.push_toArray, List.append_toArray, List.nil_append, List.cons_append]
  gi_wp2_with (refine ⟨trivial, ?_⟩; gi_at_call 65; refine HSOF.out.mono ?_; rintro e w1 ⟨vv, rfl, ho, hb1⟩; obtain ⟨A, c, rfl⟩ := row_slice' ho)
  have hb : ∃ b, w1.heap.size = b := ⟨_, rfl⟩
  obtain ⟨b, hb⟩ := hb
  have hbB : B0 ≤ b := by have := hb1.size; have := HZ.out; omega
  have hj1 := H0.out b w1 hbB (by rw [← HZ.out]; exact hb1)
  have ho1 := own_mono ho (show B0 ≤ W.heap.size + 1 by have := HZ.out; omega)
  have hbk : ∀ g, (Value.slice A nL c).ownBlock = some g → B0 ≤ g ∧ g < b := fun g hg => by have := ho1.lt g hg; omega
  have hbw : b ≤ w1.heap.size := by omega
  have HBK := hid hbk
  have HJ1 := hid hj1
  have HO1 := hid ho1
  clear hbk hj1 ho1 ho hb hb1 c0 d0
  gi_loopw [17] (fun i wr => ∃ j : Nat, j ≤ nL ∧ i = .int .i64 (j : Int) ∧ J b j wr ∧ wr.ownsRow B0 69 3 (.slice A nL c) nL (L.flatMap specC) ∧ b ≤ wr.heap.size) (fun i _ => nL - (intOf i).toNat)
  case atStart => exact ⟨0, by omega, rfl, HJ1.out, HO1.out, hbw⟩
  case round =>
    obtain ⟨j, hj, rfl, hjw, ho, hbw⟩ := hrel
    by_cases hlt : j < nL
    · have hjl : j < L.length := by have := HNL.out; omega
      have hn0' : (L.flatMap specC)[j * 3 + 0]? = _ := flatMap_get specC 3 L j 0 hjl (fun _ _ => rfl) (by omega)
      have hn1' : (L.flatMap specC)[j * 3 + 1]? = _ := flatMap_get specC 3 L j 1 hjl (fun _ _ => rfl) (by omega)
      have hn2' : (L.flatMap specC)[j * 3 + 2]? = _ := flatMap_get specC 3 L j 2 hjl (fun _ _ => rfl) (by omega)
      have hs1 := own_sln (by omega) ho
      obtain ⟨q, off, hA, hqw, t0⟩ := hs1.rd _ _ hn0'
      subst hA
      have t1 := hs1.rd.addr _ _ hn1'
      have t2 := hs1.rd.addr _ _ hn2'
      rw [addr_add] at t1 t2
      simp only [Nat.add_zero, ← Nat.add_assoc] at t0 t1 t2
      have hji : (j : Int) < (nL : Int) := by omega
      have hj0 : (0 : Int) ≤ (j : Int) := by omega
      have hget : L[j]? = some L[j] := List.getElem?_eq_getElem hjl
      have hfd := HFD.out L[j] (List.getElem_mem hjl)
      have hbx : fldB M (L[j].num : Nat) (L[j].typ : Nat) (L[j].slot : Nat) = fldR M L[j] := rfl
      have hcc : nL ≤ c := hs1.cap
      clear hn0' hn1' hn2' hs1
      rw [hbx] at hfd
      clear hbx
      generalize L[j] = r at *
      obtain ⟨rk, si, nu, ty, sl⟩ := r
      simp only at t0 t1 t2 hfd
      obtain ⟨fb, hfb⟩ : ∃ fb, fldR M ⟨rk, si, nu, ty, sl⟩ = fb := ⟨_, rfl⟩
      rw [hfb] at hfd
      obtain ⟨fl, hfl⟩ : ∃ fl, fb.length = fl := ⟨_, rfl⟩
      rw [hfl] at hfd
      have hca : Chg (fun _ => False) wr (wr.alloc (.cells #[.int .i64 (nu : Int), .int .i64 (ty : Int), .int .i64 (sl : Int)] 69)) := (Chg.refl _ wr).alloc _
      have hja := HJN.out b j wr _ hbB hjw (hca.mono fun _ _ h => h.elim)
      have hoa := own_chgS ho hca (fun g _ h => h)
      obtain ⟨hkm, -, hka⟩ := HJC.out _ _ _ hja
      have hks := Blk.new wr 69 #[.int .i64 (nu : Int), .int .i64 (ty : Int), .int .i64 (sl : Int)]
      have HCALL := hid (hfd _ hka)
      have HGET := hid hget
      have HFB := hid hfb
      have HFL := hid hfl
      have HJA := hid hja
      have HOA := hid hoa
      clear hfd hget hfb hfl hja hoa hka hjw ho hca
      obtain ⟨hkm0, -, -⟩ := HJC.out _ _ _ HJA.out
      have hbwa : b ≤ (wr.alloc (.cells #[.int .i64 (nu : Int), .int .i64 (ty : Int), .int .i64 (sl : Int)] 69)).heap.size := by rw [World.size_alloc]; omega
      generalize hwa : wr.alloc (.cells #[.int .i64 (nu : Int), .int .i64 (ty : Int), .int .i64 (sl : Int)] 69) = wa at *
      have c0 := hkm.cell 0
      have c1 := hkm.cell 1
      have c2 := hkm.cell 2
      have c3 := hkm.cell 3
      have c4 := hkm.cell 4
      have c5 := hkm.cell 5
      have c6 := hkm.cell 6
      have c7 := hkm.cell 7
      have c8 := hkm.cell 8
      have c9 := hkm.cell 9
      have e0 := hks.cell 0
      have e1 := hks.cell 1
      have e2 := hks.cell 2
      simp only [List.getElem?_toArray, List.getElem?_cons_zero, List.getElem?_cons_succ] at c0 c1 c2 c3 c4 c5 c6 c7 c8 c9 e0 e1 e2
      clear hkm hks hkm0
      gi_wp2_with (refine ⟨trivial, ?_⟩; gi_at_call 70; refine ((callsIn_wide (n := m - 1)).2 HCALL.out).mono ?_; rintro e w3 ⟨A3, c3, rfl, hs3, hb3⟩; have hj3 := HJN.out b j _ w3 hbB HJA.out (Chg.of_new hb3); have ho3 := own_chgS (S := fun _ => False) HOA.out (Chg.of_new hb3) (fun g _ h => h); have hz3 : b ≤ w3.heap.size := Nat.le_trans hbwa hb3.size; obtain ⟨fn, tmps, assign, body, hy, hR⟩ := HY.out b j w3 #[.slice A3 fl c3] hlt hbB hz3 hj3 ⟨_, A3, c3, HGET.out, by rw [HFB.out, HFL.out], by rw [HFB.out]; exact hs3⟩; have HO3 := hid ho3; clear hs3 hb3 hj3 ho3)
      refine hR.mono ?_
      rintro e w6 (⟨rfl, hj6, hk6, hb6⟩ | ⟨rfl, hx6, hk6, hb6⟩)
      · have ho6 := own_kb HO3.out hk6 HBK.out
        have HJ6 := hid hj6
        have HO6 := hid ho6
        clear hj6 hk6 ho6
        gi_wp2
        go_roundw
        case rel => exact ⟨j + 1, by omega, by go_num, HJ6.out, HO6.out, hb6⟩
        case measure => simp [intOf]; omega
      · have HX6 := hid hx6
        clear hk6 hx6
        gi_wp2
        first | exact bodyPost_ret (results_none rfl _ _ _) rfl ⟨⟨_, rfl⟩, b, hbB, .inr HX6.out⟩ | exact bodyPost_end (results_none rfl _ _ _) rfl ⟨⟨_, rfl⟩, b, hbB, .inr HX6.out⟩ | exact ⟨⟨_, rfl⟩, b, hbB, .inr HX6.out⟩ | trace_state
    · obtain rfl : j = nL := by omega
      have HJ6 := hid hjw
      clear hjw ho
      gi_wp2
      first | exact bodyPost_ret (results_none rfl _ _ _) rfl ⟨⟨_, rfl⟩, b, hbB, .inl HJ6.out⟩ | exact bodyPost_end (results_none rfl _ _ _) rfl ⟨⟨_, rfl⟩, b, hbB, .inl HJ6.out⟩ | exact ⟨⟨_, rfl⟩, b, hbB, .inl HJ6.out⟩ | trace_state
end Go.Proofs.YtealjpolomhdeaaGreat
set_option linter.unusedVariables false
namespace Go.Proofs.YtealjpolomhdeaaGreat
open Go.RowKit Go.Shelf
attribute [local go_sem] Oper.semAt_some
theorem fm_len {α : Type} (f : α → List UInt8) (k : Nat) : ∀ l : List α, (∀ x ∈ l, (f x).length ≤ k) → (l.flatMap f).length ≤ k * l.length
  | [], _ => by simp
  | x :: l, h => by
    have h1 := fm_len f k l fun y hy => h y (List.mem_cons_of_mem _ hy)
    have h2 := h x (List.mem_cons_self ..)
    rw [List.flatMap_cons, List.length_append, List.length_cons, Nat.mul_add]
    omega
theorem partW_n {m : MV} {num t i : Int} (hn : ∀ i, m.num i ≤ 18446744073709551615) {x : Int × Int × Nat × List UInt8} (hx : x ∈ partW m num t i) : x.2.2.1 ≤ 18446744073709551615 := by
  unfold partW at hx
  split at hx
  · obtain ⟨s, hs, rfl⟩ := List.mem_map.1 hx
    exact Nat.zero_le _
  split at hx
  · simp only [List.mem_singleton] at hx
    subst hx
    exact Nat.zero_le _
  split at hx
  · simp only [List.mem_singleton] at hx
    subst hx
    have hr := w64_range (m.num i : Nat)
    have hz := zig_range _ hr.1 hr.2
    show (zig (wrap64 (m.num i : Nat))).toNat ≤ _
    omega
  · simp only [List.mem_singleton] at hx
    subst hx
    exact hn i
theorem fld_len {m : MV} {num t i : Int} (hn : ∀ i, m.num i ≤ 18446744073709551615) (h : MvSm m) : (fldB m num t i).length ≤ 810000 := by
  unfold fldB
  cases hd : dflB m t i with
  | true => simp
  | false =>
    have ht : 1 ≤ t ∧ t ≤ 10 := by rcases dfl_cases hd with ⟨h, -⟩ | h | ⟨h, -⟩ | h <;> omega
    rw [if_neg (by simp)]
    split
    · have hp := partW_facts (num := num) (t := t) (i := i) h
      have := fm_len wB 8100 (partW m num t i) (fun x hx => by
        obtain ⟨-, hw⟩ := partW_in ht.1 ht.2 h hx
        exact pBF_len8 ⟨x.1, x.2.1, x.2.2.1, ⟨none, 0, x.2.2.2⟩, 0⟩ (partW_n hn hx) (by dsimp only; omega) (by dsimp only; omega) (hp.2 x hx))
      have h2 : 8100 * (partW m num t i).length ≤ 8100 * 100 := Nat.mul_le_mul_left _ hp.1
      omega
    · simp
/-- What Bytes keeps between two rounds. -/
structure EJ (s q b : Nat) (w : World) (M : MV) (v : Int) (bs : List UInt8) (W : World) : Prop where
  rf : Blk W (s + 1) 32 #[.int .i64 0, .int .i64 0]
  ro : ∃ vv, Blk W (q + 1) 22 #[vv] ∧ W.ownsRow b 5 1 vv bs.length (bs.map bv)
  rm : Blk W (q + 2) 29 (mvA M)
  rv : Blk W (q + 3) 3 #[.int .i64 v]
  bel : Below s w W
theorem EJ.keep {s q b : Nat} {w W W' : World} {M : MV} {v : Int} {bs : List UInt8} {S : Nat → Prop} (h : EJ s q b w M v bs W) (hsq : s + 2 ≤ q) (hqb : q + 6 ≤ b) (hc : Chg S W W') (hS : ∀ x, S x → q + 4 ≤ x ∧ x < b) : EJ s q b w M v bs W' := by
  have g := h.rv.lt
  obtain ⟨vv, h1, h2⟩ := h.ro
  exact ⟨hc.blk h.rf (fun hx => by have := hS _ hx; omega), ⟨vv, hc.blk h1 (fun hx => by have := hS _ hx; omega), own_chgS h2 hc (fun g hg hk => by have := (h2.lt g hg).1; have := hS _ hk; omega)⟩, hc.blk h.rm (fun hx => by have := hS _ hx; omega), hc.blk h.rv (fun hx => by have := hS _ hx; omega), h.bel.trans (hc.below (B := s) (fun x hx => by have := hS x hx; omega) (by omega))⟩
theorem EJ.step {s q b : Nat} {w W w1 : World} {M : MV} {v : Int} {bs new : List UInt8} {vv v' : Value} (h : EJ s q b w M v bs W) (hsq : s + 2 ≤ q) (hqb : q + 6 ≤ b) (hv : Blk W (q + 1) 22 #[vv]) (ho : W.ownsRow b 5 1 vv bs.length (bs.map bv)) (hg : W.grownBy w1 vv.ownBlock)
    (ho' : w1.ownsRow b 5 1 v' (bs.length + new.length) (bs.map bv ++ new.map bv)) : EJ s q b w M v (bs ++ new) (w1.setCell ⟨q + 1, 0, none⟩ v') ∧ Chg (fun x => x = q + 1 ∨ b ≤ x) W (w1.setCell ⟨q + 1, 0, none⟩ v') := by
  have hb1 : Chg (fun x => b ≤ x) W w1 := Chg.of_grown hg fun g e => (ho.lt g e).1
  have hc : Chg (fun x => x = q + 1 ∨ b ≤ x) W (w1.setCell ⟨q + 1, 0, none⟩ v') := (hb1.mono fun x _ hx => .inr hx).set_ (.inl (.inl rfl)) 0 v'
  have hv1 : Blk w1 (q + 1) 22 #[vv] := hb1.blk hv (by omega)
  have hv2 := hv1.set_ 0 v'
  have g := h.rv.lt
  refine ⟨⟨hc.blk h.rf (by omega), ⟨v', by simpa using hv2, ?_⟩, hc.blk h.rm (by omega), hc.blk h.rv (by omega), h.bel.trans (hc.below (B := s) (fun x hx => by omega) (by omega))⟩, hc⟩
  have h2 := own_chgS ho' ((Chg.refl (fun x => x = q + 1) w1).set_ (.inl rfl) 0 v') (fun g hg' hk => by have := (ho'.lt g hg').1; omega)
  rw [List.length_append, List.map_append]
  exact h2
def BytesR (w : World) (M : MV) (L : List SRow) (e : Ending) (W' : World) : Prop := ∃ vv, e = .returned (.tuple #[vv, .agg #[.int .i64 (chkV M L).1, .int .i64 (chkV M L).2]]) ∧ W'.ownsRow w.heap.size 5 1 vv (encB M L).length ((encB M L).map bv) ∧ Below w.heap.size w W'
theorem take_fm (M : MV) (L : List SRow) (j : Nat) (r : SRow) (h : L[j]? = some r) : (L.take (j + 1)).flatMap (fldR M) = (L.take j).flatMap (fldR M) ++ fldR M r := by
  obtain ⟨hj, hr⟩ := List.getElem?_eq_some_iff.1 h
  rw [List.take_succ_eq_append_getElem hj, List.flatMap_append, hr]
  simp
set_option maxRecDepth 100000 in
set_option maxHeartbeats 4000000 in
theorem ebytes_in (m : Nat) (hm : 8 ≤ m) (M : MV) (v : Int) (w : World) (hok : MvOk w M) (hsm : MvSm M) (hv1 : -9223372036854775808 ≤ v) (hv2 : v ≤ 9223372036854775807) :
    CallsIn Fence.wide m Tryz.prog 28 #[mvV M, .int .i64 v] w (BytesR w M (ofL (M.k : Int) v)) := by
  have h1 : 1 ≤ m := by omega
  obtain ⟨i5, hi5, hi50, hi51, hi52⟩ := info_parts Tryz.info5
  have hchk := fun W (hW : Below w.heap.size w W) => vcheck_any M v W (hok.below hW) hv1 hv2
  have heach := fun W => eeach_in (m - 1) M v W
  have heach1 := fun l Bm Bv B0 => eeach1_in (m - 1) (by omega) M v l Bm Bv B0 hsm hv1 hv2
  have hoks := fun W (hW : Below w.heap.size w W) => hok.below hW
  have hfl : ∀ r, (fldR M r).length ≤ 810000 := fun r => fld_len hok.n hsm
  have hq40 := ofL_le40 (M.k : Int) v
  have hz0 := fun h => chkV_zero (m := M) (L := ofL (M.k : Int) v) h
  have hBR : BytesR w M (ofL (M.k : Int) v) = fun e W' => ∃ vv, e = .returned (.tuple #[vv, .agg #[.int .i64 (chkV M (ofL (M.k : Int) v)).1, .int .i64 (chkV M (ofL (M.k : Int) v)).2]]) ∧ W'.ownsRow w.heap.size 5 1 vv (encB M (ofL (M.k : Int) v)).length ((encB M (ofL (M.k : Int) v)).map bv) ∧ Below w.heap.size w W' := rfl
  have hE : encB M (ofL (M.k : Int) v) = if (chkV M (ofL (M.k : Int) v)).1 = 0 then (ofL (M.k : Int) v).flatMap (fldR M) else [] := rfl
  generalize BytesR w M (ofL (M.k : Int) v) = R at *
  generalize encB M (ofL (M.k : Int) v) = eb at *
  generalize ofL (M.k : Int) v = L at *
  have hz1 : (chkV M L).1 = 0 → (chkV M L).2 = 0 := fun h => by rw [(hz0 h).1]
  unfold FltOf at hchk
  generalize (chkV M L).1 = E1 at *
  generalize (chkV M L).2 = E2 at *
  have HCHK := hid hchk
  have HEACH := hid heach
  have HEACH1 := hid heach1
  have HOKS := hid hoks
  have HFL := hid hfl
  have HZ1 := hid hz1
  have HBR := hid hBR
  have HE := hid hE
  clear hchk heach heach1 hoks hfl hz0 hz1 hBR hE hok
  have hmv : mvV M = .agg #[.int .u8 (M.k : Int), .int .u64 (M.n0 : Int), .int .u64 (M.n1 : Int), .int .u64 (M.n2 : Int), .int .u64 (M.n3 : Int), .int .u64 (M.n4 : Int), .int .u64 (M.n5 : Int), .string M.s0, .string M.s1, .slice M.A M.l.length M.c] := rfl
  have hma : mvA M = #[.int .u8 (M.k : Int), .int .u64 (M.n0 : Int), .int .u64 (M.n1 : Int), .int .u64 (M.n2 : Int), .int .u64 (M.n3 : Int), .int .u64 (M.n4 : Int), .int .u64 (M.n5 : Int), .string M.s0, .string M.s1, .slice M.A M.l.length M.c] := rfl
  rw [hmv] at HCHK HEACH ⊢
  rw [hma] at HEACH
  have HMA := hid hma
  clear hmv hma
  generalize M.l.length = len at *
  obtain ⟨s, hsz⟩ : ∃ s, w.heap.size = s := ⟨_, rfl⟩
  rw [hsz] at HCHK HOKS HBR
  have HSZ := hid hsz
  obtain ⟨nL, hnL⟩ : ∃ n, L.length = n := ⟨_, rfl⟩
  rw [hnL] at HEACH1 hq40
  have HNL := hid hnL
  clear hnL
  -- the first two boxes
  have hz : ((w.alloc (.cells #[.int .u8 (M.k : Int), .int .u64 (M.n0 : Int), .int .u64 (M.n1 : Int), .int .u64 (M.n2 : Int), .int .u64 (M.n3 : Int), .int .u64 (M.n4 : Int), .int .u64 (M.n5 : Int), .string M.s0, .string M.s1, .slice M.A len M.c] 29)).alloc (.cells #[.int .i64 0, .int .i64 0] 32)).heap.size = s + 2 := by simp [hsz]
  have hb0 := bw_a (bw_a (Below.refl w.heap.size w) (.cells #[.int .u8 (M.k : Int), .int .u64 (M.n0 : Int), .int .u64 (M.n1 : Int), .int .u64 (M.n2 : Int), .int .u64 (M.n3 : Int), .int .u64 (M.n4 : Int), .int .u64 (M.n5 : Int), .string M.s0, .string M.s1, .slice M.A len M.c] 29)) (.cells #[.int .i64 0, .int .i64 0] 32)
  have hk0 := (Blk.new w 29 #[.int .u8 (M.k : Int), .int .u64 (M.n0 : Int), .int .u64 (M.n1 : Int), .int .u64 (M.n2 : Int), .int .u64 (M.n3 : Int), .int .u64 (M.n4 : Int), .int .u64 (M.n5 : Int), .string M.s0, .string M.s1, .slice M.A len M.c]).alloc (.cells #[.int .i64 0, .int .i64 0] 32)
  have hk1 := Blk.new (w.alloc (.cells #[.int .u8 (M.k : Int), .int .u64 (M.n0 : Int), .int .u64 (M.n1 : Int), .int .u64 (M.n2 : Int), .int .u64 (M.n3 : Int), .int .u64 (M.n4 : Int), .int .u64 (M.n5 : Int), .string M.s0, .string M.s1, .slice M.A len M.c] 29)) 32 #[.int .i64 0, .int .i64 0]
  rw [World.size_alloc] at hk1
  rw [hsz] at hb0 hk0 hk1
  refine callsIn_of_wp_marks Tryz.func28 rfl trivial ?_ rfl
  simp only [Tryz.ntmps28, List.size_toArray, List.length_cons, List.length_nil, Nat.reduceAdd, Nat.reduceSub, Array.replicate_succ, Array.replicate_zero, List.push_toArray, List.append_toArray, List.nil_append, List.cons_append]
  have hmx : Tryz.prog.follows .mixedOrders = true := by kernel_rfl
  by_cases he : E1 = 0
  · have h2 := HZ1.out he
    have h3 := HE.out
    rw [if_pos he] at h3
    subst he
    subst h2
    have HE2 := hid h3
    clear h3 HZ1 HE
    gi_wp2_with (first | (refine ⟨trivial, ?_⟩; gi_at_call 45; refine ((callsIn_wide (n := m - 1)).2 (HCHK.out _ hb0)).mono ?_; rintro e w1 ⟨rfl, hb1⟩; have hk0 := hk0.below hb1 (by omega); have hk1 := hk1.below hb1 (by omega); have hB1 := hb0.trans (hb1.mono (by omega)); have hw1 : s + 2 ≤ w1.heap.size := (by have := hb1.size; omega); have hl0 : s < w1.heap.size := (by omega); have hl1 : s < w1.heap.size + 1 := (by omega); have hl2 : s < w1.heap.size + 1 + 1 := (by omega); have c0 := hk0.cell 0; have c1 := hk0.cell 1; have c2 := hk0.cell 2; have c3 := hk0.cell 3; have c4 := hk0.cell 4; have c5 := hk0.cell 5; have c6 := hk0.cell 6; have c7 := hk0.cell 7; have c8 := hk0.cell 8; have c9 := hk0.cell 9; have d0 := hk1.cell 0; have d1 := hk1.cell 1; have e0 := hk1.frozen 0; have e1 := hk1.frozen 1; simp only [List.getElem?_toArray, List.getElem?_cons_zero, List.getElem?_cons_succ] at c0 c1 c2 c3 c4 c5 c6 c7 c8 c9 d0 d1) | (refine ⟨trivial, ?_⟩; gi_at_call 46; refine (HEACH.out _).mono ?_; rintro e w' ⟨rfl, rfl⟩))
    obtain ⟨q, hq⟩ : ∃ q, w1.heap.size = q := ⟨_, rfl⟩
    obtain ⟨Wa, hWa⟩ : ∃ Wa, (((w1.alloc (.cells #[.int .i64 0, .int .i64 0] 32)).alloc (.cells #[.slice none 0 0] 22)).alloc (.cells #[.int .u8 (M.k : Int), .int .u64 (M.n0 : Int), .int .u64 (M.n1 : Int), .int .u64 (M.n2 : Int), .int .u64 (M.n3 : Int), .int .u64 (M.n4 : Int), .int .u64 (M.n5 : Int), .string M.s0, .string M.s1, .slice M.A len M.c] 29)).alloc (.cells #[.int .i64 v] 3) = Wa := ⟨_, rfl⟩
    have hza : Wa.heap.size = q + 4 := by rw [← hWa]; simp [hq]
    have hba : Below q w1 Wa := by rw [← hWa, ← hq]; exact bw_a (bw_a (bw_a (bw_a (Below.refl _ w1) _) _) _) _
    have hr1 : Blk Wa (q + 1) 22 #[.slice none 0 0] := by
      have h := ((Blk.new (w1.alloc (.cells #[.int .i64 0, .int .i64 0] 32)) 22 #[.slice none 0 0]).alloc (.cells #[.int .u8 (M.k : Int), .int .u64 (M.n0 : Int), .int .u64 (M.n1 : Int), .int .u64 (M.n2 : Int), .int .u64 (M.n3 : Int), .int .u64 (M.n4 : Int), .int .u64 (M.n5 : Int), .string M.s0, .string M.s1, .slice M.A len M.c] 29)).alloc (.cells #[.int .i64 v] 3)
      rw [hWa, World.size_alloc, hq] at h; exact h
    have hr2 : Blk Wa (q + 2) 29 (mvA M) := by
      have h := (Blk.new ((w1.alloc (.cells #[.int .i64 0, .int .i64 0] 32)).alloc (.cells #[.slice none 0 0] 22)) 29 #[.int .u8 (M.k : Int), .int .u64 (M.n0 : Int), .int .u64 (M.n1 : Int), .int .u64 (M.n2 : Int), .int .u64 (M.n3 : Int), .int .u64 (M.n4 : Int), .int .u64 (M.n5 : Int), .string M.s0, .string M.s1, .slice M.A len M.c]).alloc (.cells #[.int .i64 v] 3)
      rw [hWa, World.size_alloc, World.size_alloc, hq] at h; rw [HMA.out]; exact h
    have hr3 : Blk Wa (q + 3) 3 #[.int .i64 v] := by
      have h := Blk.new (((w1.alloc (.cells #[.int .i64 0, .int .i64 0] 32)).alloc (.cells #[.slice none 0 0] 22)).alloc (.cells #[.int .u8 (M.k : Int), .int .u64 (M.n0 : Int), .int .u64 (M.n1 : Int), .int .u64 (M.n2 : Int), .int .u64 (M.n3 : Int), .int .u64 (M.n4 : Int), .int .u64 (M.n5 : Int), .string M.s0, .string M.s1, .slice M.A len M.c] 29)) 3 #[.int .i64 v]
      rw [hWa, World.size_alloc, World.size_alloc, World.size_alloc, hq] at h; exact h
    have hsq : s + 2 ≤ q := by omega
    have hj0 : ∀ b W', q + 6 ≤ b → Below (q + 4) Wa W' → EJ s q b w M v [] W' := fun b W' hb hB => by
      have hB2 := hba.trans (hB.mono (by omega))
      exact ⟨hk1.below hB2 (by omega), ⟨_, hr1.below hB (by omega), World.ownsRow_nil _ _ _ _⟩, hr2.below hB (by omega), hr3.below hB (by omega), hB1.trans (hB2.mono (by omega))⟩
    rw [hWa, hq]
    have HJ0 := hid hj0
    have HHQ := hid hq
    clear hWa hr1 hr2 hr3 hba hj0 hk0 hk1 hB1 hb1 c0 c1 c2 c3 c4 c5 c6 c7 c8 c9 d0 d1 e0 e1 hw1 hq
    refine range_b m (by omega) (q + 4) hza (gf := 69) (lb := #[.pointer (some ⟨q + 1 + 1, 0, none⟩), .pointer (some ⟨q + 1 + 1 + 1, 0, none⟩)]) rfl (enters_of Tryz.func69 (by kernel_rfl) rfl) nL (EArg M L) ?_
      (fun b j W' => q + 6 ≤ b ∧ EJ s q b w M v ((L.take j).flatMap (fldR M)) W') (fun b c W' => False) ?_ ?_ ?_ ?_ ?_ ?_ ?_
    · rintro j xs W ⟨r, A, c, -, rfl, -⟩
      rfl
    · rintro b j W1 W2 ⟨hb, a1⟩ hc
      exact ⟨hb, a1.keep hsq hb hc (fun x hx => by omega)⟩
    · rintro b c W1 W2 h _
      exact h.elim
    · intro b W' hb hB
      exact ⟨by omega, HJ0.out b W' (by omega) hB⟩
    · intro l2 J2 Jx2 W1 hw1 hB1 hJI hJn2 hJs hJ0 hy
      exact HEACH1.out l2 (q + 1 + 1) (q + 1 + 1 + 1) (q + 4 + 2) J2 Jx2 W1 hw1 (fun b j W h => by obtain ⟨⟨hb, h1⟩, h2⟩ := hJI b j W h; exact ⟨h1.rm, h1.rv, HOKS.out _ h1.bel⟩) hJ0 hJn2 hy
    · rintro l2 b j W1 xs hj hb hbW ⟨hb6, a1⟩ ⟨r, A, c, hr, rfl, hs⟩ hlo
      have htk := take_fm M L j r hr
      have hfl := HFL.out r
      have hbl : ((L.take j).flatMap (fldR M)).length ≤ 810000 * 40 := by
        have h1 := fm_len (fldR M) 810000 (L.take j) (fun x _ => HFL.out x)
        have h2 : (L.take j).length ≤ 40 := by rw [List.length_take]; have := HNL.out; omega
        have h3 : 810000 * (L.take j).length ≤ 810000 * 40 := Nat.mul_le_mul_left _ h2
        omega
      generalize (L.take j).flatMap (fldR M) = bs at *
      generalize fldR M r = fb at *
      obtain ⟨fl, hfle⟩ : ∃ fl, fb.length = fl := ⟨_, rfl⟩
      obtain ⟨bl, hble⟩ : ∃ bl, bs.length = bl := ⟨_, rfl⟩
      rw [hfle] at hfl ⊢
      rw [hble] at hbl
      have HTK := hid htk
      have HFLE := hid hfle
      have HBLE := hid hble
      clear htk hfle hble hr
      gi_wp2
      refine ⟨KBl.refl _ _ _, fun W2 hc2 => ?_⟩
      have hj2 := a1.keep hsq hb6 hc2 (fun x hx => by omega)
      have hs2 := hs.loop hlo hc2
      have hbW2 : b ≤ W2.heap.size := Nat.le_trans hbW hc2.size
      obtain ⟨vv, hv, ho⟩ := hj2.ro
      have c0 := hv.cell 0
      have f0 := hv.frozen 0
      simp only [List.getElem?_toArray, List.getElem?_cons_zero] at c0
      have HJ := hid hj2
      have HS := hid hs2
      have HV := hid hv
      rw [HBLE.out] at ho
      have HO := hid ho
      clear hj2 hs2 hv ho a1 hs hc2 hlo
      gi_wp2_with (gi_at_builtin; refine wpListIn_append_sl _ rfl _ _ 22 rfl b 5 i5 (.int .u8 0) 1 1 Tryz.underlying22 hi5 hi50 hi51 hi52 rfl (by decide) vv bl (bs.map bv) rfl HO.out A fl c (fb.map bv) rfl (by rw [List.length_map, HFLE.out]; omega) HS.out.rd HS.out.nil0 (bv_one _) (by simp only [maxLen]; omega) (by omega) (by omega) ?_; intro v' w3 hown' hgrow; obtain ⟨A', c', rfl⟩ := row_slice' hown'; have hst := EJ.step (new := fb) HJ.out hsq hb6 HV.out (by rw [HBLE.out]; exact HO.out) hgrow (by rw [HBLE.out, HFLE.out]; exact hown'); have hg1 : some (q + 1) ≠ vv.ownBlock := (fun e => by have := (HO.out.lt _ e.symm).1; omega); have hw1 := (hgrow.block (q + 1) HV.out.lt hg1).trans HV.out; have hc1 := Blk.cell hw1 0; have hf1 := Blk.frozen hw1 0; simp only [List.getElem?_toArray, List.getElem?_cons_zero] at hc1)
      obtain ⟨hj5, hc5⟩ := hst
      exact ⟨KBl.of_chg hc5 hbW2 (fun x g1 g2 => by omega), hb6, by rw [HTK.out]; exact hj5⟩
    · rintro b W1 hb ⟨hb6, a1⟩ hd
      rw [List.take_of_length_le (by have := HNL.out; omega), ← HE2.out] at a1
      obtain ⟨vv, hv, ho⟩ := a1.ro
      obtain ⟨A, c, rfl⟩ := row_slice' ho
      have c0 := hv.cell 0
      have d0 := a1.rf.cell 0
      have d1 := a1.rf.cell 1
      have e0 := a1.rf.frozen 0
      have e1 := a1.rf.frozen 1
      simp only [List.getElem?_toArray, List.getElem?_cons_zero, List.getElem?_cons_succ] at c0 d0 d1
      have HJ := hid a1
      have HO := hid ho
      have HD := hid hd
      clear a1 hv ho hd
      obtain ⟨el, hel⟩ : ∃ n, eb.length = n := ⟨_, rfl⟩
      have HEL := hid hel
      rw [hel] at c0 HO
      clear hel
      gi_wp2
      have h9 := fstore HJ.out.rf (.int .i64 0) (.int .i64 0)
      have hlt9 := (Array.getElem?_eq_some_iff.1 HD.out).1
      have hd9 := (h9.2.block (q + 4) hlt9 (by omega)).trans HD.out
      have ho9 := own_chgS HO.out h9.2 (fun g hg e => by have := (HO.out.lt g hg).1; omega)
      have hb9 := HJ.out.bel.trans (h9.2.below (B := s) (fun k hk => by omega) (by have := HJ.out.rf.lt; omega))
      have hk9 := h9.1
      clear h9
      generalize World.setCell (World.setCell W1 _ _) _ _ = W9 at *
      have hM : Marks (q + 4) W9 [q + 4] := (Marks.nil_ _ _).cons_ (Nat.le_refl _) (by simp) hd9
      refine leaves_marks (q + 4) [q + 4] _ hM fun W6 h6 => ?_
      have hk6 := h6.blk hk9 (by simp; omega)
      have r0 := hk6.cell 0
      have r1 := hk6.cell 1
      simp only [List.getElem?_toArray, List.getElem?_cons_zero, List.getElem?_cons_succ] at r0 r1
      have ho6 := own_chgS ho9 h6 (fun g hg hk => by simp at hk; have := (ho9.lt g hg).1; omega)
      have hb6' := hb9.trans (h6.below (B := s) (fun k hk => by simp at hk; omega) (by have := hk9.lt; omega))
      refine ⟨.tuple #[.slice A el c, .agg #[.int .i64 0, .int .i64 0]], by simp [results, Tryz.results28, go_sem, r0, r1], ?_⟩
      rw [HBR.out]
      exact ⟨_, rfl, by rw [HEL.out]; exact own_mono ho6 (by omega), hb6'⟩
    · rintro b c W1 hb h _
      exact h.elim
  · have heb : (E1 != 0) = true := by simpa using he
    have h3 := HE.out
    rw [if_neg he] at h3
    subst h3
    clear he HE HZ1
    gi_wp2_with (refine ⟨trivial, ?_⟩; gi_at_call 45; refine ((callsIn_wide (n := m - 1)).2 (HCHK.out _ hb0)).mono ?_; rintro e w1 ⟨rfl, hb1⟩; have hk0 := hk0.below hb1 (by omega); have hk1 := hk1.below hb1 (by omega); have hB1 := hb0.trans (hb1.mono (by omega)); have hw1 : s + 2 ≤ w1.heap.size := (by have := hb1.size; omega); have hl0 : s < w1.heap.size := (by omega); have hl1 : s < w1.heap.size + 1 := (by omega); have hl2 : s < w1.heap.size + 1 + 1 := (by omega); have c0 := hk0.cell 0; have c1 := hk0.cell 1; have c2 := hk0.cell 2; have c3 := hk0.cell 3; have c4 := hk0.cell 4; have c5 := hk0.cell 5; have c6 := hk0.cell 6; have c7 := hk0.cell 7; have c8 := hk0.cell 8; have c9 := hk0.cell 9; have d0 := hk1.cell 0; have d1 := hk1.cell 1; have e0 := hk1.frozen 0; have e1 := hk1.frozen 1; simp only [List.getElem?_toArray, List.getElem?_cons_zero, List.getElem?_cons_succ] at c0 c1 c2 c3 c4 c5 c6 c7 c8 c9 d0 d1)
    refine wpIn_wide.2 ?_
    have hkn := Blk.new w1 32 #[.int .i64 E1, .int .i64 E2]
    have y0 := hkn.cell 0
    have y1 := hkn.cell 1
    simp only [List.getElem?_toArray, List.getElem?_cons_zero, List.getElem?_cons_succ] at y0 y1
    have hka := hk1.alloc (.cells #[.int .i64 E1, .int .i64 E2] 32)
    have hba := hB1.trans ((bw_a (Below.refl w1.heap.size w1) (.cells #[.int .i64 E1, .int .i64 E2] 32)).mono (show s ≤ w1.heap.size by omega))
    have z0 := hka.cell 0
    have z1 := hka.cell 1
    have u0 := hka.frozen 0
    have u1 := hka.frozen 1
    simp only [List.getElem?_toArray, List.getElem?_cons_zero, List.getElem?_cons_succ] at z0 z1
    have HKA := hid hka
    have HBA := hid hba
    clear hkn hka hba hk0 hk1 hB1 hb1 hb0 c0 c1 c2 c3 c4 c5 c6 c7 c8 c9 d0 d1 e0 e1
    generalize w1.alloc (.cells #[.int .i64 E1, .int .i64 E2] 32) = w2 at *
    have hne : ¬ (w1.heap.size = s + 1) := by omega
    have hne2 : ¬ (s + 1 = w1.heap.size) := by omega
    go_region_held3 (fun w' => w'.cell? ⟨w1.heap.size, 0, none⟩ = some (.int .i64 E1) ∧ w'.cell? ⟨w1.heap.size, 1, none⟩ = some (.int .i64 E2)) (first | exact ⟨y0, y1⟩ | go_keep) (fail)
    have h9 := fstore HKA.out (.int .i64 E1) (.int .i64 E2)
    have hk9 := h9.1
    have hb9 := HBA.out.trans (h9.2.below (B := s) (fun k hk => by omega) (by have := HKA.out.lt; omega))
    clear h9
    gi_wp2
    generalize World.setCell (World.setCell w2 _ _) _ _ = W9 at *
    have r0 := hk9.cell 0
    have r1 := hk9.cell 1
    simp only [List.getElem?_toArray, List.getElem?_cons_zero, List.getElem?_cons_succ] at r0 r1
    have r0' : W9.drew.cell? ⟨s + 1, 0, none⟩ = some (.int .i64 E1) := r0
    have r1' : W9.drew.cell? ⟨s + 1, 1, none⟩ = some (.int .i64 E2) := r1
    refine ⟨.tuple #[.slice none 0 0, .agg #[.int .i64 E1, .int .i64 E2]], by simp [results, Tryz.results28, go_sem, r0', r1'], ?_⟩
    rw [HBR.out]
    exact ⟨_, rfl, World.ownsRow_nil _ _ _ _, ⟨hb9.os, hb9.tape, hb9.output, hb9.size, hb9.block⟩⟩
end Go.Proofs.YtealjpolomhdeaaGreat
set_option linter.unusedVariables false
namespace Go.Proofs.YtealjpolomhdeaaGreat
open Go.RowKit
/-- Bytes of a text, in a block of bytes. -/
def ConvS (w : World) (A : Option Addr) (c : Nat) (qs : ByteArray) : Prop := Sl w A c (qs.data.toList.map bv) ∧ U8 w A
theorem ConvS.below {w w' : World} {A : Option Addr} {c : Nat} {qs : ByteArray} (h : ConvS w A c qs) (hb : Below w.heap.size w w') : ConvS w' A c qs := by
  refine ⟨h.1.below hb, ?_⟩
  obtain ⟨g, cs, k, rfl, hg⟩ := h.2
  exact ⟨g, cs, k, rfl, (hb.block g (Array.getElem?_eq_some_iff.1 hg).1).trans hg⟩
theorem ConvS.chg {w w' : World} {A : Option Addr} {c q : Nat} {qs : ByteArray} {t : TypeId} {cs : Array Value} (h : ConvS w A c qs) (hb : Blk w q t cs) (ht : t ≠ 5) (hc : Chg (fun k => k = q) w w') : ConvS w' A c qs := by
  have hu := h.2
  obtain ⟨g, cs1, k, rfl, hg⟩ := h.2
  have hne := U8.ne_blk hu hb ht
  refine ⟨hc.sl h.1 (n := (qs.data.toList.map bv).length) (fun _ b o he hS => ?_) rfl, hu.chg hc (fun g2 he hS => ?_)⟩
  · injection he with he
    injection he with he1
    omega
  · injection he with he
    injection he with he1
    omega
theorem fstep {w : World} {g : Nat} {y0 y1 y2 y3 y4 : Value} (h : Blk w g 76 #[y0, y1, y2, y3, y4]) (x0 x1 x2 x3 x4 : Value) : Blk (((((w.setCell ⟨g, 0, none⟩ x0).setCell ⟨g, 1, none⟩ x1).setCell ⟨g, 2, none⟩ x2).setCell ⟨g, 3, none⟩ x3).setCell ⟨g, 4, none⟩ x4) g 76 #[x0, x1, x2, x3, x4] ∧ Chg (fun k => k = g) w (((((w.setCell ⟨g, 0, none⟩ x0).setCell ⟨g, 1, none⟩ x1).setCell ⟨g, 2, none⟩ x2).setCell ⟨g, 3, none⟩ x3).setCell ⟨g, 4, none⟩ x4) := by
  refine ⟨by simpa using ((((h.set_ 0 x0).set_ 1 x1).set_ 2 x2).set_ 3 x3).set_ 4 x4, ?_⟩
  exact (((((Chg.refl (fun k => k = g) w).set_ (.inl rfl) 0 x0).set_ (.inl rfl) 1 x1).set_ (.inl rfl) 2 x2).set_ (.inl rfl) 3 x3).set_ (.inl rfl) 4 x4
theorem zig_nat (n : Int) (h1 : -9223372036854775808 ≤ n) (h2 : n ≤ 9223372036854775807) : ∃ q : Nat, zig n = (q : Int) ∧ q ≤ 18446744073709551615 := by
  have hz := zig_range n h1 h2
  exact ⟨(zig n).toNat, by omega, by omega⟩
theorem wireD_cases (t : Int) : wireD t = 0 ∨ wireD t = 1 ∨ wireD t = 2 ∨ wireD t = 5 := by
  unfold wireD
  split
  · exact .inl rfl
  split
  · exact .inr (.inr (.inr rfl))
  split
  · exact .inr (.inl rfl)
  · exact .inr (.inr (.inl rfl))
theorem fv_one (num : Int) (wd qn : Nat) (qs : ByteArray) (A : Option Addr) (c : Nat) (w : World) (h1 : 1 ≤ num) (h2 : num ≤ 536870911) (hw : wd = 0 ∨ wd = 1 ∨ wd = 2 ∨ wd = 5) (hq : qn ≤ 18446744073709551615) (hl : qs.data.toList.length ≤ 8000) (hc : ConvS w A c qs) :
    Calls Tryz.prog 54 #[.agg #[.int .i64 num, .int .u8 (wd : Int), .int .u64 (qn : Int), .slice A qs.size c, .int .i64 0]] w fun e w' => ∃ A' c', e = .returned (.slice A' (wB (num, (wd : Int), qn, qs.data.toList)).length c') ∧ Sl w' A' c' ((wB (num, (wd : Int), qn, qs.data.toList)).map bv) ∧ Below w.heap.size w w' := by
  have hwb : wireB (wd : Int) = true := by rcases hw with e | e | e | e <;> rw [e] <;> rfl
  have he : pErrF ⟨num, (wd : Int), qn, ⟨A, c, qs.data.toList⟩, 0⟩ = 0 := by
    unfold pErrF pErr
    rw [mk_ok h1 h2 hwb, if_neg (by simp), if_neg (by simp only []; omega)]
  have h := rfb_any ⟨num, (wd : Int), qn, ⟨A, c, qs.data.toList⟩, 0⟩ w ⟨by dsimp only; omega, by dsimp only; omega, hq, by dsimp only; omega, by dsimp only; omega, by dsimp only; omega, by dsimp only; omega, hc.1⟩ he (by dsimp only; omega)
  have e1 : (fvC ⟨num, (wd : Int), qn, ⟨A, c, qs.data.toList⟩, 0⟩).toArray = #[.int .i64 num, .int .u8 (wd : Int), .int .u64 (qn : Int), .slice A qs.size c, .int .i64 0] := by
    unfold fvC
    have : qs.data.toList.length = qs.size := by simp
    simp only [this]
  rw [e1] at h
  exact h
theorem wB_len8 (num : Int) (wd qn : Nat) (xs : List UInt8) (hw : wd = 0 ∨ wd = 1 ∨ wd = 2 ∨ wd = 5) (hq : qn ≤ 18446744073709551615) (hl : xs.length ≤ 8000) : (wB (num, (wd : Int), qn, xs)).length ≤ 8100 :=
  pBF_len8 ⟨num, (wd : Int), qn, ⟨none, 0, xs⟩, 0⟩ hq (by dsimp only; omega) (by dsimp only; omega) hl
/-- What the document's Field takes for a field. -/
structure PlF (m : MV) (num t i : Int) : Prop where
  n : plN m t i ≤ 18446744073709551615
  s : (plS m t i).data.toList.length ≤ 8000
  one : t ≠ 10 → t ≠ 3 → 1 ≤ t → t ≤ 10 → partW m num t i = [(num, ((wireD t : Nat) : Int), plN m t i, (plS m t i).data.toList)]
  zig : t = 3 → partW m num t i = [(num, 0, (zig (wrap64 (plN m t i : Nat))).toNat, (plS m t i).data.toList)]
  lst : t = 10 → partW m num t i = m.l.map (fun s => (num, 2, 0, s.data.toList)) ∧ plN m t i = 0 ∧ plV m t = .slice m.A m.l.length m.c
theorem pl_facts (m : MV) (num t i : Int) {w : World} (hok : MvOk w m) (hsm : MvSm m) : PlF m num t i := by
  have he : ((⟨#[]⟩ : ByteArray).data.toList) = [] := rfl
  refine ⟨?_, ?_, ?_, ?_, ?_⟩
  · unfold plN; split
    · exact hok.n i
    · omega
  · unfold plS; split
    · have := hsm.s i; simpa using this
    · simp
  · intro h1 h2 h3 h4
    unfold partW plN plS
    rw [if_neg h1]
    by_cases hx : 7 ≤ t ∧ t ≤ 9
    · rw [if_pos hx, if_pos hx, if_neg (by omega)]
      have : wireD t = 2 := by unfold wireD; rw [if_neg (by omega), if_neg (by omega), if_neg (by omega)]
      rw [this]; rfl
    · rw [if_neg hx, if_neg hx, if_neg h2, if_pos (by omega), he]
      have : wireN t = wireD t := by
        unfold wireN wireD
        by_cases c5 : t = 5
        · subst c5; rfl
        by_cases c6 : t = 6
        · subst c6; rfl
        rw [if_neg c5, if_neg c6, if_neg (by omega), if_pos (by omega)]
      rw [this]
  · rintro rfl
    rfl
  · rintro rfl
    exact ⟨rfl, rfl, rfl⟩
def R4 (s : Nat) (num t : Int) (wd qn : Nat) (qs : ByteArray) (a0 : Act) (w0 : World) (f : Nat → Bool) (a : Act) (w : World) : Prop := ∃ x0 x1 x2 x3 x4 x5 x6 x7 x8 x9 : Value, a = ((((((((((a0.put (some 31) x0).put (some 32) x1).put (some 33) x2).put (some 34) x3).put (some 35) x4).put (some 36) x5).put (some 37) x6).put (some 38) x7).put (some 39) x8).put (some 8) x9) ∧ (f 0 = true → x0 = .pointer (some ⟨s + 1, 0, none⟩)) ∧ (f 1 = true → x1 = .int .i64 num) ∧ (f 2 = true → x2 = .pointer (some ⟨s + 1, 1, none⟩)) ∧ (f 3 = true → x3 = .int .i64 t) ∧ (f 4 = true → x4 = .int .u8 (wd : Int)) ∧ (f 5 = true → x5 = .int .u64 (qn : Int)) ∧ (f 6 = true → x6 = .string qs) ∧ (f 7 = true → ∃ A c, x7 = .slice A qs.size c ∧ ConvS w A c qs) ∧ (f 8 = true → ∃ A c, x8 = .agg #[.int .i64 num, .int .u8 (wd : Int), .int .u64 (qn : Int), .slice A qs.size c, .int .i64 0] ∧ ConvS w A c qs) ∧ (f 9 = true → ∃ g, x9 = .pointer (some ⟨g, 0, none⟩) ∧ w0.heap.size ≤ g ∧ (f 10 = false → Blk w g 76 #[.int .i64 0, .int .u8 0, .int .u64 0, .slice none 0 0, .int .i64 0]) ∧ (f 10 = true → ∃ A c, Blk w g 76 #[.int .i64 num, .int .u8 (wd : Int), .int .u64 (qn : Int), .slice A qs.size c, .int .i64 0] ∧ ConvS w A c qs)) ∧ (f 10 = true → f 9 = true) ∧ Below w0.heap.size w0 w
set_option maxRecDepth 100000 in
set_option maxHeartbeats 8000000 in
theorem r10field_any (m : MV) (num t i : Int) (w : World) (hok : MvOk w m) (hsm : MvSm m) (hn1 : -9223372036854775808 ≤ num) (hn2 : num ≤ 9223372036854775807) :
    Calls Tryz.prog 32 #[mvV m, .agg #[.int .i64 num, .int .i64 t, .int .i64 i]] w fun e w' => ∃ A c, e = .returned (.slice A (fldB m num t i).length c) ∧ Sl w' A c ((fldB m num t i).map bv) ∧ Below w.heap.size w w' := by
  obtain ⟨R, hR⟩ : ∃ R : Ending → World → Prop, R = fun e w' => ∃ A c, e = .returned (.slice A (fldB m num t i).length c) ∧ Sl w' A c ((fldB m num t i).map bv) ∧ Below w.heap.size w w' := ⟨_, rfl⟩
  rw [← hR]
  have HR := hid hR
  clear hR
  have hvd := fun W => rdef_any m num t i W
  have hpl := fun W => rplace_any m num t i W
  have hfi := fun hd => fldB_in (m := m) (num := num) (t := t) (i := i) hd hsm
  have hfo := fldB_out (m := m) (num := num) (t := t) (i := i) hsm
  have hwi := fun W => rwire_any t W
  have hdc := fun hd => dfl_cases (m := m) (t := t) (i := i) hd
  obtain ⟨hpn, hps, hone, hzig, hlst⟩ := pl_facts m num t i hok hsm
  have hfz : dflB m t i = true → fldB m num t i = [] := fun h => by unfold fldB; rw [h]; rfl
  generalize fldB m num t i = fb at *
  generalize partW m num t i = pw at *
  have hsl := hok.l
  have hes := hok.e
  have hwc := wireD_cases t
  have hw10 : t = 10 → wireD t = 2 := fun h => by subst h; rfl
  have hw3 : t = 3 → wireD t = 0 := fun h => by subst h; rfl
  have hnl := hsm.l
  have hlr : m.l.reverse.length = m.l.length := List.length_reverse
  have hel := hsm.e
  generalize plN m t i = qn at *
  generalize plS m t i = qs at *
  generalize plV m t = qv at *
  generalize dflB m t i = db at *
  generalize wireD t = wd at *
  clear hok hsm
  unfold mvV mvA at *
  generalize m.l.length = len at *
  obtain ⟨s, hws⟩ : ∃ s, w.heap.size = s := ⟨_, rfl⟩
  have hbx := bx2 w s len m num t i hws
  rw [hws] at HR
  have HVD := hid hvd
  have HPL := hid hpl
  have HFI := hid hfi
  have HFO := hid hfo
  have HWI := hid hwi
  have HDC := hid hdc
  have HPN := hid hpn
  have HW3 := hid hw3
  have HW10 := hid hw10
  have HPS := hid hps
  have HONE := hid hone
  have HZIG := hid hzig
  have HLST := hid hlst
  have HFZ := hid hfz
  clear hw3 hw10 hvd hpl hfi hfo hwi hdc hpn hps hone hzig hlst hfz
  obtain ⟨W, hW⟩ : ∃ W, (w.alloc (.cells #[.int .u8 (m.k : Int), .int .u64 (m.n0 : Int), .int .u64 (m.n1 : Int), .int .u64 (m.n2 : Int), .int .u64 (m.n3 : Int), .int .u64 (m.n4 : Int), .int .u64 (m.n5 : Int), .string m.s0, .string m.s1, .slice m.A len m.c] 29)).alloc (.cells #[.int .i64 num, .int .i64 t, .int .i64 i] 69) = W := ⟨_, rfl⟩
  rw [hW] at hbx
  have HBX := hid hbx
  clear hbx
  have x0 := HBX.out.b0
  have x1 := HBX.out.b1
  have c0 := x0.cell 0
  have c1 := x0.cell 1
  have c2 := x0.cell 2
  have c3 := x0.cell 3
  have c4 := x0.cell 4
  have c5 := x0.cell 5
  have c6 := x0.cell 6
  have c7 := x0.cell 7
  have c8 := x0.cell 8
  have c9 := x0.cell 9
  have d0 := x1.cell 0
  have d1 := x1.cell 1
  have d2 := x1.cell 2
  simp only [List.getElem?_toArray, List.getElem?_cons_zero, List.getElem?_cons_succ] at c0 c1 c2 c3 c4 c5 c6 c7 c8 c9 d0 d1 d2
  clear x0 x1
  go_enter Tryz.func32, Tryz.ntmps32
  go_wp2_with fail
  clear hW
  refine (HVD.out W).mono ?_
  rintro e w1 ⟨rfl, hb1⟩
  clear c0 c1 c2 c3 c4 c5 c6 c7 c8 c9 d0 d1 d2
  have hlt := HBX.out.b1.lt
  have hk1 := HBX.out.b0.below hb1 (by omega)
  have hj1 := HBX.out.b1.below hb1 (by omega)
  have hB1 := HBX.out.bel.trans (hb1.mono (by omega))
  have c0 := hk1.cell 0
  have c1 := hk1.cell 1
  have c2 := hk1.cell 2
  have c3 := hk1.cell 3
  have c4 := hk1.cell 4
  have c5 := hk1.cell 5
  have c6 := hk1.cell 6
  have c7 := hk1.cell 7
  have c8 := hk1.cell 8
  have c9 := hk1.cell 9
  have d0 := hj1.cell 0
  have d1 := hj1.cell 1
  have d2 := hj1.cell 2
  simp only [List.getElem?_toArray, List.getElem?_cons_zero, List.getElem?_cons_succ] at c0 c1 c2 c3 c4 c5 c6 c7 c8 c9 d0 d1 d2
  have HB1 := hid hB1
  have hl1 := hj1.lt
  clear hk1 hj1 hb1 hB1
  cases db with
  | true =>
    have HFZT := hid (HFZ.out rfl)
    clear HFZ HFI HFO HDC HPN HPS HONE HZIG HLST
    go_wp2_with fail
    rw [HR.out]
    exact ⟨none, 0, by rw [HFZT.out]; rfl, by rw [HFZT.out]; exact Sl.nil_ _, HB1.out⟩
  | false =>
    have HFIT := hid (HFI.out rfl)
    have HDCT := hid (HDC.out rfl)
    clear HFI HFZ HDC
    by_cases hlo : num < 1
    · have HFO2 := hid (HFO.out (.inl hlo))
      clear HFO
      go_wp2_with fail
      rw [HR.out]
      exact ⟨none, 0, by rw [HFO2.out]; rfl, by rw [HFO2.out]; exact Sl.nil_ _, HB1.out⟩
    by_cases hhi : 536870911 < num
    · have HFO2 := hid (HFO.out (.inr hhi))
      clear HFO
      go_wp2_with fail
      rw [HR.out]
      exact ⟨none, 0, by rw [HFO2.out]; rfl, by rw [HFO2.out]; exact Sl.nil_ _, HB1.out⟩
    clear HFO
    go_wp2_with fail
    refine (HPL.out _).mono ?_
    rintro e w2 ⟨rfl, hb2⟩
    have HB2 := hid (HB1.out.trans (hb2.mono (by omega)))
    have d0' := (hb2.cell (p := ⟨s + 1, 0, none⟩) hl1).trans d0
    have d1' := (hb2.cell (p := ⟨s + 1, 1, none⟩) hl1).trans d1
    have d2' := (hb2.cell (p := ⟨s + 1, 2, none⟩) hl1).trans d2
    have HT := hid (And.intro d0' (And.intro d1' d2'))
    have hl2 : s + 1 < w2.heap.size := Nat.lt_of_lt_of_le hl1 hb2.size
    clear hb2 c0 c1 c2 c3 c4 c5 c6 c7 c8 c9 d0 d1 d2 d0' d1' d2'
    go_wp2_with fail
    refine wp_region_inv (by kernel_rfl) (by kernel_rfl) (R4 s num t wd qn qs) ?_ ?_ ?_
    · exact ⟨undef, undef, undef, undef, undef, undef, undef, undef, undef, undef, (by simp only [Act.put, List.setIfInBounds_toArray, List.set_cons_succ, List.set_cons_zero]), by simp, by simp, by simp, by simp, by simp, by simp, by simp, by simp, by simp, by simp, by simp, ⟨rfl, rfl, rfl, Nat.le_refl _, fun _ _ => rfl⟩⟩
    · intro f a' wr i o ho hf hdep hI
      have hi : i < 11 := (Array.getElem?_eq_some_iff.1 ho).1
      have hcase : i = 0 ∨ i = 1 ∨ i = 2 ∨ i = 3 ∨ i = 4 ∨ i = 5 ∨ i = 6 ∨ i = 7 ∨ i = 8 ∨ i = 9 ∨ i = 10 := by omega
      clear hi
      rcases hcase with rfl | rfl | rfl | rfl | rfl | rfl | rfl | rfl | rfl | rfl | rfl
      all_goals
        simp only [List.getElem?_toArray, List.getElem?_cons_zero, List.getElem?_cons_succ, Option.some.injEq] at ho
        subst ho
      · -- 0
        obtain ⟨x0, x1, x2, x3, x4, x5, x6, x7, x8, x9, rfl, h0, h1, h2, h3, h4, h5, h6, h7, h8, h9, h10, hB⟩ := hI
        have H0 := hid h0; have H1 := hid h1; have H2 := hid h2; have H3 := hid h3; have H4 := hid h4; have H5 := hid h5; have H6 := hid h6; have H7 := hid h7; have H8 := hid h8; have H9 := hid h9; have H10 := hid h10; have HBB := hid hB
        clear h0 h1 h2 h3 h4 h5 h6 h7 h8 h9 h10 hB
        simp only [Act.put, List.setIfInBounds_toArray, List.set_cons_succ, List.set_cons_zero]
        go_wp2_with fail
        have h0 := H0.out; have h1 := H1.out; have h2 := H2.out; have h3 := H3.out; have h4 := H4.out; have h5 := H5.out; have h6 := H6.out; have h7 := H7.out; have h8 := H8.out; have h9 := H9.out; have h10 := H10.out; have hB := HBB.out
        exact ⟨_, x1, x2, x3, x4, x5, x6, x7, x8, x9, (by simp only [Act.put, List.setIfInBounds_toArray, List.set_cons_succ, List.set_cons_zero]), fun _ => rfl, (fun h => h1 (by simpa using h)), (fun h => h2 (by simpa using h)), (fun h => h3 (by simpa using h)), (fun h => h4 (by simpa using h)), (fun h => h5 (by simpa using h)), (fun h => h6 (by simpa using h)), (fun h => by obtain ⟨A, c, e, hc⟩ := h7 (by simpa using h); exact ⟨A, c, e, hc.below (Below.refl _ _)⟩), (fun h => by obtain ⟨A, c, e, hc⟩ := h8 (by simpa using h); exact ⟨A, c, e, hc.below (Below.refl _ _)⟩), (fun h => by obtain ⟨g, e, hg, k1, k2⟩ := h9 (by simpa using h); exact ⟨g, e, hg, fun h => (k1 (by simpa using h)).below (Below.refl _ _) (k1 (by simpa using h)).lt, fun h => by obtain ⟨A, c, hk, hc⟩ := k2 (by simpa using h); exact ⟨A, c, hk.below (Below.refl _ _) hk.lt, hc.below (Below.refl _ _)⟩⟩), (fun h => by have := h10 (by simpa using h); simpa using this), hB⟩
      · -- 1
        obtain ⟨x0, x1, x2, x3, x4, x5, x6, x7, x8, x9, rfl, h0, h1, h2, h3, h4, h5, h6, h7, h8, h9, h10, hB⟩ := hI
        simp [Region.binds] at hdep
        obtain rfl := h0 (by first | exact hdep | exact hdep.1 | exact hdep.2 | exact hdep.2.1 | exact hdep.2.2 | exact hdep.2.2.1 | exact hdep.2.2.2 | simp_all)
        have d0' := (hB.cell (p := ⟨s + 1, 0, none⟩) hl2).trans HT.out.1
        have d1' := (hB.cell (p := ⟨s + 1, 1, none⟩) hl2).trans HT.out.2.1
        have H0 := hid h0; have H1 := hid h1; have H2 := hid h2; have H3 := hid h3; have H4 := hid h4; have H5 := hid h5; have H6 := hid h6; have H7 := hid h7; have H8 := hid h8; have H9 := hid h9; have H10 := hid h10; have HBB := hid hB
        clear h0 h1 h2 h3 h4 h5 h6 h7 h8 h9 h10 hB
        simp only [Act.put, List.setIfInBounds_toArray, List.set_cons_succ, List.set_cons_zero]
        go_wp2_with fail
        have h0 := H0.out; have h1 := H1.out; have h2 := H2.out; have h3 := H3.out; have h4 := H4.out; have h5 := H5.out; have h6 := H6.out; have h7 := H7.out; have h8 := H8.out; have h9 := H9.out; have h10 := H10.out; have hB := HBB.out
        exact ⟨_, _, x2, x3, x4, x5, x6, x7, x8, x9, (by simp only [Act.put, List.setIfInBounds_toArray, List.set_cons_succ, List.set_cons_zero]), (fun _ => rfl), fun _ => rfl, (fun h => h2 (by simpa using h)), (fun h => h3 (by simpa using h)), (fun h => h4 (by simpa using h)), (fun h => h5 (by simpa using h)), (fun h => h6 (by simpa using h)), (fun h => by obtain ⟨A, c, e, hc⟩ := h7 (by simpa using h); exact ⟨A, c, e, hc.below (Below.refl _ _)⟩), (fun h => by obtain ⟨A, c, e, hc⟩ := h8 (by simpa using h); exact ⟨A, c, e, hc.below (Below.refl _ _)⟩), (fun h => by obtain ⟨g, e, hg, k1, k2⟩ := h9 (by simpa using h); exact ⟨g, e, hg, fun h => (k1 (by simpa using h)).below (Below.refl _ _) (k1 (by simpa using h)).lt, fun h => by obtain ⟨A, c, hk, hc⟩ := k2 (by simpa using h); exact ⟨A, c, hk.below (Below.refl _ _) hk.lt, hc.below (Below.refl _ _)⟩⟩), (fun h => by have := h10 (by simpa using h); simpa using this), hB⟩
      · -- 2
        obtain ⟨x0, x1, x2, x3, x4, x5, x6, x7, x8, x9, rfl, h0, h1, h2, h3, h4, h5, h6, h7, h8, h9, h10, hB⟩ := hI
        have H0 := hid h0; have H1 := hid h1; have H2 := hid h2; have H3 := hid h3; have H4 := hid h4; have H5 := hid h5; have H6 := hid h6; have H7 := hid h7; have H8 := hid h8; have H9 := hid h9; have H10 := hid h10; have HBB := hid hB
        clear h0 h1 h2 h3 h4 h5 h6 h7 h8 h9 h10 hB
        simp only [Act.put, List.setIfInBounds_toArray, List.set_cons_succ, List.set_cons_zero]
        go_wp2_with fail
        have h0 := H0.out; have h1 := H1.out; have h2 := H2.out; have h3 := H3.out; have h4 := H4.out; have h5 := H5.out; have h6 := H6.out; have h7 := H7.out; have h8 := H8.out; have h9 := H9.out; have h10 := H10.out; have hB := HBB.out
        exact ⟨x0, x1, _, x3, x4, x5, x6, x7, x8, x9, (by simp only [Act.put, List.setIfInBounds_toArray, List.set_cons_succ, List.set_cons_zero]), (fun h => h0 (by simpa using h)), (fun h => h1 (by simpa using h)), fun _ => rfl, (fun h => h3 (by simpa using h)), (fun h => h4 (by simpa using h)), (fun h => h5 (by simpa using h)), (fun h => h6 (by simpa using h)), (fun h => by obtain ⟨A, c, e, hc⟩ := h7 (by simpa using h); exact ⟨A, c, e, hc.below (Below.refl _ _)⟩), (fun h => by obtain ⟨A, c, e, hc⟩ := h8 (by simpa using h); exact ⟨A, c, e, hc.below (Below.refl _ _)⟩), (fun h => by obtain ⟨g, e, hg, k1, k2⟩ := h9 (by simpa using h); exact ⟨g, e, hg, fun h => (k1 (by simpa using h)).below (Below.refl _ _) (k1 (by simpa using h)).lt, fun h => by obtain ⟨A, c, hk, hc⟩ := k2 (by simpa using h); exact ⟨A, c, hk.below (Below.refl _ _) hk.lt, hc.below (Below.refl _ _)⟩⟩), (fun h => by have := h10 (by simpa using h); simpa using this), hB⟩
      · -- 3
        obtain ⟨x0, x1, x2, x3, x4, x5, x6, x7, x8, x9, rfl, h0, h1, h2, h3, h4, h5, h6, h7, h8, h9, h10, hB⟩ := hI
        simp [Region.binds] at hdep
        obtain rfl := h2 (by first | exact hdep | exact hdep.1 | exact hdep.2 | exact hdep.2.1 | exact hdep.2.2 | exact hdep.2.2.1 | exact hdep.2.2.2 | simp_all)
        have d0' := (hB.cell (p := ⟨s + 1, 0, none⟩) hl2).trans HT.out.1
        have d1' := (hB.cell (p := ⟨s + 1, 1, none⟩) hl2).trans HT.out.2.1
        have H0 := hid h0; have H1 := hid h1; have H2 := hid h2; have H3 := hid h3; have H4 := hid h4; have H5 := hid h5; have H6 := hid h6; have H7 := hid h7; have H8 := hid h8; have H9 := hid h9; have H10 := hid h10; have HBB := hid hB
        clear h0 h1 h2 h3 h4 h5 h6 h7 h8 h9 h10 hB
        simp only [Act.put, List.setIfInBounds_toArray, List.set_cons_succ, List.set_cons_zero]
        go_wp2_with fail
        have h0 := H0.out; have h1 := H1.out; have h2 := H2.out; have h3 := H3.out; have h4 := H4.out; have h5 := H5.out; have h6 := H6.out; have h7 := H7.out; have h8 := H8.out; have h9 := H9.out; have h10 := H10.out; have hB := HBB.out
        exact ⟨x0, x1, _, _, x4, x5, x6, x7, x8, x9, (by simp only [Act.put, List.setIfInBounds_toArray, List.set_cons_succ, List.set_cons_zero]), (fun h => h0 (by simpa using h)), (fun h => h1 (by simpa using h)), (fun _ => rfl), fun _ => rfl, (fun h => h4 (by simpa using h)), (fun h => h5 (by simpa using h)), (fun h => h6 (by simpa using h)), (fun h => by obtain ⟨A, c, e, hc⟩ := h7 (by simpa using h); exact ⟨A, c, e, hc.below (Below.refl _ _)⟩), (fun h => by obtain ⟨A, c, e, hc⟩ := h8 (by simpa using h); exact ⟨A, c, e, hc.below (Below.refl _ _)⟩), (fun h => by obtain ⟨g, e, hg, k1, k2⟩ := h9 (by simpa using h); exact ⟨g, e, hg, fun h => (k1 (by simpa using h)).below (Below.refl _ _) (k1 (by simpa using h)).lt, fun h => by obtain ⟨A, c, hk, hc⟩ := k2 (by simpa using h); exact ⟨A, c, hk.below (Below.refl _ _) hk.lt, hc.below (Below.refl _ _)⟩⟩), (fun h => by have := h10 (by simpa using h); simpa using this), hB⟩
      · -- 4
        obtain ⟨x0, x1, x2, x3, x4, x5, x6, x7, x8, x9, rfl, h0, h1, h2, h3, h4, h5, h6, h7, h8, h9, h10, hB⟩ := hI
        simp [Region.binds] at hdep
        obtain rfl := h3 (by first | exact hdep | exact hdep.1 | exact hdep.2 | exact hdep.2.1 | exact hdep.2.2 | exact hdep.2.2.1 | exact hdep.2.2.2 | simp_all)
        have H0 := hid h0; have H1 := hid h1; have H2 := hid h2; have H3 := hid h3; have H4 := hid h4; have H5 := hid h5; have H6 := hid h6; have H7 := hid h7; have H8 := hid h8; have H9 := hid h9; have H10 := hid h10; have HBB := hid hB
        clear h0 h1 h2 h3 h4 h5 h6 h7 h8 h9 h10 hB
        simp only [Act.put, List.setIfInBounds_toArray, List.set_cons_succ, List.set_cons_zero]
        go_wp2_with fail
        refine (HWI.out _).mono ?_
        rintro e w4 ⟨rfl, rfl⟩
        go_wp2_with fail
        have h0 := H0.out; have h1 := H1.out; have h2 := H2.out; have h3 := H3.out; have h4 := H4.out; have h5 := H5.out; have h6 := H6.out; have h7 := H7.out; have h8 := H8.out; have h9 := H9.out; have h10 := H10.out; have hB := HBB.out
        exact ⟨x0, x1, x2, _, _, x5, x6, x7, x8, x9, (by simp only [Act.put, List.setIfInBounds_toArray, List.set_cons_succ, List.set_cons_zero]), (fun h => h0 (by simpa using h)), (fun h => h1 (by simpa using h)), (fun h => h2 (by simpa using h)), (fun _ => rfl), fun _ => rfl, (fun h => h5 (by simpa using h)), (fun h => h6 (by simpa using h)), (fun h => by obtain ⟨A, c, e, hc⟩ := h7 (by simpa using h); exact ⟨A, c, e, hc.below (Below.refl _ _)⟩), (fun h => by obtain ⟨A, c, e, hc⟩ := h8 (by simpa using h); exact ⟨A, c, e, hc.below (Below.refl _ _)⟩), (fun h => by obtain ⟨g, e, hg, k1, k2⟩ := h9 (by simpa using h); exact ⟨g, e, hg, fun h => (k1 (by simpa using h)).below (Below.refl _ _) (k1 (by simpa using h)).lt, fun h => by obtain ⟨A, c, hk, hc⟩ := k2 (by simpa using h); exact ⟨A, c, hk.below (Below.refl _ _) hk.lt, hc.below (Below.refl _ _)⟩⟩), (fun h => by have := h10 (by simpa using h); simpa using this), hB⟩
      · -- 5
        obtain ⟨x0, x1, x2, x3, x4, x5, x6, x7, x8, x9, rfl, h0, h1, h2, h3, h4, h5, h6, h7, h8, h9, h10, hB⟩ := hI
        have H0 := hid h0; have H1 := hid h1; have H2 := hid h2; have H3 := hid h3; have H4 := hid h4; have H5 := hid h5; have H6 := hid h6; have H7 := hid h7; have H8 := hid h8; have H9 := hid h9; have H10 := hid h10; have HBB := hid hB
        clear h0 h1 h2 h3 h4 h5 h6 h7 h8 h9 h10 hB
        simp only [Act.put, List.setIfInBounds_toArray, List.set_cons_succ, List.set_cons_zero]
        go_wp2_with fail
        have h0 := H0.out; have h1 := H1.out; have h2 := H2.out; have h3 := H3.out; have h4 := H4.out; have h5 := H5.out; have h6 := H6.out; have h7 := H7.out; have h8 := H8.out; have h9 := H9.out; have h10 := H10.out; have hB := HBB.out
        exact ⟨x0, x1, x2, x3, x4, _, x6, x7, x8, x9, (by simp only [Act.put, List.setIfInBounds_toArray, List.set_cons_succ, List.set_cons_zero]), (fun h => h0 (by simpa using h)), (fun h => h1 (by simpa using h)), (fun h => h2 (by simpa using h)), (fun h => h3 (by simpa using h)), (fun h => h4 (by simpa using h)), fun _ => rfl, (fun h => h6 (by simpa using h)), (fun h => by obtain ⟨A, c, e, hc⟩ := h7 (by simpa using h); exact ⟨A, c, e, hc.below (Below.refl _ _)⟩), (fun h => by obtain ⟨A, c, e, hc⟩ := h8 (by simpa using h); exact ⟨A, c, e, hc.below (Below.refl _ _)⟩), (fun h => by obtain ⟨g, e, hg, k1, k2⟩ := h9 (by simpa using h); exact ⟨g, e, hg, fun h => (k1 (by simpa using h)).below (Below.refl _ _) (k1 (by simpa using h)).lt, fun h => by obtain ⟨A, c, hk, hc⟩ := k2 (by simpa using h); exact ⟨A, c, hk.below (Below.refl _ _) hk.lt, hc.below (Below.refl _ _)⟩⟩), (fun h => by have := h10 (by simpa using h); simpa using this), hB⟩
      · -- 6
        obtain ⟨x0, x1, x2, x3, x4, x5, x6, x7, x8, x9, rfl, h0, h1, h2, h3, h4, h5, h6, h7, h8, h9, h10, hB⟩ := hI
        have H0 := hid h0; have H1 := hid h1; have H2 := hid h2; have H3 := hid h3; have H4 := hid h4; have H5 := hid h5; have H6 := hid h6; have H7 := hid h7; have H8 := hid h8; have H9 := hid h9; have H10 := hid h10; have HBB := hid hB
        clear h0 h1 h2 h3 h4 h5 h6 h7 h8 h9 h10 hB
        simp only [Act.put, List.setIfInBounds_toArray, List.set_cons_succ, List.set_cons_zero]
        go_wp2_with fail
        have h0 := H0.out; have h1 := H1.out; have h2 := H2.out; have h3 := H3.out; have h4 := H4.out; have h5 := H5.out; have h6 := H6.out; have h7 := H7.out; have h8 := H8.out; have h9 := H9.out; have h10 := H10.out; have hB := HBB.out
        exact ⟨x0, x1, x2, x3, x4, x5, _, x7, x8, x9, (by simp only [Act.put, List.setIfInBounds_toArray, List.set_cons_succ, List.set_cons_zero]), (fun h => h0 (by simpa using h)), (fun h => h1 (by simpa using h)), (fun h => h2 (by simpa using h)), (fun h => h3 (by simpa using h)), (fun h => h4 (by simpa using h)), (fun h => h5 (by simpa using h)), fun _ => rfl, (fun h => by obtain ⟨A, c, e, hc⟩ := h7 (by simpa using h); exact ⟨A, c, e, hc.below (Below.refl _ _)⟩), (fun h => by obtain ⟨A, c, e, hc⟩ := h8 (by simpa using h); exact ⟨A, c, e, hc.below (Below.refl _ _)⟩), (fun h => by obtain ⟨g, e, hg, k1, k2⟩ := h9 (by simpa using h); exact ⟨g, e, hg, fun h => (k1 (by simpa using h)).below (Below.refl _ _) (k1 (by simpa using h)).lt, fun h => by obtain ⟨A, c, hk, hc⟩ := k2 (by simpa using h); exact ⟨A, c, hk.below (Below.refl _ _) hk.lt, hc.below (Below.refl _ _)⟩⟩), (fun h => by have := h10 (by simpa using h); simpa using this), hB⟩
      · -- 7
        obtain ⟨x0, x1, x2, x3, x4, x5, x6, x7, x8, x9, rfl, h0, h1, h2, h3, h4, h5, h6, h7, h8, h9, h10, hB⟩ := hI
        simp [Region.binds] at hdep
        obtain rfl := h6 (by first | exact hdep | exact hdep.1 | exact hdep.2 | exact hdep.2.1 | exact hdep.2.2 | exact hdep.2.2.1 | exact hdep.2.2.2 | simp_all)
        obtain ⟨c4, W4, hcv, hs4, hb4, -, hu4⟩ := conv8_any qs (by have := HPS.out; simp at this; omega) wr wr.heap.size rfl
        have HCV := hid hcv; have HS4 := hid hs4; have HB4 := hid hb4; have HU4 := hid hu4
        clear hcv hs4 hb4 hu4
        have H0 := hid h0; have H1 := hid h1; have H2 := hid h2; have H3 := hid h3; have H4 := hid h4; have H5 := hid h5; have H6 := hid h6; have H7 := hid h7; have H8 := hid h8; have H9 := hid h9; have H10 := hid h10; have HBB := hid hB
        clear h0 h1 h2 h3 h4 h5 h6 h7 h8 h9 h10 hB
        simp only [Act.put, List.setIfInBounds_toArray, List.set_cons_succ, List.set_cons_zero]
        go_wp2_with fail
        rw [HCV.out]
        skip
        go_wp2_with fail
        have h0 := H0.out; have h1 := H1.out; have h2 := H2.out; have h3 := H3.out; have h4 := H4.out; have h5 := H5.out; have h6 := H6.out; have h7 := H7.out; have h8 := H8.out; have h9 := H9.out; have h10 := H10.out; have hB := HBB.out
        exact ⟨x0, x1, x2, x3, x4, x5, _, _, x8, x9, (by simp only [Act.put, List.setIfInBounds_toArray, List.set_cons_succ, List.set_cons_zero]), (fun h => h0 (by simpa using h)), (fun h => h1 (by simpa using h)), (fun h => h2 (by simpa using h)), (fun h => h3 (by simpa using h)), (fun h => h4 (by simpa using h)), (fun h => h5 (by simpa using h)), (fun _ => rfl), fun _ => ⟨_, c4, rfl, HS4.out, HU4.out⟩, (fun h => by obtain ⟨A, c, e, hc⟩ := h8 (by simpa using h); exact ⟨A, c, e, hc.below HB4.out⟩), (fun h => by obtain ⟨g, e, hg, k1, k2⟩ := h9 (by simpa using h); exact ⟨g, e, hg, fun h => (k1 (by simpa using h)).below HB4.out (k1 (by simpa using h)).lt, fun h => by obtain ⟨A, c, hk, hc⟩ := k2 (by simpa using h); exact ⟨A, c, hk.below HB4.out hk.lt, hc.below HB4.out⟩⟩), (fun h => by have := h10 (by simpa using h); simpa using this), (hB.trans (HB4.out.mono hB.size))⟩
      · -- 8
        obtain ⟨x0, x1, x2, x3, x4, x5, x6, x7, x8, x9, rfl, h0, h1, h2, h3, h4, h5, h6, h7, h8, h9, h10, hB⟩ := hI
        simp [Region.binds] at hdep
        obtain rfl := h1 (by first | exact hdep | exact hdep.1 | exact hdep.2 | exact hdep.2.1 | exact hdep.2.2 | exact hdep.2.2.1 | exact hdep.2.2.2 | simp_all)
        obtain rfl := h4 (by first | exact hdep | exact hdep.1 | exact hdep.2 | exact hdep.2.1 | exact hdep.2.2 | exact hdep.2.2.1 | exact hdep.2.2.2 | simp_all)
        obtain rfl := h5 (by first | exact hdep | exact hdep.1 | exact hdep.2 | exact hdep.2.1 | exact hdep.2.2 | exact hdep.2.2.1 | exact hdep.2.2.2 | simp_all)
        obtain ⟨A7, c7, rfl, hc7⟩ := h7 (by first | exact hdep | exact hdep.1 | exact hdep.2 | exact hdep.2.1 | exact hdep.2.2 | exact hdep.2.2.1 | exact hdep.2.2.2 | simp_all)
        have HC7 := hid hc7; clear hc7
        have h7' : ∃ A c, Value.slice A7 qs.size c7 = .slice A qs.size c ∧ ConvS wr A c qs := ⟨_, _, rfl, HC7.out⟩
        have H0 := hid h0; have H1 := hid h1; have H2 := hid h2; have H3 := hid h3; have H4 := hid h4; have H5 := hid h5; have H6 := hid h6; have H7 := hid h7; have H8 := hid h8; have H9 := hid h9; have H10 := hid h10; have HBB := hid hB
        clear h0 h1 h2 h3 h4 h5 h6 h7 h8 h9 h10 hB
        simp only [Act.put, List.setIfInBounds_toArray, List.set_cons_succ, List.set_cons_zero]
        go_wp2_with fail
        have h0 := H0.out; have h1 := H1.out; have h2 := H2.out; have h3 := H3.out; have h4 := H4.out; have h5 := H5.out; have h6 := H6.out; have h7 := H7.out; have h8 := H8.out; have h9 := H9.out; have h10 := H10.out; have hB := HBB.out
        exact ⟨x0, _, x2, x3, _, _, x6, _, _, x9, (by simp only [Act.put, List.setIfInBounds_toArray, List.set_cons_succ, List.set_cons_zero]), (fun h => h0 (by simpa using h)), (fun _ => rfl), (fun h => h2 (by simpa using h)), (fun h => h3 (by simpa using h)), (fun _ => rfl), (fun _ => rfl), (fun h => h6 (by simpa using h)), (fun _ => ⟨_, _, rfl, HC7.out⟩), fun _ => ⟨A7, c7, rfl, HC7.out⟩, (fun h => by obtain ⟨g, e, hg, k1, k2⟩ := h9 (by simpa using h); exact ⟨g, e, hg, fun h => (k1 (by simpa using h)).below (Below.refl _ _) (k1 (by simpa using h)).lt, fun h => by obtain ⟨A, c, hk, hc⟩ := k2 (by simpa using h); exact ⟨A, c, hk.below (Below.refl _ _) hk.lt, hc.below (Below.refl _ _)⟩⟩), (fun h => by have := h10 (by simpa using h); simpa using this), hB⟩
      · -- 9
        obtain ⟨x0, x1, x2, x3, x4, x5, x6, x7, x8, x9, rfl, h0, h1, h2, h3, h4, h5, h6, h7, h8, h9, h10, hB⟩ := hI
        have H0 := hid h0; have H1 := hid h1; have H2 := hid h2; have H3 := hid h3; have H4 := hid h4; have H5 := hid h5; have H6 := hid h6; have H7 := hid h7; have H8 := hid h8; have H9 := hid h9; have H10 := hid h10; have HBB := hid hB
        clear h0 h1 h2 h3 h4 h5 h6 h7 h8 h9 h10 hB
        simp only [Act.put, List.setIfInBounds_toArray, List.set_cons_succ, List.set_cons_zero]
        go_wp2_with fail
        have h0 := H0.out; have h1 := H1.out; have h2 := H2.out; have h3 := H3.out; have h4 := H4.out; have h5 := H5.out; have h6 := H6.out; have h7 := H7.out; have h8 := H8.out; have h9 := H9.out; have h10 := H10.out; have hB := HBB.out
        exact ⟨x0, x1, x2, x3, x4, x5, x6, x7, x8, _, (by simp only [Act.put, List.setIfInBounds_toArray, List.set_cons_succ, List.set_cons_zero]), (fun h => h0 (by simpa using h)), (fun h => h1 (by simpa using h)), (fun h => h2 (by simpa using h)), (fun h => h3 (by simpa using h)), (fun h => h4 (by simpa using h)), (fun h => h5 (by simpa using h)), (fun h => h6 (by simpa using h)), (fun h => by obtain ⟨A, c, e, hc⟩ := h7 (by simpa using h); exact ⟨A, c, e, hc.below (bw_a (Below.refl _ wr) _)⟩), (fun h => by obtain ⟨A, c, e, hc⟩ := h8 (by simpa using h); exact ⟨A, c, e, hc.below (bw_a (Below.refl _ wr) _)⟩), fun _ => ⟨wr.heap.size, rfl, hB.size, fun _ => Blk.new wr _ _, fun h => by simp at h; have := h10 h; rw [hf] at this; cases this⟩, (fun h => by simp), (hB.trans ((bw_a (Below.refl _ wr) _).mono hB.size))⟩
      · -- 10
        obtain ⟨x0, x1, x2, x3, x4, x5, x6, x7, x8, x9, rfl, h0, h1, h2, h3, h4, h5, h6, h7, h8, h9, h10, hB⟩ := hI
        simp [Region.binds] at hdep
        obtain ⟨A8, c8, rfl, hc8⟩ := h8 (by first | exact hdep | exact hdep.1 | exact hdep.2 | exact hdep.2.1 | exact hdep.2.2 | simp_all)
        have hf9 : f 9 = true := by first | exact hdep | exact hdep.1 | exact hdep.2 | exact hdep.2.1 | exact hdep.2.2 | simp_all
        obtain ⟨g, rfl, hg, k1, -⟩ := h9 hf9
        have hkg := k1 hf
        have hst := fstep hkg (.int .i64 num) (.int .u8 (wd : Int)) (.int .u64 (qn : Int)) (.slice A8 qs.size c8) (.int .i64 0)
        have y0 := hkg.cell 0; have y1 := hkg.cell 1; have y2 := hkg.cell 2; have y3 := hkg.cell 3; have y4 := hkg.cell 4
        have z0 := hkg.frozen 0; have z1 := hkg.frozen 1; have z2 := hkg.frozen 2; have z3 := hkg.frozen 3; have z4 := hkg.frozen 4
        simp only [List.getElem?_toArray, List.getElem?_cons_zero, List.getElem?_cons_succ] at y0 y1 y2 y3 y4
        have HKG := hid hkg; have HST := hid hst; have HC8 := hid hc8; have HG := hid hg
        clear hkg hst hc8 hg k1 h8 h9
        have H0 := hid h0; have H1 := hid h1; have H2 := hid h2; have H3 := hid h3; have H4 := hid h4; have H5 := hid h5; have H6 := hid h6; have H7 := hid h7; have H10 := hid h10; have HBB := hid hB
        clear h0 h1 h2 h3 h4 h5 h6 h7 h10 hB
        simp only [Act.put, List.setIfInBounds_toArray, List.set_cons_succ, List.set_cons_zero]
        go_wp2_with fail
        obtain ⟨hkn, hcn⟩ := HST.out
        have h0 := H0.out; have h1 := H1.out; have h2 := H2.out; have h3 := H3.out; have h4 := H4.out; have h5 := H5.out; have h6 := H6.out; have h7 := H7.out; have h10 := H10.out; have hB := HBB.out
        exact ⟨x0, x1, x2, x3, x4, x5, x6, x7, .agg #[.int .i64 num, .int .u8 (wd : Int), .int .u64 (qn : Int), .slice A8 qs.size c8, .int .i64 0], .pointer (some ⟨g, 0, none⟩), (by simp only [Act.put, List.setIfInBounds_toArray, List.set_cons_succ, List.set_cons_zero]), (fun h => h0 (by simpa using h)), (fun h => h1 (by simpa using h)), (fun h => h2 (by simpa using h)), (fun h => h3 (by simpa using h)), (fun h => h4 (by simpa using h)), (fun h => h5 (by simpa using h)), (fun h => h6 (by simpa using h)), (fun h => by obtain ⟨A, c, e, hc⟩ := h7 (by simpa using h); exact ⟨A, c, e, hc.chg HKG.out (by decide) hcn⟩), (fun _ => ⟨A8, c8, rfl, HC8.out.chg HKG.out (by decide) hcn⟩), (fun _ => ⟨g, rfl, HG.out, fun h => by simp at h, fun _ => ⟨A8, c8, hkn, HC8.out.chg HKG.out (by decide) hcn⟩⟩), (fun _ => by simp [hf9]), hB.trans (hcn.below (fun k hk => by rw [hk]; exact HG.out) hB.size)⟩
    · intro f a' wr hall hI
      obtain ⟨x0, x1, x2, x3, x4, x5, x6, x7, x8, x9, rfl, h0, h1, h2, h3, h4, h5, h6, h7, h8, h9, h10, hB⟩ := hI
      obtain rfl := h0 (hall 0 (by simp))
      obtain rfl := h1 (hall 1 (by simp))
      obtain rfl := h2 (hall 2 (by simp))
      obtain rfl := h3 (hall 3 (by simp))
      obtain rfl := h4 (hall 4 (by simp))
      obtain rfl := h5 (hall 5 (by simp))
      obtain rfl := h6 (hall 6 (by simp))
      obtain ⟨A7, c7, rfl, -⟩ := h7 (hall 7 (by simp))
      obtain ⟨A8, c8, rfl, -⟩ := h8 (hall 8 (by simp))
      obtain ⟨g, rfl, hg, -, k9⟩ := h9 (hall 9 (by simp))
      obtain ⟨A, c, hkg, hcv⟩ := k9 (hall 10 (by simp))
      have d0 := (hB.cell (p := ⟨s + 1, 0, none⟩) hl2).trans HT.out.1
      have d1 := (hB.cell (p := ⟨s + 1, 1, none⟩) hl2).trans HT.out.2.1
      have d2 := (hB.cell (p := ⟨s + 1, 2, none⟩) hl2).trans HT.out.2.2
      have y0 := hkg.cell 0; have y1 := hkg.cell 1; have y2 := hkg.cell 2; have y3 := hkg.cell 3; have y4 := hkg.cell 4
      simp only [List.getElem?_toArray, List.getElem?_cons_zero, List.getElem?_cons_succ] at y0 y1 y2 y3 y4
      have HB3 := hid (HB2.out.trans (hB.mono (by have := HB2.out.size; omega)))
      have HKG := hid hkg
      have HCV := hid hcv
      have hgs : s + 2 ≤ g := by omega
      have HBR2 := hid (hB.mono (show s + 2 ≤ w2.heap.size by omega))
      have hgl := hkg.lt
      clear h0 h1 h2 h3 h4 h5 h6 h7 h8 h9 h10 k9 hkg hcv hB hall f HT HWI HVD HPL
      simp only [Act.put, List.setIfInBounds_toArray, List.set_cons_succ, List.set_cons_zero]
      have hfb := HFIT.out (by omega) (by omega)
      have HFB := hid hfb
      clear hfb HFIT
      have hn1' : 1 ≤ num := by omega
      have hn2' : num ≤ 536870911 := by omega
      by_cases ht3 : t = 3
      · subst ht3
        have hpw := HZIG.out (by first | rfl | trivial)
        have hb := HFB.out
        have hr := w64_range (qn : Int)
        obtain ⟨q, hq, hq2⟩ := zig_nat _ hr.1 hr.2
        have hzg := fun W => rzig_any (wrap64 (qn : Int)) W hr.1 hr.2
        rw [hq] at hpw hzg
        rw [hpw, List.flatMap_cons, List.flatMap_nil, List.append_nil] at hb
        have hkg5 := HKG.out.set_ 2 (.int .u64 (q : Int))
        have hch := (Chg.refl (fun k => k = g) wr).set_ (.inl rfl) 2 (.int .u64 (q : Int))
        have HC := hid (fv_one num 0 q qs A c _ hn1' hn2' (.inl rfl) hq2 HPS.out (HCV.out.chg HKG.out (by decide) hch))
        have hw0 : wd = 0 := HW3.out (by first | rfl | trivial)
        subst hw0
        simp only [Int.toNat_natCast] at hb
        have hb' : fb = wB (num, ((0 : Nat) : Int), q, qs.data.toList) := hb
        rw [← hb'] at HC
        obtain ⟨fl, hfl⟩ : ∃ fl, fb.length = fl := ⟨_, rfl⟩
        rw [hfl] at HC
        have HFLE := hid hfl
        have HZG := hid hzg
        have HKG5 := hid hkg5
        have HCH := hid hch
        have z2 := HKG.out.frozen 2
        clear hpw hb hb' hfl hzg hkg5 hch HDCT hr hq hq2
        go_wp2_with fail
        refine (HZG.out _).mono ?_
        rintro e w5 ⟨rfl, rfl⟩
        go_wp2_with fail
        refine HC.out.mono ?_
        rintro e w6 ⟨A5, c5, rfl, hs5, hb5⟩
        have HS5 := hid hs5
        have hb35 := HB3.out.trans (HCH.out.below (B := s) (fun k hk => by omega) (by have := HB3.out.size; omega))
        have HB5 := hid (hb35.trans (hb5.mono (by have := hb35.size; omega)))
        clear hs5 hb5 hb35
        go_wp2_with fail
        rw [HR.out]
        exact ⟨A5, c5, by rw [HFLE.out]; rfl, HS5.out, HB5.out⟩
      by_cases ht10 : t = 10
      · subst ht10
        obtain ⟨hpw, hqn, hqv⟩ := HLST.out (by first | rfl | trivial)
        have hwd : wd = 2 := HW10.out (by first | rfl | trivial)
        subst hqn
        subst hwd
        subst hqv
        have hb := HFB.out
        rw [hpw, List.flatMap_map] at hb
        have HFB2 := hid hb
        have HSL := hid hsl
        have HES := hid hes
        have HEL := hid hel
        have hkz := HKG.out
        have HNL : Hid (m.l.length = len) := by rw [← List.length_reverse]; exact hid hlr
        clear hpw hb hsl hes hel HFB HLST HONE HZIG HW3 HW10 HPN HPS HDCT HCV y0 y1 y2 y3 y4
        go_wp2_with fail
        go_loopw [9, 10] (fun ov ix wz => ∃ (j bl : Nat) (bs : List UInt8) (Ao : Option Addr) (co : Nat) (Ax : Option Addr) (nx cx : Nat), j ≤ len ∧ ix = .int .i64 (j : Int) ∧ ov = .slice Ao bl co ∧ bs = (m.l.take j).flatMap (fun s => wB (num, 2, 0, s.data.toList)) ∧ bs.length = bl ∧ bl ≤ 8100 * j ∧ wz.ownsRow (g + 1) 5 1 (.slice Ao bl co) bl (bs.map bv) ∧ Blk wz g 76 #[.int .i64 num, .int .u8 2, .int .u64 0, .slice Ax nx cx, .int .i64 0] ∧ Below (s + 2) w2 wz) (fun _ ix _ => len - (intOf ix).toNat)
        case atStart => exact ⟨0, 0, [], none, 0, A, qs.size, c, by omega, rfl, rfl, rfl, rfl, by omega, World.ownsRow_nil _ _ _ _, HKG.out, HBR2.out⟩
        case round =>
          obtain ⟨j, bl, bs, Ao, co, Ax, nx, cx, hj, rfl, rfl, hbs, hbl, hbl2, ho, hk, hB⟩ := hrel
          have hglt := hk.lt
          have hBs := HB2.out.trans (hB.mono (by omega))
          by_cases hlt : j < len
          · have hjl : j < m.l.length := by have := HNL.out; omega
            have hn0 : (m.l.map sv)[j]? = some (.string m.l[j]) := by rw [List.getElem?_map, List.getElem?_eq_getElem hjl]; rfl
            have hsz := HEL.out m.l[j] (List.getElem_mem hjl)
            have htk : (m.l.take (j + 1)).flatMap (fun s => wB (num, 2, 0, s.data.toList)) = (m.l.take j).flatMap (fun s => wB (num, 2, 0, s.data.toList)) ++ wB (num, 2, 0, m.l[j].data.toList) := by
              rw [List.take_succ_eq_append_getElem hjl, List.flatMap_append]; simp
            rw [← hbs] at htk
            generalize m.A = mA at *
            obtain ⟨b, off, rfl, hbw, t0⟩ := HSL.out.rd _ _ hn0
            have t0 := (hBs.cell (p := ⟨b, off + j, none⟩) (by rw [hws] at hbw; exact hbw)).trans t0
            clear hn0
            generalize m.l[j] = sx at *
            have hlx : sx.data.toList.length ≤ 8000 := by simpa using hsz
            have hf8 := wB_len8 num 2 0 sx.data.toList (.inr (.inr (.inl rfl))) (by omega) hlx
            obtain ⟨fb2, hfb2⟩ : ∃ x, wB (num, ((2 : Nat) : Int), 0, sx.data.toList) = x := ⟨_, rfl⟩
            have htk2 : (m.l.take (j + 1)).flatMap (fun s => wB (num, 2, 0, s.data.toList)) = bs ++ fb2 := by rw [htk, ← hfb2]; rfl
            obtain ⟨fl, hfl⟩ : ∃ fl, fb2.length = fl := ⟨_, rfl⟩
            obtain ⟨c4, W4, hcv, hs4, hb4, hz4, hu4⟩ := conv8_any sx (by omega) wr wr.heap.size rfl
            have hk4 := hk.below hb4 hk.lt
            have hch4 : Chg (fun k => k = g) W4 (W4.setCell ⟨g, 3, none⟩ (.slice (some ⟨wr.heap.size, 0, none⟩) sx.size c4)) := (Chg.refl (fun k => k = g) W4).set_ (.inl rfl) 3 _
            have hch5 : Chg (fun k => k = g) wr (W4.setCell ⟨g, 3, none⟩ (.slice (some ⟨wr.heap.size, 0, none⟩) sx.size c4)) := (Chg.of_new hb4).trans hch4
            have hcs : ConvS (W4.setCell ⟨g, 3, none⟩ (.slice (some ⟨wr.heap.size, 0, none⟩) sx.size c4)) (some ⟨wr.heap.size, 0, none⟩) c4 sx := ConvS.chg ⟨hs4, hu4⟩ hk4 (by decide) hch4
            have hk5 := hk4.set_ 3 (.slice (some ⟨wr.heap.size, 0, none⟩) sx.size c4)
            have ho5 := own_chgS ho hch5 (fun g2 hg2 e => by have := (ho.lt g2 hg2).1; omega)
            have hB5 := hBs.trans (hch5.below (B := s) (fun k hk => by omega) (by have := hBs.size; omega))
            have hB52 := hB.trans (hch5.below (B := s + 2) (fun k hk => by omega) (by have := hB.size; omega))
            have hc5 := fv_one num 2 0 sx _ c4 _ hn1' hn2' (.inr (.inr (.inl rfl))) (by omega) hlx hcs
            rw [hfb2, hfl] at hc5
            rw [hfb2, hfl] at hf8
            have f0 := hk4.cell 0
            have f1 := hk4.cell 1
            have f2 := hk4.cell 2
            have f3 := hk4.cell 3
            have f4 := hk4.cell 4
            have z3 := hk4.frozen 3
            simp only [List.getElem?_toArray, List.getElem?_cons_zero, List.getElem?_cons_succ] at f0 f1 f2 f3 f4
            simp at hk5
            have hji : (j : Int) < (len : Int) := by omega
            have hj0 : (0 : Int) ≤ (j : Int) := by omega
            have hz4' : g < W4.heap.size := Nat.lt_of_lt_of_le hglt hb4.size
            have HCV4 := hid hcv
            have HK5 := hid hk5
            have HO5 := hid ho5
            have HB5 := hid hB5
            have HB52 := hid hB52
            have HC5 := hid hc5
            have HTK := hid htk2
            have HFL := hid hfl
            have HBL := hid hbl
            clear htk htk2 hbs hfl hbl hcv hs4 hb4 hz4 hu4 hk4 hch4 hch5 hcs hk5 ho5 hB5 hB52 hc5 ho hk hB hBs hfb2
            go_wp2_with fail
            rw [HCV4.out]
            go_wp2_with fail
            refine HC5.out.mono ?_
            rintro e w6 ⟨A6, c6, rfl, hs6, hb6⟩
            have hl5 := HK5.out.lt
            have ho6 := own_below HO5.out hb6
            have HK6 := hid (HK5.out.below hb6 hl5)
            have HJ := hid (rjoin2_own bs fb2 bl fl Ao A6 co c6 w6 HBL.out HFL.out (by omega) (Sl.of_own' ho6) hs6)
            have HB6 := hid (HB5.out.trans (hb6.mono (by have := HB5.out.size; omega)))
            have HB62 := hid (HB52.out.trans (hb6.mono (by have := HB52.out.size; omega)))
            clear hs6 hb6 ho6 f0 f1 f2 f3 f4 z3
            go_wp2_with fail
            refine HJ.out.mono ?_
            rintro e w7 ⟨v7, rfl, ho7, hb7⟩
            obtain ⟨A7, c7, rfl⟩ := row_slice' ho7
            have hl6 := HK6.out.lt
            have HK7 := hid (HK6.out.below hb7 hl6)
            have HO7 := hid (own_mono ho7 (show g + 1 ≤ w6.heap.size by omega))
            have HB7 := hid (HB62.out.trans (hb7.mono (by have := HB62.out.size; omega)))
            clear ho7 hb7
            go_wp2_with fail
            go_roundw
            case rel => exact ⟨j + 1, bl + fl, bs ++ fb2, A7, c7, _, _, _, by omega, by go_num, rfl, HTK.out.symm, by rw [List.length_append, HBL.out, HFL.out], by omega, HO7.out, HK7.out, HB7.out⟩
            case measure => simp [intOf]; omega
          · obtain rfl : j = len := by omega
            rw [List.take_of_length_le (by have := HNL.out; omega), ← HFB2.out] at hbs
            subst hbs
            have HO := hid ho
            have HBB := hid hBs
            have HBL := hid hbl
            clear ho hBs hbl hk hB
            go_wp2_with fail
            first
              | rw [HR.out]
              | (go_ret; rw [HR.out])
            exact ⟨Ao, co, by rw [HBL.out]; rfl, Sl.of_own' HO.out, HBB.out⟩
      · have ht : 1 ≤ t ∧ t ≤ 10 := by have := HDCT.out; rcases this with ⟨h, -⟩ | h | ⟨h, -⟩ | h <;> omega
        have hpw := HONE.out ht10 ht3 ht.1 ht.2
        have hb := HFB.out
        rw [hpw, List.flatMap_cons, List.flatMap_nil, List.append_nil] at hb
        have HC := hid (fv_one num wd qn qs A c wr hn1' hn2' hwc HPN.out HPS.out HCV.out)
        rw [← hb] at HC
        have hb3 : (t == 3) = false := by simpa using ht3
        have hb10 : (t != 10) = true := by simpa using ht10
        obtain ⟨fl, hfl⟩ : ∃ fl, fb.length = fl := ⟨_, rfl⟩
        rw [hfl] at HC
        have HFLE := hid hfl
        clear hpw hb hfl HDCT
        go_wp2_with fail
        refine HC.out.mono ?_
        rintro e w5 ⟨A5, c5, rfl, hs5, hb5⟩
        have HS5 := hid hs5
        have HB5 := hid (HB3.out.trans (hb5.mono (by have := HB3.out.size; omega)))
        clear hs5 hb5
        go_wp2_with fail
        rw [HR.out]
        exact ⟨A5, c5, by rw [HFLE.out]; rfl, HS5.out, HB5.out⟩
end Go.Proofs.YtealjpolomhdeaaGreat
set_option linter.unusedVariables false
namespace Go.Proofs.YtealjpolomhdeaaGreat
open Go.RowKit
/-- A field's parts, none if it has nothing. -/
def rowP (M : MV) (r : SRow) : List (Int × Int × Nat × List UInt8) := if dflB M (r.typ : Nat) (r.slot : Nat) then [] else partW M (r.num : Nat) (r.typ : Nat) (r.slot : Nat)
def allP (M : MV) (L : List SRow) : List (Int × Int × Nat × List UInt8) := L.flatMap (rowP M)
def ptF (x : Int × Int × Nat × List UInt8) : FV := ⟨x.1, x.2.1, x.2.2.1, ⟨none, 0, x.2.2.2⟩, 0⟩
def bareP (x : Int × Int × Nat × List UInt8) : Int × Int × Nat × List UInt8 := (x.1, x.2.1, bareN (ptF x), bareX (ptF x))
theorem row_num {r : SRow} (h : r ∈ ROWS) : 1 ≤ r.num ∧ r.num ≤ 7 ∧ 1 ≤ r.typ ∧ r.typ ≤ 10 := by have := row_ok h; omega
theorem fldR_rowP {M : MV} {r : SRow} (hsm : MvSm M) (hr : r ∈ ROWS) : fldR M r = (rowP M r).flatMap wB := by
  have := row_num hr
  unfold fldR rowP
  cases hd : dflB M (r.typ : Nat) (r.slot : Nat) with
  | true => unfold fldB; rw [hd]; rfl
  | false => rw [fldB_in hd hsm (by omega) (by omega)]; rfl
theorem allP_flat {M : MV} (hsm : MvSm M) : ∀ (L : List SRow), (∀ r ∈ L, r ∈ ROWS) → L.flatMap (fldR M) = (allP M L).flatMap wB
  | [], _ => rfl
  | r :: L, h => by
    have ih := allP_flat hsm L fun q hq => h q (List.mem_cons_of_mem _ hq)
    unfold allP at ih ⊢
    rw [List.flatMap_cons, List.flatMap_cons, List.flatMap_append, ih, fldR_rowP hsm (h r (List.mem_cons_self ..))]
theorem encB_allP {M : MV} {L : List SRow} (hsm : MvSm M) (hL : ∀ r ∈ L, r ∈ ROWS) (hc : (chkV M L).1 = 0) : encB M L = (allP M L).flatMap wB := by
  unfold encB
  rw [if_pos hc, allP_flat hsm L hL]
/-- What a part may be. -/
structure PtOk (r : SRow) (x : Int × Int × Nat × List UInt8) : Prop where
  num : x.1 = (r.num : Int)
  w : x.2.1 = (wireN (r.typ : Nat) : Int)
  n : x.2.2.1 ≤ 18446744073709551615
  len : x.2.2.2.length ≤ 8000
theorem wireN_cases (t : Int) : wireN t = 0 ∨ wireN t = 1 ∨ wireN t = 2 ∨ wireN t = 5 := by
  unfold wireN
  split
  · exact .inr (.inr (.inr rfl))
  split
  · exact .inr (.inl rfl)
  split
  · exact .inr (.inr (.inl rfl))
  · exact .inl rfl
theorem rowP_ok {M : MV} {r : SRow} (hn : ∀ i, M.num i ≤ 18446744073709551615) (hsm : MvSm M) (hr : r ∈ ROWS) {x : Int × Int × Nat × List UInt8} (hx : x ∈ rowP M r) : PtOk r x := by
  have hk := row_num hr
  unfold rowP at hx
  split at hx
  · simp at hx
  refine ⟨?_, ?_, partW_n hn hx, (partW_facts hsm).2 x hx⟩
  · exact (partW_in (by omega) (by omega) hsm hx).1
  · unfold partW at hx
    split at hx
    · rename_i h
      obtain ⟨s, hs, rfl⟩ := List.mem_map.1 hx
      rw [h]; rfl
    split at hx
    · rename_i h1 h
      simp only [List.mem_singleton] at hx
      subst hx
      show (2 : Int) = _
      unfold wireN
      rw [if_neg (by omega), if_neg (by omega), if_pos (by omega)]; rfl
    split at hx
    · rename_i h1 h2 h
      simp only [List.mem_singleton] at hx
      subst hx
      rw [h]; rfl
    · simp only [List.mem_singleton] at hx
      subst hx
      rfl
theorem PtOk.put {r : SRow} {x : Int × Int × Nat × List UInt8} (hr : r ∈ ROWS) (h : PtOk r x) : pErrF (ptF x) = 0 ∧ (ptF x).n ≤ 18446744073709551615 ∧ 0 ≤ (ptF x).w ∧ (ptF x).w ≤ 255 := by
  have hk := row_num hr
  have hw := wireN_cases (r.typ : Nat)
  have hw2 : (ptF x).w = (wireN (r.typ : Nat) : Int) := h.w
  refine ⟨?_, h.n, by rw [hw2]; omega, by rw [hw2]; omega⟩
  show pErr x.1 x.2.1 x.2.2.2 = 0
  have hwb : wireB x.2.1 = true := by rw [h.w]; rcases hw with e | e | e | e <;> rw [e] <;> rfl
  unfold pErr
  have h1 := h.num
  have h2 := h.len
  rw [mk_ok (by omega) (by omega) hwb, if_neg (by simp), if_neg (by omega)]
theorem allP_ok {M : MV} {L : List SRow} (hn : ∀ i, M.num i ≤ 18446744073709551615) (hsm : MvSm M) (hL : ∀ r ∈ L, r ∈ ROWS) {x : Int × Int × Nat × List UInt8} (hx : x ∈ allP M L) : ∃ r ∈ L, PtOk r x := by
  obtain ⟨r, hr, hxr⟩ := List.mem_flatMap.1 hx
  exact ⟨r, hr, rowP_ok hn hsm (hL r hr) hxr⟩
theorem putL_map (l : List (Int × Int × Nat × List UInt8)) : ∀ p, (putL (l.map ptF) p).map (fun r => (r.1.num, r.1.w, r.1.n, r.1.xs)) = l.map bareP := by
  induction l with
  | nil => intro p; rfl
  | cons x l ih =>
    intro p
    rw [List.map_cons, putL, List.map_cons, List.map_cons, ih]
    rfl
theorem flat_flds (l : List (Int × Int × Nat × List UInt8)) (h : ∀ x ∈ l, pErrF (ptF x) = 0 ∧ (ptF x).n ≤ 18446744073709551615 ∧ 0 ≤ (ptF x).w ∧ (ptF x).w ≤ 255) : flds (l.flatMap wB) (l.flatMap wB).length 0 = (putL (l.map ptF) 0, 0, 0) := by
  refine flds_put (l.map ptF) (l.flatMap wB) [] 0 _ (fun f hf => ?_) ?_ rfl (by omega)
  · obtain ⟨x, hx, rfl⟩ := List.mem_map.1 hf
    exact h x hx
  · rw [List.flatMap_map]; rfl
theorem bare_two (num : Int) (xs : List UInt8) : bareP (num, 2, 0, xs) = (num, 2, 0, xs) := by
  unfold bareP bareN bareX ptF
  simp
theorem bare_zero (num : Int) (n : Nat) : bareP (num, 0, n, []) = (num, 0, n, []) := by
  unfold bareP bareN bareX ptF
  simp
/-- A message that may be has parts that their wire types have whole. -/
theorem rowP_bare {M : MV} {r : SRow} (hr : r ∈ ROWS) (hf : fldE M r = 0) {x : Int × Int × Nat × List UInt8} (hx : x ∈ rowP M r) : bareP x = x := by
  have hk := row_num hr
  unfold rowP at hx
  cases hd : dflB M (r.typ : Nat) (r.slot : Nat) with
  | true => rw [hd] at hx; simp at hx
  | false =>
    rw [hd] at hx
    unfold fldE at hf
    rw [hd] at hf
    simp only [Bool.false_eq_true, if_false] at hf hx
    unfold partW at hx
    split at hx
    · obtain ⟨s, hs, rfl⟩ := List.mem_map.1 hx
      rfl
    split at hx
    · simp only [List.mem_singleton] at hx
      subst hx
      exact bare_two _ _
    split at hx
    · simp only [List.mem_singleton] at hx
      subst hx
      exact bare_zero _ _
    · rename_i h1 h2 h3
      simp only [List.mem_singleton] at hx
      subst hx
      unfold bareP bareN bareX ptF
      simp only
      by_cases c5 : (r.typ : Int) = 5
      · have e : wireN (r.typ : Nat) = 5 := by rw [c5]; rfl
        rw [wr_num _ _ _ (.inr c5)] at hf
        rw [e]
        have hle : M.num (r.slot : Nat) ≤ 4294967295 := by
          by_cases c : 4294967295 < M.num (r.slot : Nat)
          · rw [if_pos c] at hf; cases hf
          · omega
        simp [Nat.mod_eq_of_lt (show M.num (r.slot : Nat) < 4294967296 by omega)]
      · have e : wireN (r.typ : Nat) = 0 ∨ wireN (r.typ : Nat) = 1 := by
          unfold wireN
          rw [if_neg c5]
          split
          · exact .inr rfl
          · rw [if_neg (by omega)]; exact .inl rfl
        rcases e with e | e <;> rw [e] <;> simp
theorem allP_bare {M : MV} {L : List SRow} (hL : ∀ r ∈ L, r ∈ ROWS) (hc : (chkV M L).1 = 0) : (allP M L).map bareP = allP M L := by
  have hz := chkL_all L (chkV_zero hc).2.2.1
  have : ∀ x ∈ allP M L, bareP x = x := fun x hx => by
    obtain ⟨r, hr, hxr⟩ := List.mem_flatMap.1 hx
    exact rowP_bare (hL r hr) (hz r hr) hxr
  rw [List.map_congr_left this, List.map_id']
theorem ofL_rise (k : Nat) (v : Int) : (ofL (k : Int) v).Pairwise (fun a b => a.num < b.num) := by
  rw [List.pairwise_iff_getElem]
  intro i j hi hj hij
  exact (grow_apart k v j i hj hij).1
theorem ba_inj {a b : ByteArray} (h : a.data.toList = b.data.toList) : a = b := by
  obtain ⟨⟨a⟩⟩ := a
  obtain ⟨⟨b⟩⟩ := b
  simpa using h
theorem enc_alike {a b : MV} {L : List SRow} (h : sameB a b = true) : encB a L = encB b L := by
  obtain ⟨h1, ⟨a0, a1, a2, a3, a4, a5⟩, ⟨b0, b1⟩, hl⟩ := (sameB_iff a b).1 h
  obtain ⟨k, n0, n1, n2, n3, n4, n5, s0, s1, A, c, l⟩ := a
  obtain ⟨k', m0, m1, m2, m3, m4, m5, t0, t1, A', c', l'⟩ := b
  simp only at h1 a0 a1 a2 a3 a4 a5 b0 b1 hl
  subst h1 a0 a1 a2 a3 a4 a5 b0 b1 hl
  have e := chkV_ac ⟨k, n0, n1, n2, n3, n4, n5, s0, s1, A', c', l⟩ A c L
  unfold encB
  rw [← e]
  rfl
end Go.Proofs.YtealjpolomhdeaaGreat
set_option linter.unusedVariables false
namespace Go.Proofs.YtealjpolomhdeaaGreat
open Go.RowKit
/-- How many bytes a field has at most. -/
def capR (t : Nat) : Nat := if t ≤ 6 then 11 else if t = 7 then 66 else if t = 8 then 4099 else if t = 9 then 7003 else 4224
theorem cap_sum : (List.range 11).all (fun k => (List.range 4).all fun v => decide (((ofL (k : Int) (v : Int)).map fun r => capR r.typ).sum ≤ 8192)) = true := by decide +kernel
theorem cap_all (k : Nat) (v : Int) : ((ofL (k : Int) v).map fun r => capR r.typ).sum ≤ 8192 := by
  by_cases hk : k = 0 ∨ 10 < k
  · rw [ofL_kind k v hk]; decide
  have h := List.all_eq_true.1 cap_sum k (List.mem_range.2 (by omega))
  rcases kn_one v with rfl | rfl | rfl | ⟨-, h0⟩
  · have := List.all_eq_true.1 h 1 (List.mem_range.2 (by omega)); simpa using this
  · have := List.all_eq_true.1 h 2 (List.mem_range.2 (by omega)); simpa using this
  · have := List.all_eq_true.1 h 3 (List.mem_range.2 (by omega)); simpa using this
  · rw [ofL_nil _ _ h0]; decide
theorem chk_size {s : ByteArray} {most : Int} (h : chk s most = 0) : (s.data.toList.length : Int) ≤ most := by
  unfold chk checkI at h
  split at h
  · cases h
  · omega
theorem txtE_each {most : Int} : ∀ (l : List ByteArray), txtE most l = 0 → ∀ s ∈ l, chk s most = 0
  | [], _, s, hs => by simp at hs
  | x :: l, h, s, hs => by
    rw [txtE] at h
    by_cases c : chk x most = 0
    · rw [if_pos c] at h
      rcases List.mem_cons.1 hs with rfl | hs
      · exact c
      · exact txtE_each l h s hs
    · rw [if_neg c] at h; exact absurd h c
theorem lstE_each {l : List ByteArray} (h : lstE l = 0) : l.length ≤ 64 ∧ ∀ s ∈ l, chk s 64 = 0 := by
  unfold lstE at h
  split at h
  · cases h
  · exact ⟨by omega, txtE_each l h⟩
theorem wB_bytes {num : Nat} (h1 : 1 ≤ num) (h2 : num ≤ 7) (xs : List UInt8) : (wB ((num : Int), 2, 0, xs)).length ≤ (if xs.length < 128 then 2 else 3) + xs.length ∨ 16384 ≤ xs.length := by
  by_cases hl : 16384 ≤ xs.length
  · exact .inr hl
  left
  have e1 : (putN (mk (num : Int) 2).1.toNat).length ≤ 1 := by
    rw [mk_ok (by omega) (by omega) rfl]
    exact putN_length 0 _ (by show (8 * (num : Int) + 2).toNat < 128 ^ 1; omega)
  show (putN (mk (num : Int) 2).1.toNat ++ pTail 2 0 xs).length ≤ _
  have e2 : pTail 2 0 xs = putN xs.length ++ xs := rfl
  rw [List.length_append, e2, List.length_append]
  split
  · have := putN_length 0 xs.length (by omega)
    omega
  · have := putN_length 1 xs.length (by omega)
    omega
theorem wB_plain {num : Nat} (h1 : 1 ≤ num) (h2 : num ≤ 7) (w n : Nat) (hw : w = 0 ∨ w = 1 ∨ w = 5) (hn : n ≤ 18446744073709551615) : (wB ((num : Int), (w : Int), n, [])).length ≤ 11 := by
  have hwb : wireB (w : Int) = true := by rcases hw with e | e | e <;> rw [e] <;> rfl
  have e1 : (putN (mk (num : Int) (w : Int)).1.toNat).length ≤ 1 := by
    rw [mk_ok (by omega) (by omega) hwb]
    exact putN_length 0 _ (by show (8 * (num : Int) + (w : Int)).toNat < 128 ^ 1; omega)
  show (putN (mk (num : Int) (w : Int)).1.toNat ++ pTail (w : Int) n []).length ≤ _
  rw [List.length_append]
  have e2 := pTail_len (x := (w : Int)) (n := n) (xs := []) hn (by simp)
  simp only [List.length_nil, Nat.add_zero] at e2
  omega
theorem fldR_cap {M : MV} {r : SRow} (hn : ∀ i, M.num i ≤ 18446744073709551615) (hsm : MvSm M) (hr : r ∈ ROWS) (hf : fldE M r = 0) : (fldR M r).length ≤ capR r.typ := by
  have hk := row_num hr
  rw [fldR_rowP hsm hr]
  cases hd : dflB M (r.typ : Nat) (r.slot : Nat) with
  | true => unfold rowP; rw [hd]; simp
  | false =>
    unfold fldE at hf
    rw [hd] at hf
    simp only [Bool.false_eq_true, if_false] at hf
    have hP : rowP M r = partW M (r.num : Nat) (r.typ : Nat) (r.slot : Nat) := by unfold rowP; rw [hd]; rfl
    rw [hP]
    by_cases c10 : r.typ = 10
    · rw [c10] at hf ⊢
      rw [show ((10 : Nat) : Int) = 10 from rfl, wr_list] at hf
      obtain ⟨hl, he⟩ := lstE_each hf
      have hp : partW M (r.num : Nat) ((10 : Nat) : Int) (r.slot : Nat) = M.l.map (fun s => ((r.num : Int), 2, 0, s.data.toList)) := by unfold partW; exact if_pos (by decide)
      rw [hp, List.flatMap_map]
      have := fm_len (fun s : ByteArray => wB ((r.num : Int), 2, 0, s.data.toList)) 66 M.l (fun s hs => by
        have h1 := chk_size (he s hs)
        rcases wB_bytes hk.1 hk.2.1 s.data.toList with h | h
        · split at h <;> omega
        · omega)
      have h3 : 66 * M.l.length ≤ 66 * 64 := Nat.mul_le_mul_left _ hl
      show _ ≤ 4224
      omega
    by_cases c7 : 7 ≤ r.typ
    · rw [wr_text _ _ _ (by omega)] at hf
      have hp : partW M (r.num : Nat) (r.typ : Nat) (r.slot : Nat) = [((r.num : Int), 2, 0, (M.text (r.slot : Nat)).data.toList)] := by
        unfold partW
        rw [if_neg (by omega), if_pos (by omega)]
      rw [hp, List.flatMap_cons, List.flatMap_nil, List.append_nil]
      have h1 := chk_size hf
      have hm : mostN (r.typ : Nat) = if r.typ = 7 then 64 else if r.typ = 8 then 4096 else 7000 := by
        have : r.typ = 7 ∨ r.typ = 8 ∨ r.typ = 9 := by omega
        rcases this with e | e | e <;> rw [e] <;> rfl
      rw [hm] at h1
      unfold capR
      rw [if_neg (by omega)]
      rcases wB_bytes hk.1 hk.2.1 (M.text (r.slot : Nat)).data.toList with h | h
      · split at h <;> split at h1 <;> first | (rename_i e1 e2; rw [if_pos e2]; omega) | (rename_i e1 e2; rw [if_neg e2]; split at h1 <;> first | (rename_i e3; rw [if_pos e3]; omega) | (rename_i e3; rw [if_neg e3]; split <;> omega))
      · split at h1
        · omega
        · split at h1 <;> omega
    · have hp : partW M (r.num : Nat) (r.typ : Nat) (r.slot : Nat) = if (r.typ : Int) = 3 then [((r.num : Int), 0, (zig (wrap64 (M.num (r.slot : Nat) : Nat))).toNat, [])] else [((r.num : Int), (wireN (r.typ : Nat) : Int), M.num (r.slot : Nat), [])] := by
        unfold partW
        rw [if_neg (by omega), if_neg (by omega)]
      have hcap : capR r.typ = 11 := by unfold capR; rw [if_pos (by omega)]
      rw [hp, hcap]
      split
      · rw [List.flatMap_cons, List.flatMap_nil, List.append_nil]
        have r1 := w64_range (M.num (r.slot : Nat) : Int)
        have z1 := zig_range _ r1.1 r1.2
        exact wB_plain hk.1 hk.2.1 0 _ (.inl rfl) (by omega)
      · rw [List.flatMap_cons, List.flatMap_nil, List.append_nil]
        have hw : wireN (r.typ : Nat) = 0 ∨ wireN (r.typ : Nat) = 1 ∨ wireN (r.typ : Nat) = 5 := by
          unfold wireN
          split
          · exact .inr (.inr rfl)
          split
          · exact .inr (.inl rfl)
          · rw [if_neg (by omega)]; exact .inl rfl
        exact wB_plain hk.1 hk.2.1 _ _ hw (hn _)
theorem flat_cap {M : MV} (hn : ∀ i, M.num i ≤ 18446744073709551615) (hsm : MvSm M) : ∀ (L : List SRow), (∀ r ∈ L, r ∈ ROWS) → (∀ r ∈ L, fldE M r = 0) → (L.flatMap (fldR M)).length ≤ (L.map fun r => capR r.typ).sum
  | [], _, _ => by simp
  | r :: L, hL, hf => by
    have h1 := fldR_cap hn hsm (hL r (List.mem_cons_self ..)) (hf r (List.mem_cons_self ..))
    have h2 := flat_cap hn hsm L (fun q hq => hL q (List.mem_cons_of_mem _ hq)) (fun q hq => hf q (List.mem_cons_of_mem _ hq))
    rw [List.flatMap_cons, List.length_append, List.map_cons, List.sum_cons]
    omega
theorem enc_cap {M : MV} (v : Int) (hn : ∀ i, M.num i ≤ 18446744073709551615) (hsm : MvSm M) : (encB M (ofL (M.k : Int) v)).length ≤ 8192 := by
  unfold encB
  split
  · rename_i hc
    exact Nat.le_trans (flat_cap hn hsm _ (fun r hr => ofL_mem _ _ hr) (chkL_all _ (chkV_zero hc).2.2.1)) (cap_all M.k v)
  · simp
end Go.Proofs.YtealjpolomhdeaaGreat
namespace Go.Proofs.YtealjpolomhdeaaGreat
open Go.RowKit
theorem enc_flds {M : MV} (k : Nat) (v : Int) (hn : ∀ i, M.num i ≤ 18446744073709551615) (hsm : MvSm M) (hc : (chkV M (ofL (k : Int) v)).1 = 0) : flds (encB M (ofL (k : Int) v)) (encB M (ofL (k : Int) v)).length 0 = (putL ((allP M (ofL (k : Int) v)).map ptF) 0, 0, 0) := by
  have hL : ∀ r ∈ ofL (k : Int) v, r ∈ ROWS := fun r hr => ofL_mem _ _ hr
  rw [encB_allP hsm hL hc]
  exact flat_flds _ fun x hx => by obtain ⟨r, hr, hxr⟩ := allP_ok hn hsm hL hx; exact hxr.put (hL r hr)
end Go.Proofs.YtealjpolomhdeaaGreat
set_option linter.unusedVariables false
namespace Go.Proofs.YtealjpolomhdeaaGreat
open Go.RowKit
theorem num_top (M : MV) (i : Int) : (∃ k : Nat, k ≤ 5 ∧ i = (k : Int)) ∨ M.num i = 0 := by
  by_cases h : i < 0 ∨ 6 ≤ i
  · exact .inr (num_out M i h)
  · exact .inl ⟨i.toNat, by omega, by omega⟩
theorem text_top (M : MV) (i : Int) : (∃ k : Nat, k ≤ 1 ∧ i = (k : Int)) ∨ M.text i = ⟨#[]⟩ := by
  by_cases h : i < 0 ∨ 2 ≤ i
  · exact .inr (text_out M i h)
  · exact .inl ⟨i.toNat, by omega, by omega⟩
theorem row_slot {r : SRow} (h : r ∈ ROWS) : r.slot ≤ 5 ∧ (7 ≤ r.typ → r.typ ≤ 9 → r.slot ≤ 1) := by have := row_ok2 h; exact ⟨this.2.2.1, this.2.2.2⟩
/-- Two rows of a kind have unlike numbers and places. -/
theorem rows_apart (k : Nat) (v : Int) {r x : SRow} (hr : r ∈ ofL (k : Int) v) (hx : x ∈ ofL (k : Int) v) (hne : r ≠ x) : r.num ≠ x.num ∧ ¬ (sortN r.typ = sortN x.typ ∧ r.slot = x.slot) := by
  obtain ⟨i, hi, rfl⟩ := List.getElem_of_mem hr
  obtain ⟨j, hj, rfl⟩ := List.getElem_of_mem hx
  rcases Nat.lt_trichotomy i j with h | h | h
  · have := grow_apart k v j i hj h
    exact ⟨by omega, this.2⟩
  · subst h; exact absurd rfl hne
  · have := grow_apart k v i j hi h
    exact ⟨by omega, fun h2 => this.2 ⟨h2.1.symm, h2.2.symm⟩⟩
def k4 (f : FV) : Int × Int × Nat × List UInt8 := (f.num, f.w, f.n, f.s.xs)
def KOk (x : Int × Int × Nat × List UInt8 × Int) : Prop := 0 ≤ x.2.1 ∧ x.2.1 ≤ 255 ∧ x.2.2.1 ≤ 18446744073709551615 ∧ -9223372036854775808 ≤ x.1 ∧ x.1 ≤ 9223372036854775807 ∧ -9223372036854775808 ≤ x.2.2.2.2 ∧ x.2.2.2.2 ≤ 9223372036854775807 ∧ x.2.2.2.1.length ≤ 8000
theorem KOk.ok {w : World} {f : FV} (h : KOk (fvK f)) (hs : Sl w f.s.A f.s.c (f.s.xs.map bv)) : FvOk w f := ⟨h.1, h.2.1, h.2.2.1, h.2.2.2.1, h.2.2.2.2.1, h.2.2.2.2.2.1, h.2.2.2.2.2.2.1, hs⟩
end Go.Proofs.YtealjpolomhdeaaGreat
