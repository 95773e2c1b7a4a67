/- Messages: what one holds, as plain data and in memory. · value's number, text, Int, Default. · Messages that are alike, and copies. · value's Same and Copy. · Which places belong to a field: value.marked. · A message without what belongs to no field: value.kept, and value.Clean. -/
import Derived.Test.YtmcebepfoleknaaSc2
import Derived.Test.YtmcebepfoleknaaM3
import Derived.Test.YtmcebepfoleknaaM4
import Derived.WalkSpells
import Derived.Laws.StructEq
import Derived.Laws.Tables
import Derived.Laws.Cover2
import Derived.KernelRfl
import Derived.Lib.SliceRun
import Derived.Deep.QuietTactic
import Derived.BigQuiet
set_option linter.unusedVariables false
namespace Go.Proofs.Ytmcebepfoleknaa
open Go.RowKit
def sv (s : ByteArray) : Value := .string s
/-- A message. -/
structure MV where
  k : Nat
  n0 : Nat
  n1 : Nat
  n2 : Nat
  n3 : Nat
  n4 : Nat
  n5 : Nat
  s0 : ByteArray
  s1 : ByteArray
  A : Option Addr
  c : Nat
  l : List ByteArray
def MV.num (m : MV) : Int → Nat
  | 0 => m.n0
  | 1 => m.n1
  | 2 => m.n2
  | 3 => m.n3
  | 4 => m.n4
  | 5 => m.n5
  | _ => 0
def MV.text (m : MV) : Int → ByteArray
  | 0 => m.s0
  | 1 => m.s1
  | _ => ⟨#[]⟩
def mvA (m : MV) : Array Value := #[.int .u8 (m.k : Int), .int .u64 (m.n0 : Int), .int .u64 (m.n1 : Int), .int .u64 (m.n2 : Int), .int .u64 (m.n3 : Int), .int .u64 (m.n4 : Int), .int .u64 (m.n5 : Int), .string m.s0, .string m.s1, .slice m.A m.l.length m.c]
def mvV (m : MV) : Value := .agg (mvA m)
structure MvOk (w : World) (m : MV) : Prop where
  k : m.k ≤ 255
  n : ∀ i, m.num i ≤ 18446744073709551615
  s : ∀ i, (m.text i).size ≤ 9223372036854775807
  e : ∀ x ∈ m.l, x.size ≤ 9223372036854775807
  l : Sl w m.A m.c (m.l.map sv)
theorem MvOk.below {w w' : World} {m : MV} (h : MvOk w m) (hb : Below w.heap.size w w') : MvOk w' m := ⟨h.k, h.n, h.s, h.e, h.l.below hb⟩
theorem num_out (m : MV) (i : Int) (h : i < 0 ∨ 6 ≤ i) : m.num i = 0 := by
  unfold MV.num; split <;> first | omega | rfl
theorem text_out (m : MV) (i : Int) (h : i < 0 ∨ 2 ≤ i) : m.text i = ⟨#[]⟩ := by
  unfold MV.text; split <;> first | omega | rfl
end Go.Proofs.Ytmcebepfoleknaa
set_option linter.unusedVariables false
namespace Go.Proofs.Ytmcebepfoleknaa
open Go.RowKit
theorem eq_nums (a0 a1 a2 a3 a4 a5 b0 b1 b2 b3 b4 b5 : Nat) (W : World) : (binOp .eql 25 (.agg #[.int .u64 (a0 : Int), .int .u64 (a1 : Int), .int .u64 (a2 : Int), .int .u64 (a3 : Int), .int .u64 (a4 : Int), .int .u64 (a5 : Int)]) (.agg #[.int .u64 (b0 : Int), .int .u64 (b1 : Int), .int .u64 (b2 : Int), .int .u64 (b3 : Int), .int .u64 (b4 : Int), .int .u64 (b5 : Int)])).run Try.prog W = .ok (.bool (decide (a0 = b0 ∧ a1 = b1 ∧ a2 = b2 ∧ a3 = b3 ∧ a4 = b4 ∧ a5 = b5))) W := by
  have u3 := Try.underlying24
  have g3 := Try.isAgg24
  have z3 := Try.sizeOf24
  rw [run_eql_struct, show (10000 : Nat) = 9999 + 1 from rfl, Op.equalIn]
  simp only [Sem.run_bind, run_underlying Try.underlying25, Result.andThen_ok]
  simp only [Std.Legacy.Range.forIn_eq_forIn_range', Std.Legacy.Range.size, Nat.sub_zero, Nat.add_sub_cancel, Nat.div_one, List.range'_succ, List.range'_zero, List.forIn_cons, List.forIn_nil]
  go_simp
  by_cases h1 : a0 = b0
  case neg => (simp [h1]; try (intros; omega))
  by_cases h2 : a1 = b1
  case neg => (simp [h1, h2]; try (intros; omega))
  by_cases h3 : a2 = b2
  case neg => (simp [h1, h2, h3]; try (intros; omega))
  by_cases h4 : a3 = b3
  case neg => (simp [h1, h2, h3, h4]; try (intros; omega))
  by_cases h5 : a4 = b4
  case neg => (simp [h1, h2, h3, h4, h5]; try (intros; omega))
  by_cases h6 : a5 = b5
  case neg => (simp [h1, h2, h3, h4, h5, h6]; try (intros; omega))
  simp [h1, h2, h3, h4, h5, h6]
theorem bstr_iff (a b : ByteArray) : a.toList = b.toList ↔ a = b := by
  constructor
  · intro h
    rw [ByteArray.toList_eq, ByteArray.toList_eq] at h
    obtain ⟨⟨x⟩⟩ := a
    obtain ⟨⟨y⟩⟩ := b
    simp at h
    rw [h]
  · rintro rfl; rfl
theorem bstr_ne' {q b : ByteArray} (h : q ≠ b) : (q.toList == b.toList) = false := by
  have h2 := fun h2 => h ((bstr_iff q b).1 h2)
  simpa using h2
theorem eq_texts (a0 a1 b0 b1 : ByteArray) (W : World) : (binOp .eql 26 (.agg #[.string a0, .string a1]) (.agg #[.string b0, .string b1])).run Try.prog W = .ok (.bool (decide (a0 = b0 ∧ a1 = b1))) W := by
  have u3 := Try.underlying9
  have g3 := Try.isAgg9
  have z3 := Try.sizeOf9
  rw [run_eql_struct, show (10000 : Nat) = 9999 + 1 from rfl, Op.equalIn]
  simp only [Sem.run_bind, run_underlying Try.underlying26, Result.andThen_ok]
  simp only [Std.Legacy.Range.forIn_eq_forIn_range', Std.Legacy.Range.size, Nat.sub_zero, Nat.add_sub_cancel, Nat.div_one, List.range'_succ, List.range'_zero, List.forIn_cons, List.forIn_nil]
  go_simp
  by_cases h1 : a0 = b0
  case neg => have h1' : ¬ a0.toList = b0.toList := fun h => h1 ((bstr_iff a0 b0).1 h); simp [h1, h1']
  by_cases h2 : a1 = b1
  case neg => have h2' : ¬ a1.toList = b1.toList := fun h => h2 ((bstr_iff a1 b1).1 h); simp [h1, h2, h2']
  simp [h1, h2]
theorem Try.infoStr : (Try.prog.info? 9).map (fun i => (i.zero, i.size, i.bytes)) = some (some (.string ⟨#[]⟩), 1, 16) := by kernel_rfl
theorem sv_one (l : List ByteArray) : ∀ u ∈ l.map sv, u.oneCell' = true := by
  intro u hu; obtain ⟨b, _, rfl⟩ := List.mem_map.1 hu; simp [sv, Value.oneCell']
set_option maxRecDepth 100000 in
set_option maxHeartbeats 1000000 in
theorem sclone_any (l : List ByteArray) (n : Nat) (A : Option Addr) (c : Nat) (w : World) (hn : l.length = n) (hl : n ≤ 1000000) (hs : Sl w A c (l.map sv)) :
    Calls Try.prog 69 #[.slice A n c] w fun e w' => ∃ v, e = .returned v ∧ w'.ownsRow w.heap.size 9 1 v n (l.map sv) ∧ Below w.heap.size w w' := by
  obtain ⟨i0, hi, hz0, hz1, hz2⟩ := info_parts Try.infoStr
  cases A with
  | none =>
    have hnil := hs.rd.none_nil
    obtain rfl : l = [] := by simpa using hnil
    obtain rfl := hs.nil0 rfl
    obtain rfl : n = 0 := by simpa using hn.symm
    have hnil : ∀ W, (binOp .eql 27 (.slice none 0 0) (.slice none 0 0)).run Try.prog W = .ok (.bool true) W := fun W => Lib.run_eql_slice_nil W _ _ none 0 0 0 0 Try.underlying27
    go_enter Try.func69, Try.ntmps69
    go_wp2
    go_ret
    exact ⟨_, rfl, World.ownsRow_nil _ _ _ _, Below.refl _ _⟩
  | some a =>
    have hrow0 : (w.alloc (.cells #[] 9)).ownsRow w.heap.size 9 1 (.slice (some ⟨w.heap.size, 0, none⟩) 0 0) 0 [] := World.ownsRow_made w #[] 0 (Nat.le_refl _) (by decide) rfl
    have hsa : Sl (w.alloc (.cells #[] 9)) (some a) c (l.map sv) := hs.below ((Below.refl _ _).alloc (Nat.le_refl _) _)
    have HN := hid hn
    clear hn
    have hnil : ∀ W, (binOp .eql 27 (.slice (some a) n c) (.slice none 0 0)).run Try.prog W = .ok (.bool false) W := fun W => Lib.run_eql_slice_nil W _ _ (some a) n c 0 0 Try.underlying27
    go_enter Try.func69, Try.ntmps69
    go_wp2_with (at_builtin; refine wpList_append_rd rfl (.tmp 5) (.tmp 6) 27 rfl w.heap.size 9 i0 (.string ⟨#[]⟩) 1 16 Try.underlying27 hi hz0 hz1 hz2 rfl (by decide) _ _ _ rfl hrow0 (some a) n c (l.map sv) rfl (by rw [List.length_map, HN.out, Nat.mul_one]) hsa.rd hsa.nil0 (sv_one _) (by simp only [maxLen]; omega) (by omega) (by simp) ?_; intro v1 w3 hown1 hgrow1)
    go_ret
    rw [Nat.zero_add] at hown1
    exact ⟨_, rfl, hown1, bw_g (bw_a (Below.refl _ _) _) hgrow1 (fun k ek => (hrow0.lt k ek).1)⟩
theorem take_next {α : Type} {l l2 : List α} {j : Nat} (h1 : j < l.length) (h2 : j < l2.length) (h : l.take j = l2.take j) (he : l[j] = l2[j]) : l.take (j + 1) = l2.take (j + 1) := by
  rw [List.take_succ_eq_append_getElem h1, List.take_succ_eq_append_getElem h2, h, he]
end Go.Proofs.Ytmcebepfoleknaa
set_option linter.unusedVariables false
namespace Go.Proofs.Ytmcebepfoleknaa
open Go.RowKit
theorem row_slice' {w : World} {base e size n : Nat} {v : Value} {xs : List Value} (h : w.ownsRow base e size v n xs) : ∃ A c, v = .slice A n c := by
  rcases h.2 with ⟨rfl, h2⟩ | ⟨g, cap, cur, rfl, _⟩
  · exact ⟨none, 0, by rw [h2]⟩
  · exact ⟨_, _, rfl⟩
/-- Are messages alike? -/
def sameN (a b : MV) : Prop := a.n0 = b.n0 ∧ a.n1 = b.n1 ∧ a.n2 = b.n2 ∧ a.n3 = b.n3 ∧ a.n4 = b.n4 ∧ a.n5 = b.n5
instance (a b : MV) : Decidable (sameN a b) := by unfold sameN; infer_instance
def sameT (a b : MV) : Prop := a.s0 = b.s0 ∧ a.s1 = b.s1
instance (a b : MV) : Decidable (sameT a b) := by unfold sameT; infer_instance
def sameB (a b : MV) : Bool := decide (a.k = b.k) && decide (sameN a b) && decide (sameT a b) && decide (a.l = b.l)
/-- A message is stored. -/
theorem mstore {w : World} {p : Nat} {o0 o1 o2 o3 o4 o5 o6 o7 o8 o9 : Value} (h : Blk w p 29 #[o0, o1, o2, o3, o4, o5, o6, o7, o8, o9]) (x0 x1 x2 x3 x4 x5 x6 x7 x8 x9 : Value) :
    Blk ((((((((((w.setCell ⟨p, 0, none⟩ x0).setCell ⟨p, 1, none⟩ x1).setCell ⟨p, 2, none⟩ x2).setCell ⟨p, 3, none⟩ x3).setCell ⟨p, 4, none⟩ x4).setCell ⟨p, 5, none⟩ x5).setCell ⟨p, 6, none⟩ x6).setCell ⟨p, 7, none⟩ x7).setCell ⟨p, 8, none⟩ x8).setCell ⟨p, 9, none⟩ x9) p 29 #[x0, x1, x2, x3, x4, x5, x6, x7, x8, x9] ∧ Chg (fun q => q = p) w ((((((((((w.setCell ⟨p, 0, none⟩ x0).setCell ⟨p, 1, none⟩ x1).setCell ⟨p, 2, none⟩ x2).setCell ⟨p, 3, none⟩ x3).setCell ⟨p, 4, none⟩ x4).setCell ⟨p, 5, none⟩ x5).setCell ⟨p, 6, none⟩ x6).setCell ⟨p, 7, none⟩ x7).setCell ⟨p, 8, none⟩ x8).setCell ⟨p, 9, none⟩ x9) := by
  refine ⟨?_, ?_⟩
  · have h2 := ((((((((((h.set_ 0 x0).set_ 1 x1).set_ 2 x2).set_ 3 x3).set_ 4 x4).set_ 5 x5).set_ 6 x6).set_ 7 x7).set_ 8 x8).set_ 9 x9)
    simpa using h2
  · exact (((((((((((Chg.refl (fun q => q = p) w).set_ (.inl rfl) 0 x0).set_ (.inl rfl) 1 x1).set_ (.inl rfl) 2 x2).set_ (.inl rfl) 3 x3).set_ (.inl rfl) 4 x4).set_ (.inl rfl) 5 x5).set_ (.inl rfl) 6 x6).set_ (.inl rfl) 7 x7).set_ (.inl rfl) 8 x8).set_ (.inl rfl) 9 x9)
set_option maxRecDepth 100000 in
set_option maxHeartbeats 2000000 in
theorem vcopy_any (m : MV) (w : World) (hl : m.l.length ≤ 1000000) (hs : Sl w m.A m.c (m.l.map sv)) : Calls Try.prog 45 #[mvV m] w fun e w' => ∃ A' c', e = .returned (mvV { m with A := A', c := c' }) ∧ w'.ownsRow (w.heap.size + 2) 9 1 (.slice A' m.l.length c') m.l.length (m.l.map sv) ∧ Below w.heap.size w w' := by
  have hc := fun (W : World) (hW : Below w.heap.size w W) => sclone_any m.l m.l.length m.A m.c W rfl hl (hs.below hW)
  obtain ⟨k, n0, n1, n2, n3, n4, n5, s0, s1, A, c, l⟩ := m
  unfold mvV mvA
  simp only at hc hl ⊢
  generalize l.length = len at *
  have HC := hid hc
  clear hc hs
  go_enter Try.func45, Try.ntmps45
  go_wp2_with fail
  obtain ⟨s, hsz⟩ : ∃ s, w.heap.size = s := ⟨_, rfl⟩
  have hb0 := bw_a (bw_a (Below.refl w.heap.size w) (.cells #[.int .u8 (k : Int), .int .u64 (n0 : Int), .int .u64 (n1 : Int), .int .u64 (n2 : Int), .int .u64 (n3 : Int), .int .u64 (n4 : Int), .int .u64 (n5 : Int), .string s0, .string s1, .slice A len c] 29)) (.cells #[.int .u8 0, .int .u64 0, .int .u64 0, .int .u64 0, .int .u64 0, .int .u64 0, .int .u64 0, .string ⟨#[]⟩, .string ⟨#[]⟩, .slice none 0 0] 29)
  have hk0 := (Blk.new w 29 #[.int .u8 (k : Int), .int .u64 (n0 : Int), .int .u64 (n1 : Int), .int .u64 (n2 : Int), .int .u64 (n3 : Int), .int .u64 (n4 : Int), .int .u64 (n5 : Int), .string s0, .string s1, .slice A len c]).alloc (.cells #[.int .u8 0, .int .u64 0, .int .u64 0, .int .u64 0, .int .u64 0, .int .u64 0, .int .u64 0, .string ⟨#[]⟩, .string ⟨#[]⟩, .slice none 0 0] 29)
  have hk1 := Blk.new (w.alloc (.cells #[.int .u8 (k : Int), .int .u64 (n0 : Int), .int .u64 (n1 : Int), .int .u64 (n2 : Int), .int .u64 (n3 : Int), .int .u64 (n4 : Int), .int .u64 (n5 : Int), .string s0, .string s1, .slice A len c] 29)) 29 #[.int .u8 0, .int .u64 0, .int .u64 0, .int .u64 0, .int .u64 0, .int .u64 0, .int .u64 0, .string ⟨#[]⟩, .string ⟨#[]⟩, .slice none 0 0]
  rw [World.size_alloc] at hk1
  generalize (w.alloc _).alloc _ = W at *
  rw [hsz] at hk0 hk1 hb0 ⊢
  refine (HC.out W (by rw [hsz]; exact hb0)).mono ?_
  rintro e w1 ⟨v, rfl, ho, hb1⟩
  have hlt0 := hk0.lt
  have hlt1 := hk1.lt
  have hk0 := hk0.below hb1 hk0.lt
  have hk1 := hk1.below hb1 hk1.lt
  have c0 := hk0.cell 0
  have c1 := hk0.cell 1
  have c2 := hk0.cell 2
  have c3 := hk0.cell 3
  have c4 := hk0.cell 4
  have c5 := hk0.cell 5
  have c6 := hk0.cell 6
  have c7 := hk0.cell 7
  have c8 := hk0.cell 8
  have c9 := hk0.cell 9
  have f9 := hk0.frozen 9
  have g0 := hk1.frozen 0
  have d0 := hk1.cell 0
  have g1 := hk1.frozen 1
  have d1 := hk1.cell 1
  have g2 := hk1.frozen 2
  have d2 := hk1.cell 2
  have g3 := hk1.frozen 3
  have d3 := hk1.cell 3
  have g4 := hk1.frozen 4
  have d4 := hk1.cell 4
  have g5 := hk1.frozen 5
  have d5 := hk1.cell 5
  have g6 := hk1.frozen 6
  have d6 := hk1.cell 6
  have g7 := hk1.frozen 7
  have d7 := hk1.cell 7
  have g8 := hk1.frozen 8
  have d8 := hk1.cell 8
  have g9 := hk1.frozen 9
  have d9 := hk1.cell 9
  simp only [List.getElem?_toArray, List.getElem?_cons_zero, List.getElem?_cons_succ] at c0 c1 c2 c3 c4 c5 c6 c7 c8 c9 d0 d1 d2 d3 d4 d5 d6 d7 d8 d9
  obtain ⟨A', c', rfl⟩ : ∃ A' c', v = .slice A' len c' := row_slice' ho
  have hB1 := hb0.trans (hb1.mono (by have := hlt0; omega))
  have hend := mstore (hk1.far (p := ⟨s, 9, none⟩) (by simp) (.slice A' len c')) (.int .u8 (k : Int)) (.int .u64 (n0 : Int)) (.int .u64 (n1 : Int)) (.int .u64 (n2 : Int)) (.int .u64 (n3 : Int)) (.int .u64 (n4 : Int)) (.int .u64 (n5 : Int)) (.string s0) (.string s1) (.slice A' len c')
  have hc1 : Chg (fun q => q = s ∨ q = s + 1) w1 (w1.setCell ⟨s, 9, none⟩ (.slice A' len c')) := (Chg.refl _ w1).set_ (.inl (.inl rfl)) 9 _
  have ho2 := own_mono ho (show s + 2 ≤ W.heap.size by omega)
  have HO := hid ho2
  have HE := hid hend
  have HC1 := hid hc1
  have HB1 := hid hB1
  have hs2 : s + 2 ≤ w1.heap.size := Nat.le_trans (by omega) hb1.size
  clear ho ho2 hend hc1 hB1 hb1 hk0 hk1 HC hb0
  go_wp2_with fail
  have hbk := HE.out.1
  have hch := HC1.out.trans (HE.out.2.mono fun q _ hq => .inr hq)
  have ho3 := own_chgS HO.out hch (fun g hg hk => by have := (HO.out.lt g hg).1; omega)
  have hB3 := HB1.out.trans (hch.below (B := s) (fun q hq => by omega) (by omega))
  have r0 := hbk.cell 0
  have r1 := hbk.cell 1
  have r2 := hbk.cell 2
  have r3 := hbk.cell 3
  have r4 := hbk.cell 4
  have r5 := hbk.cell 5
  have r6 := hbk.cell 6
  have r7 := hbk.cell 7
  have r8 := hbk.cell 8
  have r9 := hbk.cell 9
  clear hch hbk HE HC1 HO HB1 c0 c1 c2 c3 c4 c5 c6 c7 c8 c9 f9 g0 g1 g2 g3 g4 g5 g6 g7 g8 g9 d0 d1 d2 d3 d4 d5 d6 d7 d8 d9
  generalize World.setCell (World.setCell _ _ _) _ _ = W9 at *
  simp only [List.getElem?_toArray, List.getElem?_cons_zero, List.getElem?_cons_succ] at r0 r1 r2 r3 r4 r5 r6 r7 r8 r9
  refine bodyPost_ret (v := .agg #[.int .u8 (k : Int), .int .u64 (n0 : Int), .int .u64 (n1 : Int), .int .u64 (n2 : Int), .int .u64 (n3 : Int), .int .u64 (n4 : Int), .int .u64 (n5 : Int), .string s0, .string s1, .slice A' len c']) (by simp [results, Try.results45, go_sem, r0, r1, r2, r3, r4, r5, r6, r7, r8, r9]) rfl ?_
  rw [hsz]
  exact ⟨A', c', rfl, ho3, hB3⟩
end Go.Proofs.Ytmcebepfoleknaa
set_option linter.unusedVariables false
namespace Go.Proofs.Ytmcebepfoleknaa
open Go.RowKit
def mkN (l : List SRow) (i : Nat) : Bool := l.any fun r => decide (r.typ ≤ 6 ∧ r.slot = i)
def mkS (l : List SRow) (i : Nat) : Bool := l.any fun r => decide ((7 ≤ r.typ ∧ r.typ ≤ 9) ∧ r.slot = i)
def mkL (l : List SRow) : Bool := l.any fun r => decide (r.typ = 10)
theorem mkN_app (l : List SRow) (r : SRow) (i : Nat) : mkN (l ++ [r]) i = (mkN l i || decide (r.typ ≤ 6 ∧ r.slot = i)) := by unfold mkN; rw [List.any_append]; simp
theorem mkS_app (l : List SRow) (r : SRow) (i : Nat) : mkS (l ++ [r]) i = (mkS l i || decide ((7 ≤ r.typ ∧ r.typ ≤ 9) ∧ r.slot = i)) := by unfold mkS; rw [List.any_append]; simp
theorem mkL_app (l : List SRow) (r : SRow) : mkL (l ++ [r]) = (mkL l || decide (r.typ = 10)) := by unfold mkL; rw [List.any_append]; simp
theorem row_ok2 {r : SRow} (h : r ∈ ROWS) : 1 ≤ r.typ ∧ r.typ ≤ 10 ∧ r.slot ≤ 5 ∧ (7 ≤ r.typ → r.typ ≤ 9 → r.slot ≤ 1) := by
  have h := List.all_eq_true.1 (show ROWS.all (fun r => decide (1 ≤ r.typ ∧ r.typ ≤ 10 ∧ r.slot ≤ 5 ∧ (7 ≤ r.typ → r.typ ≤ 9 → r.slot ≤ 1))) = true by decide) r h
  simp at h
  omega
end Go.Proofs.Ytmcebepfoleknaa
set_option linter.unusedVariables false
namespace Go.Proofs.Ytmcebepfoleknaa
open Go.RowKit
def ka (b : Bool) (j i n : Nat) : Nat := if i < j then (if b then n else 0) else n
def kb (b : Bool) (j i : Nat) (s : ByteArray) : ByteArray := if i < j then (if b then s else ⟨#[]⟩) else s
/-- A message without what belongs to no field. -/
def keptM (L : List SRow) (m : MV) : MV := { k := m.k, n0 := ka (mkN L 0) 6 0 m.n0, n1 := ka (mkN L 1) 6 1 m.n1, n2 := ka (mkN L 2) 6 2 m.n2, n3 := ka (mkN L 3) 6 3 m.n3, n4 := ka (mkN L 4) 6 4 m.n4, n5 := ka (mkN L 5) 6 5 m.n5, s0 := kb (mkS L 0) 2 0 m.s0, s1 := kb (mkS L 1) 2 1 m.s1, A := if mkL L then m.A else none, c := if mkL L then m.c else 0, l := if mkL L then m.l else [] }
end Go.Proofs.Ytmcebepfoleknaa
