/- Messages: what one holds, as plain data and in memory. · value's number, text, Int, Default. · Messages that are alike, and copies. · value's Same and Copy. · Which places belong to a field: value.marked. · A message without what belongs to no field: value.kept, and value.Clean. · Arguments opened: a message, a field's Spec. · schema.Wire, schema.Most, and the document's. · What is wrong with a field: value's upTo, list, wrong. · The document's one, Place, Default. · What is wrong with a field (value.wrong); what stands in a place, has it nothing, what is wrong (the document's Place, Default, one). · What is wrong with a message: value.Check. · schema.Word. · schema.Kind. · What must be whatever is asked (schema). · The document's rows, fields and Find. · The document's Place, Default and one of a message's field. · The document's Default and one of a message's field; Texts. · The document's one and Same of messages. · Short messages (the document's Small); value.Clean. · What must be whatever is asked: layer 9. · The mathematics of ValueGrows: what a later version says of a message, and what is said of a cleaned one. -/
import Derived.Test.YtpmfdlghckfgiaaG0
import Derived.Test.YtpmfdlghckfgiaaM4
import Derived.WalkSpells
import Derived.Laws.StructEq
import Derived.Laws.Tables
import Derived.Laws.Cover2
import Derived.KernelRfl
import Derived.Lib.SliceRun
import Derived.Deep.QuietTactic
import Derived.BigQuiet
import Derived.Test.YtpmfdlghckfgiaaUt
import Derived.Deep.RegionHeld3
import Derived.Deep.AppendLies
import Derived.OwnWalk
import Derived.Laws.Pointers
set_option linter.unusedVariables false
namespace Go.Proofs.Ytpmfdlghckfgiaa
open Go.RowKit
def sv (s : ByteArray) : Value := .string s
/-- A message. -/
structure MV where
  k : Nat
  n0 : Nat
  n1 : Nat
  n2 : Nat
  n3 : Nat
  n4 : Nat
  n5 : Nat
  s0 : ByteArray
  s1 : ByteArray
  A : Option Addr
  c : Nat
  l : List ByteArray
def MV.num (m : MV) : Int → Nat
  | 0 => m.n0
  | 1 => m.n1
  | 2 => m.n2
  | 3 => m.n3
  | 4 => m.n4
  | 5 => m.n5
  | _ => 0
def MV.text (m : MV) : Int → ByteArray
  | 0 => m.s0
  | 1 => m.s1
  | _ => ⟨#[]⟩
def mvA (m : MV) : Array Value := #[.int .u8 (m.k : Int), .int .u64 (m.n0 : Int), .int .u64 (m.n1 : Int), .int .u64 (m.n2 : Int), .int .u64 (m.n3 : Int), .int .u64 (m.n4 : Int), .int .u64 (m.n5 : Int), .string m.s0, .string m.s1, .slice m.A m.l.length m.c]
def mvV (m : MV) : Value := .agg (mvA m)
structure MvOk (w : World) (m : MV) : Prop where
  k : m.k ≤ 255
  n : ∀ i, m.num i ≤ 18446744073709551615
  s : ∀ i, (m.text i).size ≤ 9223372036854775807
  e : ∀ x ∈ m.l, x.size ≤ 9223372036854775807
  l : Sl w m.A m.c (m.l.map sv)
theorem MvOk.below {w w' : World} {m : MV} (h : MvOk w m) (hb : Below w.heap.size w w') : MvOk w' m := ⟨h.k, h.n, h.s, h.e, h.l.below hb⟩
theorem num_out (m : MV) (i : Int) (h : i < 0 ∨ 6 ≤ i) : m.num i = 0 := by
  unfold MV.num; split <;> first | omega | rfl
/-- Has a field nothing? -/
def dflB (m : MV) (t i : Int) : Bool := if 1 ≤ t ∧ t ≤ 6 then decide (m.num i = 0) else if 7 ≤ t ∧ t ≤ 9 then decide (m.text i = ⟨#[]⟩) else if t = 10 then decide (m.l.length = 0) else true
theorem dfl_num (m : MV) (t i : Int) (h : 1 ≤ t ∧ t ≤ 6) : dflB m t i = decide (m.num i = 0) := by unfold dflB; rw [if_pos h]
theorem dfl_text (m : MV) (t i : Int) (h : 7 ≤ t ∧ t ≤ 9) : dflB m t i = decide (m.text i = ⟨#[]⟩) := by unfold dflB; rw [if_neg (by omega), if_pos h]
theorem dfl_list (m : MV) (i : Int) : dflB m 10 i = decide (m.l.length = 0) := by unfold dflB; rw [if_neg (by omega), if_neg (by omega), if_pos rfl]
end Go.Proofs.Ytpmfdlghckfgiaa
set_option linter.unusedVariables false
namespace Go.Proofs.Ytpmfdlghckfgiaa
open Go.RowKit
theorem eq_nums (a0 a1 a2 a3 a4 a5 b0 b1 b2 b3 b4 b5 : Nat) (W : World) : (binOp .eql 25 (.agg #[.int .u64 (a0 : Int), .int .u64 (a1 : Int), .int .u64 (a2 : Int), .int .u64 (a3 : Int), .int .u64 (a4 : Int), .int .u64 (a5 : Int)]) (.agg #[.int .u64 (b0 : Int), .int .u64 (b1 : Int), .int .u64 (b2 : Int), .int .u64 (b3 : Int), .int .u64 (b4 : Int), .int .u64 (b5 : Int)])).run Try.prog W = .ok (.bool (decide (a0 = b0 ∧ a1 = b1 ∧ a2 = b2 ∧ a3 = b3 ∧ a4 = b4 ∧ a5 = b5))) W := by
  have u3 := Try.underlying24
  have g3 := Try.isAgg24
  have z3 := Try.sizeOf24
  rw [run_eql_struct, show (10000 : Nat) = 9999 + 1 from rfl, Op.equalIn]
  simp only [Sem.run_bind, run_underlying Try.underlying25, Result.andThen_ok]
  simp only [Std.Legacy.Range.forIn_eq_forIn_range', Std.Legacy.Range.size, Nat.sub_zero, Nat.add_sub_cancel, Nat.div_one, List.range'_succ, List.range'_zero, List.forIn_cons, List.forIn_nil]
  go_simp
  by_cases h1 : a0 = b0
  case neg => (simp [h1]; try (intros; omega))
  by_cases h2 : a1 = b1
  case neg => (simp [h1, h2]; try (intros; omega))
  by_cases h3 : a2 = b2
  case neg => (simp [h1, h2, h3]; try (intros; omega))
  by_cases h4 : a3 = b3
  case neg => (simp [h1, h2, h3, h4]; try (intros; omega))
  by_cases h5 : a4 = b4
  case neg => (simp [h1, h2, h3, h4, h5]; try (intros; omega))
  by_cases h6 : a5 = b5
  case neg => (simp [h1, h2, h3, h4, h5, h6]; try (intros; omega))
  simp [h1, h2, h3, h4, h5, h6]
theorem bstr_iff (a b : ByteArray) : a.toList = b.toList ↔ a = b := by
  constructor
  · intro h
    rw [ByteArray.toList_eq, ByteArray.toList_eq] at h
    obtain ⟨⟨x⟩⟩ := a
    obtain ⟨⟨y⟩⟩ := b
    simp at h
    rw [h]
  · rintro rfl; rfl
theorem bstr_ne' {q b : ByteArray} (h : q ≠ b) : (q.toList == b.toList) = false := by
  have h2 := fun h2 => h ((bstr_iff q b).1 h2)
  simpa using h2
theorem eq_texts (a0 a1 b0 b1 : ByteArray) (W : World) : (binOp .eql 26 (.agg #[.string a0, .string a1]) (.agg #[.string b0, .string b1])).run Try.prog W = .ok (.bool (decide (a0 = b0 ∧ a1 = b1))) W := by
  have u3 := Try.underlying9
  have g3 := Try.isAgg9
  have z3 := Try.sizeOf9
  rw [run_eql_struct, show (10000 : Nat) = 9999 + 1 from rfl, Op.equalIn]
  simp only [Sem.run_bind, run_underlying Try.underlying26, Result.andThen_ok]
  simp only [Std.Legacy.Range.forIn_eq_forIn_range', Std.Legacy.Range.size, Nat.sub_zero, Nat.add_sub_cancel, Nat.div_one, List.range'_succ, List.range'_zero, List.forIn_cons, List.forIn_nil]
  go_simp
  by_cases h1 : a0 = b0
  case neg => have h1' : ¬ a0.toList = b0.toList := fun h => h1 ((bstr_iff a0 b0).1 h); simp [h1, h1']
  by_cases h2 : a1 = b1
  case neg => have h2' : ¬ a1.toList = b1.toList := fun h => h2 ((bstr_iff a1 b1).1 h); simp [h1, h2, h2']
  simp [h1, h2]
theorem Try.infoStr : (Try.prog.info? 9).map (fun i => (i.zero, i.size, i.bytes)) = some (some (.string ⟨#[]⟩), 1, 16) := by kernel_rfl
theorem sv_one (l : List ByteArray) : ∀ u ∈ l.map sv, u.oneCell' = true := by
  intro u hu; obtain ⟨b, _, rfl⟩ := List.mem_map.1 hu; simp [sv, Value.oneCell']
set_option maxRecDepth 100000 in
set_option maxHeartbeats 1000000 in
theorem sclone_any (l : List ByteArray) (n : Nat) (A : Option Addr) (c : Nat) (w : World) (hn : l.length = n) (hl : n ≤ 1000000) (hs : Sl w A c (l.map sv)) :
    Calls Try.prog 44 #[.slice A n c] w fun e w' => ∃ v, e = .returned v ∧ w'.ownsRow w.heap.size 9 1 v n (l.map sv) ∧ Below w.heap.size w w' := by
  obtain ⟨i0, hi, hz0, hz1, hz2⟩ := info_parts Try.infoStr
  cases A with
  | none =>
    have hnil := hs.rd.none_nil
    obtain rfl : l = [] := by simpa using hnil
    obtain rfl := hs.nil0 rfl
    obtain rfl : n = 0 := by simpa using hn.symm
    have hnil : ∀ W, (binOp .eql 27 (.slice none 0 0) (.slice none 0 0)).run Try.prog W = .ok (.bool true) W := fun W => Lib.run_eql_slice_nil W _ _ none 0 0 0 0 Try.underlying27
    go_enter Try.func44, Try.ntmps44
    go_wp2
    go_ret
    exact ⟨_, rfl, World.ownsRow_nil _ _ _ _, Below.refl _ _⟩
  | some a =>
    have hrow0 : (w.alloc (.cells #[] 9)).ownsRow w.heap.size 9 1 (.slice (some ⟨w.heap.size, 0, none⟩) 0 0) 0 [] := World.ownsRow_made w #[] 0 (Nat.le_refl _) (by decide) rfl
    have hsa : Sl (w.alloc (.cells #[] 9)) (some a) c (l.map sv) := hs.below ((Below.refl _ _).alloc (Nat.le_refl _) _)
    have HN := hid hn
    clear hn
    have hnil : ∀ W, (binOp .eql 27 (.slice (some a) n c) (.slice none 0 0)).run Try.prog W = .ok (.bool false) W := fun W => Lib.run_eql_slice_nil W _ _ (some a) n c 0 0 Try.underlying27
    go_enter Try.func44, Try.ntmps44
    go_wp2_with (at_builtin; refine wpList_append_rd rfl (.tmp 5) (.tmp 6) 27 rfl w.heap.size 9 i0 (.string ⟨#[]⟩) 1 16 Try.underlying27 hi hz0 hz1 hz2 rfl (by decide) _ _ _ rfl hrow0 (some a) n c (l.map sv) rfl (by rw [List.length_map, HN.out, Nat.mul_one]) hsa.rd hsa.nil0 (sv_one _) (by simp only [maxLen]; omega) (by omega) (by simp) ?_; intro v1 w3 hown1 hgrow1)
    go_ret
    rw [Nat.zero_add] at hown1
    exact ⟨_, rfl, hown1, bw_g (bw_a (Below.refl _ _) _) hgrow1 (fun k ek => (hrow0.lt k ek).1)⟩
theorem take_next {α : Type} {l l2 : List α} {j : Nat} (h1 : j < l.length) (h2 : j < l2.length) (h : l.take j = l2.take j) (he : l[j] = l2[j]) : l.take (j + 1) = l2.take (j + 1) := by
  rw [List.take_succ_eq_append_getElem h1, List.take_succ_eq_append_getElem h2, h, he]
end Go.Proofs.Ytpmfdlghckfgiaa
set_option linter.unusedVariables false
namespace Go.Proofs.Ytpmfdlghckfgiaa
open Go.RowKit
theorem row_slice' {w : World} {base e size n : Nat} {v : Value} {xs : List Value} (h : w.ownsRow base e size v n xs) : ∃ A c, v = .slice A n c := by
  rcases h.2 with ⟨rfl, h2⟩ | ⟨g, cap, cur, rfl, _⟩
  · exact ⟨none, 0, by rw [h2]⟩
  · exact ⟨_, _, rfl⟩
/-- Are messages alike? -/
def sameN (a b : MV) : Prop := a.n0 = b.n0 ∧ a.n1 = b.n1 ∧ a.n2 = b.n2 ∧ a.n3 = b.n3 ∧ a.n4 = b.n4 ∧ a.n5 = b.n5
instance (a b : MV) : Decidable (sameN a b) := by unfold sameN; infer_instance
def sameT (a b : MV) : Prop := a.s0 = b.s0 ∧ a.s1 = b.s1
instance (a b : MV) : Decidable (sameT a b) := by unfold sameT; infer_instance
def sameB (a b : MV) : Bool := decide (a.k = b.k) && decide (sameN a b) && decide (sameT a b) && decide (a.l = b.l)
/-- A message is stored. -/
theorem mstore {w : World} {p : Nat} {o0 o1 o2 o3 o4 o5 o6 o7 o8 o9 : Value} (h : Blk w p 29 #[o0, o1, o2, o3, o4, o5, o6, o7, o8, o9]) (x0 x1 x2 x3 x4 x5 x6 x7 x8 x9 : Value) :
    Blk ((((((((((w.setCell ⟨p, 0, none⟩ x0).setCell ⟨p, 1, none⟩ x1).setCell ⟨p, 2, none⟩ x2).setCell ⟨p, 3, none⟩ x3).setCell ⟨p, 4, none⟩ x4).setCell ⟨p, 5, none⟩ x5).setCell ⟨p, 6, none⟩ x6).setCell ⟨p, 7, none⟩ x7).setCell ⟨p, 8, none⟩ x8).setCell ⟨p, 9, none⟩ x9) p 29 #[x0, x1, x2, x3, x4, x5, x6, x7, x8, x9] ∧ Chg (fun q => q = p) w ((((((((((w.setCell ⟨p, 0, none⟩ x0).setCell ⟨p, 1, none⟩ x1).setCell ⟨p, 2, none⟩ x2).setCell ⟨p, 3, none⟩ x3).setCell ⟨p, 4, none⟩ x4).setCell ⟨p, 5, none⟩ x5).setCell ⟨p, 6, none⟩ x6).setCell ⟨p, 7, none⟩ x7).setCell ⟨p, 8, none⟩ x8).setCell ⟨p, 9, none⟩ x9) := by
  refine ⟨?_, ?_⟩
  · have h2 := ((((((((((h.set_ 0 x0).set_ 1 x1).set_ 2 x2).set_ 3 x3).set_ 4 x4).set_ 5 x5).set_ 6 x6).set_ 7 x7).set_ 8 x8).set_ 9 x9)
    simpa using h2
  · exact (((((((((((Chg.refl (fun q => q = p) w).set_ (.inl rfl) 0 x0).set_ (.inl rfl) 1 x1).set_ (.inl rfl) 2 x2).set_ (.inl rfl) 3 x3).set_ (.inl rfl) 4 x4).set_ (.inl rfl) 5 x5).set_ (.inl rfl) 6 x6).set_ (.inl rfl) 7 x7).set_ (.inl rfl) 8 x8).set_ (.inl rfl) 9 x9)
set_option maxRecDepth 100000 in
set_option maxHeartbeats 2000000 in
theorem vcopy_any (m : MV) (w : World) (hl : m.l.length ≤ 1000000) (hs : Sl w m.A m.c (m.l.map sv)) : Calls Try.prog 25 #[mvV m] w fun e w' => ∃ A' c', e = .returned (mvV { m with A := A', c := c' }) ∧ w'.ownsRow (w.heap.size + 2) 9 1 (.slice A' m.l.length c') m.l.length (m.l.map sv) ∧ Below w.heap.size w w' := by
  have hc := fun (W : World) (hW : Below w.heap.size w W) => sclone_any m.l m.l.length m.A m.c W rfl hl (hs.below hW)
  obtain ⟨k, n0, n1, n2, n3, n4, n5, s0, s1, A, c, l⟩ := m
  unfold mvV mvA
  simp only at hc hl ⊢
  generalize l.length = len at *
  have HC := hid hc
  clear hc hs
  go_enter Try.func25, Try.ntmps25
  go_wp2_with fail
  obtain ⟨s, hsz⟩ : ∃ s, w.heap.size = s := ⟨_, rfl⟩
  have hb0 := bw_a (bw_a (Below.refl w.heap.size w) (.cells #[.int .u8 (k : Int), .int .u64 (n0 : Int), .int .u64 (n1 : Int), .int .u64 (n2 : Int), .int .u64 (n3 : Int), .int .u64 (n4 : Int), .int .u64 (n5 : Int), .string s0, .string s1, .slice A len c] 29)) (.cells #[.int .u8 0, .int .u64 0, .int .u64 0, .int .u64 0, .int .u64 0, .int .u64 0, .int .u64 0, .string ⟨#[]⟩, .string ⟨#[]⟩, .slice none 0 0] 29)
  have hk0 := (Blk.new w 29 #[.int .u8 (k : Int), .int .u64 (n0 : Int), .int .u64 (n1 : Int), .int .u64 (n2 : Int), .int .u64 (n3 : Int), .int .u64 (n4 : Int), .int .u64 (n5 : Int), .string s0, .string s1, .slice A len c]).alloc (.cells #[.int .u8 0, .int .u64 0, .int .u64 0, .int .u64 0, .int .u64 0, .int .u64 0, .int .u64 0, .string ⟨#[]⟩, .string ⟨#[]⟩, .slice none 0 0] 29)
  have hk1 := Blk.new (w.alloc (.cells #[.int .u8 (k : Int), .int .u64 (n0 : Int), .int .u64 (n1 : Int), .int .u64 (n2 : Int), .int .u64 (n3 : Int), .int .u64 (n4 : Int), .int .u64 (n5 : Int), .string s0, .string s1, .slice A len c] 29)) 29 #[.int .u8 0, .int .u64 0, .int .u64 0, .int .u64 0, .int .u64 0, .int .u64 0, .int .u64 0, .string ⟨#[]⟩, .string ⟨#[]⟩, .slice none 0 0]
  rw [World.size_alloc] at hk1
  generalize (w.alloc _).alloc _ = W at *
  rw [hsz] at hk0 hk1 hb0 ⊢
  refine (HC.out W (by rw [hsz]; exact hb0)).mono ?_
  rintro e w1 ⟨v, rfl, ho, hb1⟩
  have hlt0 := hk0.lt
  have hlt1 := hk1.lt
  have hk0 := hk0.below hb1 hk0.lt
  have hk1 := hk1.below hb1 hk1.lt
  have c0 := hk0.cell 0
  have c1 := hk0.cell 1
  have c2 := hk0.cell 2
  have c3 := hk0.cell 3
  have c4 := hk0.cell 4
  have c5 := hk0.cell 5
  have c6 := hk0.cell 6
  have c7 := hk0.cell 7
  have c8 := hk0.cell 8
  have c9 := hk0.cell 9
  have f9 := hk0.frozen 9
  have g0 := hk1.frozen 0
  have d0 := hk1.cell 0
  have g1 := hk1.frozen 1
  have d1 := hk1.cell 1
  have g2 := hk1.frozen 2
  have d2 := hk1.cell 2
  have g3 := hk1.frozen 3
  have d3 := hk1.cell 3
  have g4 := hk1.frozen 4
  have d4 := hk1.cell 4
  have g5 := hk1.frozen 5
  have d5 := hk1.cell 5
  have g6 := hk1.frozen 6
  have d6 := hk1.cell 6
  have g7 := hk1.frozen 7
  have d7 := hk1.cell 7
  have g8 := hk1.frozen 8
  have d8 := hk1.cell 8
  have g9 := hk1.frozen 9
  have d9 := hk1.cell 9
  simp only [List.getElem?_toArray, List.getElem?_cons_zero, List.getElem?_cons_succ] at c0 c1 c2 c3 c4 c5 c6 c7 c8 c9 d0 d1 d2 d3 d4 d5 d6 d7 d8 d9
  obtain ⟨A', c', rfl⟩ : ∃ A' c', v = .slice A' len c' := row_slice' ho
  have hB1 := hb0.trans (hb1.mono (by have := hlt0; omega))
  have hend := mstore (hk1.far (p := ⟨s, 9, none⟩) (by simp) (.slice A' len c')) (.int .u8 (k : Int)) (.int .u64 (n0 : Int)) (.int .u64 (n1 : Int)) (.int .u64 (n2 : Int)) (.int .u64 (n3 : Int)) (.int .u64 (n4 : Int)) (.int .u64 (n5 : Int)) (.string s0) (.string s1) (.slice A' len c')
  have hc1 : Chg (fun q => q = s ∨ q = s + 1) w1 (w1.setCell ⟨s, 9, none⟩ (.slice A' len c')) := (Chg.refl _ w1).set_ (.inl (.inl rfl)) 9 _
  have ho2 := own_mono ho (show s + 2 ≤ W.heap.size by omega)
  have HO := hid ho2
  have HE := hid hend
  have HC1 := hid hc1
  have HB1 := hid hB1
  have hs2 : s + 2 ≤ w1.heap.size := Nat.le_trans (by omega) hb1.size
  clear ho ho2 hend hc1 hB1 hb1 hk0 hk1 HC hb0
  go_wp2_with fail
  have hbk := HE.out.1
  have hch := HC1.out.trans (HE.out.2.mono fun q _ hq => .inr hq)
  have ho3 := own_chgS HO.out hch (fun g hg hk => by have := (HO.out.lt g hg).1; omega)
  have hB3 := HB1.out.trans (hch.below (B := s) (fun q hq => by omega) (by omega))
  have r0 := hbk.cell 0
  have r1 := hbk.cell 1
  have r2 := hbk.cell 2
  have r3 := hbk.cell 3
  have r4 := hbk.cell 4
  have r5 := hbk.cell 5
  have r6 := hbk.cell 6
  have r7 := hbk.cell 7
  have r8 := hbk.cell 8
  have r9 := hbk.cell 9
  clear hch hbk HE HC1 HO HB1 c0 c1 c2 c3 c4 c5 c6 c7 c8 c9 f9 g0 g1 g2 g3 g4 g5 g6 g7 g8 g9 d0 d1 d2 d3 d4 d5 d6 d7 d8 d9
  generalize World.setCell (World.setCell _ _ _) _ _ = W9 at *
  simp only [List.getElem?_toArray, List.getElem?_cons_zero, List.getElem?_cons_succ] at r0 r1 r2 r3 r4 r5 r6 r7 r8 r9
  refine bodyPost_ret (v := .agg #[.int .u8 (k : Int), .int .u64 (n0 : Int), .int .u64 (n1 : Int), .int .u64 (n2 : Int), .int .u64 (n3 : Int), .int .u64 (n4 : Int), .int .u64 (n5 : Int), .string s0, .string s1, .slice A' len c']) (by simp [results, Try.results25, go_sem, r0, r1, r2, r3, r4, r5, r6, r7, r8, r9]) rfl ?_
  rw [hsz]
  exact ⟨A', c', rfl, ho3, hB3⟩
end Go.Proofs.Ytpmfdlghckfgiaa
set_option linter.unusedVariables false
namespace Go.Proofs.Ytpmfdlghckfgiaa
open Go.RowKit
def mkN (l : List SRow) (i : Nat) : Bool := l.any fun r => decide (r.typ ≤ 6 ∧ r.slot = i)
def mkS (l : List SRow) (i : Nat) : Bool := l.any fun r => decide ((7 ≤ r.typ ∧ r.typ ≤ 9) ∧ r.slot = i)
def mkL (l : List SRow) : Bool := l.any fun r => decide (r.typ = 10)
theorem row_ok2 {r : SRow} (h : r ∈ ROWS) : 1 ≤ r.typ ∧ r.typ ≤ 10 ∧ r.slot ≤ 5 ∧ (7 ≤ r.typ → r.typ ≤ 9 → r.slot ≤ 1) := by
  have h := List.all_eq_true.1 (show ROWS.all (fun r => decide (1 ≤ r.typ ∧ r.typ ≤ 10 ∧ r.slot ≤ 5 ∧ (7 ≤ r.typ → r.typ ≤ 9 → r.slot ≤ 1))) = true by decide) r h
  simp at h
  omega
end Go.Proofs.Ytpmfdlghckfgiaa
set_option linter.unusedVariables false
namespace Go.Proofs.Ytpmfdlghckfgiaa
open Go.RowKit
end Go.Proofs.Ytpmfdlghckfgiaa
set_option linter.unusedVariables false
namespace Go.Proofs.Ytpmfdlghckfgiaa
open Go.ChangeShapes Go.WideShapes Go.ChangeAt Go.RowKit
section
variable {P : Program} {W : World} {t : TypeId}
theorem opens_array {α : Type} {e : TypeId} {n : Nat} {en : α → Value} {ok : α → Prop} (ht : P.underlying t = some (.array n e)) (hc : P.cellsOf e = 1) (hC : P.cellsOf t = n) (ho : Opens P W e (fun a => [en a]) ok) :
    Opens P W t (fun l : List α => l.map en) (fun l => l.length = n ∧ ∀ a ∈ l, ok a) := by
  intro H enc base spare held fuel cs x h
  obtain ⟨xs, m, _, _, hl, hxn, hf⟩ := DataW.trod_array ht h
  have hcl : cs.length = n := by rw [hl, hC]
  have h1 : ∀ i, i < n → ∃ a, cs[i]? = some (en a) ∧ ok a := by
    intro i hi
    have g := hf i hi
    rw [hc, Nat.mul_one, List.getElem?_eq_getElem (by omega)] at g
    obtain ⟨a, ha, hok⟩ := ho _ _ _ _ _ _ _ _ g
    refine ⟨a, ?_, hok⟩
    have h2 : ((cs.drop i).take 1)[0]? = some (en a) := by rw [ha]; rfl
    simpa using h2
  obtain ⟨l, hll, hlp⟩ := list_choose h1
  refine ⟨l, ?_, hll, ?_⟩
  · apply List.ext_getElem?
    intro i
    by_cases hi : i < n
    · have h3 := (hlp i (by omega)).1
      rw [h3, List.getElem?_map, List.getElem?_eq_getElem (by omega)]; rfl
    · rw [List.getElem?_eq_none (by omega), List.getElem?_eq_none (by simp; omega)]
  · intro a ha
    obtain ⟨i, hi, rfl⟩ := List.getElem_of_mem ha
    exact (hlp i hi).2
theorem opens_msg {f0 f1 f2 f3 : Field} (ht : P.underlying t = some (.struct #[f0, f1, f2, f3])) (hC : P.cellsOf t = 10) (ho : f0.offset = 0 ∧ f1.offset = 1 ∧ f2.offset = 7 ∧ f3.offset = 9)
    (hc : P.cellsOf f0.type = 1 ∧ P.cellsOf f1.type = 6 ∧ P.cellsOf f2.type = 2 ∧ P.cellsOf f3.type = 1)
    (h0 : Opens P W f0.type (fun n : Int => [.int .u8 n]) (fun n => (Lit.int .u8 n).wf = true)) (h1 : Opens P W f1.type (fun l : List Int => l.map fun n => .int .u64 n) (fun l => l.length = 6 ∧ ∀ a ∈ l, (Lit.int .u64 a).wf = true))
    (h2 : Opens P W f2.type (fun l : List ByteArray => l.map fun n => .string n) (fun l => l.length = 2 ∧ ∀ a ∈ l, a.size ≤ 9223372036854775807))
    (h3 : Opens P W f3.type (fun s : SlV ByteArray => [.slice s.A s.xs.length s.c]) (fun s => (∀ x ∈ s.xs, x.size ≤ 9223372036854775807) ∧ SlN W s.A s.xs.length s.c 1 (s.xs.flatMap fun s => [.string s]))) :
    Opens P W t (fun m : MV => (mvA m).toList) (MvOk W) := by
  obtain ⟨o0, o1, o2, o3⟩ := ho
  obtain ⟨c0, c1, c2, c3⟩ := hc
  intro H en base spare held fuel cs x h
  obtain ⟨xs, n, _, _, hl, hlen, hf⟩ := DataW.trod_struct ht h
  have g0 := hf 0 f0 rfl
  have g1 := hf 1 f1 rfl
  have g2 := hf 2 f2 rfl
  have g3 := hf 3 f3 rfl
  rw [o0, c0, List.getElem?_eq_getElem (by rw [hlen]; show 0 < 4; omega)] at g0
  rw [o1, c1, List.getElem?_eq_getElem (by rw [hlen]; show 1 < 4; omega)] at g1
  rw [o2, c2, List.getElem?_eq_getElem (by rw [hlen]; show 2 < 4; omega)] at g2
  rw [o3, c3, List.getElem?_eq_getElem (by rw [hlen]; show 3 < 4; omega)] at g3
  rw [hC] at hl
  obtain ⟨a0, k0, w0⟩ := h0 _ _ _ _ _ _ _ _ g0
  obtain ⟨a1, k1, w1, v1⟩ := h1 _ _ _ _ _ _ _ _ g1
  obtain ⟨a2, k2, w2, v2⟩ := h2 _ _ _ _ _ _ _ _ g2
  obtain ⟨a3, k3, w3, v3⟩ := h3 _ _ _ _ _ _ _ _ g3
  clear g0 g1 g2 g3 hf h0 h1 h2 h3 h
  match a1, w1 with
  | [n0, n1, n2, n3, n4, n5], _ =>
    match a2, w2 with
    | [s0, s1], _ =>
      match cs, hl with
      | [x0, x1, x2, x3, x4, x5, x6, x7, x8, x9], _ =>
        simp at k0 k1 k2 k3
        obtain ⟨rfl, rfl, rfl, rfl, rfl, rfl⟩ := k1
        obtain ⟨rfl, rfl⟩ := k2
        subst k0 k3
        have e0 := wf_u8 w0
        have m0 := wf_u64 (v1 n0 (by simp))
        have m1 := wf_u64 (v1 n1 (by simp))
        have m2 := wf_u64 (v1 n2 (by simp))
        have m3 := wf_u64 (v1 n3 (by simp))
        have m4 := wf_u64 (v1 n4 (by simp))
        have m5 := wf_u64 (v1 n5 (by simp))
        have t0 := v2 s0 (by simp)
        have t1 := v2 s1 (by simp)
        refine ⟨⟨a0.toNat, n0.toNat, n1.toNat, n2.toNat, n3.toNat, n4.toNat, n5.toNat, s0, s1, a3.A, a3.c, a3.xs⟩, ?_, ?_, ?_, ?_, w3, ?_⟩
        · simp only [mvA]
          rw [Int.toNat_of_nonneg e0.1, Int.toNat_of_nonneg m0.1, Int.toNat_of_nonneg m1.1, Int.toNat_of_nonneg m2.1, Int.toNat_of_nonneg m3.1, Int.toNat_of_nonneg m4.1, Int.toNat_of_nonneg m5.1]
        · show a0.toNat ≤ 255; omega
        · intro i; unfold MV.num; split <;> first | (dsimp only; omega) | omega
        · intro i
          unfold MV.text
          split
          · exact t0
          · exact t1
          · show (0 : Nat) ≤ _; omega
        · have e : (a3.xs.flatMap fun s => [Value.string s]) = a3.xs.map sv := by
            induction a3.xs with
            | nil => rfl
            | cons x r ih => rw [List.flatMap_cons, ih]; rfl
          rw [e] at v3
          exact ⟨by rw [v3.len, Nat.mul_one]; exact v3.cap, v3.small, v3.nil0, v3.rd⟩
end
theorem openMsg (W : World) : Opens Try.prog W 29 (fun m : MV => (mvA m).toList) (MvOk W) :=
  opens_msg Try.underlying29 (by kernel_rfl) ⟨rfl, rfl, rfl, rfl⟩ ⟨by kernel_rfl, by kernel_rfl, by kernel_rfl, by kernel_rfl⟩
    (opens_int Try.underlying5) (opens_array Try.underlying25 (by kernel_rfl) (by kernel_rfl) (opens_int Try.underlying24)) (opens_array Try.underlying26 (by kernel_rfl) (by kernel_rfl) (opens_string Try.underlying9))
    (opens_slice (size := 1) Try.underlying27 (by kernel_rfl) (by omega) (fun _ => rfl) (opens_string Try.underlying9))
end Go.Proofs.Ytpmfdlghckfgiaa
set_option linter.unusedVariables false
namespace Go.Proofs.Ytpmfdlghckfgiaa
open Go.RowKit
def wireN (t : Int) : Nat := if t = 5 then 5 else if t = 6 then 1 else if 7 ≤ t ∧ t ≤ 10 then 2 else 0
def wireK (t : Int) : Bool := decide (1 ≤ t ∧ t ≤ 10)
def mostN (t : Int) : Nat := if t = 7 ∨ t = 10 then 64 else if t = 8 then 4096 else if t = 9 then 7000 else 0
def wireD (t : Int) : Nat := if t ≤ 4 then 0 else if t = 5 then 5 else if t = 6 then 1 else 2
set_option maxRecDepth 100000 in
theorem swire_any (t : Int) (w : World) : Calls Try.prog 72 #[.int .i64 t] w fun e w' => e = .returned (.tuple #[.int .u8 (wireN t : Nat), .bool (wireK t)]) ∧ w' = w := by
  by_cases hr : 1 ≤ t ∧ t ≤ 10
  · have h : t = 1 ∨ t = 2 ∨ t = 3 ∨ t = 4 ∨ t = 5 ∨ t = 6 ∨ t = 7 ∨ t = 8 ∨ t = 9 ∨ t = 10 := by omega
    clear hr
    rcases h with rfl | rfl | rfl | rfl | rfl | rfl | rfl | rfl | rfl | rfl
    · go_enter Try.func72, Try.ntmps72
      go_wp2
      refine bodyPost_ret (v := .tuple #[.int .u8 (wireN 1 : Nat), .bool (wireK 1)]) (by simp [results, Try.results72, go_sem, wireN, wireK]) rfl ⟨rfl, rfl⟩
    · go_enter Try.func72, Try.ntmps72
      go_wp2
      refine bodyPost_ret (v := .tuple #[.int .u8 (wireN 2 : Nat), .bool (wireK 2)]) (by simp [results, Try.results72, go_sem, wireN, wireK]) rfl ⟨rfl, rfl⟩
    · go_enter Try.func72, Try.ntmps72
      go_wp2
      refine bodyPost_ret (v := .tuple #[.int .u8 (wireN 3 : Nat), .bool (wireK 3)]) (by simp [results, Try.results72, go_sem, wireN, wireK]) rfl ⟨rfl, rfl⟩
    · go_enter Try.func72, Try.ntmps72
      go_wp2
      refine bodyPost_ret (v := .tuple #[.int .u8 (wireN 4 : Nat), .bool (wireK 4)]) (by simp [results, Try.results72, go_sem, wireN, wireK]) rfl ⟨rfl, rfl⟩
    · go_enter Try.func72, Try.ntmps72
      go_wp2
      refine bodyPost_ret (v := .tuple #[.int .u8 (wireN 5 : Nat), .bool (wireK 5)]) (by simp [results, Try.results72, go_sem, wireN, wireK]) rfl ⟨rfl, rfl⟩
    · go_enter Try.func72, Try.ntmps72
      go_wp2
      refine bodyPost_ret (v := .tuple #[.int .u8 (wireN 6 : Nat), .bool (wireK 6)]) (by simp [results, Try.results72, go_sem, wireN, wireK]) rfl ⟨rfl, rfl⟩
    · go_enter Try.func72, Try.ntmps72
      go_wp2
      refine bodyPost_ret (v := .tuple #[.int .u8 (wireN 7 : Nat), .bool (wireK 7)]) (by simp [results, Try.results72, go_sem, wireN, wireK]) rfl ⟨rfl, rfl⟩
    · go_enter Try.func72, Try.ntmps72
      go_wp2
      refine bodyPost_ret (v := .tuple #[.int .u8 (wireN 8 : Nat), .bool (wireK 8)]) (by simp [results, Try.results72, go_sem, wireN, wireK]) rfl ⟨rfl, rfl⟩
    · go_enter Try.func72, Try.ntmps72
      go_wp2
      refine bodyPost_ret (v := .tuple #[.int .u8 (wireN 9 : Nat), .bool (wireK 9)]) (by simp [results, Try.results72, go_sem, wireN, wireK]) rfl ⟨rfl, rfl⟩
    · go_enter Try.func72, Try.ntmps72
      go_wp2
      refine bodyPost_ret (v := .tuple #[.int .u8 (wireN 10 : Nat), .bool (wireK 10)]) (by simp [results, Try.results72, go_sem, wireN, wireK]) rfl ⟨rfl, rfl⟩
  · have hB : wireK t = false := decide_eq_false hr
    have hN : wireN t = 0 := by unfold wireN; rw [if_neg (by omega), if_neg (by omega), if_neg (by omega)]
    rw [hB, hN]
    have b1 : (t == 1) = false := by simp; omega
    have b2 : (t == 2) = false := by simp; omega
    have b3 : (t == 3) = false := by simp; omega
    have b4 : (t == 4) = false := by simp; omega
    have b5 : (t == 5) = false := by simp; omega
    have b6 : (t == 6) = false := by simp; omega
    have b7 : (t == 7) = false := by simp; omega
    have b8 : (t == 8) = false := by simp; omega
    have b9 : (t == 9) = false := by simp; omega
    have b10 : (t == 10) = false := by simp; omega
    clear hB hN hr
    go_enter Try.func72, Try.ntmps72
    go_wp2
    refine bodyPost_ret (v := .tuple #[.int .u8 0, .bool false]) (by simp [results, Try.results72, go_sem]) rfl ⟨rfl, rfl⟩
set_option maxRecDepth 100000 in
theorem smost_any (t : Int) (w : World) : Calls Try.prog 46 #[.int .i64 t] w fun e w' => e = .returned (.int .i64 (mostN t : Nat)) ∧ w' = w := by
  by_cases hr : 7 ≤ t ∧ t ≤ 10
  · have h : t = 7 ∨ t = 8 ∨ t = 9 ∨ t = 10 := by omega
    clear hr
    rcases h with rfl | rfl | rfl | rfl <;>
    · go_enter Try.func46, Try.ntmps46
      go_wp2
      go_ret
      exact ⟨rfl, rfl⟩
  · have hN : mostN t = 0 := by unfold mostN; rw [if_neg (by omega), if_neg (by omega), if_neg (by omega)]
    rw [hN]
    have b7 : (t == 7) = false := by simp; omega
    have b8 : (t == 8) = false := by simp; omega
    have b9 : (t == 9) = false := by simp; omega
    have b10 : (t == 10) = false := by simp; omega
    clear hN hr
    go_enter Try.func46, Try.ntmps46
    go_wp2
    go_ret
    exact ⟨rfl, rfl⟩
set_option maxRecDepth 100000 in
theorem rmost_any (t : Int) (w : World) : Calls Try.prog 36 #[.int .i64 t] w fun e w' => e = .returned (.int .i64 (mostN t : Nat)) ∧ w' = w := by
  by_cases hr : 7 ≤ t ∧ t ≤ 10
  · have h : t = 7 ∨ t = 8 ∨ t = 9 ∨ t = 10 := by omega
    clear hr
    rcases h with rfl | rfl | rfl | rfl <;>
    · go_enter Try.func36, Try.ntmps36
      go_wp2
      go_ret
      exact ⟨rfl, rfl⟩
  · have hN : mostN t = 0 := by unfold mostN; rw [if_neg (by omega), if_neg (by omega), if_neg (by omega)]
    rw [hN]
    have b7 : (t == 7) = false := by simp; omega
    have b8 : (t == 8) = false := by simp; omega
    have b9 : (t == 9) = false := by simp; omega
    have b10 : (t == 10) = false := by simp; omega
    clear hN hr
    go_enter Try.func36, Try.ntmps36
    go_wp2
    go_ret
    exact ⟨rfl, rfl⟩
set_option maxRecDepth 100000 in
theorem rwire_any (t : Int) (w : World) : Calls Try.prog 34 #[.int .i64 t] w fun e w' => e = .returned (.int .u8 (wireD t : Nat)) ∧ w' = w := by
  by_cases h4 : t ≤ 4
  · have hN : wireD t = 0 := by unfold wireD; rw [if_pos h4]
    have h4n : ¬ 4 < t := by omega
    rw [hN]
    clear hN
    go_enter Try.func34, Try.ntmps34
    go_wp2
    go_ret
    exact ⟨rfl, rfl⟩
  · have h4n : 4 < t := by omega
    by_cases h5 : t = 5
    · subst h5
      go_enter Try.func34, Try.ntmps34
      go_wp2
      go_ret
      exact ⟨rfl, rfl⟩
    · by_cases h6 : t = 6
      · subst h6
        go_enter Try.func34, Try.ntmps34
        go_wp2
        go_ret
        exact ⟨rfl, rfl⟩
      · have hN : wireD t = 2 := by unfold wireD; rw [if_neg h4, if_neg h5, if_neg h6]
        rw [hN]
        have b5 : (t == 5) = false := by simpa using h5
        have b6 : (t == 6) = false := by simpa using h6
        clear hN h5 h6
        go_enter Try.func34, Try.ntmps34
        go_wp2
        go_ret
        exact ⟨rfl, rfl⟩
end Go.Proofs.Ytpmfdlghckfgiaa
set_option linter.unusedVariables false
namespace Go.Proofs.Ytpmfdlghckfgiaa
open Go.RowKit
/-- What is wrong with a text of so many bytes at most. -/
def chk (s : ByteArray) (most : Int) : Int := checkI s.data.toList.length (scan s.data.toList 0).2 most
def txtE (most : Int) : List ByteArray → Int
  | [] => 0
  | s :: r => if chk s most = 0 then txtE most r else chk s most
def lstE (l : List ByteArray) : Int := if 64 < l.length then 2 else txtE 64 l
def wrongE (m : MV) (t i : Int) : Int :=
  if t = 1 ∨ t = 5 then (if 4294967295 < m.num i then 1 else 0) else if t = 4 then (if 1 < m.num i then 1 else 0) else if 7 ≤ t ∧ t ≤ 9 then chk (m.text i) (mostN t : Nat) else if t = 10 then lstE m.l else 0
theorem uchk_any (s : ByteArray) (most : Int) (w : World) (hl : s.size ≤ 9223372036854775807) (h1 : -9223372036854775808 ≤ most) (h2 : most ≤ 9223372036854775807) :
    Calls Try.prog 45 #[.string s, .int .i64 most] w fun e w' => e = .returned (.int .i64 (chk s most)) ∧ Below w.heap.size w w' := check_any s s.data.toList most w rfl (by simpa using hl) h1 h2
theorem rchk_any (s : ByteArray) (most : Int) (w : World) (hl : s.size ≤ 9223372036854775807) (h1 : -9223372036854775808 ≤ most) (h2 : most ≤ 9223372036854775807) :
    Calls Try.prog 35 #[.string s, .int .i64 most] w fun e w' => e = .returned (.int .i64 (chk s most)) ∧ w = w' := rcheck_any s s.data.toList most w rfl (by simpa using hl) h1 h2
theorem smost10 (w : World) : Calls Try.prog 46 #[.int .i64 10] w fun e w' => e = .returned (.int .i64 64) ∧ w' = w := smost_any 10 w
end Go.Proofs.Ytpmfdlghckfgiaa
set_option linter.unusedVariables false
namespace Go.Proofs.Ytpmfdlghckfgiaa
open Go.RowKit
/-- A message and a field in boxes of their own. -/
structure Bx2 (w W : World) (s len : Nat) (m : MV) (num t i : Int) : Prop where
  z : W.heap.size = s + 2
  b0 : Blk W s 29 #[.int .u8 (m.k : Int), .int .u64 (m.n0 : Int), .int .u64 (m.n1 : Int), .int .u64 (m.n2 : Int), .int .u64 (m.n3 : Int), .int .u64 (m.n4 : Int), .int .u64 (m.n5 : Int), .string m.s0, .string m.s1, .slice m.A len m.c]
  b1 : Blk W (s + 1) 48 #[.int .i64 num, .int .i64 t, .int .i64 i]
  bel : Below s w W
theorem wr_num (m : MV) (t i : Int) (h : t = 1 ∨ t = 5) : wrongE m t i = if 4294967295 < m.num i then 1 else 0 := by unfold wrongE; rw [if_pos h]
theorem wr_bool (m : MV) (i : Int) : wrongE m 4 i = if 1 < m.num i then 1 else 0 := by unfold wrongE; rw [if_neg (by omega), if_pos rfl]
theorem wr_text (m : MV) (t i : Int) (h : 7 ≤ t ∧ t ≤ 9) : wrongE m t i = chk (m.text i) (mostN t : Nat) := by unfold wrongE; rw [if_neg (by omega), if_neg (by omega), if_pos h]
theorem wr_list (m : MV) (i : Int) : wrongE m 10 i = lstE m.l := by unfold wrongE; rw [if_neg (by omega), if_neg (by omega), if_neg (by omega), if_pos rfl]
theorem wr_out (m : MV) (t i : Int) (h : t = 2 ∨ t = 3 ∨ t = 6 ∨ t < 1 ∨ 10 < t) : wrongE m t i = 0 := by unfold wrongE; rw [if_neg (by omega), if_neg (by omega), if_neg (by omega), if_neg (by omega)]
end Go.Proofs.Ytpmfdlghckfgiaa
set_option linter.unusedVariables false
namespace Go.Proofs.Ytpmfdlghckfgiaa
open Go.RowKit
/-- The first field with which something is wrong. -/
def fldE (m : MV) (r : SRow) : Int := if dflB m (r.typ : Nat) (r.slot : Nat) then 0 else wrongE m (r.typ : Nat) (r.slot : Nat)
theorem fstore {w : World} {p : Nat} {o0 o1 : Value} (h : Blk w p 32 #[o0, o1]) (x0 x1 : Value) : Blk ((w.setCell ⟨p, 0, none⟩ x0).setCell ⟨p, 1, none⟩ x1) p 32 #[x0, x1] ∧ Chg (fun q => q = p) w ((w.setCell ⟨p, 0, none⟩ x0).setCell ⟨p, 1, none⟩ x1) := by
  refine ⟨by simpa using (h.set_ 0 x0).set_ 1 x1, ((Chg.refl (fun q => q = p) w).set_ (.inl rfl) 0 x0).set_ (.inl rfl) 1 x1⟩
end Go.Proofs.Ytpmfdlghckfgiaa
set_option linter.unusedVariables false
namespace Go.Proofs.Ytpmfdlghckfgiaa
open Go.RowKit
end Go.Proofs.Ytpmfdlghckfgiaa
set_option linter.unusedVariables false
namespace Go.Proofs.Ytpmfdlghckfgiaa
open Go.RowKit
end Go.Proofs.Ytpmfdlghckfgiaa
set_option linter.unusedVariables false
namespace Go.Proofs.Ytpmfdlghckfgiaa
open Go.RowKit
end Go.Proofs.Ytpmfdlghckfgiaa
set_option linter.unusedVariables false
namespace Go.Proofs.Ytpmfdlghckfgiaa
open Go.RowKit
def rowC (r : SRow) : List Value := [.int .i64 (r.num : Nat), .int .i64 (r.typ : Nat), .int .i64 (r.slot : Nat), .int .i64 (r.since : Nat)]
theorem sln_lit (w : World) (t : TypeId) (xs : List Value) (cs : Array Value) (n size : Nat) (h : cs.toList = xs) (hl : xs.length = n * size) (hm : n ≤ 1000) : SlN (w.alloc (.cells cs t)) (some ⟨w.heap.size, 0, none⟩) n n size xs :=
  ⟨hl, Nat.le_refl _, by omega, (fun h => by cases h), by rw [← h]; exact Rd.new w t cs⟩
/-- Rows of the document. -/
def RowsR (w : World) (k : Int) (e : Ending) (w' : World) : Prop := ∃ A c, e = .returned (.slice A (ofK k).length c) ∧ SlN w' A (ofK k).length c 4 ((ofK k).flatMap rowC) ∧ Below w.heap.size w w'
theorem rowsR_lit (w : World) (k : Int) (n : Nat) (cs : Array Value) (t : TypeId) (hn : (ofK k).length = n) (hm : n ≤ 1000) (hc : cs.toList = (ofK k).flatMap rowC) : RowsR w k (.returned (.slice (some ⟨w.heap.size, 0, none⟩) n n)) (w.alloc (.cells cs t)) := by
  subst hn
  refine ⟨_, _, rfl, sln_lit w t _ cs _ 4 hc ?_ hm, bw_a (Below.refl _ w) _⟩
  exact flatMap_length rowC 4 _ (fun _ _ => rfl)
set_option maxRecDepth 100000 in
set_option maxHeartbeats 2000000 in
theorem rrows_any (k : Int) (w : World) (hk0 : 0 ≤ k) (hk : k ≤ 255) : Calls Try.prog 31 #[.int .u8 k] w (RowsR w k) := by
  have hcase : k = 1 ∨ k = 2 ∨ k = 3 ∨ k = 4 ∨ k = 5 ∨ k = 6 ∨ k = 7 ∨ k = 8 ∨ k = 9 ∨ k = 10 ∨ (k = 0 ∨ 10 < k) := by omega
  rcases hcase with rfl | rfl | rfl | rfl | rfl | rfl | rfl | rfl | rfl | rfl | hk2
  · go_enter Try.func31, Try.ntmps31
    go_wp2
    go_ret
    exact rowsR_lit w 1 _ _ _ (by decide +kernel) (by omega) (by kernel_rfl)
  · go_enter Try.func31, Try.ntmps31
    go_wp2
    go_ret
    exact rowsR_lit w 2 _ _ _ (by decide +kernel) (by omega) (by kernel_rfl)
  · go_enter Try.func31, Try.ntmps31
    go_wp2
    go_ret
    exact rowsR_lit w 3 _ _ _ (by decide +kernel) (by omega) (by kernel_rfl)
  · go_enter Try.func31, Try.ntmps31
    go_wp2
    go_ret
    exact rowsR_lit w 4 _ _ _ (by decide +kernel) (by omega) (by kernel_rfl)
  · go_enter Try.func31, Try.ntmps31
    go_wp2
    go_ret
    exact rowsR_lit w 5 _ _ _ (by decide +kernel) (by omega) (by kernel_rfl)
  · go_enter Try.func31, Try.ntmps31
    go_wp2
    go_ret
    exact rowsR_lit w 6 _ _ _ (by decide +kernel) (by omega) (by kernel_rfl)
  · go_enter Try.func31, Try.ntmps31
    go_wp2
    go_ret
    exact rowsR_lit w 7 _ _ _ (by decide +kernel) (by omega) (by kernel_rfl)
  · go_enter Try.func31, Try.ntmps31
    go_wp2
    go_ret
    exact rowsR_lit w 8 _ _ _ (by decide +kernel) (by omega) (by kernel_rfl)
  · go_enter Try.func31, Try.ntmps31
    go_wp2
    go_ret
    exact rowsR_lit w 9 _ _ _ (by decide +kernel) (by omega) (by kernel_rfl)
  · go_enter Try.func31, Try.ntmps31
    go_wp2
    go_ret
    exact rowsR_lit w 10 _ _ _ (by decide +kernel) (by omega) (by kernel_rfl)
  · have hof : ofK k = [] := by
      unfold ofK
      rw [List.filter_eq_nil_iff]
      intro r hr
      have h2 := List.all_eq_true.1 (show ROWS.all (fun r => decide (1 ≤ r.kind ∧ r.kind ≤ 10)) = true by decide) r hr
      simp at h2 ⊢
      omega
    have hR : RowsR w k (.returned (.slice none 0 0)) w := ⟨none, 0, by rw [hof]; rfl, by rw [hof]; exact ⟨rfl, Nat.le_refl _, by show (0:Nat) ≤ _; omega, fun _ => rfl, Rd.nil_ w none⟩, Below.refl _ _⟩
    have HR := hid hR
    clear hR hof
    have n1 : (k == 1) = false := by simp; omega
    have n2 : (k == 2) = false := by simp; omega
    have n3 : (k == 3) = false := by simp; omega
    have n4 : (k == 4) = false := by simp; omega
    have n5 : (k == 5) = false := by simp; omega
    have n6 : (k == 6) = false := by simp; omega
    have n7 : (k == 7) = false := by simp; omega
    have n8 : (k == 8) = false := by simp; omega
    have n9 : (k == 9) = false := by simp; omega
    have n10 : (k == 10) = false := by simp; omega
    go_enter Try.func31, Try.ntmps31
    go_wp2
    go_ret
    exact HR.out
/-- The document's fields of a kind in a version. -/
def OfR (w : World) (k v : Int) (e : Ending) (w' : World) : Prop := ∃ A c, e = .returned (.slice A (ofL k v).length c) ∧ SlN w' A (ofL k v).length c 3 ((ofL k v).flatMap specC) ∧ Below w.heap.size w w'
def accR (k v : Int) (j : Nat) : List SRow := ((ofK k).take j).filter fun r => decide ((r.since : Int) ≤ v)
theorem accR_has (k v : Int) (j : Nat) (hj : j < (ofK k).length) (h : ((ofK k)[j].since : Int) ≤ v) : accR k v (j + 1) = accR k v j ++ [(ofK k)[j]] := by
  unfold accR
  rw [List.take_succ_eq_append_getElem hj, List.filter_append, List.filter_cons_of_pos (by simpa using h)]; rfl
theorem accR_not (k v : Int) (j : Nat) (hj : j < (ofK k).length) (h : ¬ ((ofK k)[j].since : Int) ≤ v) : accR k v (j + 1) = accR k v j := by
  unfold accR
  rw [List.take_succ_eq_append_getElem hj, List.filter_append, List.filter_cons_of_neg (by simpa using h), List.filter_nil, List.append_nil]
theorem accR_len (k v : Int) (j : Nat) : (accR k v j).length ≤ j := by
  unfold accR
  have h := List.length_filter_le (fun r : SRow => decide ((r.since : Int) ≤ v)) ((ofK k).take j)
  rw [List.length_take] at h
  omega
theorem ofK_len (k : Int) : (ofK k).length ≤ 40 := List.length_filter_le _ _
set_option maxRecDepth 100000 in
set_option maxHeartbeats 4000000 in
theorem r8of_any (k v : Int) (w : World) (hk0 : 0 ≤ k) (hk : k ≤ 255) (hv1 : -9223372036854775808 ≤ v) (hv2 : v ≤ 9223372036854775807) : Calls Try.prog 16 #[.int .u8 k, .int .i64 v] w (OfR w k v) := by
  have hnil : (v < 1 ∨ 3 < v) → OfR w k v (.returned (.slice none 0 0)) w := fun h => by
    have h0 : kn v = [] := by rcases kn_one v with rfl | rfl | rfl | ⟨-, h0⟩ <;> first | exact h0 | omega
    have hof := ofL_nil k v h0
    exact ⟨none, 0, by rw [hof]; rfl, by rw [hof]; exact ⟨rfl, Nat.le_refl _, by show (0:Nat) ≤ _; omega, fun _ => rfl, Rd.nil_ w none⟩, Below.refl _ _⟩
  have HNIL := hid hnil
  clear hnil
  by_cases hlo : v < 1
  · go_enter Try.func16, Try.ntmps16
    go_wp2
    go_ret
    exact HNIL.out (.inl hlo)
  by_cases hhi : 3 < v
  · go_enter Try.func16, Try.ntmps16
    go_wp2
    go_ret
    exact HNIL.out (.inr hhi)
  have hin := ofL_in k v hhi
  have HIN := hid hin
  have HROWS := hid (rrows_any k w hk0 hk)
  obtain ⟨i5, hi5, hi50, hi51, hi52⟩ := info_parts Try.infoSpec
  have hk40 := ofK_len k
  have hhas := accR_has k v
  have hnot := accR_not k v
  have hall : accR k v (ofK k).length = ofL k v := by rw [hin]; unfold accR; rw [List.take_length]
  have HALL := hid hall
  have HHAS := hid hhas
  have HNOT := hid hnot
  clear hin hall hhas hnot HNIL
  obtain ⟨R, hR⟩ : ∃ R, OfR w k v = R := ⟨_, rfl⟩
  rw [hR]
  have HR := hid hR
  clear hR
  go_enter Try.func16, Try.ntmps16
  go_wp2_with fail
  refine HROWS.out.mono ?_
  rintro e w1 ⟨A, c, rfl, hs1, hb1⟩
  obtain ⟨m, hm⟩ : ∃ m, (ofK k).length = m := ⟨_, rfl⟩
  rw [hm] at hs1 HALL hk40
  rw [hm]
  have HM := hid hm
  have HS1 := hid hs1
  have HB1 := hid hb1
  clear hm hs1 hb1 HROWS
  go_wp2_with fail
  go_loopw [5, 7] (fun vv i wr => ∃ j : Nat, j ≤ m ∧ i = .int .i64 (j : Int) ∧ wr.ownsRow w1.heap.size 48 3 vv (accR k v j).length ((accR k v j).flatMap specC) ∧ Below w1.heap.size w1 wr) (fun _ i _ => m - (intOf i).toNat)
  case atStart => exact ⟨0, by omega, rfl, World.ownsRow_nil _ _ _ _, Below.refl _ _⟩
  case round =>
    obtain ⟨j, hj, rfl, ho, hB⟩ := hrel
    by_cases hlt : j < m
    · have hjl : j < (ofK k).length := by have := HM.out; omega
      have hn0 : ((ofK k).flatMap rowC)[j * 4 + 0]? = _ := flatMap_get rowC 4 (ofK k) j 0 hjl (fun _ _ => rfl) (by omega)
      have hn1 : ((ofK k).flatMap rowC)[j * 4 + 1]? = _ := flatMap_get rowC 4 (ofK k) j 1 hjl (fun _ _ => rfl) (by omega)
      have hn2 : ((ofK k).flatMap rowC)[j * 4 + 2]? = _ := flatMap_get rowC 4 (ofK k) j 2 hjl (fun _ _ => rfl) (by omega)
      have hn3 : ((ofK k).flatMap rowC)[j * 4 + 3]? = _ := flatMap_get rowC 4 (ofK k) j 3 hjl (fun _ _ => rfl) (by omega)
      have hhas := HHAS.out j hjl
      have hnot := HNOT.out j hjl
      have hal := accR_len k v j
      obtain ⟨b, off, rfl, hbw, t0⟩ := HS1.out.rd _ _ hn0
      have u1 := HS1.out.rd.addr _ _ hn1
      have u2 := HS1.out.rd.addr _ _ hn2
      have u3 := HS1.out.rd.addr _ _ hn3
      rw [addr_add] at u1 u2 u3
      simp only [Nat.add_zero, ← Nat.add_assoc] at t0 u1 u2 u3
      have t0 := (hB.cell (p := ⟨b, off + j * 4, none⟩) hbw).trans t0
      have t1 := (hB.cell (p := ⟨b, off + j * 4 + 1, none⟩) hbw).trans u1
      have t2 := (hB.cell (p := ⟨b, off + j * 4 + 2, none⟩) hbw).trans u2
      have t3 := (hB.cell (p := ⟨b, off + j * 4 + 3, none⟩) hbw).trans u3
      have hji : (j : Int) < (m : Int) := by omega
      have hj0 : (0 : Int) ≤ (j : Int) := by omega
      clear hn0 hn1 hn2 hn3 u1 u2 u3
      generalize (ofK k)[j] = r at *
      obtain ⟨rk, si, nu, ty, sl⟩ := r
      simp only at t0 t1 t2 t3 hhas hnot
      have HO := hid ho
      have HBB := hid hB
      have HHJ := hid hhas
      have HNJ := hid hnot
      clear ho hB hhas hnot
      by_cases hsi : (si : Int) ≤ v
      · have HHJ2 := hid (HHJ.out hsi)
        have hlen := hal
        have hBs := HBB.out.size
        have hob := HO.out
        have ab : u5.ownBlock ≠ some b := fun e => by have := (hob.lt b e).1; omega
        clear HHJ HNJ
        generalize accR k v j = P at *
        generalize hpl : P.length = pl at *
        generalize hpc : P.flatMap specC = pc at *
        have hn5 : pl + 1 ≤ maxLen := by simp only [maxLen]; omega
        have hb5 : (pl + 1) * 24 ≤ 140737488355328 := by omega
        have HPL := hid hpl
        have HPC := hid hpc
        clear hpl hpc HO
        go_wp2_with fail
        go_region_held3 (fun w' => w'.cell? ⟨b, off + j * 4, none⟩ = some (.int .i64 (nu : Int)) ∧ w'.cell? ⟨b, off + j * 4 + 1, none⟩ = some (.int .i64 (ty : Int)) ∧ w'.cell? ⟨b, off + j * 4 + 2, none⟩ = some (.int .i64 (sl : Int)))
          (first
            | go_keep
            | (go_split_ands
               refine ⟨?_, ?_, ?_⟩
               · (rw [hgrow.cell_far _ (by simp; omega) (Ne.symm ab)]; assumption)
               · (rw [hgrow.cell_far _ (by simp; omega) (Ne.symm ab)]; assumption)
               · (rw [hgrow.cell_far _ (by simp; omega) (Ne.symm ab)]; assumption)))
          ((refine step_append_lies _ (by rfl) _ _ _ (by rfl) w1.heap.size 48 i5 _ 3 24 Try.underlying53 hi5 hi50 hi51 hi52 rfl (by omega) u5 pl pc (by rfl) ((hob.alloc _).drew)
              ⟨wr.heap.size, 0, none⟩ 1 1 [.int .i64 (nu : Int), .int .i64 (ty : Int), .int .i64 (sl : Int)] (by rfl) (by rfl) (World.news_of_block (cs := #[.int .i64 (nu : Int), .int .i64 (ty : Int), .int .i64 (sl : Int)]) (t := 48) (fr := (0, 0)) (heap_alloc_new wr _)) (by simp [Value.oneCell'])
              (by omega) hn5 hb5 (by simp; omega) (wr.heap.size + 1) (by simp) ?_; intro gg cap w5 hown1 hgrow hat hlt5))
        have hB5 : Below w1.heap.size w1 w5 := bw_g (bw_d (bw_a HBB.out _) 1) hgrow (fun g hg => (hob.lt g hg).1)
        have HF := hid (And.intro hown1 hB5)
        clear hown1 hgrow hat hlt5 hB5 hob
        go_wp2_with fail
        refine ⟨⟨j + 1, by omega, by go_num, ?_, HF.out.2⟩, by simp [intOf] <;> omega⟩
        rw [HHJ2.out, List.length_append, List.flatMap_append, HPL.out, HPC.out]
        simpa [specC] using HF.out.1
      · go_wp2_with fail
        exact ⟨⟨j + 1, by omega, by go_num, by rw [HNJ.out (by omega)]; exact HO.out, HBB.out⟩, by simp [intOf] <;> omega⟩
    · obtain rfl : j = m := by omega
      rw [HALL.out] at ho
      obtain ⟨A2, c2, rfl, hs2⟩ := SlN.of_own (by omega) ho
      have HS2 := hid hs2
      have HBB := hid hB
      clear ho hs2 hB
      go_wp2_with fail
      rw [← HR.out]
      exact ⟨A2, c2, rfl, HS2.out, HB1.out.trans (HBB.out.mono HB1.out.size)⟩
set_option maxRecDepth 100000 in
set_option maxHeartbeats 2000000 in
theorem r8find_any (k v n : Int) (w : World) (hk0 : 0 ≤ k) (hk : k ≤ 255) (hv1 : -9223372036854775808 ≤ v) (hv2 : v ≤ 9223372036854775807) : Calls Try.prog 33 #[.int .u8 k, .int .i64 v, .int .i64 n] w fun e w' => e = .returned (.tuple #[specO (finS k v n), .bool (finS k v n).isSome]) ∧ Below w.heap.size w w' := by
  have hof := fun W => r8of_any k v W hk0 hk hv1 hv2
  have hfs := finS_of k v n
  have HOF := hid hof
  obtain ⟨R, hR⟩ : ∃ R : Ending → World → Prop, R = fun e w' => e = .returned (.tuple #[specO (finS k v n), .bool (finS k v n).isSome]) ∧ Below w.heap.size w w' := ⟨_, rfl⟩
  rw [← hR]
  have HR := hid hR
  have HFS := hid hfs
  clear hR hof hfs
  go_enter Try.func33, Try.ntmps33
  go_wp2_with fail
  obtain ⟨s, hsz⟩ : ∃ s, w.heap.size = s := ⟨_, rfl⟩
  have hk0' := Blk.new w 48 #[.int .i64 0, .int .i64 0, .int .i64 0]
  have hb0 := bw_a (Below.refl w.heap.size w) (.cells #[.int .i64 0, .int .i64 0, .int .i64 0] 48)
  rw [hsz] at hk0' hb0 ⊢
  generalize w.alloc _ = w0 at *
  refine (HOF.out w0).mono ?_
  rintro e w1 ⟨A, c, rfl, hs1, hb1⟩
  have hk1 := hk0'.below hb1 hk0'.lt
  have hb01 : Below s w w1 := hb0.trans (hb1.mono (Nat.le_of_lt hk0'.lt))
  have hq40 := ofL_le40 k v
  obtain ⟨L, hL⟩ : ∃ L, ofL k v = L := ⟨_, rfl⟩
  rw [hL] at hs1 HFS hq40
  rw [hL]
  clear hL hb1 hk0' hb0 HOF
  obtain ⟨m, hm⟩ : ∃ m, L.length = m := ⟨_, rfl⟩
  rw [hm] at hs1 hq40
  rw [hm]
  have HM := hid hm
  have HS1 := hid hs1
  have HK1 := hid hk1
  have HB1 := hid hb01
  have hf0 := hk1.frozen 0
  have hf1 := hk1.frozen 1
  have hf2 := hk1.frozen 2
  have c0 := hk1.cell 0
  have c1 := hk1.cell 1
  have c2 := hk1.cell 2
  simp only [List.getElem?_toArray, List.getElem?_cons_zero, List.getElem?_cons_succ] at c0 c1 c2
  clear hm hs1 hk1 hb01
  go_wp2_with fail
  have hend := fun (x y z : Value) => ((HK1.out.set_ 0 x).set_ 1 y).set_ 2 z
  have hendb := fun (x y z : Value) => ((((Chg.refl (fun q => q = s) w1).set_ (.inl rfl) 0 x).set_ (.inl rfl) 1 y).set_ (.inl rfl) 2 z).below (B := s) (fun q hq => by omega) (by have := HK1.out.lt; omega)
  have HEND := hid hend
  have HENDB := hid hendb
  clear hend hendb
  go_loopw [9] (fun i wr => ∃ j : Nat, j ≤ m ∧ i = .int .i64 (j : Int) ∧ (L.take j).find? (fun r => decide ((r.num : Int) = n)) = none ∧ wr = w1) (fun i _ => m - (intOf i).toNat)
  case atStart => exact ⟨0, by omega, rfl, rfl, rfl⟩
  case round =>
    obtain ⟨j, hj, rfl, hno, rfl⟩ := hrel
    by_cases hlt : j < m
    · have hjl : j < L.length := by have := HM.out; omega
      have hn0 : (L.flatMap specC)[j * 3 + 0]? = _ := flatMap_get specC 3 L j 0 hjl (fun _ _ => rfl) (by omega)
      have hn1 : (L.flatMap specC)[j * 3 + 1]? = _ := flatMap_get specC 3 L j 1 hjl (fun _ _ => rfl) (by omega)
      have hn2 : (L.flatMap specC)[j * 3 + 2]? = _ := flatMap_get specC 3 L j 2 hjl (fun _ _ => rfl) (by omega)
      have hfound : ((L[j].num : Int) = n) → L.find? (fun r => decide ((r.num : Int) = n)) = some L[j] := fun h => by
        have h1 : L = L.take j ++ (L[j] :: L.drop (j + 1)) := by rw [List.getElem_cons_drop, List.take_append_drop]
        conv => lhs; rw [h1]
        rw [List.find?_append, hno, Option.none_or, List.find?_cons_of_pos (by simpa using h)]
      have hnext : ¬ ((L[j].num : Int) = n) → (L.take (j + 1)).find? (fun r => decide ((r.num : Int) = n)) = none := fun h => by
        rw [List.take_succ_eq_append_getElem hjl, List.find?_append, hno]
        simp [h]
      obtain ⟨b, off, rfl, hbw, t0⟩ := HS1.out.rd _ _ hn0
      have t1 := HS1.out.rd.addr _ _ hn1
      have t2 := HS1.out.rd.addr _ _ hn2
      rw [addr_add] at t1 t2
      simp only [Nat.add_zero, ← Nat.add_assoc] at t0 t1 t2
      have hji : (j : Int) < (m : Int) := by omega
      have hj0 : (0 : Int) ≤ (j : Int) := by omega
      clear hn0 hn1 hn2 hno
      generalize L[j] = r at *
      obtain ⟨rk, si, nu, ty, sl⟩ := r
      simp only at t0 t1 t2 hfound hnext
      have HFO := hid hfound
      have HNX := hid hnext
      clear hfound hnext
      by_cases hnu : (nu : Int) = n
      · have hnb : ((nu : Int) == n) = true := by simpa using hnu
        have hfin := HFO.out hnu
        rw [← HFS.out] at hfin
        have HFIN := hid hfin
        clear hfin HFO HNX hnu
        go_wp2_with fail
        have hbk := HEND.out (.int .i64 (nu : Nat)) (.int .i64 (ty : Nat)) (.int .i64 (sl : Nat))
        have hbb := HENDB.out (.int .i64 (nu : Nat)) (.int .i64 (ty : Nat)) (.int .i64 (sl : Nat))
        have g0 := hbk.cell 0
        have g1 := hbk.cell 1
        have g2 := hbk.cell 2
        generalize World.setCell (World.setCell _ _ _) _ _ = W9 at *
        simp at g0 g1 g2
        refine bodyPost_ret (v := .tuple #[.agg #[.int .i64 (nu : Nat), .int .i64 (ty : Nat), .int .i64 (sl : Nat)], .bool true]) (by simp [results, Try.results33, go_sem, g0, g1, g2]) rfl ?_
        rw [HR.out, HFIN.out, hsz]
        exact ⟨rfl, HB1.out.trans hbb⟩
      · have hnb : ((nu : Int) == n) = false := by simpa using hnu
        have hnx := HNX.out hnu
        have HNX2 := hid hnx
        clear hnx HFO HNX hnu
        go_wp2_with fail
        exact ⟨⟨j + 1, by omega, by go_num, HNX2.out, trivial⟩, by simp [intOf] <;> omega⟩
    · obtain rfl : j = m := by omega
      rw [List.take_of_length_le (by have := HM.out; omega), ← HFS.out] at hno
      have HNO := hid hno
      clear hno
      go_wp2_with fail
      have hbk := HEND.out (.int .i64 0) (.int .i64 0) (.int .i64 0)
      have hbb := HENDB.out (.int .i64 0) (.int .i64 0) (.int .i64 0)
      have g0 := hbk.cell 0
      have g1 := hbk.cell 1
      have g2 := hbk.cell 2
      generalize World.setCell (World.setCell _ _ _) _ _ = W9 at *
      simp at g0 g1 g2
      refine bodyPost_ret (v := .tuple #[.agg #[.int .i64 0, .int .i64 0, .int .i64 0], .bool false]) (by simp [results, Try.results33, go_sem, g0, g1, g2]) rfl ?_
      rw [HR.out, HNO.out, hsz]
      exact ⟨rfl, HB1.out.trans hbb⟩
end Go.Proofs.Ytpmfdlghckfgiaa
set_option linter.unusedVariables false
namespace Go.Proofs.Ytpmfdlghckfgiaa
open Go.RowKit
/-- What stands in a place. -/
def plN (m : MV) (t i : Int) : Nat := if 1 ≤ t ∧ t ≤ 6 then m.num i else 0
def plS (m : MV) (t i : Int) : ByteArray := if 7 ≤ t ∧ t ≤ 9 then m.text i else ⟨#[]⟩
def plV (m : MV) (t : Int) : Value := if t = 10 then .slice m.A m.l.length m.c else .slice none 0 0
end Go.Proofs.Ytpmfdlghckfgiaa
set_option linter.unusedVariables false
namespace Go.Proofs.Ytpmfdlghckfgiaa
open Go.RowKit
set_option maxRecDepth 100000 in
set_option maxHeartbeats 2000000 in
theorem rtexts_any (l l2 : List ByteArray) (n n2 : Nat) (A A2 : Option Addr) (c c2 : Nat) (w : World) (hn : l.length = n) (hn2 : l2.length = n2) (hs : Sl w A c (l.map sv)) (hs2 : Sl w A2 c2 (l2.map sv)) :
    Calls Try.prog 20 #[.slice A n c, .slice A2 n2 c2] w fun e w' => e = .returned (.bool (decide (l = l2))) ∧ ∃ q, w' = w.drewN q := by
  have hc1 : n ≤ 9223372036854775807 := by have g1 := hs.cap; have g2 := hs.small; rw [List.length_map] at g1; omega
  have hc2 : n2 ≤ 9223372036854775807 := by have g1 := hs2.cap; have g2 := hs2.small; rw [List.length_map] at g1; omega
  obtain ⟨R, hR⟩ : ∃ R, decide (l = l2) = R := ⟨_, rfl⟩
  rw [hR]
  have HR := hid hR
  have HN := hid hn
  have HN2 := hid hn2
  have HS := hid hs
  have HS2 := hid hs2
  clear hR hn hn2 hs hs2
  by_cases hne : n = n2
  · subst hne
    go_enter Try.func20, Try.ntmps20
    go_wp2_with fail
    go_loopw [5] (fun i wr => ∃ (j q : Nat), j ≤ n ∧ i = .int .i64 (j : Int) ∧ l.take j = l2.take j ∧ wr = w.drewN q) (fun i _ => n - (intOf i).toNat)
    case atStart => exact ⟨0, 0, by omega, rfl, rfl, rfl⟩
    case round =>
      obtain ⟨j, q, hj, rfl, heq, rfl⟩ := hrel
      by_cases hlt : j < n
      · have hj1 : j < l.length := by have := HN.out; omega
        have hj2 : j < l2.length := by have := HN2.out; omega
        obtain ⟨b, off, rfl, hbw, t0⟩ := HS.out.rd j (sv l[j]) (by simp [hj1])
        obtain ⟨d, of2, rfl, hdw, t1⟩ := HS2.out.rd j (sv l2[j]) (by simp [hj2])
        have hnx := take_next hj1 hj2 heq
        have hno : ¬ l[j] = l2[j] → l ≠ l2 := fun h e => by subst e; exact h rfl
        have hji : (j : Int) < (n : Int) := by omega
        have hj0 : (0 : Int) ≤ (j : Int) := by omega
        unfold sv at t0 t1
        generalize l[j] = x at *
        generalize l2[j] = y at *
        have HNX := hid hnx
        have HNO := hid hno
        clear hnx hno heq
        by_cases hxy : x = y
        · subst hxy
          have HX := hid (HNX.out rfl)
          clear HNX HNO
          go_wp2_with fail
          go_quiet (fail)
          go_wp2_with fail
          exact ⟨⟨j + 1, q + nq, by omega, by go_num, HX.out, rfl⟩, by simp [intOf] <;> omega⟩
        · have heb := bstr_ne' hxy
          have HX := hid (HNO.out hxy)
          clear HNX HNO hxy
          go_wp2_with fail
          go_quiet (fail)
          go_wp2_with fail
          go_ret
          exact ⟨by rw [← HR.out, decide_eq_false HX.out]; rfl, q + nq, World.drewN_drewN _ _ _⟩
      · obtain rfl : j = n := by omega
        have hll : l = l2 := by
          have h1 := heq
          rwa [List.take_of_length_le (by have := HN.out; omega), List.take_of_length_le (by have := HN2.out; omega)] at h1
        have HX := hid hll
        clear hll heq
        go_wp2_with fail
        go_ret
        exact ⟨by rw [← HR.out, decide_eq_true HX.out]; rfl, _, rfl⟩
  · have hneb : ((n : Int) != (n2 : Int)) = true := by simp; omega
    have hX : l ≠ l2 := fun e => hne (by rw [← HN.out, ← HN2.out, e])
    have HX := hid hX
    clear hX
    go_enter Try.func20, Try.ntmps20
    go_wp2_with fail
    go_ret
    exact ⟨by rw [← HR.out, decide_eq_false HX.out]; rfl, 0, rfl⟩
end Go.Proofs.Ytpmfdlghckfgiaa
set_option linter.unusedVariables false
namespace Go.Proofs.Ytpmfdlghckfgiaa
open Go.RowKit
set_option maxRecDepth 100000 in
set_option maxHeartbeats 2000000 in
theorem rsame9_any (a b : MV) (w : World) (ha : Sl w a.A a.c (a.l.map sv)) (hb : Sl w b.A b.c (b.l.map sv)) : Calls Try.prog 8 #[mvV a, mvV b] w fun e w' => e = .returned (.bool (sameB a b)) ∧ Below w.heap.size w w' := by
  have hq := fun (W : World) (hW : Below w.heap.size w W) => rtexts_any a.l b.l a.l.length b.l.length a.A b.A a.c b.c W rfl rfl (ha.below hW) (hb.below hW)
  have hen := fun (W : World) => eq_nums a.n0 a.n1 a.n2 a.n3 a.n4 a.n5 b.n0 b.n1 b.n2 b.n3 b.n4 b.n5 W
  have het := fun (W : World) => eq_texts a.s0 a.s1 b.s0 b.s1 W
  have hen' : ∀ W, _ = Result.ok (Value.bool (decide (sameN a b))) W := hen
  have het' : ∀ W, _ = Result.ok (Value.bool (decide (sameT a b))) W := het
  have hS : sameB a b = (decide (a.k = b.k) && decide (sameN a b) && decide (sameT a b) && decide (a.l = b.l)) := rfl
  have hbb := fun (la lb : Nat) => bw_a (bw_a (Below.refl _ w) (.cells #[.int .u8 (a.k : Int), .int .u64 (a.n0 : Int), .int .u64 (a.n1 : Int), .int .u64 (a.n2 : Int), .int .u64 (a.n3 : Int), .int .u64 (a.n4 : Int), .int .u64 (a.n5 : Int), .string a.s0, .string a.s1, .slice a.A la a.c] 29)) (.cells #[.int .u8 (b.k : Int), .int .u64 (b.n0 : Int), .int .u64 (b.n1 : Int), .int .u64 (b.n2 : Int), .int .u64 (b.n3 : Int), .int .u64 (b.n4 : Int), .int .u64 (b.n5 : Int), .string b.s0, .string b.s1, .slice b.A lb b.c] 29)
  clear hen het ha hb
  generalize sameB a b = R at *
  generalize hdn : decide (sameN a b) = dn at *
  generalize hdt : decide (sameT a b) = dt at *
  generalize hdl : decide (a.l = b.l) = dl at *
  unfold mvV mvA
  generalize a.l.length = la at *
  generalize b.l.length = lb at *
  clear hdn hdt hdl
  have HS := hid hS
  have HQ := hid hq
  have HBB := hid (hbb la lb)
  clear hS hq hbb
  by_cases hk : a.k = b.k
  · have hkb : ((a.k : Int) == (b.k : Int)) = true := by simp [hk]
    have hkd : decide (a.k = b.k) = true := by simp [hk]
    rw [hkd] at HS
    clear hkd
    have HK := hid hk
    clear hk
    cases dn with
    | false =>
      have HS2 := hid (show R = false from by rw [HS.out]; rfl)
      go_enter Try.func8, Try.ntmps8
      go_wp2_with fail
      go_ret
      exact ⟨by rw [HS2.out]; rfl, HBB.out⟩
    | true =>
      cases dt with
      | false =>
        have HS2 := hid (show R = false from by rw [HS.out]; rfl)
        go_enter Try.func8, Try.ntmps8
        go_wp2_with fail
        go_ret
        exact ⟨by rw [HS2.out]; rfl, HBB.out⟩
      | true =>
        have HS2 := hid (show R = dl from by rw [HS.out]; rfl)
        go_enter Try.func8, Try.ntmps8
        go_wp2_with fail
        refine (HQ.out _ HBB.out).mono ?_
        rintro e w1 ⟨rfl, q, rfl⟩
        go_wp2_with fail
        go_ret
        exact ⟨by rw [HS2.out]; rfl, bw_d HBB.out q⟩
  · have hkb : ((a.k : Int) == (b.k : Int)) = false := by simp; omega
    have hkd : decide (a.k = b.k) = false := by simpa using hk
    rw [hkd] at HS
    have HS2 := hid (show R = false from by rw [HS.out]; rfl)
    clear hkd
    have HK := hid hk
    clear hk
    go_enter Try.func8, Try.ntmps8
    go_wp2_with fail
    go_ret
    exact ⟨by rw [HS2.out]; rfl, HBB.out⟩

end Go.Proofs.Ytpmfdlghckfgiaa
set_option linter.unusedVariables false
namespace Go.Proofs.Ytpmfdlghckfgiaa
open Go.RowKit
end Go.Proofs.Ytpmfdlghckfgiaa
set_option linter.unusedVariables false
namespace Go.Proofs.Ytpmfdlghckfgiaa
open Go.RowKit
theorem held20 {w w' : World} (hc : Below w.heap.size w w') {p0 p1 p2 p3 p4 p5 p6 p7 p8 p9 p10 p11 p12 p13 p14 p15 p16 p17 p18 p19 : Addr} {x0 x1 x2 x3 x4 x5 x6 x7 x8 x9 x10 x11 x12 x13 x14 x15 x16 x17 x18 x19 : Value} (h : w.cell? p0 = some x0 ∧ w.cell? p1 = some x1 ∧ w.cell? p2 = some x2 ∧ w.cell? p3 = some x3 ∧ w.cell? p4 = some x4 ∧ w.cell? p5 = some x5 ∧ w.cell? p6 = some x6 ∧ w.cell? p7 = some x7 ∧ w.cell? p8 = some x8 ∧ w.cell? p9 = some x9 ∧ w.cell? p10 = some x10 ∧ w.cell? p11 = some x11 ∧ w.cell? p12 = some x12 ∧ w.cell? p13 = some x13 ∧ w.cell? p14 = some x14 ∧ w.cell? p15 = some x15 ∧ w.cell? p16 = some x16 ∧ w.cell? p17 = some x17 ∧ w.cell? p18 = some x18 ∧ w.cell? p19 = some x19) : w'.cell? p0 = some x0 ∧ w'.cell? p1 = some x1 ∧ w'.cell? p2 = some x2 ∧ w'.cell? p3 = some x3 ∧ w'.cell? p4 = some x4 ∧ w'.cell? p5 = some x5 ∧ w'.cell? p6 = some x6 ∧ w'.cell? p7 = some x7 ∧ w'.cell? p8 = some x8 ∧ w'.cell? p9 = some x9 ∧ w'.cell? p10 = some x10 ∧ w'.cell? p11 = some x11 ∧ w'.cell? p12 = some x12 ∧ w'.cell? p13 = some x13 ∧ w'.cell? p14 = some x14 ∧ w'.cell? p15 = some x15 ∧ w'.cell? p16 = some x16 ∧ w'.cell? p17 = some x17 ∧ w'.cell? p18 = some x18 ∧ w'.cell? p19 = some x19 := by
  obtain ⟨h0, h1, h2, h3, h4, h5, h6, h7, h8, h9, h10, h11, h12, h13, h14, h15, h16, h17, h18, h19⟩ := h
  have f : ∀ (p : Addr) (x : Value), w.cell? p = some x → w'.cell? p = some x := fun p x h => (hc.cell (World.block_lt_of_cell? w p h)).trans h
  exact ⟨f _ _ h0, f _ _ h1, f _ _ h2, f _ _ h3, f _ _ h4, f _ _ h5, f _ _ h6, f _ _ h7, f _ _ h8, f _ _ h9, f _ _ h10, f _ _ h11, f _ _ h12, f _ _ h13, f _ _ h14, f _ _ h15, f _ _ h16, f _ _ h17, f _ _ h18, f _ _ h19⟩
/-- The two messages in their boxes. -/
def L9S (s : Nat) (w' : World) : Prop := w'.cell? ⟨s, 0, none⟩ = some (.int .u8 8) ∧ w'.cell? ⟨s, 1, none⟩ = some (.int .u64 5) ∧ w'.cell? ⟨s, 2, none⟩ = some (.int .u64 0) ∧ w'.cell? ⟨s, 3, none⟩ = some (.int .u64 0) ∧ w'.cell? ⟨s, 4, none⟩ = some (.int .u64 0) ∧ w'.cell? ⟨s, 5, none⟩ = some (.int .u64 0) ∧ w'.cell? ⟨s, 6, none⟩ = some (.int .u64 0) ∧ w'.cell? ⟨s, 7, none⟩ = some (.string ⟨#[]⟩) ∧ w'.cell? ⟨s, 8, none⟩ = some (.string ⟨#[]⟩) ∧ w'.cell? ⟨s, 9, none⟩ = some (.slice none 0 0) ∧ w'.cell? ⟨s + 1, 0, none⟩ = some (.int .u8 7) ∧ w'.cell? ⟨s + 1, 1, none⟩ = some (.int .u64 0) ∧ w'.cell? ⟨s + 1, 2, none⟩ = some (.int .u64 0) ∧ w'.cell? ⟨s + 1, 3, none⟩ = some (.int .u64 0) ∧ w'.cell? ⟨s + 1, 4, none⟩ = some (.int .u64 0) ∧ w'.cell? ⟨s + 1, 5, none⟩ = some (.int .u64 0) ∧ w'.cell? ⟨s + 1, 6, none⟩ = some (.int .u64 0) ∧ w'.cell? ⟨s + 1, 7, none⟩ = some (.string ⟨#[120]⟩) ∧ w'.cell? ⟨s + 1, 8, none⟩ = some (.string ⟨#[]⟩) ∧ w'.cell? ⟨s + 1, 9, none⟩ = some (.slice none 0 0)
theorem L9S.step {s : Nat} {w w' : World} (hb : Below w.heap.size w w') (h : L9S s w) : L9S s w' := held20 hb h
end Go.Proofs.Ytpmfdlghckfgiaa
set_option linter.unusedVariables false
namespace Go.Proofs.Ytpmfdlghckfgiaa
open Go.RowKit
theorem ofL_iff (k v : Int) (r : SRow) : r ∈ ofL k v ↔ v ≤ 3 ∧ r ∈ ROWS ∧ (r.since : Int) ≤ v ∧ (r.kind : Int) = k := by
  unfold ofL kn
  rw [List.mem_filter]
  by_cases h : 3 < v
  · rw [if_pos h]
    constructor
    · rintro ⟨h1, -⟩; simp at h1
    · rintro ⟨h1, -⟩; omega
  · rw [if_neg h, List.mem_filter]
    simp only [decide_eq_true_eq]
    constructor
    · rintro ⟨⟨h1, h2⟩, h3⟩; exact ⟨by omega, h1, h2, h3⟩
    · rintro ⟨-, h1, h2, h3⟩; exact ⟨⟨h1, h2⟩, h3⟩
theorem fldE_dep {m m' : MV} {r : SRow} (hr : 1 ≤ r.typ ∧ r.typ ≤ 10) (h1 : r.typ ≤ 6 → m.num (r.slot : Nat) = m'.num (r.slot : Nat)) (h2 : 7 ≤ r.typ → r.typ ≤ 9 → m.text (r.slot : Nat) = m'.text (r.slot : Nat)) (h3 : r.typ = 10 → m.l = m'.l) : fldE m r = fldE m' r := by
  have hd : dflB m (r.typ : Nat) (r.slot : Nat) = dflB m' (r.typ : Nat) (r.slot : Nat) := by
    by_cases c1 : r.typ ≤ 6
    · rw [dfl_num _ _ _ ⟨by omega, by omega⟩, dfl_num _ _ _ ⟨by omega, by omega⟩, h1 c1]
    by_cases c2 : r.typ ≤ 9
    · rw [dfl_text _ _ _ ⟨by omega, by omega⟩, dfl_text _ _ _ ⟨by omega, by omega⟩, h2 (by omega) c2]
    · have c3 : r.typ = 10 := by omega
      have c4 : ((r.typ : Nat) : Int) = 10 := by omega
      rw [c4, dfl_list, dfl_list, h3 c3]
  have hw : wrongE m (r.typ : Nat) (r.slot : Nat) = wrongE m' (r.typ : Nat) (r.slot : Nat) := by
    by_cases c1 : r.typ ≤ 6
    · by_cases c5 : r.typ = 1 ∨ r.typ = 5
      · rw [wr_num _ _ _ (by omega), wr_num _ _ _ (by omega), h1 c1]
      by_cases c4 : r.typ = 4
      · have c6 : ((r.typ : Nat) : Int) = 4 := by omega
        rw [c6, wr_bool, wr_bool, h1 c1]
      · rw [wr_out _ _ _ (by omega), wr_out _ _ _ (by omega)]
    by_cases c2 : r.typ ≤ 9
    · rw [wr_text _ _ _ ⟨by omega, by omega⟩, wr_text _ _ _ ⟨by omega, by omega⟩, h2 (by omega) c2]
    · have c3 : r.typ = 10 := by omega
      have c4 : ((r.typ : Nat) : Int) = 10 := by omega
      rw [c4, wr_list, wr_list, h3 c3]
  unfold fldE
  rw [hd, hw]
theorem sameB_iff (a b : MV) : sameB a b = true ↔ a.k = b.k ∧ sameN a b ∧ sameT a b ∧ a.l = b.l := by
  unfold sameB
  simp only [Bool.and_eq_true, decide_eq_true_eq, and_assoc]
end Go.Proofs.Ytpmfdlghckfgiaa
