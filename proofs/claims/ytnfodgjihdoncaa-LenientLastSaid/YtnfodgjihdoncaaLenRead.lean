/- lenient.read: what it comes to; its early ends. -/
import Derived.Test.YtnfodgjihdoncaaLenEa
import Derived.Test.YtnfodgjihdoncaaLenSetQ
import Derived.Test.YtnfodgjihdoncaaSk4
import Derived.Test.YtnfodgjihdoncaaRegInvB
set_option linter.unusedVariables false
namespace Go.Proofs.Ytnfodgjihdoncaa
open Go.RowKit Go.Shelf
attribute [local go_sem] Oper.semAt_some
/-- What is read of bytes: the message, the fields that belong to none, what is wrong, and where. -/
def readR (k : Nat) (v : Int) (bs : List UInt8) : MV × List (RF × Nat) × Int × Nat :=
  if (ofL (k : Int) v).length = 0 then (ZM, [], 7, 0) else if 8192 < bs.length then (ZM, [], 2, 0) else if (flds bs bs.length 0).2.1 ≠ 0 then (ZM, [], ((flds bs bs.length 0).2.1 : Nat), (flds bs bs.length 0).2.2) else
  if (decF (ofL (k : Int) v) { ZM with k := k } (flds bs bs.length 0).1).2.2.1 ≠ 0 then (ZM, [], (decF (ofL (k : Int) v) { ZM with k := k } (flds bs bs.length 0).1).2.2) else decF (ofL (k : Int) v) { ZM with k := k } (flds bs bs.length 0).1
/-- The results' boxes, stored. -/
def rW3 (w : World) (s : Nat) (x0 x1 x2 x3 x4 x5 x6 x7 x8 x9 y z0 z1 : Value) : World := (((((((((((((w.setCell ⟨s, 0, none⟩ x0).setCell ⟨s, 1, none⟩ x1).setCell ⟨s, 2, none⟩ x2).setCell ⟨s, 3, none⟩ x3).setCell ⟨s, 4, none⟩ x4).setCell ⟨s, 5, none⟩ x5).setCell ⟨s, 6, none⟩ x6).setCell ⟨s, 7, none⟩ x7).setCell ⟨s, 8, none⟩ x8).setCell ⟨s, 9, none⟩ x9).setCell ⟨s + 1, 0, none⟩ y).setCell ⟨s + 1 + 1, 0, none⟩ z0).setCell ⟨s + 1 + 1, 1, none⟩ z1)
theorem rst3 {w : World} {s : Nat} {o0 o1 o2 o3 o4 o5 o6 o7 o8 o9 p q0 q1 : Value} (h6 : Blk w s 27 #[o0, o1, o2, o3, o4, o5, o6, o7, o8, o9]) (h7 : Blk w (s + 1) 87 #[p]) (h8 : Blk w (s + 1 + 1) 33 #[q0, q1]) (x0 x1 x2 x3 x4 x5 x6 x7 x8 x9 y z0 z1 : Value) :
    Blk (rW3 w s x0 x1 x2 x3 x4 x5 x6 x7 x8 x9 y z0 z1) s 27 #[x0, x1, x2, x3, x4, x5, x6, x7, x8, x9] ∧ Blk (rW3 w s x0 x1 x2 x3 x4 x5 x6 x7 x8 x9 y z0 z1) (s + 1) 87 #[y] ∧ Blk (rW3 w s x0 x1 x2 x3 x4 x5 x6 x7 x8 x9 y z0 z1) (s + 1 + 1) 33 #[z0, z1] ∧ Chg (fun q => q = s ∨ q = s + 1 ∨ q = s + 1 + 1) w (rW3 w s x0 x1 x2 x3 x4 x5 x6 x7 x8 x9 y z0 z1) := by
  obtain ⟨h1, h2⟩ := mstore h6 x0 x1 x2 x3 x4 x5 x6 x7 x8 x9
  have k7 := h2.blk h7 (by omega)
  have k8 := h2.blk h8 (by omega)
  have hc := h2.mono (T := fun q => q = s ∨ q = s + 1 ∨ q = s + 1 + 1) (fun q _ h => .inl h)
  unfold rW3
  generalize ((((((((((w.setCell ⟨s, 0, none⟩ x0).setCell ⟨s, 1, none⟩ x1).setCell ⟨s, 2, none⟩ x2).setCell ⟨s, 3, none⟩ x3).setCell ⟨s, 4, none⟩ x4).setCell ⟨s, 5, none⟩ x5).setCell ⟨s, 6, none⟩ x6).setCell ⟨s, 7, none⟩ x7).setCell ⟨s, 8, none⟩ x8).setCell ⟨s, 9, none⟩ x9) = W at *
  refine ⟨((h1.far (p := ⟨s + 1, 0, none⟩) (by show ¬ s = s + 1; omega) y).far (p := ⟨s + 1 + 1, 0, none⟩) (by show ¬ s = s + 1 + 1; omega) z0).far (p := ⟨s + 1 + 1, 1, none⟩) (by show ¬ s = s + 1 + 1; omega) z1, ?_, ?_, ?_⟩
  · have := ((k7.set_ 0 y).far (p := ⟨s + 1 + 1, 0, none⟩) (by show ¬ s + 1 = s + 1 + 1; omega) z0).far (p := ⟨s + 1 + 1, 1, none⟩) (by show ¬ s + 1 = s + 1 + 1; omega) z1
    simpa using this
  · have := ((k8.far (p := ⟨s + 1, 0, none⟩) (by show ¬ s + 1 + 1 = s + 1; omega) y).set_ 0 z0).set_ 1 z1
    simpa using this
  · exact ((hc.set_ (.inl (.inr (.inl rfl))) 0 y).set_ (.inl (.inr (.inr rfl))) 0 z0).set_ (.inl (.inr (.inr rfl))) 1 z1
/-- What is read, as a program's answer. -/
def ReadR (w : World) (R : MV × List (RF × Nat) × Int × Nat) (e : Ending) (w' : World) : Prop :=
  ∃ (A' : Option Addr) (c' : Nat) (pre : List FV) (Ao : Option Addr) (co : Nat), e = .returned (.tuple #[mvV { R.1 with A := A', c := c' }, .slice Ao pre.length co, .agg #[.int .i64 R.2.2.1, .int .i64 (R.2.2.2 : Nat)]]) ∧ w'.ownsRow w.heap.size 9 1 (.slice A' R.1.l.length c') R.1.l.length (R.1.l.map sv) ∧
    w'.ownsRow w.heap.size 95 5 (.slice Ao pre.length co) pre.length (pre.flatMap fvC) ∧ fvAll pre R.2.1 ∧ (∀ f ∈ pre, Sl w' f.s.A f.s.c (f.s.xs.map bv)) ∧ Below w.heap.size w w'
/-- A bad end. -/
theorem ReadR.bad {w w' : World} {E : Int} {at_ : Nat} (hb : Below w.heap.size w w') : ReadR w (ZM, [], E, at_) (.returned (.tuple #[.agg #[.int .u8 0, .int .u64 0, .int .u64 0, .int .u64 0, .int .u64 0, .int .u64 0, .int .u64 0, .string ⟨#[]⟩, .string ⟨#[]⟩, .slice none 0 0], .slice none 0 0, .agg #[.int .i64 E, .int .i64 (at_ : Nat)]])) w' :=
  ⟨none, 0, [], none, 0, rfl, World.ownsRow_nil _ _ _ _, World.ownsRow_nil _ _ _ _, trivial, by simp, hb⟩
set_option maxRecDepth 100000 in
set_option maxHeartbeats 4000000 in
theorem lread_none (m : Nat) (hm : 12 ≤ m) (k : Nat) (v : Int) (bs : List UInt8) (n : Nat) (A : Option Addr) (c : Nat) (w : World) (hk : k ≤ 255) (hv1 : -9223372036854775808 ≤ v) (hv2 : v ≤ 9223372036854775807) (hL : (ofL (k : Int) v).length = 0) :
    CallsIn Fence.wide m Try.prog 53 #[.int .u8 (k : Int), .int .i64 v, .slice A n c] w (ReadR w (readR k v bs)) := by
  have hR : readR k v bs = (ZM, [], 7, 0) := by unfold readR; rw [if_pos hL]
  rw [hR]
  have hbad := fun w' => ReadR.bad (w := w) (w' := w') (E := 7) (at_ := 0)
  generalize ReadR w (ZM, [], 7, 0) = Q at *
  have h1 : 1 ≤ m := by omega
  obtain ⟨s, hsz⟩ : ∃ s, w.heap.size = s := ⟨_, rfl⟩
  rw [hsz] at hbad
  have hof := fun W => sof2_in (m - 1) (by omega) (k : Int) v W hv1 hv2
  rw [hL] at hof
  have HOF := hid hof
  have HBAD := hid hbad
  clear hof hbad hR
  obtain ⟨W0, hW0⟩ : ∃ W0, (((w.alloc (.cells #[.int .u8 0, .int .u64 0, .int .u64 0, .int .u64 0, .int .u64 0, .int .u64 0, .int .u64 0, .string ⟨#[]⟩, .string ⟨#[]⟩, .slice none 0 0] 27)).alloc (.cells #[.slice none 0 0] 87)).alloc (.cells #[.int .i64 0, .int .i64 0] 33)) = W0 := ⟨_, rfl⟩
  have hk6 : Blk W0 s 27 #[.int .u8 0, .int .u64 0, .int .u64 0, .int .u64 0, .int .u64 0, .int .u64 0, .int .u64 0, .string ⟨#[]⟩, .string ⟨#[]⟩, .slice none 0 0] := by rw [← hW0, ← hsz]; exact ((Blk.new w _ _).alloc _).alloc _
  have hk7 : Blk W0 (s + 1) 87 #[.slice none 0 0] := by
    have h := Blk.new (w.alloc (.cells #[.int .u8 0, .int .u64 0, .int .u64 0, .int .u64 0, .int .u64 0, .int .u64 0, .int .u64 0, .string ⟨#[]⟩, .string ⟨#[]⟩, .slice none 0 0] 27)) 87 #[.slice none 0 0]
    rw [World.size_alloc, hsz] at h; rw [← hW0]; exact h.alloc _
  have hk8 : Blk W0 (s + 1 + 1) 33 #[.int .i64 0, .int .i64 0] := by
    have h := Blk.new ((w.alloc (.cells #[.int .u8 0, .int .u64 0, .int .u64 0, .int .u64 0, .int .u64 0, .int .u64 0, .int .u64 0, .string ⟨#[]⟩, .string ⟨#[]⟩, .slice none 0 0] 27)).alloc (.cells #[.slice none 0 0] 87)) 33 #[.int .i64 0, .int .i64 0]
    rw [World.size_alloc, World.size_alloc, hsz] at h; rw [← hW0]; exact h
  have hb0 : Below s w W0 := by rw [← hW0, ← hsz]; exact bw_a (bw_a (bw_a (Below.refl _ w) _) _) _
  have HW0 := hid hW0
  clear hW0
  refine callsIn_of_wp_marks Try.func53 rfl trivial ?_ rfl
  simp only [Try.ntmps53, List.size_toArray, List.length_cons, List.length_nil, Nat.reduceAdd, Nat.reduceSub, Array.replicate_succ, Array.replicate_zero, List.push_toArray, List.append_toArray, List.nil_append, List.cons_append]
  gi_wp2
  rw [HW0.out]
  refine wpIn_wide.2 (wp_scope_straight ((wpIn_wide (n := m)).1 ?_))
  gi_wp2_with (first | (refine ⟨trivial, ?_⟩; gi_at_call 74; refine (HOF.out _).mono ?_; rintro e w1 ⟨vv, rfl, ho, hb1⟩; obtain ⟨AL, cL, rfl⟩ := row_slice' ho; have hl6 := hk6.lt; have hl7 := hk7.lt; have hl8 := hk8.lt; have hk6 := hk6.below hb1 hl6; have hk7 := hk7.below hb1 hl7; have hk8 := hk8.below hb1 hl8; have c0 := hk6.cell 0; have c1 := hk6.cell 1; have c2 := hk6.cell 2; have c3 := hk6.cell 3; have c4 := hk6.cell 4; have c5 := hk6.cell 5; have c6 := hk6.cell 6; have c7 := hk6.cell 7; have c8 := hk6.cell 8; have c9 := hk6.cell 9; have d0 := hk7.cell 0; have e0 := hk8.cell 0; have e1 := hk8.cell 1; simp only [List.getElem?_toArray, List.getElem?_cons_zero, List.getElem?_cons_succ] at c0 c1 c2 c3 c4 c5 c6 c7 c8 c9 d0 e0 e1; have f0 := hk6.frozen 0; have f1 := hk6.frozen 1; have f2 := hk6.frozen 2; have f3 := hk6.frozen 3; have f4 := hk6.frozen 4; have f5 := hk6.frozen 5; have f6 := hk6.frozen 6; have f7 := hk6.frozen 7; have f8 := hk6.frozen 8; have f9 := hk6.frozen 9; have g0 := hk7.frozen 0; have i0 := hk8.frozen 0; have i1 := hk8.frozen 1; have HK6 := hid hk6; have HK7 := hid hk7; have HK8 := hid hk8; have HB1 := hid hb1; have HO1 := hid ho; have l6 := HK6.out.lt; have l7 := HK7.out.lt; have l8 := HK8.out.lt; clear ho hk6 hk7 hk8 hb1 hl6 hl7 hl8) | fail)
  obtain ⟨r6, r7, r8, rc⟩ := rst3 HK6.out HK7.out HK8.out (.int .u8 0) (.int .u64 0) (.int .u64 0) (.int .u64 0) (.int .u64 0) (.int .u64 0) (.int .u64 0) (.string ⟨#[]⟩) (.string ⟨#[]⟩) (.slice none 0 0) (.slice none 0 0) (.int .i64 7) (.int .i64 0)
  have hbR := (hb0.trans (HB1.out.mono (by have := hb0.size; omega))).trans (rc.below (B := s) (fun q hq => by omega) (by omega))
  unfold rW3 at r6 r7 r8 hbR
  clear c0 c1 c2 c3 c4 c5 c6 c7 c8 c9 d0 e0 e1 f0 f1 f2 f3 f4 f5 f6 f7 f8 f9 g0 i0 i1
  first | generalize World.setCell (World.setCell (World.setCell (World.setCell (World.setCell (World.setCell (World.setCell (World.setCell (World.setCell (World.setCell (World.setCell (World.setCell (World.setCell w1 _ _) _ _) _ _) _ _) _ _) _ _) _ _) _ _) _ _) _ _) _ _) _ _) _ _ = W9 at * | trace_state
  have x0 := r6.cell 0
  have x1 := r6.cell 1
  have x2 := r6.cell 2
  have x3 := r6.cell 3
  have x4 := r6.cell 4
  have x5 := r6.cell 5
  have x6 := r6.cell 6
  have x7 := r6.cell 7
  have x8 := r6.cell 8
  have x9 := r6.cell 9
  have y0 := r7.cell 0
  have z0 := r8.cell 0
  have z1 := r8.cell 1
  simp only [List.getElem?_toArray, List.getElem?_cons_zero, List.getElem?_cons_succ] at x0 x1 x2 x3 x4 x5 x6 x7 x8 x9 y0 z0 z1
  refine ⟨.tuple #[.agg #[.int .u8 0, .int .u64 0, .int .u64 0, .int .u64 0, .int .u64 0, .int .u64 0, .int .u64 0, .string ⟨#[]⟩, .string ⟨#[]⟩, .slice none 0 0], .slice none 0 0, .agg #[.int .i64 7, .int .i64 0]], by simp [results, Try.results53, go_sem, x0, x1, x2, x3, x4, x5, x6, x7, x8, x9, y0, z0, z1], ?_⟩
  exact HBAD.out _ hbR
set_option maxRecDepth 100000 in
set_option maxHeartbeats 4000000 in
theorem lread_long (m : Nat) (hm : 12 ≤ m) (k : Nat) (v : Int) (bs : List UInt8) (n : Nat) (A : Option Addr) (c : Nat) (w : World) (hk : k ≤ 255) (hv1 : -9223372036854775808 ≤ v) (hv2 : v ≤ 9223372036854775807) (hL : (ofL (k : Int) v).length ≠ 0) (hn : bs.length = n) (hl : 8192 < n) :
    CallsIn Fence.wide m Try.prog 53 #[.int .u8 (k : Int), .int .i64 v, .slice A n c] w (ReadR w (readR k v bs)) := by
  have hR : readR k v bs = (ZM, [], 2, 0) := by unfold readR; rw [if_neg hL, if_pos (by omega)]
  rw [hR]
  have hbad := fun w' => ReadR.bad (w := w) (w' := w') (E := 2) (at_ := 0)
  generalize ReadR w (ZM, [], 2, 0) = Q at *
  have h1 : 1 ≤ m := by omega
  obtain ⟨s, hsz⟩ : ∃ s, w.heap.size = s := ⟨_, rfl⟩
  rw [hsz] at hbad
  have hof := fun W => sof2_in (m - 1) (by omega) (k : Int) v W hv1 hv2
  rw [decide_eq_true (show 0 < (ofL (k : Int) v).length by omega)] at hof
  have hgt : (8192 : Int) < (n : Int) := by omega
  clear hn
  have HOF := hid hof
  have HBAD := hid hbad
  clear hof hbad hR
  obtain ⟨W0, hW0⟩ : ∃ W0, (((w.alloc (.cells #[.int .u8 0, .int .u64 0, .int .u64 0, .int .u64 0, .int .u64 0, .int .u64 0, .int .u64 0, .string ⟨#[]⟩, .string ⟨#[]⟩, .slice none 0 0] 27)).alloc (.cells #[.slice none 0 0] 87)).alloc (.cells #[.int .i64 0, .int .i64 0] 33)) = W0 := ⟨_, rfl⟩
  have hk6 : Blk W0 s 27 #[.int .u8 0, .int .u64 0, .int .u64 0, .int .u64 0, .int .u64 0, .int .u64 0, .int .u64 0, .string ⟨#[]⟩, .string ⟨#[]⟩, .slice none 0 0] := by rw [← hW0, ← hsz]; exact ((Blk.new w _ _).alloc _).alloc _
  have hk7 : Blk W0 (s + 1) 87 #[.slice none 0 0] := by
    have h := Blk.new (w.alloc (.cells #[.int .u8 0, .int .u64 0, .int .u64 0, .int .u64 0, .int .u64 0, .int .u64 0, .int .u64 0, .string ⟨#[]⟩, .string ⟨#[]⟩, .slice none 0 0] 27)) 87 #[.slice none 0 0]
    rw [World.size_alloc, hsz] at h; rw [← hW0]; exact h.alloc _
  have hk8 : Blk W0 (s + 1 + 1) 33 #[.int .i64 0, .int .i64 0] := by
    have h := Blk.new ((w.alloc (.cells #[.int .u8 0, .int .u64 0, .int .u64 0, .int .u64 0, .int .u64 0, .int .u64 0, .int .u64 0, .string ⟨#[]⟩, .string ⟨#[]⟩, .slice none 0 0] 27)).alloc (.cells #[.slice none 0 0] 87)) 33 #[.int .i64 0, .int .i64 0]
    rw [World.size_alloc, World.size_alloc, hsz] at h; rw [← hW0]; exact h
  have hb0 : Below s w W0 := by rw [← hW0, ← hsz]; exact bw_a (bw_a (bw_a (Below.refl _ w) _) _) _
  have HW0 := hid hW0
  clear hW0
  refine callsIn_of_wp_marks Try.func53 rfl trivial ?_ rfl
  simp only [Try.ntmps53, List.size_toArray, List.length_cons, List.length_nil, Nat.reduceAdd, Nat.reduceSub, Array.replicate_succ, Array.replicate_zero, List.push_toArray, List.append_toArray, List.nil_append, List.cons_append]
  gi_wp2
  rw [HW0.out]
  refine wpIn_wide.2 (wp_scope_straight ((wpIn_wide (n := m)).1 ?_))
  gi_wp2_with (first | (refine ⟨trivial, ?_⟩; gi_at_call 74; refine (HOF.out _).mono ?_; rintro e w1 ⟨vv, rfl, ho, hb1⟩; obtain ⟨AL, cL, rfl⟩ := row_slice' ho; have hl6 := hk6.lt; have hl7 := hk7.lt; have hl8 := hk8.lt; have hk6 := hk6.below hb1 hl6; have hk7 := hk7.below hb1 hl7; have hk8 := hk8.below hb1 hl8; have c0 := hk6.cell 0; have c1 := hk6.cell 1; have c2 := hk6.cell 2; have c3 := hk6.cell 3; have c4 := hk6.cell 4; have c5 := hk6.cell 5; have c6 := hk6.cell 6; have c7 := hk6.cell 7; have c8 := hk6.cell 8; have c9 := hk6.cell 9; have d0 := hk7.cell 0; have e0 := hk8.cell 0; have e1 := hk8.cell 1; simp only [List.getElem?_toArray, List.getElem?_cons_zero, List.getElem?_cons_succ] at c0 c1 c2 c3 c4 c5 c6 c7 c8 c9 d0 e0 e1; have f0 := hk6.frozen 0; have f1 := hk6.frozen 1; have f2 := hk6.frozen 2; have f3 := hk6.frozen 3; have f4 := hk6.frozen 4; have f5 := hk6.frozen 5; have f6 := hk6.frozen 6; have f7 := hk6.frozen 7; have f8 := hk6.frozen 8; have f9 := hk6.frozen 9; have g0 := hk7.frozen 0; have i0 := hk8.frozen 0; have i1 := hk8.frozen 1; have HK6 := hid hk6; have HK7 := hid hk7; have HK8 := hid hk8; have HB1 := hid hb1; have HO1 := hid ho; have l6 := HK6.out.lt; have l7 := HK7.out.lt; have l8 := HK8.out.lt; clear ho hk6 hk7 hk8 hb1 hl6 hl7 hl8) | fail)
  obtain ⟨r6, r7, r8, rc⟩ := rst3 HK6.out HK7.out HK8.out (.int .u8 0) (.int .u64 0) (.int .u64 0) (.int .u64 0) (.int .u64 0) (.int .u64 0) (.int .u64 0) (.string ⟨#[]⟩) (.string ⟨#[]⟩) (.slice none 0 0) (.slice none 0 0) (.int .i64 2) (.int .i64 0)
  have hbR := (hb0.trans (HB1.out.mono (by have := hb0.size; omega))).trans (rc.below (B := s) (fun q hq => by omega) (by omega))
  unfold rW3 at r6 r7 r8 hbR
  clear c0 c1 c2 c3 c4 c5 c6 c7 c8 c9 d0 e0 e1 f0 f1 f2 f3 f4 f5 f6 f7 f8 f9 g0 i0 i1
  first | generalize World.setCell (World.setCell (World.setCell (World.setCell (World.setCell (World.setCell (World.setCell (World.setCell (World.setCell (World.setCell (World.setCell (World.setCell (World.setCell w1 _ _) _ _) _ _) _ _) _ _) _ _) _ _) _ _) _ _) _ _) _ _) _ _) _ _ = W9 at * | trace_state
  have x0 := r6.cell 0
  have x1 := r6.cell 1
  have x2 := r6.cell 2
  have x3 := r6.cell 3
  have x4 := r6.cell 4
  have x5 := r6.cell 5
  have x6 := r6.cell 6
  have x7 := r6.cell 7
  have x8 := r6.cell 8
  have x9 := r6.cell 9
  have y0 := r7.cell 0
  have z0 := r8.cell 0
  have z1 := r8.cell 1
  simp only [List.getElem?_toArray, List.getElem?_cons_zero, List.getElem?_cons_succ] at x0 x1 x2 x3 x4 x5 x6 x7 x8 x9 y0 z0 z1
  refine ⟨.tuple #[.agg #[.int .u8 0, .int .u64 0, .int .u64 0, .int .u64 0, .int .u64 0, .int .u64 0, .int .u64 0, .string ⟨#[]⟩, .string ⟨#[]⟩, .slice none 0 0], .slice none 0 0, .agg #[.int .i64 2, .int .i64 0]], by simp [results, Try.results53, go_sem, x0, x1, x2, x3, x4, x5, x6, x7, x8, x9, y0, z0, z1], ?_⟩
  exact HBAD.out _ hbR
theorem ostore {w : World} {p : Nat} {t : TypeId} {o : Value} (h : Blk w p t #[o]) (x : Value) : Blk (w.setCell ⟨p, 0, none⟩ x) p t #[x] ∧ Chg (fun q => q = p) w (w.setCell ⟨p, 0, none⟩ x) :=
  ⟨by simpa using h.set_ 0 x, (Chg.refl (fun q => q = p) w).set_ (.inl rfl) 0 x⟩
def RdR8 (s qf E P : Nat) (a0 : Act) (w0 : World) (f : Nat → Bool) (a : Act) (w : World) : Prop := ∃ x0 x1 : Value, a = ((a0.put (some 41) x0).put (some 42) x1) ∧ (f 0 = true → x0 = .agg #[.int .u8 0, .int .u64 0, .int .u64 0, .int .u64 0, .int .u64 0, .int .u64 0, .int .u64 0, .string ⟨#[]⟩, .string ⟨#[]⟩, .slice none 0 0]) ∧ (f 1 = true → x1 = .agg #[.int .i64 (E : Int), .int .i64 (P : Int)]) ∧ Blk w (s) 27 (if f 2 = true then #[.int .u8 0, .int .u64 0, .int .u64 0, .int .u64 0, .int .u64 0, .int .u64 0, .int .u64 0, .string ⟨#[]⟩, .string ⟨#[]⟩, .slice none 0 0] else #[.int .u8 0, .int .u64 0, .int .u64 0, .int .u64 0, .int .u64 0, .int .u64 0, .int .u64 0, .string ⟨#[]⟩, .string ⟨#[]⟩, .slice none 0 0]) ∧ Blk w (s + 1) 87 (if f 3 = true then #[.slice none 0 0] else #[.slice none 0 0]) ∧ Blk w (s + 1 + 1) 33 (if f 4 = true then #[.int .i64 (E : Int), .int .i64 (P : Int)] else #[.int .i64 0, .int .i64 0]) ∧ Chg (fun q => q = s ∨ q = s + 1 ∨ q = s + 1 + 1) w0 w
set_option maxRecDepth 100000 in
set_option maxHeartbeats 4000000 in
theorem lread_bad (m : Nat) (hm : 12 ≤ m) (k : Nat) (v : Int) (bs : List UInt8) (n : Nat) (A : Option Addr) (c : Nat) (w : World) (hk : k ≤ 255) (hv1 : -9223372036854775808 ≤ v) (hv2 : v ≤ 9223372036854775807) (hL : (ofL (k : Int) v).length ≠ 0) (hn : bs.length = n) (hl : n ≤ 8192) (hs : Sl w A c (bs.map bv)) (hF : (flds bs n 0).2.1 ≠ 0) :
    CallsIn Fence.wide m Try.prog 53 #[.int .u8 (k : Int), .int .i64 v, .slice A n c] w (ReadR w (readR k v bs)) := by
  have hR : readR k v bs = (ZM, [], (((flds bs n 0).2.1 : Nat) : Int), (flds bs n 0).2.2) := by unfold readR; rw [if_neg hL, if_neg (by omega), hn, if_pos hF]
  rw [hR]
  have hbad := fun w' => ReadR.bad (w := w) (w' := w') (E := (((flds bs n 0).2.1 : Nat) : Int)) (at_ := (flds bs n 0).2.2)
  generalize ReadR w (ZM, [], (((flds bs n 0).2.1 : Nat) : Int), (flds bs n 0).2.2) = Q at *
  have h1 : 1 ≤ m := by omega
  obtain ⟨s, hsz⟩ : ∃ s, w.heap.size = s := ⟨_, rfl⟩
  rw [hsz] at hbad
  have hof := fun W => sof2_in (m - 1) (by omega) (k : Int) v W hv1 hv2
  rw [decide_eq_true (show 0 < (ofL (k : Int) v).length by omega)] at hof
  have hgt : ¬ ((8192 : Int) < (n : Int)) := by omega
  obtain ⟨E, hE⟩ : ∃ E, (flds bs n 0).2.1 = E := ⟨_, rfl⟩
  obtain ⟨P, hP⟩ : ∃ P, (flds bs n 0).2.2 = P := ⟨_, rfl⟩
  rw [hE, hP] at hbad
  have hfl := fun W (hW : Below s w W) => (fields_in (m - 1) (by omega) bs n A c W hn (by omega) (hs.below (by rw [hsz]; exact hW))).mono (R' := fun e W' => e = .returned (.tuple #[.slice none 0 0, .agg #[.int .i64 (E : Int), .int .i64 (P : Int)]]) ∧ Below W.heap.size W W') (by rintro e W' ⟨(h | h), hb⟩; exact absurd h.1 hF; rw [hE, hP] at h; exact ⟨h.2, hb⟩)
  have HFL := hid hfl
  have hEne : (((E : Nat) : Int) != 0) = true := by simp; rw [← hE]; exact hF
  clear hfl hn hE hP hF
  have HOF := hid hof
  have HBAD := hid hbad
  clear hof hbad hR
  obtain ⟨W0, hW0⟩ : ∃ W0, (((w.alloc (.cells #[.int .u8 0, .int .u64 0, .int .u64 0, .int .u64 0, .int .u64 0, .int .u64 0, .int .u64 0, .string ⟨#[]⟩, .string ⟨#[]⟩, .slice none 0 0] 27)).alloc (.cells #[.slice none 0 0] 87)).alloc (.cells #[.int .i64 0, .int .i64 0] 33)) = W0 := ⟨_, rfl⟩
  have hk6 : Blk W0 s 27 #[.int .u8 0, .int .u64 0, .int .u64 0, .int .u64 0, .int .u64 0, .int .u64 0, .int .u64 0, .string ⟨#[]⟩, .string ⟨#[]⟩, .slice none 0 0] := by rw [← hW0, ← hsz]; exact ((Blk.new w _ _).alloc _).alloc _
  have hk7 : Blk W0 (s + 1) 87 #[.slice none 0 0] := by
    have h := Blk.new (w.alloc (.cells #[.int .u8 0, .int .u64 0, .int .u64 0, .int .u64 0, .int .u64 0, .int .u64 0, .int .u64 0, .string ⟨#[]⟩, .string ⟨#[]⟩, .slice none 0 0] 27)) 87 #[.slice none 0 0]
    rw [World.size_alloc, hsz] at h; rw [← hW0]; exact h.alloc _
  have hk8 : Blk W0 (s + 1 + 1) 33 #[.int .i64 0, .int .i64 0] := by
    have h := Blk.new ((w.alloc (.cells #[.int .u8 0, .int .u64 0, .int .u64 0, .int .u64 0, .int .u64 0, .int .u64 0, .int .u64 0, .string ⟨#[]⟩, .string ⟨#[]⟩, .slice none 0 0] 27)).alloc (.cells #[.slice none 0 0] 87)) 33 #[.int .i64 0, .int .i64 0]
    rw [World.size_alloc, World.size_alloc, hsz] at h; rw [← hW0]; exact h
  have hb0 : Below s w W0 := by rw [← hW0, ← hsz]; exact bw_a (bw_a (bw_a (Below.refl _ w) _) _) _
  have HW0 := hid hW0
  clear hW0
  refine callsIn_of_wp_marks Try.func53 rfl trivial ?_ rfl
  simp only [Try.ntmps53, List.size_toArray, List.length_cons, List.length_nil, Nat.reduceAdd, Nat.reduceSub, Array.replicate_succ, Array.replicate_zero, List.push_toArray, List.append_toArray, List.nil_append, List.cons_append]
  gi_wp2
  rw [HW0.out]
  refine wpIn_wide.2 (wp_scope_straight ((wpIn_wide (n := m)).1 ?_))
  gi_wp2_with (first | (refine ⟨trivial, ?_⟩; gi_at_call 74; refine (HOF.out _).mono ?_; rintro e w1 ⟨vv, rfl, ho, hb1⟩; obtain ⟨AL, cL, rfl⟩ := row_slice' ho; have hl6 := hk6.lt; have hl7 := hk7.lt; have hl8 := hk8.lt; have hk6 := hk6.below hb1 hl6; have hk7 := hk7.below hb1 hl7; have hk8 := hk8.below hb1 hl8; have c0 := hk6.cell 0; have c1 := hk6.cell 1; have c2 := hk6.cell 2; have c3 := hk6.cell 3; have c4 := hk6.cell 4; have c5 := hk6.cell 5; have c6 := hk6.cell 6; have c7 := hk6.cell 7; have c8 := hk6.cell 8; have c9 := hk6.cell 9; have d0 := hk7.cell 0; have e0 := hk8.cell 0; have e1 := hk8.cell 1; simp only [List.getElem?_toArray, List.getElem?_cons_zero, List.getElem?_cons_succ] at c0 c1 c2 c3 c4 c5 c6 c7 c8 c9 d0 e0 e1; have f0 := hk6.frozen 0; have f1 := hk6.frozen 1; have f2 := hk6.frozen 2; have f3 := hk6.frozen 3; have f4 := hk6.frozen 4; have f5 := hk6.frozen 5; have f6 := hk6.frozen 6; have f7 := hk6.frozen 7; have f8 := hk6.frozen 8; have f9 := hk6.frozen 9; have g0 := hk7.frozen 0; have i0 := hk8.frozen 0; have i1 := hk8.frozen 1; have HK6 := hid hk6; have HK7 := hid hk7; have HK8 := hid hk8; have HB1 := hid hb1; have HO1 := hid ho; have l6 := HK6.out.lt; have l7 := HK7.out.lt; have l8 := HK8.out.lt; clear ho hk6 hk7 hk8 hb1 hl6 hl7 hl8) | (refine ⟨trivial, ?_⟩; gi_at_call 81; refine (HFL.out _ (hb0.trans (HB1.out.mono (by have := hb0.size; omega)))).mono ?_; rintro e w2 ⟨rfl, hb2⟩; have hk6 := HK6.out.below hb2 l6; have hk7 := HK7.out.below hb2 l7; have hk8 := HK8.out.below hb2 l8; clear HK6 HK7 HK8; have hb2' := HB1.out.trans (hb2.mono HB1.out.size); clear c0 c1 c2 c3 c4 c5 c6 c7 c8 c9 d0 e0 e1 f0 f1 f2 f3 f4 f5 f6 f7 f8 f9 g0 i0 i1; have HK6 := hid hk6; have HK7 := hid hk7; have HK8 := hid hk8; have HB2 := hid hb2'; have l6 := hk6.lt; have l7 := hk7.lt; have l8 := hk8.lt; clear hk6 hk7 hk8 hb2 hb2'))
  refine wpIn_wide.2 ?_
  obtain ⟨qf, hqf⟩ : ∃ qf, w2.heap.size = qf := ⟨_, rfl⟩
  have hkn := Blk.new w2 33 #[.int .i64 (E : Int), .int .i64 (P : Int)]
  rw [hqf] at hkn l6 l7 l8
  have hk6 := HK6.out.alloc (.cells #[.int .i64 (E : Int), .int .i64 (P : Int)] 33)
  have hk7 := HK7.out.alloc (.cells #[.int .i64 (E : Int), .int .i64 (P : Int)] 33)
  have hk8 := HK8.out.alloc (.cells #[.int .i64 (E : Int), .int .i64 (P : Int)] 33)
  have hbA : Below s w (w2.alloc (.cells #[.int .i64 (E : Int), .int .i64 (P : Int)] 33)) := (hb0.trans (HB2.out.mono (by have := hb0.size; omega))).alloc (by omega) _
  rw [hqf]
  clear HK6 HK7 HK8 hqf HB2
  have HK6 := hid hk6
  have HK7 := hid hk7
  have HK8 := hid hk8
  have HBA := hid hbA
  have HN0 := hid hkn
  clear hk6 hk7 hk8 hbA hkn
  generalize (w2.alloc (.cells #[.int .i64 (E : Int), .int .i64 (P : Int)] 33)) = w3 at *
  refine wp_region_invB (by kernel_rfl) (by kernel_rfl) (RdR8 s qf E P) ?_ ?_ ?_
  · exact ⟨undef, undef, (by first | rfl | (simp only [Act.put, List.setIfInBounds_toArray, List.set_cons_succ, List.set_cons_zero])), by simp, by simp, (by simp; exact (HK6.out)), (by simp; exact (HK7.out)), (by simp; exact (HK8.out)), ⟨rfl, rfl, rfl, Nat.le_refl _, fun _ _ _ => rfl⟩⟩
  · intro f a' wx i o ho hf hdep hI
    have hi : i < 5 := (Array.getElem?_eq_some_iff.1 ho).1
    have hcase : i = 0 ∨ i = 1 ∨ i = 2 ∨ i = 3 ∨ i = 4 := by omega
    clear hi
    rcases hcase with rfl | rfl | rfl | rfl | rfl
    all_goals
      simp only [List.getElem?_toArray, List.getElem?_cons_zero, List.getElem?_cons_succ, Option.some.injEq] at ho
      subst ho
    · -- 0
      obtain ⟨x0, x1, rfl, h0, h1, k2, k3, k4, hC⟩ := hI
      have H0' := hid h0; have H1' := hid h1; have K2' := hid k2; have K3' := hid k3; have K4' := hid k4; have HC' := hid hC; clear h0 h1 k2 k3 k4 hC
      try simp only [Act.put, List.setIfInBounds_toArray, List.set_cons_succ, List.set_cons_zero]
      go_wp2_with fail
      have h0 := H0'.out; have h1 := H1'.out; have k2 := K2'.out; have k3 := K3'.out; have k4 := K4'.out; have hC := HC'.out
      exact ⟨_, x1, (by first | rfl | (simp only [Act.put, List.setIfInBounds_toArray, List.set_cons_succ, List.set_cons_zero])), (fun _ => rfl), (fun h => h1 (by simpa using h)), (by simpa using k2), (by simpa using k3), (by simpa using k4), hC⟩
    · -- 1
      obtain ⟨x0, x1, rfl, h0, h1, k2, k3, k4, hC⟩ := hI
      have t0 := (hC.blk HN0.out (by omega)).cell 0
      have t1 := (hC.blk HN0.out (by omega)).cell 1
      simp only [List.getElem?_toArray, List.getElem?_cons_zero, List.getElem?_cons_succ] at t0 t1
      have H0' := hid h0; have H1' := hid h1; have K2' := hid k2; have K3' := hid k3; have K4' := hid k4; have HC' := hid hC; clear h0 h1 k2 k3 k4 hC
      try simp only [Act.put, List.setIfInBounds_toArray, List.set_cons_succ, List.set_cons_zero]
      go_wp2_with fail
      have h0 := H0'.out; have h1 := H1'.out; have k2 := K2'.out; have k3 := K3'.out; have k4 := K4'.out; have hC := HC'.out
      exact ⟨x0, _, (by first | rfl | (simp only [Act.put, List.setIfInBounds_toArray, List.set_cons_succ, List.set_cons_zero])), (fun h => h0 (by simpa using h)), (fun _ => rfl), (by simpa using k2), (by simpa using k3), (by simpa using k4), hC⟩
    · -- 2
      obtain ⟨x0, x1, rfl, h0, h1, k2, k3, k4, hC⟩ := hI
      simp [Region.binds] at hdep
      obtain rfl := h0 (by first | exact hdep | exact hdep.1 | exact hdep.2 | exact hdep.2.1 | exact hdep.2.2 | exact hdep.2.2.1 | exact hdep.2.2.2 | simp_all)
      have hko : Blk wx (s) 27 #[.int .u8 0, .int .u64 0, .int .u64 0, .int .u64 0, .int .u64 0, .int .u64 0, .int .u64 0, .string ⟨#[]⟩, .string ⟨#[]⟩, .slice none 0 0] := by have h := k2; rw [hf] at h; simpa using h
      have y0 := hko.cell 0; have z0 := hko.frozen 0
      have y1 := hko.cell 1; have z1 := hko.frozen 1
      have y2 := hko.cell 2; have z2 := hko.frozen 2
      have y3 := hko.cell 3; have z3 := hko.frozen 3
      have y4 := hko.cell 4; have z4 := hko.frozen 4
      have y5 := hko.cell 5; have z5 := hko.frozen 5
      have y6 := hko.cell 6; have z6 := hko.frozen 6
      have y7 := hko.cell 7; have z7 := hko.frozen 7
      have y8 := hko.cell 8; have z8 := hko.frozen 8
      have y9 := hko.cell 9; have z9 := hko.frozen 9
      simp only [List.getElem?_toArray, List.getElem?_cons_zero, List.getElem?_cons_succ] at y0 y1 y2 y3 y4 y5 y6 y7 y8 y9
      have HKO := hid hko; clear hko
      have H0' := hid h0; have H1' := hid h1; have K2' := hid k2; have K3' := hid k3; have K4' := hid k4; have HC' := hid hC; clear h0 h1 k2 k3 k4 hC
      try simp only [Act.put, List.setIfInBounds_toArray, List.set_cons_succ, List.set_cons_zero]
      go_wp2_with fail
      have h0 := H0'.out; have h1 := H1'.out; have k2 := K2'.out; have k3 := K3'.out; have k4 := K4'.out; have hC := HC'.out
      obtain ⟨hkn, hcn⟩ := mstore HKO.out _ _ _ _ _ _ _ _ _ _
      exact ⟨_, x1, (by first | rfl | (simp only [Act.put, List.setIfInBounds_toArray, List.set_cons_succ, List.set_cons_zero])), (fun _ => rfl), (fun h => h1 (by simpa using h)), (by simpa using hkn), (hcn.blk (by simpa using k3) (by omega)), (hcn.blk (by simpa using k4) (by omega)), (hC.trans (hcn.mono (fun q _ hq => by subst hq; simp)))⟩
    · -- 3
      obtain ⟨x0, x1, rfl, h0, h1, k2, k3, k4, hC⟩ := hI
      have hko : Blk wx (s + 1) 87 #[.slice none 0 0] := by have h := k3; rw [hf] at h; simpa using h
      have y0 := hko.cell 0; have z0 := hko.frozen 0
      simp only [List.getElem?_toArray, List.getElem?_cons_zero] at y0
      have HKO := hid hko; clear hko
      have H0' := hid h0; have H1' := hid h1; have K2' := hid k2; have K3' := hid k3; have K4' := hid k4; have HC' := hid hC; clear h0 h1 k2 k3 k4 hC
      try simp only [Act.put, List.setIfInBounds_toArray, List.set_cons_succ, List.set_cons_zero]
      go_wp2_with fail
      have h0 := H0'.out; have h1 := H1'.out; have k2 := K2'.out; have k3 := K3'.out; have k4 := K4'.out; have hC := HC'.out
      obtain ⟨hkn, hcn⟩ := ostore HKO.out _
      exact ⟨x0, x1, (by first | rfl | (simp only [Act.put, List.setIfInBounds_toArray, List.set_cons_succ, List.set_cons_zero])), (fun h => h0 (by simpa using h)), (fun h => h1 (by simpa using h)), (hcn.blk (by simpa using k2) (by omega)), (by simpa using hkn), (hcn.blk (by simpa using k4) (by omega)), (hC.trans (hcn.mono (fun q _ hq => by subst hq; simp)))⟩
    · -- 4
      obtain ⟨x0, x1, rfl, h0, h1, k2, k3, k4, hC⟩ := hI
      simp [Region.binds] at hdep
      obtain rfl := h1 (by first | exact hdep | exact hdep.1 | exact hdep.2 | exact hdep.2.1 | exact hdep.2.2 | exact hdep.2.2.1 | exact hdep.2.2.2 | simp_all)
      have hko : Blk wx (s + 1 + 1) 33 #[.int .i64 0, .int .i64 0] := by have h := k4; rw [hf] at h; simpa using h
      have y0 := hko.cell 0; have z0 := hko.frozen 0
      have y1 := hko.cell 1; have z1 := hko.frozen 1
      simp only [List.getElem?_toArray, List.getElem?_cons_zero, List.getElem?_cons_succ] at y0 y1
      have HKO := hid hko; clear hko
      have H0' := hid h0; have H1' := hid h1; have K2' := hid k2; have K3' := hid k3; have K4' := hid k4; have HC' := hid hC; clear h0 h1 k2 k3 k4 hC
      try simp only [Act.put, List.setIfInBounds_toArray, List.set_cons_succ, List.set_cons_zero]
      go_wp2_with fail
      have h0 := H0'.out; have h1 := H1'.out; have k2 := K2'.out; have k3 := K3'.out; have k4 := K4'.out; have hC := HC'.out
      obtain ⟨hkn, hcn⟩ := fstore HKO.out _ _
      exact ⟨x0, _, (by first | rfl | (simp only [Act.put, List.setIfInBounds_toArray, List.set_cons_succ, List.set_cons_zero])), (fun h => h0 (by simpa using h)), (fun _ => rfl), (hcn.blk (by simpa using k2) (by omega)), (hcn.blk (by simpa using k3) (by omega)), (by simpa using hkn), (hC.trans (hcn.mono (fun q _ hq => by subst hq; simp)))⟩
  · intro f a' wx hall hI
    obtain ⟨x0, x1, rfl, h0, h1, k2, k3, k4, hC⟩ := hI
    obtain rfl := h0 (hall 0 (by simp))
    obtain rfl := h1 (hall 1 (by simp))
    have kf2 := k2; rw [hall 2 (by simp), if_pos rfl] at kf2
    have kf3 := k3; rw [hall 3 (by simp), if_pos rfl] at kf3
    have kf4 := k4; rw [hall 4 (by simp), if_pos rfl] at kf4
    clear h0 h1 k2 k3 k4 hall f
    try simp only [Act.put, List.setIfInBounds_toArray, List.set_cons_succ, List.set_cons_zero]
    have hb9 := HBA.out.trans (hC.below (B := s) (fun q hq => by omega) (by have := HK6.out.lt; omega))
    have x0 := kf2.cell 0; have x1 := kf2.cell 1; have x2 := kf2.cell 2; have x3 := kf2.cell 3; have x4 := kf2.cell 4; have x5 := kf2.cell 5; have x6 := kf2.cell 6; have x7 := kf2.cell 7; have x8 := kf2.cell 8; have x9 := kf2.cell 9
    have y0 := kf3.cell 0
    have z0 := kf4.cell 0
    have z1 := kf4.cell 1
    simp only [List.getElem?_toArray, List.getElem?_cons_zero, List.getElem?_cons_succ] at x0 x1 x2 x3 x4 x5 x6 x7 x8 x9 y0 z0 z1
    have HB9 := hid hb9
    clear kf2 kf3 kf4 hC hb9
    gi_wp2
    refine ⟨.tuple #[.agg #[.int .u8 0, .int .u64 0, .int .u64 0, .int .u64 0, .int .u64 0, .int .u64 0, .int .u64 0, .string ⟨#[]⟩, .string ⟨#[]⟩, .slice none 0 0], .slice none 0 0, .agg #[.int .i64 (E : Int), .int .i64 (P : Int)]], by simp [results, Try.results53, go_sem, x0, x1, x2, x3, x4, x5, x6, x7, x8, x9, y0, z0, z1], ?_⟩
    exact HBAD.out _ HB9.out
end Go.Proofs.Ytnfodgjihdoncaa
