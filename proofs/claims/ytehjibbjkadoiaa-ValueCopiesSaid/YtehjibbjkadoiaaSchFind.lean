/- schema.Find: a field of a kind by its number. -/
import Derived.Test.YtehjibbjkadoiaaSchOf
set_option linter.unusedVariables false
namespace Go.Proofs.Ytehjibbjkadoiaa
open Go.RowKit Go.Shelf
attribute [local go_sem] Oper.semAt_some
def pF (k n : Int) (r : SRow) : Bool := decide ((r.kind : Int) = k ∧ (r.num : Int) = n)
def finS (k v n : Int) : Option SRow := (kn v).find? (pF k n)
def specO : Option SRow → Value
  | none => .agg #[.int .i64 0, .int .i64 0, .int .i64 0]
  | some r => specV r
theorem take_no (k v n : Int) (j : Nat) (hj : j < (kn v).length) (hno : ((kn v).take j).find? (pF k n) = none) (h : pF k n (knAt v j) = false) : ((kn v).take (j + 1)).find? (pF k n) = none := by
  rw [knAt_take v j hj, List.find?_append, hno]
  simp [h]
theorem finS_some (k v n : Int) (j : Nat) (hj : j < (kn v).length) (hno : ((kn v).take j).find? (pF k n) = none) (h : pF k n (knAt v j) = true) : finS k v n = some (knAt v j) := by
  unfold finS
  have h1 : (kn v).find? (pF k n) = ((kn v).take (j + 1) ++ (kn v).drop (j + 1)).find? (pF k n) := by rw [List.take_append_drop]
  rw [h1, knAt_take v j hj, List.find?_append, List.find?_append, hno]
  simp [h]
/-- What holds between two rounds of Find. -/
structure FiJ (s : Nat) (w : World) (v k n : Int) (W : World) : Prop where
  r0 : Blk W s 5 #[.int .u8 k]
  r1 : Blk W (s + 1) 3 #[.int .i64 n]
  r2 : Blk W (s + 2) 44 #[.int .i64 0, .int .i64 0, .int .i64 0]
  r3 : Blk W (s + 3) 4 #[.bool false]
  r4 : Blk W (s + 4) 3 #[.int .i64 v]
  bel : Below s w W
theorem FiJ.keep {s : Nat} {w W W' : World} {v k n : Int} {S : Nat → Prop} (h : FiJ s w v k n W) (hc : Chg S W W') (hS : ∀ q, S q → s + 5 ≤ q) : FiJ s w v k n W' := by
  have g := h.r4.lt
  exact ⟨hc.blk h.r0 (fun hq => by have := hS _ hq; omega), hc.blk h.r1 (fun hq => by have := hS _ hq; omega), hc.blk h.r2 (fun hq => by have := hS _ hq; omega), hc.blk h.r3 (fun hq => by have := hS _ hq; omega), hc.blk h.r4 (fun hq => by have := hS _ hq; omega), h.bel.trans (hc.below (B := s) (fun q hq => by have := hS q hq; omega) (by omega))⟩
theorem FiJ.end_ {s : Nat} {w W : World} {v k n : Int} (h : FiJ s w v k n W) (x y z b : Value) :
    Blk ((((W.setCell ⟨s + 2, 0, none⟩ x).setCell ⟨s + 2, 1, none⟩ y).setCell ⟨s + 2, 2, none⟩ z).setCell ⟨s + 3, 0, none⟩ b) (s + 2) 44 #[x, y, z] ∧
    Blk ((((W.setCell ⟨s + 2, 0, none⟩ x).setCell ⟨s + 2, 1, none⟩ y).setCell ⟨s + 2, 2, none⟩ z).setCell ⟨s + 3, 0, none⟩ b) (s + 3) 4 #[b] ∧
    Below s w ((((W.setCell ⟨s + 2, 0, none⟩ x).setCell ⟨s + 2, 1, none⟩ y).setCell ⟨s + 2, 2, none⟩ z).setCell ⟨s + 3, 0, none⟩ b) ∧
    Chg (fun q => q = s + 2 ∨ q = s + 3) W ((((W.setCell ⟨s + 2, 0, none⟩ x).setCell ⟨s + 2, 1, none⟩ y).setCell ⟨s + 2, 2, none⟩ z).setCell ⟨s + 3, 0, none⟩ b) := by
  have hc : Chg (fun q => q = s + 2 ∨ q = s + 3) W ((((W.setCell ⟨s + 2, 0, none⟩ x).setCell ⟨s + 2, 1, none⟩ y).setCell ⟨s + 2, 2, none⟩ z).setCell ⟨s + 3, 0, none⟩ b) := ((((Chg.refl _ W).set_ (.inl (.inl rfl)) 0 x).set_ (.inl (.inl rfl)) 1 y).set_ (.inl (.inl rfl)) 2 z).set_ (.inl (.inr rfl)) 0 b
  have g := h.r4.lt
  refine ⟨?_, ?_, h.bel.trans (hc.below (B := s) (fun q hq => by omega) (by omega)), hc⟩
  · have h1 := (((h.r2.set_ 0 x).set_ 1 y).set_ 2 z).far (p := ⟨s + 3, 0, none⟩) (by simp) b
    simpa using h1
  · have hc3 : Chg (fun q => q = s + 2) W (((W.setCell ⟨s + 2, 0, none⟩ x).setCell ⟨s + 2, 1, none⟩ y).setCell ⟨s + 2, 2, none⟩ z) := (((Chg.refl (fun q => q = s + 2) W).set_ (.inl rfl) 0 x).set_ (.inl rfl) 1 y).set_ (.inl rfl) 2 z
    have h1 := (hc3.blk h.r3 (by omega)).set_ 0 b
    simpa using h1
/-- What holds when Find has found. -/
structure FiX (s : Nat) (w : World) (r : SRow) (W : World) : Prop where
  r2 : Blk W (s + 2) 44 #[.int .i64 (r.num : Nat), .int .i64 (r.typ : Nat), .int .i64 (r.slot : Nat)]
  r3 : Blk W (s + 3) 4 #[.bool true]
  bel : Below s w W
theorem FiX.keep {s : Nat} {w W W' : World} {r : SRow} {S : Nat → Prop} (h : FiX s w r W) (hc : Chg S W W') (hS : ∀ q, S q → s + 5 ≤ q) : FiX s w r W' := by
  have g := h.r3.lt
  exact ⟨hc.blk h.r2 (fun hq => by have := hS _ hq; omega), hc.blk h.r3 (fun hq => by have := hS _ hq; omega), h.bel.trans (hc.below (B := s) (fun q hq => by have := hS q hq; omega) (by omega))⟩
set_option maxRecDepth 100000 in
set_option maxHeartbeats 4000000 in
theorem sfind_in (m : Nat) (hm : 4 ≤ m) (k v n : Int) (w : World) (hv1 : -9223372036854775808 ≤ v) (hv2 : v ≤ 9223372036854775807) :
    CallsIn Fence.wide m Try.prog 25 #[.int .u8 k, .int .i64 v, .int .i64 n] w fun e W' => e = .returned (.tuple #[specO (finS k v n), .bool (finS k v n).isSome]) ∧ Below w.heap.size w W' := by
  have h1 : 1 ≤ m := by omega
  refine callsIn_of_wp_marks Try.func25 rfl trivial ?_ rfl
  simp only [Try.ntmps25, List.size_toArray, List.length_cons, List.length_nil, Nat.reduceAdd, Nat.reduceSub, Array.replicate_succ, Array.replicate_zero, List.push_toArray, List.append_toArray, List.nil_append, List.cons_append]
  gi_wp2_with (refine ⟨trivial, ?_⟩; gi_at_call 49; refine (known_in (m - 1) v _).mono ?_; rintro e w' ⟨rfl, rfl⟩)
  obtain ⟨s, hsz⟩ : ∃ s, w.heap.size = s := ⟨_, rfl⟩
  obtain ⟨Wa, hWa⟩ : ∃ Wa, ((((w.alloc (.cells #[.int .u8 k] 5)).alloc (.cells #[.int .i64 n] 3)).alloc (.cells #[.int .i64 0, .int .i64 0, .int .i64 0] 44)).alloc (.cells #[.bool false] 4)).alloc (.cells #[.int .i64 v] 3) = Wa := ⟨_, rfl⟩
  have hza : Wa.heap.size = s + 5 := by rw [← hWa]; simp [hsz]
  have hj0 : FiJ s w v k n Wa := by
    refine ⟨?_, ?_, ?_, ?_, ?_, ?_⟩
    · rw [← hWa, ← hsz]; exact ((((Blk.new w _ _).alloc _).alloc _).alloc _).alloc _
    · have h := (((Blk.new (w.alloc (.cells #[.int .u8 k] 5)) 3 #[.int .i64 n]).alloc (.cells #[.int .i64 0, .int .i64 0, .int .i64 0] 44)).alloc (.cells #[.bool false] 4)).alloc (.cells #[.int .i64 v] 3)
      rw [hWa, World.size_alloc, hsz] at h; exact h
    · have h := ((Blk.new ((w.alloc (.cells #[.int .u8 k] 5)).alloc (.cells #[.int .i64 n] 3)) 44 #[.int .i64 0, .int .i64 0, .int .i64 0]).alloc (.cells #[.bool false] 4)).alloc (.cells #[.int .i64 v] 3)
      rw [hWa, World.size_alloc, World.size_alloc, hsz] at h; exact h
    · have h := (Blk.new (((w.alloc (.cells #[.int .u8 k] 5)).alloc (.cells #[.int .i64 n] 3)).alloc (.cells #[.int .i64 0, .int .i64 0, .int .i64 0] 44)) 4 #[.bool false]).alloc (.cells #[.int .i64 v] 3)
      rw [hWa, World.size_alloc, World.size_alloc, World.size_alloc, hsz] at h; exact h
    · have h := Blk.new ((((w.alloc (.cells #[.int .u8 k] 5)).alloc (.cells #[.int .i64 n] 3)).alloc (.cells #[.int .i64 0, .int .i64 0, .int .i64 0] 44)).alloc (.cells #[.bool false] 4)) 3 #[.int .i64 v]
      rw [hWa, World.size_alloc, World.size_alloc, World.size_alloc, World.size_alloc, hsz] at h; exact h
    · rw [← hWa, ← hsz]; exact bw_a (bw_a (bw_a (bw_a (bw_a (Below.refl _ w) _) _) _) _) _
  rw [hWa, hsz]
  clear hWa
  refine range_wide m (by omega) (s + 5) hza (gf := 69) (lb := #[.pointer (some ⟨s + 4, 0, none⟩)]) rfl (enters_of Try.func69 (by kernel_rfl) rfl) (kn v).length (fun j => kArgs (knAt v j)) (fun _ => rfl) 3
    (fun j W' => FiJ s w v k n W' ∧ ((kn v).take j).find? (pF k n) = none) (fun c W' => c = .ret ∧ ∃ r, finS k v n = some r ∧ FiX s w r W') ?_ ?_ ?_ ?_ ?_ ?_ ?_
  · rintro j W1 W2 ⟨a1, a2⟩ hc
    exact ⟨a1.keep hc (fun q hq => by omega), a2⟩
  · rintro c W1 W2 ⟨a1, r, a2, a3⟩ hc
    exact ⟨a1, r, a2, a3.keep hc (fun q hq => by omega)⟩
  · exact ⟨hj0, rfl⟩
  · intro l2 J2 Jx2 W1 hw1 hJI hJn2 hJs hJ0 hy
    refine (known1_in (m - 1) (by omega) l2 (s + 4) v hv1 hv2 J2 Jx2 (s + 7) (by omega) (fun j W h => by obtain ⟨⟨h1, -⟩, h2⟩ := hJI j W h; exact h1.r4.cell 0) (fun j W W' h hc => hJn2 j W W' h (hc.mono fun q _ hq => by omega)) (fun j W hj h hz => hy j W hj h (by omega)) W1 (by omega) hJ0).mono ?_
    rintro e W' ⟨h1, (h2 | ⟨W0, h2, h3⟩)⟩
    · exact ⟨h1, .inl h2⟩
    · exact ⟨h1, .inr (hJs _ _ h2 (h3.mono fun q _ hq => by omega))⟩
  · rintro l2 j W1 hj ⟨a1, a2⟩ hsz2
    have hhas := finS_some k v n j hj a2
    have hnot := take_no k v n j hj a2
    unfold kArgs specV
    generalize knAt v j = r at *
    obtain ⟨rk, si, nu, ty, sl⟩ := r
    unfold pF at hhas hnot
    simp only [decide_eq_true_eq, decide_eq_false_iff_not] at hhas hnot
    have HH := hid hhas
    have HN := hid hnot
    clear hhas hnot a2
    gi_wp2
    have hca : Chg (fun _ => False) W1 (W1.alloc (.cells #[.int .i64 (nu : Nat), .int .i64 (ty : Nat), .int .i64 (sl : Nat)] 44)) := (Chg.refl _ W1).alloc _
    have hkr := Blk.new W1 44 #[.int .i64 (nu : Nat), .int .i64 (ty : Nat), .int .i64 (sl : Nat)]
    refine ⟨KN.of_chg hca (by omega) (fun q _ _ h => h), by rw [World.size_alloc]; omega, fun W2 hc2 => ?_⟩
    have hj2 := (a1.keep hca (fun q h => h.elim)).keep hc2 (fun q h => by omega)
    have hk2 := hc2.blk hkr (by omega)
    have hlt2 := hk2.lt
    have c0 := hj2.r0.cell 0
    have c1 := hj2.r1.cell 0
    have c20 := hj2.r2.cell 0
    have c21 := hj2.r2.cell 1
    have c22 := hj2.r2.cell 2
    have c3 := hj2.r3.cell 0
    have f20 := hj2.r2.frozen 0
    have f21 := hj2.r2.frozen 1
    have f22 := hj2.r2.frozen 2
    have f3 := hj2.r3.frozen 0
    have d0 := hk2.cell 0
    have d1 := hk2.cell 1
    have d2 := hk2.cell 2
    simp only [List.getElem?_toArray, List.getElem?_cons_zero, List.getElem?_cons_succ] at c0 c1 c20 c21 c22 c3 d0 d1 d2
    have HJ := hid hj2
    clear hj2 hk2 hca hkr a1
    by_cases hk : (rk : Int) = k
    · have hkb : ((rk : Int) == k) = true := by simpa using hk
      by_cases hn : (nu : Int) = n
      · have hnb : ((nu : Int) == n) = true := by simpa using hn
        have HK := hid hk
        have HNN := hid hn
        clear hk hn
        gi_wp2
        obtain ⟨g1, g2, g3, g4⟩ := HJ.out.end_ (.int .i64 (nu : Nat)) (.int .i64 (ty : Nat)) (.int .i64 (sl : Nat)) (.bool true)
        exact ⟨KN.of_chg g4 (by omega) (fun q g1 g2 => by omega), rfl, _, HH.out ⟨HK.out, HNN.out⟩, g1, g2, g3⟩
      · have hnb : ((nu : Int) == n) = false := by simpa using hn
        gi_wp2
        exact ⟨KN.refl _ _ _, HJ.out, HN.out (fun h => hn h.2)⟩
    · have hkb : ((rk : Int) == k) = false := by simpa using hk
      gi_wp2
      exact ⟨KN.refl _ _ _, HJ.out, HN.out (fun h => hk h.1)⟩
  · rintro W1 ⟨a1, a2⟩ hd
    rw [List.take_length] at a2
    have hfin : finS k v n = none := a2
    have c20 := a1.r2.cell 0
    have c21 := a1.r2.cell 1
    have c22 := a1.r2.cell 2
    have c3 := a1.r3.cell 0
    have f20 := a1.r2.frozen 0
    have f21 := a1.r2.frozen 1
    have f22 := a1.r2.frozen 2
    have f3 := a1.r3.frozen 0
    simp only [List.getElem?_toArray, List.getElem?_cons_zero, List.getElem?_cons_succ] at c20 c21 c22 c3
    have HF := hid hfin
    have HJ := hid a1
    have HD := hid hd
    clear a1 hd a2 hfin
    gi_wp2
    obtain ⟨g1, g2, g3, g4⟩ := HJ.out.end_ (.int .i64 0) (.int .i64 0) (.int .i64 0) (.bool false)
    have hM : Marks (s + 5) ((((W1.setCell ⟨s + 2, 0, none⟩ (.int .i64 0)).setCell ⟨s + 2, 1, none⟩ (.int .i64 0)).setCell ⟨s + 2, 2, none⟩ (.int .i64 0)).setCell ⟨s + 3, 0, none⟩ (.bool false)) [s + 5] := (Marks.nil_ _ _).cons_ (Nat.le_refl _) (by simp) ((g4.block _ (Array.getElem?_eq_some_iff.1 HD.out).1 (by omega)).trans HD.out)
    refine leaves_marks (s + 5) [s + 5] _ hM fun W6 h6 => ?_
    have hb2 := h6.blk g1 (fun hq => by simp at hq)
    have hb3 := h6.blk g2 (fun hq => by simp at hq)
    have c20 := hb2.cell 0
    have c21 := hb2.cell 1
    have c22 := hb2.cell 2
    have c3 := hb3.cell 0
    simp only [List.getElem?_toArray, List.getElem?_cons_zero, List.getElem?_cons_succ] at c20 c21 c22 c3
    refine ⟨.tuple #[.agg #[.int .i64 0, .int .i64 0, .int .i64 0], .bool false], by simp [results, Try.results25, go_sem, c20, c21, c22, c3], by rw [HF.out]; rfl, ?_⟩
    rw [hsz]; exact g3.trans (h6.below (B := s) (fun q hq => by simp at hq; omega) (Nat.le_of_lt (Nat.lt_of_le_of_lt (Nat.le_add_right s 3) g2.lt)))
  · rintro c W1 ⟨rfl, r, a1, a2⟩ hd
    gi_wp2
    have hM : Marks (s + 5) W1 [s + 5] := (Marks.nil_ _ _).cons_ (Nat.le_refl _) (by simp) hd
    refine leaves_marks (s + 5) [s + 5] W1 hM fun W6 h6 => ?_
    have hj6 := a2.keep h6 (fun q hq => by simp at hq; omega)
    have c20 := hj6.r2.cell 0
    have c21 := hj6.r2.cell 1
    have c22 := hj6.r2.cell 2
    have c3 := hj6.r3.cell 0
    simp only [List.getElem?_toArray, List.getElem?_cons_zero, List.getElem?_cons_succ] at c20 c21 c22 c3
    refine ⟨.tuple #[specV r, .bool true], by simp [results, Try.results25, go_sem, c20, c21, c22, c3, specV], by rw [a1]; rfl, ?_⟩
    rw [hsz]; exact hj6.bel
end Go.Proofs.Ytehjibbjkadoiaa
