/- schema.Kinds: the kinds that a version has. -/
import Derived.Test.YtefoccpgnijamaaSchOf
set_option linter.unusedVariables false
namespace Go.Proofs.Ytefoccpgnijamaa
open Go.RowKit Go.Shelf
attribute [local go_sem] Oper.semAt_some
def kdStep (a : List Nat × Nat) (r : SRow) : List Nat × Nat := (if r.kind = a.2 then a.1 else a.1 ++ [r.kind], r.kind)
def kdS (v : Int) (j : Nat) : List Nat × Nat := ((kn v).take j).foldl kdStep ([], 0)
def kinds (v : Int) : List Nat := ((kn v).foldl kdStep ([], 0)).1
def kvN (k : Nat) : Value := .int .u8 (k : Nat)
theorem kdS_next (v : Int) (j : Nat) (hj : j < (kn v).length) : kdS v (j + 1) = kdStep (kdS v j) (knAt v j) := by
  unfold kdS
  rw [knAt_take v j hj, List.foldl_append]
  rfl
theorem kdS_all (v : Int) : (kdS v (kn v).length).1 = kinds v := by
  unfold kdS kinds
  rw [List.take_length]
theorem kdS_len (v : Int) : ∀ j, j ≤ (kn v).length → (kdS v j).1.length ≤ j
  | 0, _ => by simp [kdS]
  | j + 1, h => by
    have ih := kdS_len v j (by omega)
    rw [kdS_next v j (by omega)]
    unfold kdStep
    simp only
    split
    · omega
    · rw [List.length_append]; simp; omega
/-- What holds between two rounds of Kinds. -/
structure KiJ (s : Nat) (w : World) (v : Int) (L : List Nat) (last : Nat) (vv : Value) (W : World) : Prop where
  r0 : Blk W s 32 #[vv]
  r1 : Blk W (s + 1) 5 #[.int .u8 (last : Nat)]
  r2 : Blk W (s + 2) 3 #[.int .i64 v]
  row : W.ownsRow (s + 8) 5 1 vv L.length (L.map kvN)
  bel : Below s w W
theorem KiJ.keep {s : Nat} {w W W' : World} {v : Int} {L : List Nat} {last : Nat} {vv : Value} {S : Nat → Prop} (h : KiJ s w v L last vv W) (hc : Chg S W W') (hS : ∀ q, S q → s + 3 ≤ q ∧ q < s + 8) : KiJ s w v L last vv W' := by
  have g := h.r2.lt
  exact ⟨hc.blk h.r0 (fun hq => by have := hS _ hq; omega), hc.blk h.r1 (fun hq => by have := hS _ hq; omega), hc.blk h.r2 (fun hq => by have := hS _ hq; omega), own_chgS h.row hc (fun g hg hk => by have := (h.row.lt g hg).1; have := hS _ hk; omega), h.bel.trans (hc.below (B := s) (fun q hq => by have := hS q hq; omega) (by omega))⟩
theorem KiJ.last {s : Nat} {w W : World} {v : Int} {L : List Nat} {last : Nat} {vv : Value} (h : KiJ s w v L last vv W) (r : Nat) : KiJ s w v L r vv (W.setCell ⟨s + 1, 0, none⟩ (.int .u8 (r : Nat))) ∧ Chg (fun q => q = s + 1) W (W.setCell ⟨s + 1, 0, none⟩ (.int .u8 (r : Nat))) := by
  have hc : Chg (fun q => q = s + 1) W (W.setCell ⟨s + 1, 0, none⟩ (.int .u8 (r : Nat))) := (Chg.refl (fun q => q = s + 1) W).set_ (.inl rfl) 0 _
  have g := h.r2.lt
  exact ⟨⟨hc.blk h.r0 (by omega), by simpa using h.r1.set_ 0 (.int .u8 (r : Nat)), hc.blk h.r2 (by omega), own_chgS h.row hc (fun g hg hk => by have := (h.row.lt g hg).1; omega), h.bel.trans (hc.below (fun q hq => by omega) (by omega))⟩, hc⟩
theorem KiJ.step {s : Nat} {w W w1 : World} {v : Int} {L : List Nat} {last r : Nat} {vv v' : Value} {o : Obj} (h : KiJ s w v L last vv W) (hg : (W.alloc o).grownBy w1 vv.ownBlock)
    (ho' : w1.ownsRow (s + 8) 5 1 v' (L.length + 1) (L.map kvN ++ [kvN r])) : KiJ s w v (L ++ [r]) last v' (w1.setCell ⟨s, 0, none⟩ v') ∧ Chg (fun q => q = s ∨ s + 8 ≤ q) W (w1.setCell ⟨s, 0, none⟩ v') := by
  have hb1 : Chg (fun q => s + 8 ≤ q) W w1 := ((Chg.refl _ W).alloc o).trans (Chg.of_grown hg fun g e => (h.row.lt g e).1)
  have hc1 : Chg (fun q => q = s ∨ s + 8 ≤ q) W w1 := hb1.mono fun q _ hq => .inr hq
  have hc : Chg (fun q => q = s ∨ s + 8 ≤ q) W (w1.setCell ⟨s, 0, none⟩ v') := hc1.set_ (.inl (.inl rfl)) 0 v'
  have hv1 : Blk w1 s 32 #[vv] := hb1.blk h.r0 (by omega)
  have hv2 := hv1.set_ 0 v'
  have g := h.r2.lt
  refine ⟨⟨by simpa using hv2, hc.blk h.r1 (by omega), hc.blk h.r2 (by omega), ?_, h.bel.trans (hc.below (fun q hq => by omega) (by omega))⟩, hc⟩
  have h2 := own_chgS ho' ((Chg.refl (fun q => q = s) w1).set_ (.inl rfl) 0 v') (fun g hg' hk => by have := (ho'.lt g hg').1; omega)
  rw [List.length_append, List.map_append]
  simpa using h2
set_option maxRecDepth 100000 in
set_option maxHeartbeats 4000000 in
theorem skinds_in (m : Nat) (hm : 4 ≤ m) (v : Int) (w : World) (hv1 : -9223372036854775808 ≤ v) (hv2 : v ≤ 9223372036854775807) :
    CallsIn Fence.wide m Try.prog 14 #[.int .i64 v] w fun e W' => ∃ vv, e = .returned vv ∧ W'.ownsRow (w.heap.size + 1) 5 1 vv (kinds v).length ((kinds v).map kvN) ∧ Below w.heap.size w W' := by
  have h1 : 1 ≤ m := by omega
  obtain ⟨i5, hi5, hi50, hi51, hi52⟩ := info_parts Try.info5
  refine callsIn_of_wp_marks Try.func14 rfl trivial ?_ rfl
  simp only [Try.ntmps14, List.size_toArray, List.length_cons, List.length_nil, Nat.reduceAdd, Nat.reduceSub, Array.replicate_succ, Array.replicate_zero, List.push_toArray, List.append_toArray, List.nil_append, List.cons_append]
  gi_wp2_with (refine ⟨trivial, ?_⟩; gi_at_call 38; refine (known_in (m - 1) v _).mono ?_; rintro e w' ⟨rfl, rfl⟩)
  obtain ⟨s, hsz⟩ : ∃ s, w.heap.size = s := ⟨_, rfl⟩
  obtain ⟨Wa, hWa⟩ : ∃ Wa, ((w.alloc (.cells #[.slice none 0 0] 32)).alloc (.cells #[.int .u8 0] 5)).alloc (.cells #[.int .i64 v] 3) = Wa := ⟨_, rfl⟩
  have hza : Wa.heap.size = s + 3 := by rw [← hWa]; simp [hsz]
  have hj0 : KiJ s w v (kdS v 0).1 (kdS v 0).2 (.slice none 0 0) Wa := by
    refine ⟨?_, ?_, ?_, World.ownsRow_nil _ _ _ _, ?_⟩
    · rw [← hWa, ← hsz]; exact ((Blk.new w _ _).alloc _).alloc _
    · have h := (Blk.new (w.alloc (.cells #[.slice none 0 0] 32)) 5 #[.int .u8 0]).alloc (.cells #[.int .i64 v] 3)
      rw [hWa, World.size_alloc, hsz] at h; exact h
    · have h := Blk.new ((w.alloc (.cells #[.slice none 0 0] 32)).alloc (.cells #[.int .u8 0] 5)) 3 #[.int .i64 v]
      rw [hWa, World.size_alloc, World.size_alloc, hsz] at h; exact h
    · rw [← hWa, ← hsz]; exact bw_a (bw_a (bw_a (Below.refl _ w) _) _) _
  rw [hWa, hsz]
  clear hWa
  refine range_wide m (by omega) (s + 3) hza (gf := 55) (lb := #[.pointer (some ⟨s + 2, 0, none⟩)]) rfl (enters_of Try.func55 (by kernel_rfl) rfl) (kn v).length (fun j => kArgs (knAt v j)) (fun _ => rfl) 3
    (fun j W' => ∃ vv, KiJ s w v (kdS v j).1 (kdS v j).2 vv W') (fun c W' => False) ?_ ?_ ?_ ?_ ?_ ?_ ?_
  · rintro j W1 W2 ⟨vv, a1⟩ hc
    exact ⟨vv, a1.keep hc (fun q hq => by omega)⟩
  · rintro c W1 W2 h _
    exact h.elim
  · exact ⟨_, hj0⟩
  · intro l2 J2 Jx2 W1 hw1 hJI hJn2 hJs hJ0 hy
    refine (known1_in (m - 1) (by omega) l2 (s + 2) v hv1 hv2 J2 Jx2 (s + 5) (by omega) (fun j W h => by obtain ⟨⟨vv, h1⟩, h2⟩ := hJI j W h; exact h1.r2.cell 0) (fun j W W' h hc => hJn2 j W W' h (hc.mono fun q _ hq => by omega)) (fun j W hj h hz => hy j W hj h (by omega)) W1 (by omega) hJ0).mono ?_
    rintro e W' ⟨h1, (h2 | ⟨W0, h2, h3⟩)⟩
    · exact ⟨h1, .inl h2⟩
    · exact ⟨h1, .inr (hJs _ _ h2 (h3.mono fun q _ hq => by omega))⟩
  · rintro l2 j W1 hj ⟨vv, a1⟩ hsz2
    have hnx := kdS_next v j hj
    have hlen := kdS_len v j (by omega)
    have hknl := kn_len v
    unfold kArgs specV
    generalize knAt v j = r at *
    generalize kdS v j = a at *
    obtain ⟨L, last⟩ := a
    obtain ⟨rk, si, nu, ty, sl⟩ := r
    unfold kdStep at hnx
    simp only at hnx hlen a1
    have HX := hid hnx
    clear hnx
    gi_wp2
    refine ⟨KN.refl _ _ _, hsz2, fun W2 hc2 => ?_⟩
    have hj2 := a1.keep hc2 (fun q h => by omega)
    have c0 := hj2.r0.cell 0
    have c1 := hj2.r1.cell 0
    have f0 := hj2.r0.frozen 0
    have f1 := hj2.r1.frozen 0
    simp only [List.getElem?_toArray, List.getElem?_cons_zero] at c0 c1
    have hlt2 := hc2.size
    have HJ := hid hj2
    clear hj2 a1
    by_cases hk : (rk : Int) = (last : Int)
    · have hkb : ((rk : Int) != (last : Int)) = false := by simpa using hk
      have HK := hid hk
      clear hk
      gi_wp2
      obtain ⟨g1, g2⟩ := HJ.out.last rk
      exact ⟨KN.of_chg g2 (by omega) (fun q h1 h2 => by omega), _, by rw [HX.out, if_pos (by have := HK.out; omega)]; exact g1⟩
    · have hkb : ((rk : Int) != (last : Int)) = true := by simpa using hk
      have HK := hid hk
      clear hk
      gi_wp2_with (gi_at_builtin; refine wpListIn_append_rd _ rfl _ _ 32 rfl (s + 8) 5 i5 (.int .u8 0) 1 1 Try.underlying32 hi5 hi50 hi51 hi52 rfl (by decide) vv L.length (L.map kvN) rfl (HJ.out.row.alloc _) ⟨W2.heap.size, 0, none⟩ 1 1 [.int .u8 (rk : Nat)] rfl rfl (Rd.new W2 5 #[.int .u8 (rk : Nat)]) (by simp [Value.oneCell']) (by simp only [maxLen]; omega) (by omega) (by simp; omega) ?_; intro v' w1 hown' hgrow; obtain ⟨g', cap', rfl⟩ := ownsRow_succ hown'; have hst := KiJ.step (r := rk) HJ.out hgrow hown'; have hg1 : some s ≠ vv.ownBlock := (fun e => by have := (HJ.out.row.lt _ e.symm).1; omega); have hw1 := (hgrow.block s (by have := HJ.out.r0.lt; simp; omega) hg1).trans (HJ.out.r0.alloc _); have hc1 := Blk.cell hw1 0; have hf1 := Blk.frozen hw1 0; simp only [List.getElem?_toArray, List.getElem?_cons_zero] at hc1; have hg2 : some (s + 1) ≠ vv.ownBlock := (fun e => by have := (HJ.out.row.lt _ e.symm).1; omega); have hw2 := (hgrow.block (s + 1) (by have := HJ.out.r1.lt; simp; omega) hg2).trans (HJ.out.r1.alloc _); have hc2' := Blk.cell hw2 0; have hf2 := Blk.frozen hw2 0; simp only [List.getElem?_toArray, List.getElem?_cons_zero] at hc2')
      obtain ⟨hj5, hc5⟩ := hst
      obtain ⟨g1, g2⟩ := hj5.last rk
      have hz5 := hc5.size
      exact ⟨(KN.of_chg hc5 (by omega) (fun q h1 h2 => by omega)).trans (KN.of_chg g2 (by omega) (fun q h1 h2 => by omega)), _, by rw [HX.out, if_neg (by have := HK.out; omega)]; exact g1⟩
  · rintro W1 ⟨vv, a1⟩ hd
    rw [kdS_all] at a1
    obtain ⟨L, hL⟩ : ∃ L, kinds v = L := ⟨_, rfl⟩
    rw [hL] at a1
    obtain ⟨A, c, rfl⟩ : ∃ A c, vv = .slice A L.length c := by
      rcases a1.row.2 with ⟨rfl, h⟩ | ⟨g, cap, cur, rfl, _⟩
      · exact ⟨none, 0, by rw [h]⟩
      · exact ⟨_, _, rfl⟩
    have c0 := a1.r0.cell 0
    simp only [List.getElem?_toArray, List.getElem?_cons_zero] at c0
    have HJ := hid a1
    have HD := hid hd
    clear a1 hd
    gi_wp2
    have hM : Marks (s + 3) W1 [s + 3] := (Marks.nil_ _ _).cons_ (Nat.le_refl _) (by simp) HD.out
    refine leaves_marks (s + 3) [s + 3] _ hM fun W6 h6 => ?_
    have hj6 := HJ.out.keep h6 (fun q hq => by simp at hq; omega)
    refine ⟨.slice A L.length c, by simp [results, Try.results14, go_sem], _, rfl, ?_, ?_⟩
    · rw [hL, hsz]; exact own_mono hj6.row (by omega)
    · rw [hsz]; exact hj6.bel
  · rintro c W1 h _
    exact h.elim
end Go.Proofs.Ytefoccpgnijamaa
