/- schema.Of: a kind's fields in a version. -/
import Derived.Test.YtehjibbjkadoiaaSchKnown
import Derived.Sort.QuietIn
set_option linter.unusedVariables false
namespace Go.Proofs.Ytehjibbjkadoiaa
open Go.RowKit Go.Shelf
attribute [local go_sem] Oper.semAt_some
theorem Try.infoSpec : (Try.prog.info? 44).map (fun i => (i.zero, i.size, i.bytes)) = some (some (.agg #[.int .i64 0, .int .i64 0, .int .i64 0]), 3, 24) := by kernel_rfl
def accL (v k : Int) (j : Nat) : List SRow := ((kn v).take j).filter fun r => decide ((r.kind : Int) = k)
theorem knAt_take (v : Int) (j : Nat) (hj : j < (kn v).length) : (kn v).take (j + 1) = (kn v).take j ++ [knAt v j] := by
  rw [List.take_succ_eq_append_getElem hj]
  congr 2
  unfold knAt
  rw [List.getD_eq_getElem?_getD, List.getElem?_eq_getElem hj]
  rfl
theorem accL_has (v k : Int) (j : Nat) (hj : j < (kn v).length) (h : ((knAt v j).kind : Int) = k) : accL v k (j + 1) = accL v k j ++ [knAt v j] := by
  unfold accL
  rw [knAt_take v j hj, List.filter_append, List.filter_cons_of_pos (by simpa using h)]
  rfl
theorem accL_not (v k : Int) (j : Nat) (hj : j < (kn v).length) (h : ¬ ((knAt v j).kind : Int) = k) : accL v k (j + 1) = accL v k j := by
  unfold accL
  rw [knAt_take v j hj, List.filter_append, List.filter_cons_of_neg (by simpa using h), List.filter_nil, List.append_nil]
theorem accL_all (v k : Int) : accL v k (kn v).length = ofL k v := by
  unfold accL ofL
  rw [List.take_length]
theorem accL_len (v k : Int) (j : Nat) : (accL v k j).length ≤ 40 := by
  unfold accL
  have h1 := List.length_filter_le (fun r : SRow => decide ((r.kind : Int) = k)) ((kn v).take j)
  have h2 := kn_len v
  rw [List.length_take] at h1
  omega
theorem specC_len (l : List SRow) : (l.flatMap specC).length = l.length * 3 := by
  induction l with
  | nil => rfl
  | cons r l ih => rw [List.flatMap_cons, List.length_append, ih, List.length_cons]; show 3 + _ = _; omega
/-- What holds between two rounds of Of. -/
structure OfJ (s : Nat) (w : World) (v k : Int) (L : List SRow) (vv : Value) (W : World) : Prop where
  r0 : Blk W s 5 #[.int .u8 k]
  r1 : Blk W (s + 1) 56 #[vv]
  r2 : Blk W (s + 2) 3 #[.int .i64 v]
  row : W.ownsRow (s + 8) 44 3 vv L.length (L.flatMap specC)
  bel : Below s w W
theorem OfJ.keep {s : Nat} {w W W' : World} {v k : Int} {L : List SRow} {vv : Value} {S : Nat → Prop} (h : OfJ s w v k L vv W) (hc : Chg S W W') (hS : ∀ q, S q → s + 3 ≤ q ∧ q < s + 8) : OfJ s w v k L vv W' := by
  have g := h.r2.lt
  exact ⟨hc.blk h.r0 (fun hq => by have := hS _ hq; omega), hc.blk h.r1 (fun hq => by have := hS _ hq; omega), hc.blk h.r2 (fun hq => by have := hS _ hq; omega), own_chgS h.row hc (fun g hg hk => by have := (h.row.lt g hg).1; have := hS _ hk; omega), h.bel.trans (hc.below (B := s) (fun q hq => by have := hS q hq; omega) (by omega))⟩
theorem OfJ.step {s : Nat} {w W w1 : World} {v k : Int} {L : List SRow} {r : SRow} {vv v' : Value} {o : Obj} (h : OfJ s w v k L vv W) (hg : (W.alloc o).grownBy w1 vv.ownBlock)
    (ho' : w1.ownsRow (s + 8) 44 3 v' (L.length + 1) (L.flatMap specC ++ specC r)) : OfJ s w v k (L ++ [r]) v' (w1.setCell ⟨s + 1, 0, none⟩ v') ∧ Chg (fun q => q = s + 1 ∨ s + 8 ≤ q) W (w1.setCell ⟨s + 1, 0, none⟩ v') := by
  have hb1 : Chg (fun q => s + 8 ≤ q) W w1 := ((Chg.refl _ W).alloc o).trans (Chg.of_grown hg fun g e => (h.row.lt g e).1)
  have hc1 : Chg (fun q => q = s + 1 ∨ s + 8 ≤ q) W w1 := hb1.mono fun q _ hq => .inr hq
  have hc : Chg (fun q => q = s + 1 ∨ s + 8 ≤ q) W (w1.setCell ⟨s + 1, 0, none⟩ v') := hc1.set_ (.inl (.inl rfl)) 0 v'
  have hv1 : Blk w1 (s + 1) 56 #[vv] := hb1.blk h.r1 (by omega)
  have hv2 := hv1.set_ 0 v'
  have g := h.r2.lt
  refine ⟨⟨hc.blk h.r0 (by omega), by simpa using hv2, hc.blk h.r2 (by omega), ?_, h.bel.trans (hc.below (fun q hq => by omega) (by omega))⟩, hc⟩
  have h2 := own_chgS ho' ((Chg.refl (fun q => q = s + 1) w1).set_ (.inl rfl) 0 v') (fun g hg' hk => by have := (ho'.lt g hg').1; omega)
  rw [List.length_append, List.flatMap_append]
  simpa using h2
set_option maxRecDepth 100000 in
set_option maxHeartbeats 4000000 in
theorem sof2_in (m : Nat) (hm : 4 ≤ m) (k v : Int) (w : World) (hv1 : -9223372036854775808 ≤ v) (hv2 : v ≤ 9223372036854775807) :
    CallsIn Fence.wide m Try.prog 28 #[.int .u8 k, .int .i64 v] w fun e W' => ∃ vv, e = .returned (.tuple #[vv, .bool (decide (0 < (ofL k v).length))]) ∧ W'.ownsRow (w.heap.size + 1) 44 3 vv (ofL k v).length ((ofL k v).flatMap specC) ∧ Below w.heap.size w W' := by
  have h1 : 1 ≤ m := by omega
  obtain ⟨i5, hi5, hi50, hi51, hi52⟩ := info_parts Try.infoSpec
  refine callsIn_of_wp_marks Try.func28 rfl trivial ?_ rfl
  simp only [Try.ntmps28, List.size_toArray, List.length_cons, List.length_nil, Nat.reduceAdd, Nat.reduceSub, Array.replicate_succ, Array.replicate_zero, List.push_toArray, List.append_toArray, List.nil_append, List.cons_append]
  gi_wp2_with (refine ⟨trivial, ?_⟩; gi_at_call 49; refine (known_in (m - 1) v _).mono ?_; rintro e w' ⟨rfl, rfl⟩)
  obtain ⟨s, hsz⟩ : ∃ s, w.heap.size = s := ⟨_, rfl⟩
  obtain ⟨Wa, hWa⟩ : ∃ Wa, ((w.alloc (.cells #[.int .u8 k] 5)).alloc (.cells #[.slice none 0 0] 56)).alloc (.cells #[.int .i64 v] 3) = Wa := ⟨_, rfl⟩
  have hza : Wa.heap.size = s + 3 := by rw [← hWa]; simp [hsz]
  have hj0 : OfJ s w v k (accL v k 0) (.slice none 0 0) Wa := by
    refine ⟨?_, ?_, ?_, World.ownsRow_nil _ _ _ _, ?_⟩
    · rw [← hWa, ← hsz]; exact ((Blk.new w _ _).alloc _).alloc _
    · have h := (Blk.new (w.alloc (.cells #[.int .u8 k] 5)) 56 #[.slice none 0 0]).alloc (.cells #[.int .i64 v] 3)
      rw [hWa, World.size_alloc, hsz] at h; exact h
    · have h := Blk.new ((w.alloc (.cells #[.int .u8 k] 5)).alloc (.cells #[.slice none 0 0] 56)) 3 #[.int .i64 v]
      rw [hWa, World.size_alloc, World.size_alloc, hsz] at h; exact h
    · rw [← hWa, ← hsz]; exact bw_a (bw_a (bw_a (Below.refl _ w) _) _) _
  rw [hWa, hsz]
  clear hWa
  refine range_wide m (by omega) (s + 3) hza (gf := 69) (lb := #[.pointer (some ⟨s + 2, 0, none⟩)]) rfl (enters_of Try.func69 (by kernel_rfl) rfl) (kn v).length (fun j => kArgs (knAt v j)) (fun _ => rfl) 3
    (fun j W' => ∃ vv, OfJ s w v k (accL v k j) vv W') (fun c W' => False) ?_ ?_ ?_ ?_ ?_ ?_ ?_
  · rintro j W1 W2 ⟨vv, a1⟩ hc
    exact ⟨vv, a1.keep hc (fun q hq => by omega)⟩
  · rintro c W1 W2 h _
    exact h.elim
  · exact ⟨_, hj0⟩
  · intro l2 J2 Jx2 W1 hw1 hJI hJn2 hJs hJ0 hy
    refine (known1_in (m - 1) (by omega) l2 (s + 2) v hv1 hv2 J2 Jx2 (s + 5) (by omega) (fun j W h => by obtain ⟨⟨vv, h1⟩, h2⟩ := hJI j W h; exact h1.r2.cell 0) (fun j W W' h hc => hJn2 j W W' h (hc.mono fun q _ hq => by omega)) (fun j W hj h hz => hy j W hj h (by omega)) W1 (by omega) hJ0).mono ?_
    rintro e W' ⟨h1, (h2 | ⟨W0, h2, h3⟩)⟩
    · exact ⟨h1, .inl h2⟩
    · exact ⟨h1, .inr (hJs _ _ h2 (h3.mono fun q _ hq => by omega))⟩
  · rintro l2 j W1 hj ⟨vv, a1⟩ hsz2
    have hhas := accL_has v k j hj
    have hnot := accL_not v k j hj
    have hlen := accL_len v k j
    have hlf := specC_len (accL v k j)
    unfold kArgs specV
    generalize knAt v j = r at *
    obtain ⟨rk, si, nu, ty, sl⟩ := r
    simp only at hhas hnot
    have HH := hid hhas
    have HN := hid hnot
    clear hhas hnot
    generalize accL v k j = L at *
    gi_wp2
    have hca : Chg (fun _ => False) W1 (W1.alloc (.cells #[.int .i64 (nu : Nat), .int .i64 (ty : Nat), .int .i64 (sl : Nat)] 44)) := (Chg.refl _ W1).alloc _
    have hkr := Blk.new W1 44 #[.int .i64 (nu : Nat), .int .i64 (ty : Nat), .int .i64 (sl : Nat)]
    refine ⟨KN.of_chg hca (by omega) (fun q _ _ h => h), by rw [World.size_alloc]; omega, fun W2 hc2 => ?_⟩
    have hj2 := (a1.keep hca (fun q h => h.elim)).keep hc2 (fun q h => by omega)
    have hk2 := hc2.blk hkr (by omega)
    have hlt2 := hk2.lt
    have c0 := hj2.r0.cell 0
    have c1 := hj2.r1.cell 0
    have f1 := hj2.r1.frozen 0
    have d0 := hk2.cell 0
    have d1 := hk2.cell 1
    have d2 := hk2.cell 2
    simp only [List.getElem?_toArray, List.getElem?_cons_zero, List.getElem?_cons_succ] at c0 c1 d0 d1 d2
    have HJ := hid hj2
    clear hj2 hk2 hca hkr a1
    by_cases hk : (rk : Int) = k
    · have hkb : ((rk : Int) == k) = true := by simpa using hk
      gi_wp2_with (gi_at_builtin; refine wpListIn_append_rd _ rfl _ _ 56 rfl (s + 8) 44 i5 (.agg #[.int .i64 0, .int .i64 0, .int .i64 0]) 3 24 Try.underlying56 hi5 hi50 hi51 hi52 rfl (by decide) vv L.length (L.flatMap specC) rfl (HJ.out.row.alloc _) ⟨W2.heap.size, 0, none⟩ 1 1 [.int .i64 (nu : Nat), .int .i64 (ty : Nat), .int .i64 (sl : Nat)] rfl rfl (Rd.new W2 44 #[.int .i64 (nu : Nat), .int .i64 (ty : Nat), .int .i64 (sl : Nat)]) (by simp [Value.oneCell']) (by simp only [maxLen]; omega) (by omega) (by simp; omega) ?_; intro v' w1 hown' hgrow; obtain ⟨g', cap', rfl⟩ := ownsRow_succ hown'; have hst := OfJ.step (r := ⟨rk, si, nu, ty, sl⟩) HJ.out hgrow hown'; have hg1 : some (s + 1) ≠ vv.ownBlock := (fun e => by have := (HJ.out.row.lt _ e.symm).1; omega); have hw1 := (hgrow.block (s + 1) (by have := HJ.out.r1.lt; simp; omega) hg1).trans (HJ.out.r1.alloc _); have hc1 := Blk.cell hw1 0; have hf1 := Blk.frozen hw1 0; simp only [List.getElem?_toArray, List.getElem?_cons_zero] at hc1)
      obtain ⟨hj5, hc5⟩ := hst
      exact ⟨KN.of_chg hc5 (by omega) (fun q g1 g2 => by omega), _, by rw [HH.out hk]; exact hj5⟩
    · have hkb : ((rk : Int) == k) = false := by simpa using hk
      gi_wp2
      exact ⟨KN.refl _ _ _, _, by rw [HN.out hk]; exact HJ.out⟩
  · rintro W1 ⟨vv, a1⟩ hd
    rw [accL_all] at a1
    have hlen : (ofL k v).length ≤ 40 := by rw [← accL_all]; exact accL_len _ _ _
    obtain ⟨L, hL⟩ : ∃ L, ofL k v = L := ⟨_, rfl⟩
    rw [hL] at a1 hlen
    obtain ⟨A, c, rfl⟩ : ∃ A c, vv = .slice A L.length c := by
      rcases a1.row.2 with ⟨rfl, h⟩ | ⟨g, cap, cur, rfl, _⟩
      · exact ⟨none, 0, by rw [h]⟩
      · exact ⟨_, _, rfl⟩
    have c1 := a1.r1.cell 0
    simp only [List.getElem?_toArray, List.getElem?_cons_zero] at c1
    have hmx : Try.prog.follows .mixedOrders = true := by kernel_rfl
    have HJ := hid a1
    have HD := hid hd
    clear a1 hd
    gi_wp2
    gi_quiet (fail)
    gi_wp2
    have hM : Marks (s + 3) (W1.drewN nq) [s + 3] := (Marks.nil_ _ _).cons_ (Nat.le_refl _) (by simp) HD.out
    refine leaves_marks (s + 3) [s + 3] _ hM fun W6 h6 => ?_
    have hj : OfJ s w v k L (.slice A L.length c) (W1.drewN nq) := ⟨HJ.out.r0, HJ.out.r1, HJ.out.r2, HJ.out.row, ⟨HJ.out.bel.os, HJ.out.bel.tape, HJ.out.bel.output, HJ.out.bel.size, HJ.out.bel.block⟩⟩
    have hj6 := hj.keep h6 (fun q hq => by simp at hq; omega)
    refine ⟨.tuple #[.slice A L.length c, .bool (decide (0 < L.length))], by simp [results, Try.results28, go_sem], _, by rw [hL], ?_, ?_⟩
    · rw [hL, hsz]; exact own_mono hj6.row (by omega)
    · rw [hsz]; exact hj6.bel
  · rintro c W1 h _
    exact h.elim
end Go.Proofs.Ytehjibbjkadoiaa
