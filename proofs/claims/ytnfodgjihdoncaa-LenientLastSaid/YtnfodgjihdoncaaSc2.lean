/- schema.known: the fields that a version has, one by one. · schema.Of: a kind's fields in a version. · schema.Kinds: the kinds that a version has. · schema.Find: a field of a kind by its number. · The table of all fields, by kinds and versions: plain mathematics. -/
import Derived.Test.YtnfodgjihdoncaaSc1
import Derived.Sort.QuietIn
set_option linter.unusedVariables false
namespace Go.Proofs.Ytnfodgjihdoncaa
open Go.RowKit Go.Shelf
attribute [local go_sem] Oper.semAt_some
def specV (r : SRow) : Value := .agg #[.int .i64 (r.num : Nat), .int .i64 (r.typ : Nat), .int .i64 (r.slot : Nat)]
def specC (r : SRow) : List Value := [.int .i64 (r.num : Nat), .int .i64 (r.typ : Nat), .int .i64 (r.slot : Nat)]
def knAt (v : Int) (k : Nat) : SRow := (kn v).getD k default
def kArgs (r : SRow) : Array Value := #[.int .u8 (r.kind : Nat), specV r]
theorem knAt_cnt (v : Int) (hv : ¬ 3 < v) (j : Nat) (hj : j < 40) (h : ((rowAt j).since : Int) ≤ v) : knAt v (cnt v j) = rowAt j := by
  unfold knAt
  rw [List.getD_eq_getElem?_getD, kn_split v hv j hj h]
  rfl
theorem rows_in (m : Nat) (w : World) :
    CallsIn Fence.wide m Try.prog 118 #[] w fun e w' => e = .returned (.func (.func 133) #[] #[]) ∧ w' = w := by
  refine callsIn_of_wp Try.func118 rfl trivial ?_ rfl
  simp only [Try.ntmps118, List.size_toArray, List.length_nil, Nat.reduceSub, Array.replicate_succ, Array.replicate_zero, List.push_toArray, List.append_toArray, List.nil_append]
  gi_wp2
  go_ret
  exact ⟨rfl, rfl⟩
theorem known_in (m : Nat) (v : Int) (w : World) :
    CallsIn Fence.wide m Try.prog 98 #[.int .i64 v] w fun e w' => e = .returned (.func (.func 117) #[] #[.pointer (some ⟨w.heap.size, 0, none⟩)]) ∧ w' = w.alloc (.cells #[.int .i64 v] 3) := by
  refine callsIn_of_wp Try.func98 rfl trivial ?_ rfl
  simp only [Try.ntmps98, List.size_toArray, List.length_cons, List.length_nil, Nat.reduceAdd, Nat.reduceSub, Array.replicate_succ, Array.replicate_zero, List.push_toArray, List.append_toArray, List.nil_append, List.cons_append]
  gi_wp2
  go_ret
  exact ⟨rfl, rfl⟩
set_option maxRecDepth 100000 in
set_option maxHeartbeats 4000000 in
theorem known1_in (m : Nat) (hm : 3 ≤ m) (l Bv : Nat) (v : Int) (hv1 : -9223372036854775808 ≤ v) (hv2 : v ≤ 9223372036854775807) (J : Nat → World → Prop) (Jx : World → Prop) (B0 : Nat) (hB0 : Bv < B0)
    (hJc : ∀ k W, J k W → W.cell? ⟨Bv, 0, none⟩ = some (.int .i64 v))
    (hJn : ∀ k W W', J k W → Chg (fun q => B0 ≤ q ∧ q < B0 + 3) W W' → J k W')
    (hY : ∀ k W, k < (kn v).length → J k W → B0 + 3 ≤ W.heap.size → YieldAt Fence.wide (m - 1) Try.prog l (kArgs (knAt v k)) W fun e W' => (e = .returned (.bool true) ∧ J (k + 1) W' ∧ KN B0 3 W W') ∨ (e = .returned (.bool false) ∧ Jx W' ∧ KN B0 3 W W'))
    (W : World) (hW : W.heap.size = B0) (h0 : J 0 W) :
    CallsIn Fence.wide m Try.prog 117 #[.func (.yield l) #[] #[], .pointer (some ⟨Bv, 0, none⟩)] W fun e W' => (∃ v, e = .returned v) ∧ (J (kn v).length W' ∨ ∃ W0, Jx W0 ∧ Chg (fun q => B0 ≤ q ∧ q < B0 + 3) W0 W') := by
  have hc0 := hJc 0 W h0
  have hbl := World.block_lt_of_cell? W _ hc0
  have h1 : 1 ≤ m := by omega
  have HY := hid hY
  have HJC := hid hJc
  have HJN := hid hJn
  clear hY hJc hJn
  refine callsIn_of_wp_marks Try.func117 rfl trivial ?_ rfl
  simp only [Try.ntmps117, List.size_toArray, List.length_cons, List.length_nil, Nat.reduceAdd, Nat.reduceSub, Array.replicate_succ, Array.replicate_zero, List.push_toArray, List.append_toArray, List.nil_append, List.cons_append]
  by_cases hv : 3 < v
  · rw [kn_out v hv]
    gi_wp2
    exact ⟨_, results_none rfl _ _ _, ⟨_, rfl⟩, .inl (HJN.out 0 _ _ h0 ((Chg.refl _ W).alloc _))⟩
  · have HV := hid hv
    gi_wp2_with (refine ⟨trivial, ?_⟩; gi_at_call 118; refine (rows_in (m - 1) _).mono ?_; rintro e w' ⟨rfl, rfl⟩)
    have hkb : Blk (W.alloc (.cells #[.func (.yield l) #[] #[]] 183)) B0 183 #[.func (.yield l) #[] #[]] := by rw [← hW]; exact Blk.new W _ _
    have hJa := HJN.out 0 _ _ h0 ((Chg.refl (fun q => B0 ≤ q ∧ q < B0 + 3) W).alloc (.cells #[.func (.yield l) #[] #[]] 183))
    obtain ⟨Wa, hWa⟩ : ∃ Wa, W.alloc (.cells #[.func (.yield l) #[] #[]] 183) = Wa := ⟨_, rfl⟩
    have hza : Wa.heap.size = B0 + 1 := by rw [← hWa, World.size_alloc, hW]
    rw [hWa] at hkb hJa ⊢
    clear hWa
    refine range_wide m (by omega) (B0 + 1) hza (gf := 133) (lb := #[]) rfl (enters_of Try.func133 (by kernel_rfl) rfl) 40 (fun j => #[rowV (rowAt j)]) (fun _ => rfl) 0
      (fun j W' => J (cnt v j) W' ∧ Blk W' B0 183 #[.func (.yield l) #[] #[]]) (fun c W' => c = .ret ∧ ∃ W0, Jx W0 ∧ Chg (fun q => B0 ≤ q ∧ q < B0 + 3) W0 W') ?_ ?_ ?_ ?_ ?_ ?_ ?_
    · rintro j W1 W2 ⟨a1, a2⟩ hc
      exact ⟨HJN.out _ _ _ a1 (hc.mono fun q _ hq => by omega), hc.blk a2 (by omega)⟩
    · rintro c W1 W2 ⟨a1, W0, a2, a3⟩ hc
      exact ⟨a1, W0, a2, a3.trans (hc.mono fun q _ hq => by omega)⟩
    · exact ⟨hJa, hkb⟩
    · intro l2 J2 Jx2 W1 hw1 hJI hJn2 _ hJ0 hy
      exact rows1_in (m - 1) (by omega) l2 J2 Jx2 (fun j W W' h hc => hJn2 j W W' h (hc.mono fun q _ hq => hq.elim)) (fun j W hj h => by
          obtain ⟨fn, tm, as1, bd, e1, e2⟩ := hy j W hj h (hJI j W h).2
          refine ⟨fn, tm, as1, bd, e1, e2.mono ?_⟩
          rintro e W' (⟨h1, h2, -⟩ | ⟨h1, h2, -⟩)
          · exact .inl ⟨h1, h2⟩
          · exact .inr ⟨h1, h2⟩) W1 hJ0
    · rintro l2 j W1 hj ⟨a1, a2⟩ hsz
      have hrow := rowAt_ok j hj
      have hhas := cnt_has v j hj
      have hnot := cnt_not v j hj
      have hkl := cnt_lt v (by have := HV.out; omega) j hj
      have hka := knAt_cnt v (by have := HV.out; omega) j hj
      unfold rowV
      generalize rowAt j = r at *
      obtain ⟨k, si, nu, ty, sl⟩ := r
      simp only at hhas hnot hkl hka hrow
      gi_wp2
      have hca : Chg (fun _ => False) W1 (W1.alloc (.cells #[.int .u8 (k : Nat), .int .i64 (si : Nat), .int .i64 (nu : Nat), .int .i64 (ty : Nat), .int .i64 (sl : Nat)] 188)) := (Chg.refl _ W1).alloc _
      have hkr := Blk.new W1 188 #[.int .u8 (k : Nat), .int .i64 (si : Nat), .int .i64 (nu : Nat), .int .i64 (ty : Nat), .int .i64 (sl : Nat)]
      refine ⟨KN.of_chg hca (by omega) (fun q _ _ h => h), by omega, fun W2 hc2 => ?_⟩
      have hj2 : J (cnt v j) W2 := HJN.out _ _ _ a1 ((hca.mono fun q _ h => h.elim).trans (hc2.mono fun q _ h => by omega))
      have hk2 := hc2.blk hkr (by have := hkr.lt; omega)
      have hkb2 := hc2.blk (hca.blk a2 (fun h => h)) (by omega)
      have hcv := HJC.out _ _ hj2
      have d0 := hk2.cell 0
      have d1 := hk2.cell 1
      have d2 := hk2.cell 2
      have d3 := hk2.cell 3
      have d4 := hk2.cell 4
      have e0 := hkb2.cell 0
      simp only [List.getElem?_toArray, List.getElem?_cons_zero, List.getElem?_cons_succ] at d0 d1 d2 d3 d4 e0
      have hsz2 : B0 + 3 ≤ W2.heap.size := by have := hc2.size; rw [World.size_alloc] at this; omega
      by_cases hsi : (si : Int) ≤ v
      · have hyk := HY.out (cnt v j) W2 (hkl (by omega)) hj2 hsz2
        rw [hka (by omega)] at hyk
        unfold kArgs specV at hyk
        simp only at hyk
        obtain ⟨fn, tmps, as1, bd, hy, hR⟩ := hyk
        have HKB := hid hkb2
        have HN := hid (hhas (by omega))
        have hge : ¬ v < (si : Int) := by omega
        clear hhas hnot hkl hka hk2 hkb2 hj2 a1 a2 hkr hca
        gi_wp2
        refine ⟨fun _ => by omega, ?_⟩
        have hR2 : RoundIn (Fence.wide.inRound l2) (m - 1 - 1 - 1) Try.prog l fn tmps as1 bd W2 _ := ⟨hR.1, fun c cs _ => hR.2 c cs (by simp [Fence.room, Fence.wide])⟩
        refine hR2.mono ?_
        rintro e W3 (⟨rfl, hj3, hkn⟩ | ⟨rfl, hx3, hkn⟩)
        · gi_wp2
          refine ⟨hkn.sub (by omega) (by omega), ?_, (hkn B0 (Nat.le_refl _) (by omega)).trans HKB.out⟩
          rw [HN.out]
          exact hj3
        · gi_wp2
          exact ⟨hkn.sub (by omega) (by omega), rfl, W3, hx3, Chg.refl _ _⟩
      · have hlt : v < (si : Int) := by omega
        have HJ2 := hid hj2
        have HKB := hid hkb2
        have HN := hid (hnot (by omega))
        have HSI := hid hsi
        clear hhas hnot hkl hka hk2 hkb2 hj2 a1 a2 hkr hca
        gi_wp2
        refine ⟨KN.refl _ _ _, ?_, HKB.out⟩
        rw [HN.out]
        exact HJ2.out
    · rintro W1 ⟨a1, a2⟩ hd
      rw [cnt_all v (by have := HV.out; omega)] at a1
      have hM : Marks (B0 + 1) W1 [B0 + 1] := (Marks.nil_ _ _).cons_ (Nat.le_refl _) (by simp) hd
      refine leaves_marks (B0 + 1) [B0 + 1] W1 hM fun W6 h6 => ?_
      exact ⟨_, results_none rfl _ _ _, ⟨_, rfl⟩, .inl (HJN.out _ _ _ a1 (h6.mono fun q _ hq => by simp at hq; omega))⟩
    · rintro c W1 ⟨rfl, W0, a1, a2⟩ hd
      gi_wp2
      have hM : Marks (B0 + 1) W1 [B0 + 1] := (Marks.nil_ _ _).cons_ (Nat.le_refl _) (by simp) hd
      refine leaves_marks (B0 + 1) [B0 + 1] W1 hM fun W6 h6 => ?_
      exact ⟨_, results_none rfl _ _ _, ⟨_, rfl⟩, .inr ⟨W0, a1, a2.trans (h6.mono fun q _ hq => by simp at hq; omega)⟩⟩
end Go.Proofs.Ytnfodgjihdoncaa
set_option linter.unusedVariables false
namespace Go.Proofs.Ytnfodgjihdoncaa
open Go.RowKit Go.Shelf
attribute [local go_sem] Oper.semAt_some
theorem Try.infoSpec : (Try.prog.info? 93).map (fun i => (i.zero, i.size, i.bytes)) = some (some (.agg #[.int .i64 0, .int .i64 0, .int .i64 0]), 3, 24) := by kernel_rfl
def accL (v k : Int) (j : Nat) : List SRow := ((kn v).take j).filter fun r => decide ((r.kind : Int) = k)
theorem knAt_take (v : Int) (j : Nat) (hj : j < (kn v).length) : (kn v).take (j + 1) = (kn v).take j ++ [knAt v j] := by
  rw [List.take_succ_eq_append_getElem hj]
  congr 2
  unfold knAt
  rw [List.getD_eq_getElem?_getD, List.getElem?_eq_getElem hj]
  rfl
theorem accL_has (v k : Int) (j : Nat) (hj : j < (kn v).length) (h : ((knAt v j).kind : Int) = k) : accL v k (j + 1) = accL v k j ++ [knAt v j] := by
  unfold accL
  rw [knAt_take v j hj, List.filter_append, List.filter_cons_of_pos (by simpa using h)]
  rfl
theorem accL_not (v k : Int) (j : Nat) (hj : j < (kn v).length) (h : ¬ ((knAt v j).kind : Int) = k) : accL v k (j + 1) = accL v k j := by
  unfold accL
  rw [knAt_take v j hj, List.filter_append, List.filter_cons_of_neg (by simpa using h), List.filter_nil, List.append_nil]
theorem accL_all (v k : Int) : accL v k (kn v).length = ofL k v := by
  unfold accL ofL
  rw [List.take_length]
theorem accL_len (v k : Int) (j : Nat) : (accL v k j).length ≤ 40 := by
  unfold accL
  have h1 := List.length_filter_le (fun r : SRow => decide ((r.kind : Int) = k)) ((kn v).take j)
  have h2 := kn_len v
  rw [List.length_take] at h1
  omega
theorem specC_len (l : List SRow) : (l.flatMap specC).length = l.length * 3 := by
  induction l with
  | nil => rfl
  | cons r l ih => rw [List.flatMap_cons, List.length_append, ih, List.length_cons]; show 3 + _ = _; omega
/-- What holds between two rounds of Of. -/
structure OfJ (s : Nat) (w : World) (v k : Int) (L : List SRow) (vv : Value) (W : World) : Prop where
  r0 : Blk W s 5 #[.int .u8 k]
  r1 : Blk W (s + 1) 130 #[vv]
  r2 : Blk W (s + 2) 3 #[.int .i64 v]
  row : W.ownsRow (s + 8) 93 3 vv L.length (L.flatMap specC)
  bel : Below s w W
theorem OfJ.keep {s : Nat} {w W W' : World} {v k : Int} {L : List SRow} {vv : Value} {S : Nat → Prop} (h : OfJ s w v k L vv W) (hc : Chg S W W') (hS : ∀ q, S q → s + 3 ≤ q ∧ q < s + 8) : OfJ s w v k L vv W' := by
  have g := h.r2.lt
  exact ⟨hc.blk h.r0 (fun hq => by have := hS _ hq; omega), hc.blk h.r1 (fun hq => by have := hS _ hq; omega), hc.blk h.r2 (fun hq => by have := hS _ hq; omega), own_chgS h.row hc (fun g hg hk => by have := (h.row.lt g hg).1; have := hS _ hk; omega), h.bel.trans (hc.below (B := s) (fun q hq => by have := hS q hq; omega) (by omega))⟩
theorem OfJ.step {s : Nat} {w W w1 : World} {v k : Int} {L : List SRow} {r : SRow} {vv v' : Value} {o : Obj} (h : OfJ s w v k L vv W) (hg : (W.alloc o).grownBy w1 vv.ownBlock)
    (ho' : w1.ownsRow (s + 8) 93 3 v' (L.length + 1) (L.flatMap specC ++ specC r)) : OfJ s w v k (L ++ [r]) v' (w1.setCell ⟨s + 1, 0, none⟩ v') ∧ Chg (fun q => q = s + 1 ∨ s + 8 ≤ q) W (w1.setCell ⟨s + 1, 0, none⟩ v') := by
  have hb1 : Chg (fun q => s + 8 ≤ q) W w1 := ((Chg.refl _ W).alloc o).trans (Chg.of_grown hg fun g e => (h.row.lt g e).1)
  have hc1 : Chg (fun q => q = s + 1 ∨ s + 8 ≤ q) W w1 := hb1.mono fun q _ hq => .inr hq
  have hc : Chg (fun q => q = s + 1 ∨ s + 8 ≤ q) W (w1.setCell ⟨s + 1, 0, none⟩ v') := hc1.set_ (.inl (.inl rfl)) 0 v'
  have hv1 : Blk w1 (s + 1) 130 #[vv] := hb1.blk h.r1 (by omega)
  have hv2 := hv1.set_ 0 v'
  have g := h.r2.lt
  refine ⟨⟨hc.blk h.r0 (by omega), by simpa using hv2, hc.blk h.r2 (by omega), ?_, h.bel.trans (hc.below (fun q hq => by omega) (by omega))⟩, hc⟩
  have h2 := own_chgS ho' ((Chg.refl (fun q => q = s + 1) w1).set_ (.inl rfl) 0 v') (fun g hg' hk => by have := (ho'.lt g hg').1; omega)
  rw [List.length_append, List.flatMap_append]
  simpa using h2
set_option maxRecDepth 100000 in
set_option maxHeartbeats 4000000 in
theorem sof2_in (m : Nat) (hm : 4 ≤ m) (k v : Int) (w : World) (hv1 : -9223372036854775808 ≤ v) (hv2 : v ≤ 9223372036854775807) :
    CallsIn Fence.wide m Try.prog 74 #[.int .u8 k, .int .i64 v] w fun e W' => ∃ vv, e = .returned (.tuple #[vv, .bool (decide (0 < (ofL k v).length))]) ∧ W'.ownsRow (w.heap.size + 1) 93 3 vv (ofL k v).length ((ofL k v).flatMap specC) ∧ Below w.heap.size w W' := by
  have h1 : 1 ≤ m := by omega
  obtain ⟨i5, hi5, hi50, hi51, hi52⟩ := info_parts Try.infoSpec
  refine callsIn_of_wp_marks Try.func74 rfl trivial ?_ rfl
  simp only [Try.ntmps74, List.size_toArray, List.length_cons, List.length_nil, Nat.reduceAdd, Nat.reduceSub, Array.replicate_succ, Array.replicate_zero, List.push_toArray, List.append_toArray, List.nil_append, List.cons_append]
  gi_wp2_with (refine ⟨trivial, ?_⟩; gi_at_call 98; refine (known_in (m - 1) v _).mono ?_; rintro e w' ⟨rfl, rfl⟩)
  obtain ⟨s, hsz⟩ : ∃ s, w.heap.size = s := ⟨_, rfl⟩
  obtain ⟨Wa, hWa⟩ : ∃ Wa, ((w.alloc (.cells #[.int .u8 k] 5)).alloc (.cells #[.slice none 0 0] 130)).alloc (.cells #[.int .i64 v] 3) = Wa := ⟨_, rfl⟩
  have hza : Wa.heap.size = s + 3 := by rw [← hWa]; simp [hsz]
  have hj0 : OfJ s w v k (accL v k 0) (.slice none 0 0) Wa := by
    refine ⟨?_, ?_, ?_, World.ownsRow_nil _ _ _ _, ?_⟩
    · rw [← hWa, ← hsz]; exact ((Blk.new w _ _).alloc _).alloc _
    · have h := (Blk.new (w.alloc (.cells #[.int .u8 k] 5)) 130 #[.slice none 0 0]).alloc (.cells #[.int .i64 v] 3)
      rw [hWa, World.size_alloc, hsz] at h; exact h
    · have h := Blk.new ((w.alloc (.cells #[.int .u8 k] 5)).alloc (.cells #[.slice none 0 0] 130)) 3 #[.int .i64 v]
      rw [hWa, World.size_alloc, World.size_alloc, hsz] at h; exact h
    · rw [← hWa, ← hsz]; exact bw_a (bw_a (bw_a (Below.refl _ w) _) _) _
  rw [hWa, hsz]
  clear hWa
  refine range_wide m (by omega) (s + 3) hza (gf := 117) (lb := #[.pointer (some ⟨s + 2, 0, none⟩)]) rfl (enters_of Try.func117 (by kernel_rfl) rfl) (kn v).length (fun j => kArgs (knAt v j)) (fun _ => rfl) 3
    (fun j W' => ∃ vv, OfJ s w v k (accL v k j) vv W') (fun c W' => False) ?_ ?_ ?_ ?_ ?_ ?_ ?_
  · rintro j W1 W2 ⟨vv, a1⟩ hc
    exact ⟨vv, a1.keep hc (fun q hq => by omega)⟩
  · rintro c W1 W2 h _
    exact h.elim
  · exact ⟨_, hj0⟩
  · intro l2 J2 Jx2 W1 hw1 hJI hJn2 hJs hJ0 hy
    refine (known1_in (m - 1) (by omega) l2 (s + 2) v hv1 hv2 J2 Jx2 (s + 5) (by omega) (fun j W h => by obtain ⟨⟨vv, h1⟩, h2⟩ := hJI j W h; exact h1.r2.cell 0) (fun j W W' h hc => hJn2 j W W' h (hc.mono fun q _ hq => by omega)) (fun j W hj h hz => hy j W hj h (by omega)) W1 (by omega) hJ0).mono ?_
    rintro e W' ⟨h1, (h2 | ⟨W0, h2, h3⟩)⟩
    · exact ⟨h1, .inl h2⟩
    · exact ⟨h1, .inr (hJs _ _ h2 (h3.mono fun q _ hq => by omega))⟩
  · rintro l2 j W1 hj ⟨vv, a1⟩ hsz2
    have hhas := accL_has v k j hj
    have hnot := accL_not v k j hj
    have hlen := accL_len v k j
    have hlf := specC_len (accL v k j)
    unfold kArgs specV
    generalize knAt v j = r at *
    obtain ⟨rk, si, nu, ty, sl⟩ := r
    simp only at hhas hnot
    have HH := hid hhas
    have HN := hid hnot
    clear hhas hnot
    generalize accL v k j = L at *
    gi_wp2
    have hca : Chg (fun _ => False) W1 (W1.alloc (.cells #[.int .i64 (nu : Nat), .int .i64 (ty : Nat), .int .i64 (sl : Nat)] 93)) := (Chg.refl _ W1).alloc _
    have hkr := Blk.new W1 93 #[.int .i64 (nu : Nat), .int .i64 (ty : Nat), .int .i64 (sl : Nat)]
    refine ⟨KN.of_chg hca (by omega) (fun q _ _ h => h), by rw [World.size_alloc]; omega, fun W2 hc2 => ?_⟩
    have hj2 := (a1.keep hca (fun q h => h.elim)).keep hc2 (fun q h => by omega)
    have hk2 := hc2.blk hkr (by omega)
    have hlt2 := hk2.lt
    have c0 := hj2.r0.cell 0
    have c1 := hj2.r1.cell 0
    have f1 := hj2.r1.frozen 0
    have d0 := hk2.cell 0
    have d1 := hk2.cell 1
    have d2 := hk2.cell 2
    simp only [List.getElem?_toArray, List.getElem?_cons_zero, List.getElem?_cons_succ] at c0 c1 d0 d1 d2
    have HJ := hid hj2
    clear hj2 hk2 hca hkr a1
    by_cases hk : (rk : Int) = k
    · have hkb : ((rk : Int) == k) = true := by simpa using hk
      gi_wp2_with (gi_at_builtin; refine wpListIn_append_rd _ rfl _ _ 130 rfl (s + 8) 93 i5 (.agg #[.int .i64 0, .int .i64 0, .int .i64 0]) 3 24 Try.underlying130 hi5 hi50 hi51 hi52 rfl (by decide) vv L.length (L.flatMap specC) rfl (HJ.out.row.alloc _) ⟨W2.heap.size, 0, none⟩ 1 1 [.int .i64 (nu : Nat), .int .i64 (ty : Nat), .int .i64 (sl : Nat)] rfl rfl (Rd.new W2 93 #[.int .i64 (nu : Nat), .int .i64 (ty : Nat), .int .i64 (sl : Nat)]) (by simp [Value.oneCell']) (by simp only [maxLen]; omega) (by omega) (by simp; omega) ?_; intro v' w1 hown' hgrow; obtain ⟨g', cap', rfl⟩ := ownsRow_succ hown'; have hst := OfJ.step (r := ⟨rk, si, nu, ty, sl⟩) HJ.out hgrow hown'; have hg1 : some (s + 1) ≠ vv.ownBlock := (fun e => by have := (HJ.out.row.lt _ e.symm).1; omega); have hw1 := (hgrow.block (s + 1) (by have := HJ.out.r1.lt; simp; omega) hg1).trans (HJ.out.r1.alloc _); have hc1 := Blk.cell hw1 0; have hf1 := Blk.frozen hw1 0; simp only [List.getElem?_toArray, List.getElem?_cons_zero] at hc1)
      obtain ⟨hj5, hc5⟩ := hst
      exact ⟨KN.of_chg hc5 (by omega) (fun q g1 g2 => by omega), _, by rw [HH.out hk]; exact hj5⟩
    · have hkb : ((rk : Int) == k) = false := by simpa using hk
      gi_wp2
      exact ⟨KN.refl _ _ _, _, by rw [HN.out hk]; exact HJ.out⟩
  · rintro W1 ⟨vv, a1⟩ hd
    rw [accL_all] at a1
    have hlen : (ofL k v).length ≤ 40 := by rw [← accL_all]; exact accL_len _ _ _
    obtain ⟨L, hL⟩ : ∃ L, ofL k v = L := ⟨_, rfl⟩
    rw [hL] at a1 hlen
    obtain ⟨A, c, rfl⟩ : ∃ A c, vv = .slice A L.length c := by
      rcases a1.row.2 with ⟨rfl, h⟩ | ⟨g, cap, cur, rfl, _⟩
      · exact ⟨none, 0, by rw [h]⟩
      · exact ⟨_, _, rfl⟩
    have c1 := a1.r1.cell 0
    simp only [List.getElem?_toArray, List.getElem?_cons_zero] at c1
    have hmx : Try.prog.follows .mixedOrders = true := by kernel_rfl
    have HJ := hid a1
    have HD := hid hd
    clear a1 hd
    gi_wp2
    gi_quiet (fail)
    gi_wp2
    have hM : Marks (s + 3) (W1.drewN nq) [s + 3] := (Marks.nil_ _ _).cons_ (Nat.le_refl _) (by simp) HD.out
    refine leaves_marks (s + 3) [s + 3] _ hM fun W6 h6 => ?_
    have hj : OfJ s w v k L (.slice A L.length c) (W1.drewN nq) := ⟨HJ.out.r0, HJ.out.r1, HJ.out.r2, HJ.out.row, ⟨HJ.out.bel.os, HJ.out.bel.tape, HJ.out.bel.output, HJ.out.bel.size, HJ.out.bel.block⟩⟩
    have hj6 := hj.keep h6 (fun q hq => by simp at hq; omega)
    refine ⟨.tuple #[.slice A L.length c, .bool (decide (0 < L.length))], by simp [results, Try.results74, go_sem], _, by rw [hL], ?_, ?_⟩
    · rw [hL, hsz]; exact own_mono hj6.row (by omega)
    · rw [hsz]; exact hj6.bel
  · rintro c W1 h _
    exact h.elim
end Go.Proofs.Ytnfodgjihdoncaa
set_option linter.unusedVariables false
namespace Go.Proofs.Ytnfodgjihdoncaa
open Go.RowKit Go.Shelf
attribute [local go_sem] Oper.semAt_some
def kdStep (a : List Nat × Nat) (r : SRow) : List Nat × Nat := (if r.kind = a.2 then a.1 else a.1 ++ [r.kind], r.kind)
def kdS (v : Int) (j : Nat) : List Nat × Nat := ((kn v).take j).foldl kdStep ([], 0)
def kinds (v : Int) : List Nat := ((kn v).foldl kdStep ([], 0)).1
def kvN (k : Nat) : Value := .int .u8 (k : Nat)
theorem kdS_next (v : Int) (j : Nat) (hj : j < (kn v).length) : kdS v (j + 1) = kdStep (kdS v j) (knAt v j) := by
  unfold kdS
  rw [knAt_take v j hj, List.foldl_append]
  rfl
theorem kdS_all (v : Int) : (kdS v (kn v).length).1 = kinds v := by
  unfold kdS kinds
  rw [List.take_length]
theorem kdS_len (v : Int) : ∀ j, j ≤ (kn v).length → (kdS v j).1.length ≤ j
  | 0, _ => by simp [kdS]
  | j + 1, h => by
    have ih := kdS_len v j (by omega)
    rw [kdS_next v j (by omega)]
    unfold kdStep
    simp only
    split
    · omega
    · rw [List.length_append]; simp; omega
/-- What holds between two rounds of Kinds. -/
structure KiJ (s : Nat) (w : World) (v : Int) (L : List Nat) (last : Nat) (vv : Value) (W : World) : Prop where
  r0 : Blk W s 30 #[vv]
  r1 : Blk W (s + 1) 5 #[.int .u8 (last : Nat)]
  r2 : Blk W (s + 2) 3 #[.int .i64 v]
  row : W.ownsRow (s + 8) 5 1 vv L.length (L.map kvN)
  bel : Below s w W
theorem KiJ.keep {s : Nat} {w W W' : World} {v : Int} {L : List Nat} {last : Nat} {vv : Value} {S : Nat → Prop} (h : KiJ s w v L last vv W) (hc : Chg S W W') (hS : ∀ q, S q → s + 3 ≤ q ∧ q < s + 8) : KiJ s w v L last vv W' := by
  have g := h.r2.lt
  exact ⟨hc.blk h.r0 (fun hq => by have := hS _ hq; omega), hc.blk h.r1 (fun hq => by have := hS _ hq; omega), hc.blk h.r2 (fun hq => by have := hS _ hq; omega), own_chgS h.row hc (fun g hg hk => by have := (h.row.lt g hg).1; have := hS _ hk; omega), h.bel.trans (hc.below (B := s) (fun q hq => by have := hS q hq; omega) (by omega))⟩
theorem KiJ.last {s : Nat} {w W : World} {v : Int} {L : List Nat} {last : Nat} {vv : Value} (h : KiJ s w v L last vv W) (r : Nat) : KiJ s w v L r vv (W.setCell ⟨s + 1, 0, none⟩ (.int .u8 (r : Nat))) ∧ Chg (fun q => q = s + 1) W (W.setCell ⟨s + 1, 0, none⟩ (.int .u8 (r : Nat))) := by
  have hc : Chg (fun q => q = s + 1) W (W.setCell ⟨s + 1, 0, none⟩ (.int .u8 (r : Nat))) := (Chg.refl (fun q => q = s + 1) W).set_ (.inl rfl) 0 _
  have g := h.r2.lt
  exact ⟨⟨hc.blk h.r0 (by omega), by simpa using h.r1.set_ 0 (.int .u8 (r : Nat)), hc.blk h.r2 (by omega), own_chgS h.row hc (fun g hg hk => by have := (h.row.lt g hg).1; omega), h.bel.trans (hc.below (fun q hq => by omega) (by omega))⟩, hc⟩
theorem KiJ.step {s : Nat} {w W w1 : World} {v : Int} {L : List Nat} {last r : Nat} {vv v' : Value} {o : Obj} (h : KiJ s w v L last vv W) (hg : (W.alloc o).grownBy w1 vv.ownBlock)
    (ho' : w1.ownsRow (s + 8) 5 1 v' (L.length + 1) (L.map kvN ++ [kvN r])) : KiJ s w v (L ++ [r]) last v' (w1.setCell ⟨s, 0, none⟩ v') ∧ Chg (fun q => q = s ∨ s + 8 ≤ q) W (w1.setCell ⟨s, 0, none⟩ v') := by
  have hb1 : Chg (fun q => s + 8 ≤ q) W w1 := ((Chg.refl _ W).alloc o).trans (Chg.of_grown hg fun g e => (h.row.lt g e).1)
  have hc1 : Chg (fun q => q = s ∨ s + 8 ≤ q) W w1 := hb1.mono fun q _ hq => .inr hq
  have hc : Chg (fun q => q = s ∨ s + 8 ≤ q) W (w1.setCell ⟨s, 0, none⟩ v') := hc1.set_ (.inl (.inl rfl)) 0 v'
  have hv1 : Blk w1 s 30 #[vv] := hb1.blk h.r0 (by omega)
  have hv2 := hv1.set_ 0 v'
  have g := h.r2.lt
  refine ⟨⟨by simpa using hv2, hc.blk h.r1 (by omega), hc.blk h.r2 (by omega), ?_, h.bel.trans (hc.below (fun q hq => by omega) (by omega))⟩, hc⟩
  have h2 := own_chgS ho' ((Chg.refl (fun q => q = s) w1).set_ (.inl rfl) 0 v') (fun g hg' hk => by have := (ho'.lt g hg').1; omega)
  rw [List.length_append, List.map_append]
  simpa using h2
end Go.Proofs.Ytnfodgjihdoncaa
set_option linter.unusedVariables false
namespace Go.Proofs.Ytnfodgjihdoncaa
open Go.RowKit Go.Shelf
attribute [local go_sem] Oper.semAt_some
def pF (k n : Int) (r : SRow) : Bool := decide ((r.kind : Int) = k ∧ (r.num : Int) = n)
def finS (k v n : Int) : Option SRow := (kn v).find? (pF k n)
def specO : Option SRow → Value
  | none => .agg #[.int .i64 0, .int .i64 0, .int .i64 0]
  | some r => specV r
theorem take_no (k v n : Int) (j : Nat) (hj : j < (kn v).length) (hno : ((kn v).take j).find? (pF k n) = none) (h : pF k n (knAt v j) = false) : ((kn v).take (j + 1)).find? (pF k n) = none := by
  rw [knAt_take v j hj, List.find?_append, hno]
  simp [h]
theorem finS_some (k v n : Int) (j : Nat) (hj : j < (kn v).length) (hno : ((kn v).take j).find? (pF k n) = none) (h : pF k n (knAt v j) = true) : finS k v n = some (knAt v j) := by
  unfold finS
  have h1 : (kn v).find? (pF k n) = ((kn v).take (j + 1) ++ (kn v).drop (j + 1)).find? (pF k n) := by rw [List.take_append_drop]
  rw [h1, knAt_take v j hj, List.find?_append, List.find?_append, hno]
  simp [h]
/-- What holds between two rounds of Find. -/
structure FiJ (s : Nat) (w : World) (v k n : Int) (W : World) : Prop where
  r0 : Blk W s 5 #[.int .u8 k]
  r1 : Blk W (s + 1) 3 #[.int .i64 n]
  r2 : Blk W (s + 2) 93 #[.int .i64 0, .int .i64 0, .int .i64 0]
  r3 : Blk W (s + 3) 4 #[.bool false]
  r4 : Blk W (s + 4) 3 #[.int .i64 v]
  bel : Below s w W
theorem FiJ.keep {s : Nat} {w W W' : World} {v k n : Int} {S : Nat → Prop} (h : FiJ s w v k n W) (hc : Chg S W W') (hS : ∀ q, S q → s + 5 ≤ q) : FiJ s w v k n W' := by
  have g := h.r4.lt
  exact ⟨hc.blk h.r0 (fun hq => by have := hS _ hq; omega), hc.blk h.r1 (fun hq => by have := hS _ hq; omega), hc.blk h.r2 (fun hq => by have := hS _ hq; omega), hc.blk h.r3 (fun hq => by have := hS _ hq; omega), hc.blk h.r4 (fun hq => by have := hS _ hq; omega), h.bel.trans (hc.below (B := s) (fun q hq => by have := hS q hq; omega) (by omega))⟩
theorem FiJ.end_ {s : Nat} {w W : World} {v k n : Int} (h : FiJ s w v k n W) (x y z b : Value) :
    Blk ((((W.setCell ⟨s + 2, 0, none⟩ x).setCell ⟨s + 2, 1, none⟩ y).setCell ⟨s + 2, 2, none⟩ z).setCell ⟨s + 3, 0, none⟩ b) (s + 2) 93 #[x, y, z] ∧
    Blk ((((W.setCell ⟨s + 2, 0, none⟩ x).setCell ⟨s + 2, 1, none⟩ y).setCell ⟨s + 2, 2, none⟩ z).setCell ⟨s + 3, 0, none⟩ b) (s + 3) 4 #[b] ∧
    Below s w ((((W.setCell ⟨s + 2, 0, none⟩ x).setCell ⟨s + 2, 1, none⟩ y).setCell ⟨s + 2, 2, none⟩ z).setCell ⟨s + 3, 0, none⟩ b) ∧
    Chg (fun q => q = s + 2 ∨ q = s + 3) W ((((W.setCell ⟨s + 2, 0, none⟩ x).setCell ⟨s + 2, 1, none⟩ y).setCell ⟨s + 2, 2, none⟩ z).setCell ⟨s + 3, 0, none⟩ b) := by
  have hc : Chg (fun q => q = s + 2 ∨ q = s + 3) W ((((W.setCell ⟨s + 2, 0, none⟩ x).setCell ⟨s + 2, 1, none⟩ y).setCell ⟨s + 2, 2, none⟩ z).setCell ⟨s + 3, 0, none⟩ b) := ((((Chg.refl _ W).set_ (.inl (.inl rfl)) 0 x).set_ (.inl (.inl rfl)) 1 y).set_ (.inl (.inl rfl)) 2 z).set_ (.inl (.inr rfl)) 0 b
  have g := h.r4.lt
  refine ⟨?_, ?_, h.bel.trans (hc.below (B := s) (fun q hq => by omega) (by omega)), hc⟩
  · have h1 := (((h.r2.set_ 0 x).set_ 1 y).set_ 2 z).far (p := ⟨s + 3, 0, none⟩) (by simp) b
    simpa using h1
  · have hc3 : Chg (fun q => q = s + 2) W (((W.setCell ⟨s + 2, 0, none⟩ x).setCell ⟨s + 2, 1, none⟩ y).setCell ⟨s + 2, 2, none⟩ z) := (((Chg.refl (fun q => q = s + 2) W).set_ (.inl rfl) 0 x).set_ (.inl rfl) 1 y).set_ (.inl rfl) 2 z
    have h1 := (hc3.blk h.r3 (by omega)).set_ 0 b
    simpa using h1
/-- What holds when Find has found. -/
structure FiX (s : Nat) (w : World) (r : SRow) (W : World) : Prop where
  r2 : Blk W (s + 2) 93 #[.int .i64 (r.num : Nat), .int .i64 (r.typ : Nat), .int .i64 (r.slot : Nat)]
  r3 : Blk W (s + 3) 4 #[.bool true]
  bel : Below s w W
theorem FiX.keep {s : Nat} {w W W' : World} {r : SRow} {S : Nat → Prop} (h : FiX s w r W) (hc : Chg S W W') (hS : ∀ q, S q → s + 5 ≤ q) : FiX s w r W' := by
  have g := h.r3.lt
  exact ⟨hc.blk h.r2 (fun hq => by have := hS _ hq; omega), hc.blk h.r3 (fun hq => by have := hS _ hq; omega), h.bel.trans (hc.below (B := s) (fun q hq => by have := hS q hq; omega) (by omega))⟩
end Go.Proofs.Ytnfodgjihdoncaa
set_option linter.unusedVariables false
namespace Go.Proofs.Ytnfodgjihdoncaa
theorem kn_one (v : Int) : v = 1 ∨ v = 2 ∨ v = 3 ∨ ((v < 1 ∨ 3 < v) ∧ kn v = []) := by
  by_cases h : 3 < v
  · exact .inr (.inr (.inr ⟨.inr h, kn_out v h⟩))
  by_cases h1 : v < 1
  · refine .inr (.inr (.inr ⟨.inl h1, ?_⟩))
    rw [kn_in v h, List.filter_eq_nil_iff]
    intro r hr
    have h2 := List.all_eq_true.1 (show ROWS.all (fun r => decide (1 ≤ r.since)) = true by decide) r hr
    simp at h2 ⊢
    omega
  omega
theorem ofL_nil (k v : Int) (h : kn v = []) : ofL k v = [] := by unfold ofL; rw [h]; rfl
theorem finS_nil (k v n : Int) (h : kn v = []) : finS k v n = none := by unfold finS; rw [h]; rfl
theorem kinds_nil (v : Int) (h : kn v = []) : kinds v = [] := by unfold kinds; rw [h]; rfl
/-- All rows of a kind, in order. -/
def ofK (k : Int) : List SRow := ROWS.filter fun r => decide ((r.kind : Int) = k)
theorem ofL_in (k v : Int) (h : ¬ 3 < v) : ofL k v = (ofK k).filter fun r => decide ((r.since : Int) ≤ v) := by
  unfold ofL ofK
  rw [kn_in v h, List.filter_filter, List.filter_filter]
  congr 1
  funext r
  exact Bool.and_comm _ _
theorem finS_of (k v n : Int) : finS k v n = (ofL k v).find? fun r => decide ((r.num : Int) = n) := by
  unfold finS ofL
  rw [List.find?_filter]
  congr 1
  funext r
  unfold pF
  simp
/-- Whether a kind is known in a version. -/
def hasB (v : Int) (k : Nat) : Bool := decide (0 < (ofL k v).length)
def cntK (v : Int) (j : Nat) : Nat := ((List.range' 1 j).filter (hasB v)).length
theorem cntK_zero (v : Int) : cntK v 0 = 0 := rfl
theorem cntK_has (v : Int) (j : Nat) (h : hasB v (j + 1) = true) : cntK v (j + 1) = cntK v j + 1 := by
  unfold cntK
  rw [List.range'_concat, List.filter_append, List.length_append]
  simp [Nat.add_comm 1 j, h]
theorem cntK_not (v : Int) (j : Nat) (h : hasB v (j + 1) = false) : cntK v (j + 1) = cntK v j := by
  unfold cntK
  rw [List.range'_concat, List.filter_append, List.length_append]
  simp [Nat.add_comm 1 j, h]
theorem hasB_nil (v : Int) (k : Nat) (h : kn v = []) : hasB v k = false := by unfold hasB; rw [ofL_nil _ _ h]; rfl
theorem cntK_all (v : Int) : cntK v 10 = (kinds v).length := by
  rcases kn_one v with rfl | rfl | rfl | ⟨-, h⟩
  · decide +kernel
  · decide +kernel
  · decide +kernel
  · rw [kinds_nil v h]
    unfold cntK
    rw [List.filter_eq_nil_iff.2 (fun k _ => by rw [hasB_nil v k h]; simp)]
theorem cntK_at (v : Int) (j : Nat) (hj : j < 10) (h : hasB v (j + 1) = true) : (kinds v)[cntK v j]? = some (j + 1) := by
  rcases kn_one v with rfl | rfl | rfl | ⟨-, h0⟩
  · exact (show ∀ j, j < 10 → hasB 1 (j + 1) = true → (kinds 1)[cntK 1 j]? = some (j + 1) by decide +kernel) j hj h
  · exact (show ∀ j, j < 10 → hasB 2 (j + 1) = true → (kinds 2)[cntK 2 j]? = some (j + 1) by decide +kernel) j hj h
  · exact (show ∀ j, j < 10 → hasB 3 (j + 1) = true → (kinds 3)[cntK 3 j]? = some (j + 1) by decide +kernel) j hj h
  · rw [hasB_nil v _ h0] at h; cases h
theorem ofL_kind (k : Nat) (v : Int) (hk : k = 0 ∨ 10 < k) : ofL k v = [] := by
  unfold ofL
  rw [List.filter_eq_nil_iff]
  intro r hr
  have h2 := List.all_eq_true.1 (show ROWS.all (fun r => decide (1 ≤ r.kind ∧ r.kind ≤ 10)) = true by decide) r (kn_mem v hr)
  simp at h2 ⊢
  omega
/-- A type's sort: a number, a text, a list. -/
def sortN (t : Int) : Nat := if t ≤ 6 then 0 else if t < 10 then 1 else 2
/-- Whether a version's rows of a kind are in a later one, and unlike. -/
def growB (k : Nat) (v : Int) : Bool :=
  (List.range (ofL k v).length).all fun i =>
    ([1, 2, 3].all fun l => !decide (v ≤ l) || decide (finS k l (((ofL k v).getD i default).num : Int) = some ((ofL k v).getD i default))) &&
    (List.range i).all fun j => decide (((ofL k v).getD j default).num < ((ofL k v).getD i default).num) && !(decide (sortN ((ofL k v).getD j default).typ = sortN ((ofL k v).getD i default).typ ∧ ((ofL k v).getD j default).slot = ((ofL k v).getD i default).slot))
theorem growB_1 : (List.range 11).all (fun k => growB k 1) = true := by decide +kernel
theorem growB_2 : (List.range 11).all (fun k => growB k 2) = true := by decide +kernel
theorem growB_3 : (List.range 11).all (fun k => growB k 3) = true := by decide +kernel
theorem growB_all (k : Nat) (v : Int) : growB k v = true := by
  by_cases hk : k ≤ 10
  · rcases kn_one v with rfl | rfl | rfl | ⟨-, h0⟩
    · exact List.all_eq_true.1 growB_1 k (by simp; omega)
    · exact List.all_eq_true.1 growB_2 k (by simp; omega)
    · exact List.all_eq_true.1 growB_3 k (by simp; omega)
    · unfold growB; rw [ofL_nil _ _ h0]; rfl
  · unfold growB; rw [ofL_kind k v (by omega)]; rfl
theorem getD_get {l : List SRow} {i : Nat} (h : i < l.length) : l.getD i default = l[i] := by
  rw [List.getD_eq_getElem?_getD, List.getElem?_eq_getElem h]; rfl
theorem grow_find (k : Nat) (v l : Int) (i : Nat) (hi : i < (ofL k v).length) (hl : v ≤ l) (h3 : l ≤ 3) : finS k l ((ofL k v)[i].num : Int) = some (ofL k v)[i] := by
  have h := growB_all k v
  unfold growB at h
  have h1 := List.all_eq_true.1 h i (by simpa using hi)
  rw [Bool.and_eq_true] at h1
  have hv : 1 ≤ v := by
    rcases kn_one v with rfl | rfl | rfl | ⟨-, h0⟩
    · omega
    · omega
    · omega
    · rw [ofL_nil _ _ h0] at hi; simp at hi
  have h2 := List.all_eq_true.1 h1.1 l (by simp; omega)
  rw [getD_get hi] at h2
  simpa [hl] using h2
theorem grow_apart (k : Nat) (v : Int) (i j : Nat) (hi : i < (ofL k v).length) (hj : j < i) : (ofL k v)[j].num < (ofL k v)[i].num ∧ ¬ (sortN (ofL k v)[j].typ = sortN (ofL k v)[i].typ ∧ (ofL k v)[j].slot = (ofL k v)[i].slot) := by
  have h := growB_all k v
  unfold growB at h
  have h1 := List.all_eq_true.1 h i (by simpa using hi)
  rw [Bool.and_eq_true] at h1
  have h2 := List.all_eq_true.1 h1.2 j (by simpa using hj)
  rw [getD_get hi, getD_get (by omega : j < (ofL k v).length)] at h2
  rw [Bool.and_eq_true] at h2
  refine ⟨by simpa using h2.1, fun h3 => ?_⟩
  have h4 := h2.2
  rw [Bool.not_eq_true', decide_eq_false_iff_not] at h4
  exact h4 h3
theorem ofL_le40 (k v : Int) : (ofL k v).length ≤ 40 := by rw [← accL_all]; exact accL_len _ _ _
theorem ofL_mem (k v : Int) {r : SRow} (h : r ∈ ofL k v) : r ∈ ROWS := kn_mem v (List.mem_filter.1 h).1
theorem row_ok {r : SRow} (h : r ∈ ROWS) : 1 ≤ r.kind ∧ r.kind ≤ 10 ∧ 1 ≤ r.since ∧ r.since ≤ 3 ∧ 1 ≤ r.num ∧ r.num ≤ 7 ∧ 1 ≤ r.typ ∧ r.typ ≤ 10 ∧ r.slot ≤ 5 := by
  have h := List.all_eq_true.1 (show ROWS.all (fun r => decide (1 ≤ r.kind ∧ r.kind ≤ 10 ∧ 1 ≤ r.since ∧ r.since ≤ 3 ∧ 1 ≤ r.num ∧ r.num ≤ 7 ∧ 1 ≤ r.typ ∧ r.typ ≤ 10 ∧ r.slot ≤ 5)) = true by decide) r h
  simpa using h
end Go.Proofs.Ytnfodgjihdoncaa
