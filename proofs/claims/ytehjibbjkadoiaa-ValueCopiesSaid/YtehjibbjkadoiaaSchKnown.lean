/- schema.known: the fields that a version has, one by one. -/
import Derived.Test.YtehjibbjkadoiaaSchRows
set_option linter.unusedVariables false
namespace Go.Proofs.Ytehjibbjkadoiaa
open Go.RowKit Go.Shelf
attribute [local go_sem] Oper.semAt_some
def specV (r : SRow) : Value := .agg #[.int .i64 (r.num : Nat), .int .i64 (r.typ : Nat), .int .i64 (r.slot : Nat)]
def specC (r : SRow) : List Value := [.int .i64 (r.num : Nat), .int .i64 (r.typ : Nat), .int .i64 (r.slot : Nat)]
def knAt (v : Int) (k : Nat) : SRow := (kn v).getD k default
def kArgs (r : SRow) : Array Value := #[.int .u8 (r.kind : Nat), specV r]
theorem knAt_cnt (v : Int) (hv : ¬ 3 < v) (j : Nat) (hj : j < 40) (h : ((rowAt j).since : Int) ≤ v) : knAt v (cnt v j) = rowAt j := by
  unfold knAt
  rw [List.getD_eq_getElem?_getD, kn_split v hv j hj h]
  rfl
theorem rows_in (m : Nat) (w : World) :
    CallsIn Fence.wide m Try.prog 70 #[] w fun e w' => e = .returned (.func (.func 90) #[] #[]) ∧ w' = w := by
  refine callsIn_of_wp Try.func70 rfl trivial ?_ rfl
  simp only [Try.ntmps70, List.size_toArray, List.length_nil, Nat.reduceSub, Array.replicate_succ, Array.replicate_zero, List.push_toArray, List.append_toArray, List.nil_append]
  gi_wp2
  go_ret
  exact ⟨rfl, rfl⟩
theorem known_in (m : Nat) (v : Int) (w : World) :
    CallsIn Fence.wide m Try.prog 49 #[.int .i64 v] w fun e w' => e = .returned (.func (.func 69) #[] #[.pointer (some ⟨w.heap.size, 0, none⟩)]) ∧ w' = w.alloc (.cells #[.int .i64 v] 3) := by
  refine callsIn_of_wp Try.func49 rfl trivial ?_ rfl
  simp only [Try.ntmps49, List.size_toArray, List.length_cons, List.length_nil, Nat.reduceAdd, Nat.reduceSub, Array.replicate_succ, Array.replicate_zero, List.push_toArray, List.append_toArray, List.nil_append, List.cons_append]
  gi_wp2
  go_ret
  exact ⟨rfl, rfl⟩
set_option maxRecDepth 100000 in
set_option maxHeartbeats 4000000 in
theorem known1_in (m : Nat) (hm : 3 ≤ m) (l Bv : Nat) (v : Int) (hv1 : -9223372036854775808 ≤ v) (hv2 : v ≤ 9223372036854775807) (J : Nat → World → Prop) (Jx : World → Prop) (B0 : Nat) (hB0 : Bv < B0)
    (hJc : ∀ k W, J k W → W.cell? ⟨Bv, 0, none⟩ = some (.int .i64 v))
    (hJn : ∀ k W W', J k W → Chg (fun q => B0 ≤ q ∧ q < B0 + 3) W W' → J k W')
    (hY : ∀ k W, k < (kn v).length → J k W → B0 + 3 ≤ W.heap.size → YieldAt Fence.wide (m - 1) Try.prog l (kArgs (knAt v k)) W fun e W' => (e = .returned (.bool true) ∧ J (k + 1) W' ∧ KN B0 3 W W') ∨ (e = .returned (.bool false) ∧ Jx W' ∧ KN B0 3 W W'))
    (W : World) (hW : W.heap.size = B0) (h0 : J 0 W) :
    CallsIn Fence.wide m Try.prog 69 #[.func (.yield l) #[] #[], .pointer (some ⟨Bv, 0, none⟩)] W fun e W' => (∃ v, e = .returned v) ∧ (J (kn v).length W' ∨ ∃ W0, Jx W0 ∧ Chg (fun q => B0 ≤ q ∧ q < B0 + 3) W0 W') := by
  have hc0 := hJc 0 W h0
  have hbl := World.block_lt_of_cell? W _ hc0
  have h1 : 1 ≤ m := by omega
  have HY := hid hY
  have HJC := hid hJc
  have HJN := hid hJn
  clear hY hJc hJn
  refine callsIn_of_wp_marks Try.func69 rfl trivial ?_ rfl
  simp only [Try.ntmps69, List.size_toArray, List.length_cons, List.length_nil, Nat.reduceAdd, Nat.reduceSub, Array.replicate_succ, Array.replicate_zero, List.push_toArray, List.append_toArray, List.nil_append, List.cons_append]
  by_cases hv : 3 < v
  · rw [kn_out v hv]
    gi_wp2
    exact ⟨_, results_none rfl _ _ _, ⟨_, rfl⟩, .inl (HJN.out 0 _ _ h0 ((Chg.refl _ W).alloc _))⟩
  · have HV := hid hv
    gi_wp2_with (refine ⟨trivial, ?_⟩; gi_at_call 70; refine (rows_in (m - 1) _).mono ?_; rintro e w' ⟨rfl, rfl⟩)
    have hkb : Blk (W.alloc (.cells #[.func (.yield l) #[] #[]] 111)) B0 111 #[.func (.yield l) #[] #[]] := by rw [← hW]; exact Blk.new W _ _
    have hJa := HJN.out 0 _ _ h0 ((Chg.refl (fun q => B0 ≤ q ∧ q < B0 + 3) W).alloc (.cells #[.func (.yield l) #[] #[]] 111))
    obtain ⟨Wa, hWa⟩ : ∃ Wa, W.alloc (.cells #[.func (.yield l) #[] #[]] 111) = Wa := ⟨_, rfl⟩
    have hza : Wa.heap.size = B0 + 1 := by rw [← hWa, World.size_alloc, hW]
    rw [hWa] at hkb hJa ⊢
    clear hWa
    refine range_wide m (by omega) (B0 + 1) hza (gf := 90) (lb := #[]) rfl (enters_of Try.func90 (by kernel_rfl) rfl) 40 (fun j => #[rowV (rowAt j)]) (fun _ => rfl) 0
      (fun j W' => J (cnt v j) W' ∧ Blk W' B0 111 #[.func (.yield l) #[] #[]]) (fun c W' => c = .ret ∧ ∃ W0, Jx W0 ∧ Chg (fun q => B0 ≤ q ∧ q < B0 + 3) W0 W') ?_ ?_ ?_ ?_ ?_ ?_ ?_
    · rintro j W1 W2 ⟨a1, a2⟩ hc
      exact ⟨HJN.out _ _ _ a1 (hc.mono fun q _ hq => by omega), hc.blk a2 (by omega)⟩
    · rintro c W1 W2 ⟨a1, W0, a2, a3⟩ hc
      exact ⟨a1, W0, a2, a3.trans (hc.mono fun q _ hq => by omega)⟩
    · exact ⟨hJa, hkb⟩
    · intro l2 J2 Jx2 W1 hw1 hJI hJn2 _ hJ0 hy
      exact rows1_in (m - 1) (by omega) l2 J2 Jx2 (fun j W W' h hc => hJn2 j W W' h (hc.mono fun q _ hq => hq.elim)) (fun j W hj h => by
          obtain ⟨fn, tm, as1, bd, e1, e2⟩ := hy j W hj h (hJI j W h).2
          refine ⟨fn, tm, as1, bd, e1, e2.mono ?_⟩
          rintro e W' (⟨h1, h2, -⟩ | ⟨h1, h2, -⟩)
          · exact .inl ⟨h1, h2⟩
          · exact .inr ⟨h1, h2⟩) W1 hJ0
    · rintro l2 j W1 hj ⟨a1, a2⟩ hsz
      have hrow := rowAt_ok j hj
      have hhas := cnt_has v j hj
      have hnot := cnt_not v j hj
      have hkl := cnt_lt v (by have := HV.out; omega) j hj
      have hka := knAt_cnt v (by have := HV.out; omega) j hj
      unfold rowV
      generalize rowAt j = r at *
      obtain ⟨k, si, nu, ty, sl⟩ := r
      simp only at hhas hnot hkl hka hrow
      gi_wp2
      have hca : Chg (fun _ => False) W1 (W1.alloc (.cells #[.int .u8 (k : Nat), .int .i64 (si : Nat), .int .i64 (nu : Nat), .int .i64 (ty : Nat), .int .i64 (sl : Nat)] 116)) := (Chg.refl _ W1).alloc _
      have hkr := Blk.new W1 116 #[.int .u8 (k : Nat), .int .i64 (si : Nat), .int .i64 (nu : Nat), .int .i64 (ty : Nat), .int .i64 (sl : Nat)]
      refine ⟨KN.of_chg hca (by omega) (fun q _ _ h => h), by omega, fun W2 hc2 => ?_⟩
      have hj2 : J (cnt v j) W2 := HJN.out _ _ _ a1 ((hca.mono fun q _ h => h.elim).trans (hc2.mono fun q _ h => by omega))
      have hk2 := hc2.blk hkr (by have := hkr.lt; omega)
      have hkb2 := hc2.blk (hca.blk a2 (fun h => h)) (by omega)
      have hcv := HJC.out _ _ hj2
      have d0 := hk2.cell 0
      have d1 := hk2.cell 1
      have d2 := hk2.cell 2
      have d3 := hk2.cell 3
      have d4 := hk2.cell 4
      have e0 := hkb2.cell 0
      simp only [List.getElem?_toArray, List.getElem?_cons_zero, List.getElem?_cons_succ] at d0 d1 d2 d3 d4 e0
      have hsz2 : B0 + 3 ≤ W2.heap.size := by have := hc2.size; rw [World.size_alloc] at this; omega
      by_cases hsi : (si : Int) ≤ v
      · have hyk := HY.out (cnt v j) W2 (hkl (by omega)) hj2 hsz2
        rw [hka (by omega)] at hyk
        unfold kArgs specV at hyk
        simp only at hyk
        obtain ⟨fn, tmps, as1, bd, hy, hR⟩ := hyk
        have HKB := hid hkb2
        have HN := hid (hhas (by omega))
        have hge : ¬ v < (si : Int) := by omega
        clear hhas hnot hkl hka hk2 hkb2 hj2 a1 a2 hkr hca
        gi_wp2
        refine ⟨fun _ => by omega, ?_⟩
        have hR2 : RoundIn (Fence.wide.inRound l2) (m - 1 - 1 - 1) Try.prog l fn tmps as1 bd W2 _ := ⟨hR.1, fun c cs _ => hR.2 c cs (by simp [Fence.room, Fence.wide])⟩
        refine hR2.mono ?_
        rintro e W3 (⟨rfl, hj3, hkn⟩ | ⟨rfl, hx3, hkn⟩)
        · gi_wp2
          refine ⟨hkn.sub (by omega) (by omega), ?_, (hkn B0 (Nat.le_refl _) (by omega)).trans HKB.out⟩
          rw [HN.out]
          exact hj3
        · gi_wp2
          exact ⟨hkn.sub (by omega) (by omega), rfl, W3, hx3, Chg.refl _ _⟩
      · have hlt : v < (si : Int) := by omega
        have HJ2 := hid hj2
        have HKB := hid hkb2
        have HN := hid (hnot (by omega))
        have HSI := hid hsi
        clear hhas hnot hkl hka hk2 hkb2 hj2 a1 a2 hkr hca
        gi_wp2
        refine ⟨KN.refl _ _ _, ?_, HKB.out⟩
        rw [HN.out]
        exact HJ2.out
    · rintro W1 ⟨a1, a2⟩ hd
      rw [cnt_all v (by have := HV.out; omega)] at a1
      have hM : Marks (B0 + 1) W1 [B0 + 1] := (Marks.nil_ _ _).cons_ (Nat.le_refl _) (by simp) hd
      refine leaves_marks (B0 + 1) [B0 + 1] W1 hM fun W6 h6 => ?_
      exact ⟨_, results_none rfl _ _ _, ⟨_, rfl⟩, .inl (HJN.out _ _ _ a1 (h6.mono fun q _ hq => by simp at hq; omega))⟩
    · rintro c W1 ⟨rfl, W0, a1, a2⟩ hd
      gi_wp2
      have hM : Marks (B0 + 1) W1 [B0 + 1] := (Marks.nil_ _ _).cons_ (Nat.le_refl _) (by simp) hd
      refine leaves_marks (B0 + 1) [B0 + 1] W1 hM fun W6 h6 => ?_
      exact ⟨_, results_none rfl _ _ _, ⟨_, rfl⟩, .inr ⟨W0, a1, a2.trans (h6.mono fun q _ hq => by simp at hq; omega)⟩⟩
end Go.Proofs.Ytehjibbjkadoiaa
