/- What must be of layer 25, whatever is asked: a walk. -/
import Derived.Test.YtejdlhjbakndaaaNmW
import Derived.Test.YtejdlhjbakndaaaNmT
import Derived.Test.YtejdlhjbakndaaaNmU
import Derived.Test.YtejdlhjbakndaaaDgR
set_option linter.unusedVariables false
namespace Go.Proofs.Ytejdlhjbakndaaa
open Go.RowKit
def ndL : NdV := { kd := 0, tx := ⟨#[]⟩, ks := ⟨none, 0, []⟩, cA := none, cn := 0, cc := 0, ln := 0 }
def stLa : StV := { nm := ⟨#[97]⟩, ac := ⟨#[120]⟩, un := ⟨#[]⟩, af := ⟨none, 0, []⟩, r1 := 0, r2 := 0, r3 := 0, lim := 0, nd := ndL }
def stLb (b : Nat) : StV := { nm := ⟨#[97]⟩, ac := ⟨#[121]⟩, un := ⟨#[]⟩, af := ⟨some ⟨b, 0, none⟩, 2, [⟨#[97]⟩, ⟨#[98]⟩]⟩, r1 := 0, r2 := 0, r3 := 0, lim := 0, nd := ndL }
def dfL (b : Nat) : DfV := { nm := ⟨#[115]⟩, tx := ⟨#[]⟩, st := ⟨some ⟨b + 1, 0, none⟩, 2, [stLa, stLb b]⟩ }
theorem chk_l25 (b : Nat) : Dg.srt (Nm.chHead (dfL b) ++ Nm.chRef (nms (dfL b).st.xs) 0 (dfL b).st.xs) = [(1, 5, ⟨#[98]⟩), (1, 6, ⟨#[97]⟩), (1, 8, ⟨#[97]⟩)] := by kernel_rfl
theorem ref_l25 (b : Nat) : Nm.rfAll (nms (dfL b).st.xs) 0 (dfL b).st.xs = [[], [0]] := by kernel_rfl
theorem mis_l25 (b : Nat) : Nm.msAll (nms (dfL b).st.xs) (dfL b).st.xs = [⟨#[98]⟩] := by kernel_rfl
theorem rg_l25 : rgB ⟨#[97, 45, 98]⟩ = true ∧ rgB ⟨#[97, 32, 98]⟩ = false := ⟨by kernel_rfl, by kernel_rfl⟩
set_option maxRecDepth 100000 in
set_option maxHeartbeats 16000000 in
theorem live25_any (w : World) :
    Calls Try.prog 9 #[] w fun e w' => e = .returned (.bool true) ∧ Below w.heap.size w w' := by
  obtain ⟨s, hws⟩ : ∃ s, w.heap.size = s := ⟨_, rfl⟩
  have HWS := hid hws
  obtain ⟨w1, hw1⟩ : ∃ w1, w.alloc (.cells #[.string ⟨#[97]⟩, .string ⟨#[98]⟩] 9) = w1 := ⟨_, rfl⟩
  have hz1 : w1.heap.size = s + 1 := by rw [← hw1, World.size_alloc, hws]
  obtain ⟨w2, hw2⟩ : ∃ w2, w1.alloc (.cells ([stLa, stLb s].flatMap stC).toArray 44) = w2 := ⟨_, rfl⟩
  have hz2 : w2.heap.size = s + 2 := by rw [← hw2, World.size_alloc, hz1]
  obtain ⟨w3, hw3⟩ : ∃ w3, w2.alloc (.cells #[.string ⟨#[115]⟩, .string ⟨#[]⟩, .slice (some ⟨s + 1, 0, none⟩) 2 2] 24) = w3 := ⟨_, rfl⟩
  have hz3 : w3.heap.size = s + 3 := by rw [← hw3, World.size_alloc, hz2]
  have hb12 : Below w1.heap.size w1 w3 := by
    rw [← hw3, ← hw2]; exact bw_a (bw_a (Below.refl _ w1) _) _
  have hb23 : Below w2.heap.size w2 w3 := by rw [← hw3]; exact bw_a (Below.refl _ w2) _
  have hb03 : Below s w w3 := by
    rw [← hw3, ← hw2, ← hw1, ← hws]; exact bw_a (bw_a (bw_a (Below.refl _ w) _) _) _
  have htx : TxOk w3 (stLb s).af := by
    refine ⟨fun x hx => by simp [stLb] at hx; rcases hx with rfl | rfl <;> simp [ByteArray.size], rfl, by simp [stLb], by simp [stLb], (fun h => by cases h), ?_⟩
    have h := (Rd.new w 9 #[.string ⟨#[97]⟩, .string ⟨#[98]⟩])
    rw [hws, hw1] at h
    exact h.below hb12
  have hta : TxOk w3 stLa.af := ⟨fun x hx => by simp [stLa] at hx, rfl, by simp [stLa], by simp [stLa], (fun _ => rfl), fun k u h => by simp [stLa] at h⟩
  have hst : StRow w3 (dfL s) := by
    refine ⟨rfl, by simp [dfL], by simp [dfL], (fun h => by cases h), ?_⟩
    have h := Rd.new w1 44 ([stLa, stLb s].flatMap stC).toArray
    rw [hz1, hw2] at h
    exact h.below hb23
  have hX : ∀ x ∈ (dfL s).st.xs, TxOk w3 x.af ∧ x.af.xs.length ≤ 70 := fun x hx => by
    have hx' : x = stLa ∨ x = stLb s := by simpa [dfL] using hx
    rcases hx' with rfl | rfl
    · exact ⟨hta, by simp [stLa]⟩
    · exact ⟨htx, by simp [stLb]⟩
  have hz : ∀ x ∈ (dfL s).st.xs, x.nm.size ≤ maxLen ∧ x.ac.size ≤ maxLen ∧ x.un.size ≤ maxLen := fun x hx => by
    have hx' : x = stLa ∨ x = stLb s := by simpa [dfL] using hx
    rcases hx' with rfl | rfl <;> (refine ⟨?_, ?_, ?_⟩ <;> (simp [stLa, stLb, ByteArray.size, maxLen]))
  have hl : (dfL s).st.xs.length ≤ 30 := by simp [dfL]
  have hkey : ∀ W, Below s w W → True := fun _ _ => trivial
  have HCK := hid (fun W (hb : Below w3.heap.size w3 W) => (callsIn_wide (n := 8)).1 (check_in 8 (by omega) (dfL s) W (hst.below hb) (fun x hx => ⟨(hX x hx).1.below hb, (hX x hx).2⟩) hl hz (by simp [dfL, ByteArray.size, maxLen])))
  have HRF := hid (fun W (hb : Below w3.heap.size w3 W) => (callsIn_wide (n := 8)).1 (refs_in 8 (by omega) (dfL s) W (hst.below hb) (fun x hx => ⟨(hX x hx).1.below hb, (hX x hx).2⟩) hl (fun x hx => (hz x hx).1)))
  have HMS := hid (fun W (hb : Below w3.heap.size w3 W) => (callsIn_wide (n := 8)).1 (missing_in 8 (by omega) (dfL s) W (hst.below hb) (fun x hx => ⟨(hX x hx).1.below hb, (hX x hx).2⟩) hl (fun x hx => (hz x hx).1)))
  have hbx := Blk.new w2 24 #[.string ⟨#[115]⟩, .string ⟨#[]⟩, .slice (some ⟨s + 1, 0, none⟩) 2 2]
  rw [hz2, hw3] at hbx
  have HBX := hid hbx
  have HB3 := hid hb03
  have HW3 := hid (show ((w.alloc (.cells #[.string ⟨#[97]⟩, .string ⟨#[98]⟩] 9)).alloc (.cells ([stLa, stLb s].flatMap stC).toArray 44)).alloc (.cells #[.string ⟨#[115]⟩, .string ⟨#[]⟩, .slice (some ⟨s + 1, 0, none⟩) 2 2] 24) = w3 by rw [hw1, hw2, hw3])
  have c0 := hbx.cell 0
  have c1 := hbx.cell 1
  have c2 := hbx.cell 2
  simp only [List.getElem?_toArray, List.getElem?_cons_zero, List.getElem?_cons_succ] at c0 c1 c2
  rw [← HW3.out] at c0 c1 c2
  have HZ3 := hid hz3
  rw [hws]
  clear hw1 hw2 hw3 hz1 hz2 hz3 hb12 hb23 hb03 htx hta hst hX hz hl hkey hbx
  simp only [stLa, stLb, ndL, stC, List.flatMap_cons, List.flatMap_nil, List.cons_append, List.nil_append, List.append_nil, List.length_nil, List.length_cons, Nat.zero_add, Nat.reduceAdd] at c0 c1 c2 HW3
  go_enter Try.func9, Try.ntmps9
  go_wp2_with fail
  rw [HW3.out]
  have hc1 : Calls Try.prog 12 #[.agg #[.string ⟨#[115]⟩, .string ⟨#[]⟩, .slice (some ⟨s + 1, 0, none⟩) 2 2]] w3 (ChA (dfL s) w3) := HCK.out w3 (Below.refl _ _)
  with_reducible refine hc1.mono ?_
  rintro e w4 ⟨A4, k4, c4, rfl, hk4, hs4, hb4⟩
  rw [chk_l25] at hk4 hs4
  obtain rfl : k4 = 3 := hk4.symm
  clear hc1 c0 c1 c2 hk4
  have hx4 := HBX.out.below hb4 (by have := HZ3.out; omega)
  have c0 := hx4.cell 0
  have c1 := hx4.cell 1
  have c2 := hx4.cell 2
  simp only [List.getElem?_toArray, List.getElem?_cons_zero, List.getElem?_cons_succ] at c0 c1 c2
  have hr2 := fun W h => HRF.out W h
  have hc2 : Calls Try.prog 16 #[.agg #[.string ⟨#[115]⟩, .string ⟨#[]⟩, .slice (some ⟨s + 1, 0, none⟩) 2 2]] w4 fun e w' => ∃ v, e = .returned v ∧ RwS w' v (Nm.rfAll (nms (dfL s).st.xs) 0 (dfL s).st.xs) ∧ Below w4.heap.size w4 w' := HRF.out w4 hb4
  have HB4 := hid hb4
  have HS4 := hid hs4
  clear hr2 hs4 hb4
  go_wp2_with fail
  with_reducible refine hc2.mono ?_
  rintro e w5 ⟨v5, rfl, hr5, hb5⟩
  rw [ref_l25] at hr5
  obtain ⟨A5, c5, vs, rfl, hs5, hvl, hrow⟩ := hr5
  have hb45 := bw_t HB4.out hb5
  clear hc2 c0 c1 c2
  have hx5 := hx4.below hb5 hx4.lt
  have c0 := hx5.cell 0
  have c1 := hx5.cell 1
  have c2 := hx5.cell 2
  simp only [List.getElem?_toArray, List.getElem?_cons_zero, List.getElem?_cons_succ] at c0 c1 c2
  have hc3 : Calls Try.prog 19 #[.agg #[.string ⟨#[115]⟩, .string ⟨#[]⟩, .slice (some ⟨s + 1, 0, none⟩) 2 2]] w5 fun e w' => ∃ v, e = .returned v ∧ w'.ownsRow w5.heap.size 9 1 v (Nm.msAll (nms (dfL s).st.xs) (dfL s).st.xs).length ((Nm.msAll (nms (dfL s).st.xs) (dfL s).st.xs).flatMap svC) ∧ Below w5.heap.size w5 w' := HMS.out w5 hb45
  have HS5 := hid hs5
  have HROW := hid hrow
  have HB5 := hid hb5
  have HB45 := hid hb45
  have HVL := hid hvl
  clear hs5 hrow hb5 hb45 hvl hx4
  go_wp2_with fail
  with_reducible refine hc3.mono ?_
  rintro e w6 ⟨v6, rfl, ho6, hb6⟩
  rw [mis_l25] at ho6
  obtain ⟨A6, c6, rfl, hs6⟩ := SlN.of_own (by omega) ho6
  clear hc3 c0 c1 c2 hx5 ho6
  have hs4' := (HS4.out.below HB5.out).below hb6
  obtain ⟨g, o, rfl, hg, r0, r1, r2⟩ := dRow_at hs4' 0 (by decide)
  obtain ⟨g', o', e1, -, r3, r4, r5⟩ := dRow_at hs4' 1 (by decide)
  injection e1 with e1
  injection e1 with e1 e1'
  subst e1 e1'
  obtain ⟨g'', o'', e1, -, r6, r7, r8⟩ := dRow_at hs4' 2 (by decide)
  injection e1 with e1
  injection e1 with e1 e1'
  subst e1 e1'
  simp only [List.getElem_cons_zero, List.getElem_cons_succ, Nat.zero_mul, Nat.add_zero, Nat.one_mul] at r0 r1 r2 r3 r4 r5 r6 r7 r8
  have hlv : vs.length = 2 := HVL.out
  obtain ⟨gA, oA, rfl, hgA, t1⟩ := (HS5.out.below hb6).rd 1 (vs[1]'(by omega)) (List.getElem?_eq_getElem (by omega))
  obtain ⟨A7, c7, hv7, -⟩ := HROW.out 1 (by omega) (by decide)
  rw [hv7] at t1
  obtain ⟨gB, oB, rfl, hgB, t2⟩ := hs6.rd 0 (.string ⟨#[98]⟩) rfl
  have hqa := fun W => deql ((1, 5, ⟨#[98]⟩) : Dg.D) ((1, 5, ⟨#[98]⟩) : Dg.D) W
  have hqb := fun W => deql ((1, 6, ⟨#[97]⟩) : Dg.D) ((1, 6, ⟨#[97]⟩) : Dg.D) W
  rw [show decide (((1, 5, ⟨#[98]⟩) : Dg.D) = (1, 5, ⟨#[98]⟩)) = true from by simp] at hqa
  rw [show decide (((1, 6, ⟨#[97]⟩) : Dg.D) = (1, 6, ⟨#[97]⟩)) = true from by simp] at hqb
  simp only at hqa hqb
  have CRa := hid (fun W => right25_any ⟨#[97, 45, 98]⟩ W (by simp [ByteArray.size]))
  have CRb := hid (fun W => right25_any ⟨#[97, 32, 98]⟩ W (by simp [ByteArray.size]))
  rw [rg_l25.1] at CRa
  rw [rg_l25.2] at CRb
  have HB6 := hid (bw_t (show Below w.heap.size w w5 by have h := HB3.out.trans (HB45.out.mono (by have := HZ3.out; omega)); rw [HWS.out]; exact h) hb6)
  clear hs4' hs6 hb6 hv7 hgA hgB hg hlv
  simp only [List.length_cons, List.length_nil, Nat.zero_add, Nat.add_zero, Nat.reduceAdd] at t1 t2 ⊢
  go_wp2_with (first
    | (go_at_call 14; (with_reducible refine (CRa.out _).mono ?_); rintro e wa ⟨rfl, rfl⟩)
    | (go_at_call 14; (with_reducible refine (CRb.out _).mono ?_); rintro e wa ⟨rfl, rfl⟩))
  go_ret
  exact ⟨rfl, by have h := HB6.out; rw [HWS.out] at h; exact h⟩
end Go.Proofs.Ytejdlhjbakndaaa
