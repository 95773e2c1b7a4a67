/- The walk of StreamDoes: a stream to which anything happened. -/
import Derived.Test.YtabklpgimjmdlaaStmOn2
import Derived.Test.YtabklpgimjmdlaaLawTw
set_option linter.unusedVariables false
namespace Go.Proofs.Ytabklpgimjmdlaa
open Go.ChangeShapes Go.WideShapes Go.ChangeAt Go.RowKit
def EdOk (W : World) (e : EdV) : Prop := (-9223372036854775808 ≤ e.k ∧ e.k ≤ 9223372036854775807) ∧ (-9223372036854775808 ≤ e.p ∧ e.p ≤ 9223372036854775807) ∧ (-9223372036854775808 ≤ e.n ∧ e.n ≤ 9223372036854775807) ∧ (-9223372036854775808 ≤ e.t ∧ e.t ≤ 9223372036854775807) ∧ Sl W e.s.A e.s.c (e.s.xs.map bv)
theorem openEd (W : World) : Opens Try.prog W 36 edC (EdOk W) :=
  (opens_struct5 (e0 := fun n : Int => .int .i64 n) (e1 := fun n : Int => .int .i64 n) (e2 := fun n : Int => .int .i64 n) (e3 := fun n : Int => .int .i64 n) (e4 := fun s : SlV UInt8 => .slice s.A s.xs.length s.c)
    Try.underlying36 (by kernel_rfl) ⟨rfl, rfl, rfl, rfl, rfl⟩ ⟨by kernel_rfl, by kernel_rfl, by kernel_rfl, by kernel_rfl, by kernel_rfl⟩ (opens_int Try.underlying3) (opens_int Try.underlying3) (opens_int Try.underlying3) (opens_int Try.underlying3) (opens_bytes Try.underlying22 Try.underlying5 (by kernel_rfl))).map
    (fun p => ⟨p.1, p.2.1, p.2.2.1, p.2.2.2.1, p.2.2.2.2⟩) fun p hp => ⟨rfl, wf_i64 hp.1, wf_i64 hp.2.1, wf_i64 hp.2.2.1, wf_i64 hp.2.2.2.1, hp.2.2.2.2⟩
theorem EdOk.below {w w' : World} {e : EdV} (h : EdOk w e) (hb : Below w.heap.size w w') : EdOk w' e := ⟨h.1, h.2.1, h.2.2.1, h.2.2.2.1, h.2.2.2.2.below hb⟩
/-- The bytes behind the first j edits. -/
def fL (l : List EdV) (bs : List UInt8) (j : Nat) : List UInt8 := (l.take j).foldl (fun b e => edF e.k e.p e.n e.t e.s.xs b) bs
theorem fL_succ {l : List EdV} {bs : List UInt8} {j : Nat} (hj : j < l.length) : fL l bs (j + 1) = edF l[j].k l[j].p l[j].n l[j].t l[j].s.xs (fL l bs j) := by
  unfold fL
  rw [List.take_succ_eq_append_getElem hj, List.foldl_append]
  rfl
theorem fL_len {l : List EdV} {bs : List UInt8} (hb : bs.length ≤ 500) : ∀ j, j ≤ l.length → (∀ (i : Nat) (hi : i < l.length), i < j → l[i].s.xs.length ≤ 200) → (fL l bs j).length + 200 ≤ 700 * 2 ^ j := by
  intro j
  induction j with
  | zero => intro _ _; simp [fL]; omega
  | succ j ih =>
    intro hj h
    have h1 := ih (by omega) (fun i hi hij => h i hi (by omega))
    have h2 := edF_len l[j].k l[j].p l[j].n l[j].t l[j].s.xs (fL l bs j)
    have h3 := h j (by omega) (by omega)
    rw [fL_succ (by omega), Nat.pow_succ]
    omega
theorem fL_bd {l : List EdV} {bs : List UInt8} {j : Nat} (hb : bs.length ≤ 500) (hj : j ≤ l.length) (hl : l.length ≤ 8) (h : ∀ (i : Nat) (hi : i < l.length), i < j → l[i].s.xs.length ≤ 200) : (fL l bs j).length ≤ 179000 := by
  have h1 := fL_len hb j hj h
  have h2 : 2 ^ j ≤ 2 ^ 8 := Nat.pow_le_pow_right (by omega) (by omega)
  have h3 : 2 ^ 8 = 256 := rfl
  omega
theorem ldo_any (l : List EdV) (m : Nat) (Al : Option Addr) (cl : Nat) (bs : List UInt8) (n : Nat) (A : Option Addr) (c : Nat) (w : World) (hm : l.length = m) (hrow : SlN w Al m cl 5 (l.flatMap edC)) (hok : ∀ e ∈ l, EdOk w e) (hn : bs.length = n) (hl : n ≤ 500) (hm8 : m ≤ 8) (hs : Sl w A c (bs.map bv)) (h2 : ∀ (i : Nat) (hi : i < l.length), l[i].s.xs.length ≤ 200) :
    Calls Try.prog 22 #[.slice A n c, .slice Al m cl] w fun e w' => ∃ A2 n2 c2, e = .returned (.slice A2 n2 c2) ∧ (fL l bs m).length = n2 ∧ Sl w' A2 c2 ((fL l bs m).map bv) ∧ Below w.heap.size w w' := by
  refine (sdo_any l m Al cl bs n A c w hm hrow hn (by omega) hs (fL l bs) rfl ?_).mono ?_
  · intro j hj W A' n' c' hE hB
    have hbd := fL_bd (l := l) (bs := bs) (j := j) (by omega) (by omega) (by omega) (fun i hi _ => h2 i hi)
    have hlen := hE.len
    have h20 := h2 j hj
    obtain ⟨-, k1, k2, k3, k4⟩ := (hok _ (List.getElem_mem hj)).below hB
    rw [fL_succ hj]
    exact sedit_any l[j] (fL l bs j) w.heap.size A' n' c' W hE hB.size (by omega) k1 k2 k3 k4
  · rintro e w' ⟨A2, n2, c2, rfl, hE, hB⟩
    exact ⟨A2, n2, c2, rfl, hE.len, hE.sl, hB⟩
set_option maxRecDepth 100000 in
set_option maxHeartbeats 8000000 in
theorem streamDoes_any (l : List EdV) (m : Nat) (Al : Option Addr) (cl : Nat) (bs : List UInt8) (n : Nat) (A : Option Addr) (c : Nat) (w : World) (hm : l.length = m) (hok : ∀ e ∈ l, EdOk w e) (hrow : SlN w Al m cl 5 (l.flatMap edC)) (hn : bs.length = n) (hs : Sl w A c (bs.map bv)) :
    Calls Try.prog 4 #[.slice A n c, .slice Al m cl] w fun e w' => e = .returned (.bool true) ∧ Below w.heap.size w w' := by
  obtain ⟨s, hws⟩ : ∃ s, w.heap.size = s := ⟨_, rfl⟩
  have hcap := hrow.cap
  have hsm := hrow.small
  have hcap2 := hs.cap
  have hsm2 := hs.small
  rw [List.length_map, hn] at hcap2
  have HM := hid hrow
  have HL := hid hm
  have HOK := hid hok
  have HN := hid hn
  have HS := hid hs
  have HWS := hid hws
  rw [hws]
  clear hrow hm hok hn hs hws
  go_enter Try.func4, Try.ntmps4
  go_wp2_with fail
  refine (live16_any w).mono ?_
  rintro e w1 ⟨rfl, hb1⟩
  rw [HWS.out] at hb1
  have HB1 := hid hb1
  clear hb1
  by_cases hbig : 500 < n
  · have hbi : (500 : Int) < (n : Int) := by omega
    go_wp2_with fail
    go_ret
    exact ⟨rfl, HB1.out⟩
  have hbi : decide ((500 : Int) < (n : Int)) = false := by simp; omega
  by_cases hbig2 : 8 < m
  · have hbi2 : (8 : Int) < (m : Int) := by omega
    go_wp2_with fail
    go_ret
    exact ⟨rfl, HB1.out⟩
  have hbi2 : ¬ (8 : Int) < (m : Int) := by omega
  go_wp2_with fail
  go_loopw [5, 6] (fun v i wr => ∃ j : Nat, j ≤ m ∧ i = .int .i64 (j : Int) ∧ (∀ (i : Nat) (hi : i < l.length), i < j → l[i].s.xs.length ≤ 200) ∧ ∃ (A' : Option Addr) (c' : Nat), v = .slice A' (fL l bs j).length c' ∧ Sl wr A' c' ((fL l bs j).map bv) ∧ Below s w wr) (fun _ i _ => m - (intOf i).toNat)
  case atStart => exact ⟨0, by omega, rfl, fun i _ h => by omega, A, c, by rw [show (fL l bs 0).length = n from HN.out], HS.out.below (by rw [HWS.out]; exact HB1.out), HB1.out⟩
  case round =>
    obtain ⟨j, hj, rfl, h9, A', c', rfl, hsl, hB⟩ := hrel
    have H9 := hid h9
    have HB := hid hB
    have HSL := hid hsl
    have hbd := fL_bd (l := l) (bs := bs) (j := j) (by rw [HN.out]; omega) (by rw [HL.out]; omega) (by rw [HL.out]; omega) h9
    clear h9 hB hsl
    by_cases hlt : j < m
    · have hjl : j < l.length := by have := HL.out; omega
      obtain ⟨b, off, rfl, hbl, t0, t1, t2, t3, t4⟩ := edRow_get HL.out HM.out j hjl
      have hsu := fL_succ (bs := bs) hjl
      have hok := (HOK.out _ (List.getElem_mem hjl)).below (by rw [HWS.out]; exact HB.out)
      have H9S := hid (fun (hp : l[j].s.xs.length ≤ 200) (i : Nat) (hi : i < l.length) (h : i < j + 1) => (by
        by_cases h2 : i < j
        · exact H9.out i hi h2
        · obtain rfl : i = j := by omega
          exact hp : l[i].s.xs.length ≤ 200))
      have hone := fun W (hW : Below wr.heap.size wr W) (h20 : l[j].s.xs.length ≤ 200) => r16_any l[j] (fL l bs j) A' (fL l bs j).length c' W rfl (HSL.out.below hW) (by omega) hok.2.1 hok.2.2.1 hok.2.2.2.1 (hok.2.2.2.2.below hW)
      rw [← hsu] at hone
      generalize (fL l bs j).length = N at *
      clear hsu hok
      generalize l[j] = x at *
      obtain ⟨xk, xp, xn, xt, xA, xc, xs⟩ := x
      simp only at t0 t1 t2 t3 t4 hone H9S
      generalize xs.length = xl at *
      have hb2 : b < s := by rw [← HWS.out]; exact hbl
      have t0 := (HB.out.cell (p := ⟨b, off + j * 5, none⟩) hb2).trans t0
      have t1 := (HB.out.cell (p := ⟨b, off + j * 5 + 1, none⟩) hb2).trans t1
      have t2 := (HB.out.cell (p := ⟨b, off + j * 5 + 2, none⟩) hb2).trans t2
      have t3 := (HB.out.cell (p := ⟨b, off + j * 5 + 3, none⟩) hb2).trans t3
      have t4 := (HB.out.cell (p := ⟨b, off + j * 5 + 4, none⟩) hb2).trans t4
      have hki : (j : Int) < (m : Int) := by omega
      have hk0 : (0 : Int) ≤ (j : Int) := by omega
      have HON := hid hone
      clear hone
      by_cases h20 : 200 < xl
      · have h20i : (200 : Int) < (xl : Int) := by omega
        go_wp2_with fail
        go_ret
        exact ⟨rfl, HB.out⟩
      have h20i : ¬ (200 : Int) < (xl : Int) := by omega
      have HBR := hid (Below.refl wr.heap.size wr)
      go_wp2_with fail
      go_still_tail 26, (by kernel_rfl)
      change wpList _ _ _ _ _ wr.drew
      go_wp2_with fail
      refine (HON.out _ (below_drew' HBR.out) (by omega)).mono ?_
      rintro e w5 ⟨A5, c5, rfl, hs5, hb5⟩
      have HS5 := hid hs5
      have HB5 := hid ((below_drew' HB.out).trans (hb5.mono (by have := HB.out.size; have := HWS.out; show s ≤ wr.heap.size; omega)))
      clear hs5 hb5
      go_wp2_with fail
      go_roundw
      case rel => exact ⟨j + 1, by omega, by go_num, H9S.out (by omega), A5, c5, rfl, HS5.out, HB5.out⟩
      case measure => simp [intOf]; omega
    · obtain rfl : j = m := by omega
      have hki : ¬ (j : Int) < (j : Int) := by omega
      obtain ⟨wA, rfl⟩ : ∃ x, x = wr := ⟨_, rfl⟩
      have HJ := hid (rj2 bs [] n 0 n A none c 0 wA HN.out rfl (by omega) (by omega) (HS.out.below (by rw [HWS.out]; exact HB.out)) (Sl.nil_ _))
      obtain ⟨N, hN⟩ : ∃ N, (fL l bs j).length = N := ⟨_, rfl⟩
      have HNN := hid hN
      rw [hN] at hbd ⊢
      clear hN
      go_wp2_with fail
      refine HJ.out.mono ?_
      rintro e w5 ⟨A5, c5, rfl, ho5, hb5⟩
      rw [List.append_nil] at ho5
      have HS5 := hid (Sl.of_own' ho5)
      have HB5 := hid (HB.out.trans (hb5.mono (by have := HB.out.size; have := HWS.out; omega)))
      have HSL5 := hid (HSL.out.below hb5)
      clear ho5 hb5 HJ
      have HDO := hid (ldo_any l j Al cl bs n A c w5 HL.out (HM.out.below (by rw [HWS.out]; exact HB5.out)) (fun e he => (HOK.out e he).below (by rw [HWS.out]; exact HB5.out)) HN.out (by omega) (by omega) (HS.out.below (by rw [HWS.out]; exact HB5.out)) (fun i hi => H9.out i hi (by rw [← HL.out]; exact hi)))
      go_wp2_with fail
      refine HDO.out.mono ?_
      rintro e w6 ⟨A6, n6, c6, rfl, hn6, hs6, hb6⟩
      obtain rfl : N = n6 := by rw [← HNN.out]; exact hn6
      have HS6 := hid hs6
      have HB6 := hid (HB5.out.trans (hb6.mono (by have := HB5.out.size; have := HWS.out; omega)))
      have HSL6 := hid (HSL5.out.below hb6)
      have HS56 := hid (HS5.out.below hb6)
      clear hn6 hs6 hb6 HDO
      go_wp2_with fail
      refine (same_nm (fL l bs j) (fL l bs j) N N A6 A' c6 c' w6 HNN.out HNN.out (by omega) HS6.out.rd HSL6.out.rd).mono ?_
      rintro e w7 ⟨rfl, n7, rfl⟩
      simp only [decide_true]
      have HB7 := hid (bw_dqs HB6.out n7)
      go_wp2_with fail
      refine (same_nm bs bs n n A A5 c c5 _ HN.out HN.out (by omega) (HS.out.below (by rw [HWS.out]; exact HB7.out)).rd (HS56.out.drewN n7).rd).mono ?_
      rintro e w8 ⟨rfl, n8, rfl⟩
      simp only [decide_true]
      go_wp2_with fail
      go_ret
      exact ⟨rfl, bw_dqs HB6.out _⟩
end Go.Proofs.Ytabklpgimjmdlaa
