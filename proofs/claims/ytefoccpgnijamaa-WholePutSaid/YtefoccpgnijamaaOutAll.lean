/- All: some writes are done, or none of them. -/
import Derived.Test.YtefoccpgnijamaaOutWr
import Derived.Tactics
import Derived.Tactics2
import Derived.Recover
import Derived.Defers
import Derived.Laws.Pointers
set_option linter.unusedVariables false
namespace Go.Proofs.Ytefoccpgnijamaa
open Go.RowKit
/-- What a write makes of what was written: the bytes then, and what is wrong. -/
abbrev Wf : Type := List UInt8 → List UInt8 × Nat
def allR : List Wf → List UInt8 → List UInt8 × Nat
  | [], bs => (bs, 0)
  | g :: r, bs => if (g bs).2 = 0 then allR r (g bs).1 else g bs
/-- All of them, or none. -/
def allW (gs : List Wf) (bs : List UInt8) : List UInt8 × Nat := if (allR gs bs).2 = 0 then allR gs bs else (bs, (allR gs bs).2)
theorem allR_append (a b : List Wf) : ∀ bs, allR (a ++ b) bs = if (allR a bs).2 = 0 then allR b (allR a bs).1 else allR a bs := by
  induction a with
  | nil => intro bs; simp [allR]
  | cons g r ih =>
    intro bs
    simp only [List.cons_append, allR]
    by_cases h : (g bs).2 = 0
    · simp only [h, if_true]; exact ih _
    · simp only [h, if_false]
theorem allR_step {gs : List Wf} {bs b1 : List UInt8} {j : Nat} (hj : j < gs.length) (h : allR (gs.take j) bs = (b1, 0)) : allR (gs.take (j + 1)) bs = gs[j] b1 := by
  rw [List.take_succ_eq_append_getElem hj, allR_append, h]
  simp only [if_true, allR]
  by_cases h2 : (gs[j] b1).2 = 0
  · rw [if_pos h2]; exact Prod.ext rfl h2.symm
  · rw [if_neg h2]
theorem allR_stop {gs : List Wf} {bs b1 : List UInt8} {j : Nat} (hj : j < gs.length) (h : allR (gs.take j) bs = (b1, 0)) (he : (gs[j] b1).2 ≠ 0) : allR gs bs = gs[j] b1 := by
  have h1 := allR_step hj h
  calc allR gs bs = allR (gs.take (j + 1) ++ gs.drop (j + 1)) bs := by rw [List.take_append_drop]
    _ = gs[j] b1 := by rw [allR_append, h1, if_neg he]
set_option maxRecDepth 100000 in
set_option maxHeartbeats 1000000 in
theorem restore_any (p1 p2 p3 q : Nat) (ez m m1 : Int) (A A1 : Option Addr) (n n1 c c1 : Nat) (w : World) (h1 : w.cell? ⟨p1, 0, none⟩ = some (.int .i64 ez)) (h2 : Blk w p2 77 #[.slice A n c, .int .i64 m])
    (h3 : w.cell? ⟨p3, 0, none⟩ = some (.pointer (some ⟨q, 0, none⟩))) (hq : Blk w q 77 #[.slice A1 n1 c1, .int .i64 m1]) :
    CallsD Try.prog 42 #[.pointer (some ⟨p1, 0, none⟩), .pointer (some ⟨p2, 0, none⟩), .pointer (some ⟨p3, 0, none⟩)] .returning w fun e u' w' => e = .returned (.tuple #[]) ∧ u' = .returning ∧ w' = if ez = 0 then w else (w.setCell ⟨q, 0, none⟩ (.slice A n c)).setCell ⟨q, 1, none⟩ (.int .i64 m) := by
  have c20 := h2.cell 0
  have c21 := h2.cell 1
  have cq0 := hq.cell 0
  have cq1 := hq.cell 1
  have fq0 := hq.frozen 0
  have fq1 := hq.frozen 1
  simp at c20 c21 cq0 cq1
  have hql := hq.lt
  clear h2 hq
  by_cases he : ez = 0
  · subst he
    rw [if_pos rfl]
    refine callsD_of_wpS Try.func42 rfl fun c₀ cs hu => ?_
    apply wpS_seq
    apply wpS_seq
    apply wpS_region
    simp [wpOpsS, go_sem, recoverD, hu, Try.ntmps42, Exit.thenS]
    refine wpS_cond (t := false) (by simp [Act.eval, Array.replicate]) ?_
    simp only [Bool.false_eq_true, if_false]
    refine wpS_of_wp (wp_skip ?_)
    refine wpS_of_wp ?_
    go_wp2
    refine ⟨rfl, .returning, ?_, _, results_none rfl _ _ _, rfl, rfl, rfl⟩
    cases c₀
    simp only at hu
    subst hu
    rfl
  · rw [if_neg he]
    have heb : (ez != 0) = true := by simp [he]
    refine callsD_of_wpS Try.func42 rfl fun c₀ cs hu => ?_
    apply wpS_seq
    apply wpS_seq
    apply wpS_region
    simp [wpOpsS, go_sem, recoverD, hu, Try.ntmps42, Exit.thenS]
    refine wpS_cond (t := false) (by simp [Act.eval, Array.replicate]) ?_
    simp only [Bool.false_eq_true, if_false]
    refine wpS_of_wp (wp_skip ?_)
    refine wpS_of_wp ?_
    go_wp2
    refine ⟨rfl, .returning, ?_, _, results_none rfl _ _ _, rfl, rfl, rfl⟩
    cases c₀
    simp only at hu
    subst hu
    rfl
theorem own_set {w : World} {B n g : Nat} {e : TypeId} {v : Value} {xs : List Value} (h : w.ownsRow B e 1 v n xs) (hg : v.ownBlock ≠ some g) (i : Nat) (u : Value) : (w.setCell ⟨g, i, none⟩ u).ownsRow B e 1 v n xs :=
  h.kept (row := some g) ⟨rfl, rfl, rfl, by simp [World.setCell], fun k _ hk => Below.heap_setCell w ⟨g, i, none⟩ _ k (fun e => hk (by rw [e]))⟩ (.inr hg)
theorem own_lt_ne {w : World} {B n g : Nat} {e : TypeId} {v : Value} {xs : List Value} (h : w.ownsRow B e 1 v n xs) (hg : w.heap.size ≤ g) : v.ownBlock ≠ some g := fun he => by have := (h.lt g he).2; omega
section
variable {w w5 : World} {B q : Nat} {v v2 : Value} {bs b2 : List UInt8} {most n p : Nat}
theorem all_back (h : Wr w B q v bs most) (hn : bs.length = n) (hst : Stp q v v2 n w w5) (hw5 : Wr w5 B q v2 b2 most) (hp : w.heap.size ≤ p) (u : Value) :
    Wr (((w5.setCell ⟨p, 0, none⟩ u).setCell ⟨q, 0, none⟩ v).setCell ⟨q, 1, none⟩ (.int .i64 (most : Int))) B q v bs most ∧ Stp q v v n w (((w5.setCell ⟨p, 0, none⟩ u).setCell ⟨q, 0, none⟩ v).setCell ⟨q, 1, none⟩ (.int .i64 (most : Int))) := by
  have hqp : q ≠ p := by have := h.lt; omega
  have hv : ∀ B' v0 n0 xs0, w.ownsRow B' 5 1 v0 n0 xs0 → (v0.ownBlock ≠ none → v0.ownBlock = v.ownBlock → n0 ≤ n) → (((w5.setCell ⟨p, 0, none⟩ u).setCell ⟨q, 0, none⟩ v).setCell ⟨q, 1, none⟩ (.int .i64 (most : Int))).ownsRow B' 5 1 v0 n0 xs0 := by
    intro B' v0 n0 xs0 h0 hle
    have h1 := hst.views B' v0 n0 xs0 h0 hle
    have hq := own_blk_ne h1 hw5.blk (by decide)
    exact own_set (own_set (own_set h1 (own_lt_ne h0 hp) _ _) hq _ _) hq _ _
  refine ⟨⟨?_, ?_, h.le, h.lim, h.low⟩, ⟨?_, .inl rfl, hv⟩⟩
  · have h1 := ((hw5.blk.far (p := ⟨p, 0, none⟩) hqp u).set_ 0 v).set_ 1 (.int .i64 (most : Int))
    simpa using h1
  · exact hv _ _ _ _ h.row fun _ _ => by omega
  · exact ((hst.chg.set_ (.inr hp) _ _).set_ (.inl (.inl rfl)) _ _).set_ (.inl (.inl rfl)) _ _
theorem all_fwd {cs : Array Value} {t : TypeId} (h : Wr w B q v bs most) (hst : Stp q v v2 n w w5) (hw5 : Wr w5 B q v2 b2 most) (hp : w.heap.size ≤ p) (hb : Blk w5 p t cs) (ht : t ≠ 5) (u : Value) :
    Wr (w5.setCell ⟨p, 0, none⟩ u) B q v2 b2 most ∧ Stp q v v2 n w (w5.setCell ⟨p, 0, none⟩ u) := by
  have hqp : q ≠ p := by have := h.lt; omega
  refine ⟨⟨hw5.blk.far (p := ⟨p, 0, none⟩) hqp u, own_set hw5.row (own_blk_ne hw5.row hb ht) _ _, hw5.le, hw5.lim, hw5.low⟩, ⟨hst.chg.set_ (.inr hp) _ _, hst.new, ?_⟩⟩
  intro B' v0 n0 xs0 h0 hle
  exact own_set (hst.views B' v0 n0 xs0 h0 hle) (own_lt_ne h0 hp) _ _
end
/-- A value that does what g says of whatever the writer at q holds, from w on. -/
def CloOK (w : World) (B q : Nat) (v : Value) (n : Nat) (most : Nat) (f : Value) (g : Wf) : Prop :=
  (f = .nilFunc ∧ ∀ bs, g bs = (bs, 0)) ∨
  ∃ fn cap, f = .func (.func fn) #[] cap ∧ (∀ args W, (callFunc fn args).run Try.prog W = .ok (.enter fn args) W) ∧ ∀ W v1 bs, Wr W B q v1 bs most → Stp q v v1 n w W → n ≤ bs.length →
    Calls Try.prog fn (#[.pointer (some ⟨q, 0, none⟩)] ++ cap) W fun e W' => ∃ v2, e = .returned (.int .i64 ((g bs).2 : Nat)) ∧ Wr W' B q v2 (g bs).1 most ∧ Stp q v1 v2 bs.length W W' ∧ bs.length ≤ (g bs).1.length
set_option maxRecDepth 100000 in
set_option maxHeartbeats 2000000 in
theorem oall_any (gs : List Wf) (fs : List Value) (m : Nat) (A : Option Addr) (c : Nat) (w : World) (B q : Nat) (v : Value) (bs : List UInt8) (most : Nat) (hm : fs.length = m) (hg : gs.length = m) (hs : Sl w A c fs)
    (hfar : ∀ b o, A = some ⟨b, o, none⟩ → ¬ Oset q v b) (hc : ∀ j (h1 : j < fs.length) (h2 : j < gs.length), CloOK w B q v bs.length most fs[j] gs[j]) (h : Wr w B q v bs most) :
    Calls Try.prog 18 #[.pointer (some ⟨q, 0, none⟩), .slice A m c] w fun e w' => ∃ v', e = .returned (.int .i64 ((allW gs bs).2 : Nat)) ∧ Wr w' B q v' (allW gs bs).1 most ∧ Stp q v v' bs.length w w' ∧ bs.length ≤ (allW gs bs).1.length := by
  have hcm : m ≤ 9223372036854775807 := by have g1 := hs.cap; have g2 := hs.small; omega
  have hmf := func_run (P := Try.prog)
  have hnn : ∀ W, (binOp .eql 45 .nilFunc .nilFunc).run Try.prog W = .ok (.bool true) W := fun _ => by kernel_rfl
  have hnf : ∀ fn cap W, (binOp .eql 45 (.func fn #[] cap) .nilFunc).run Try.prog W = .ok (.bool false) W := fun _ _ _ => by kernel_rfl
  obtain ⟨A0, cc0, rfl, hlen0, hsl0⟩ := Sl.of_own h.row
  have hb := h.blk
  have b0 : w.cell? ⟨q, 0, none⟩ = some (.slice A0 bs.length cc0) := by simpa using hb.cell 0
  have b1 : w.cell? ⟨q, 1, none⟩ = some (.int .i64 (most : Int)) := by simpa using hb.cell 1
  have hql := h.lt
  have HS := hid hs
  have HC := hid hc
  have HM := hid hm
  have HG := hid hg
  have HH := hid h
  have HFAR := hid hfar
  clear hs hc hm hg h hb hlen0 hsl0 hfar
  generalize hbn : bs.length = n at *
  have HBN := hid hbn
  clear hbn
  go_enter_defers Try.func18, Try.ntmps18
  go_wp2_with fail
  generalize hW0 : World.alloc _ _ = w0
  have hbw : Below w.heap.size w w0 := by rw [← hW0]; exact bw_a (bw_a (bw_a (Below.refl _ w) _) _) _
  have hsz : w0.heap.size = w.heap.size + 1 + 1 + 1 := by rw [← hW0]; simp
  have hx1 : Blk w0 w.heap.size 37 #[.pointer (some ⟨q, 0, none⟩)] := by rw [← hW0]; exact ((Blk.new w _ _).alloc _).alloc _
  have hx2 : Blk w0 (w.heap.size + 1) 42 #[.int .i64 0] := by
    rw [← hW0]
    have := (Blk.new (w.alloc (.cells #[.pointer (some ⟨q, 0, none⟩)] 37)) 42 #[.int .i64 0]).alloc (.cells #[.slice A0 n cc0, .int .i64 (most : Int)] 77)
    simpa using this
  have hx3 : Blk w0 (w.heap.size + 1 + 1) 77 #[.slice A0 n cc0, .int .i64 (most : Int)] := by
    rw [← hW0]
    exact blk_third w _ _ _ _
  clear hW0
  have HX1 := hid hx1
  have HX2 := hid hx2
  have HX3 := hid hx3
  have HBW := hid hbw
  clear hx1 hx2 hx3 hbw
  go_loopw [17] (fun i wr => ∃ (j : Nat) (v1 : Value) (b1 : List UInt8), j ≤ m ∧ i = .int .i64 (j : Int) ∧ Wr wr B q v1 b1 most ∧ Stp q (.slice A0 n cc0) v1 n w0 wr ∧ n ≤ b1.length ∧ allR (gs.take j) bs = (b1, 0)) (fun i _ => m - (intOf i).toNat)
  case atStart =>
    exact ⟨0, _, bs, by omega, rfl, HH.out.new HBW.out, Stp.refl _ _ _ _, by rw [HBN.out]; exact Nat.le_refl _, rfl⟩
  case round =>
    obtain ⟨j, v1, b1, hj, rfl, hw, hst, hnb, hal⟩ := hrel
    have hq0 := HH.out.lt
    have hset := HH.out.sets
    have hno : ∀ k, w.heap.size ≤ k → ¬ Oset q (.slice A0 n cc0) k := fun k hk ho => by have := (hset k ho).2; omega
    have hr1 := hst.chg.blk HX1.out (hno _ (Nat.le_refl _))
    have hr2 := hst.chg.blk HX2.out (hno _ (by omega))
    have hr3 := hst.chg.blk HX3.out (hno _ (by omega))
    have c1 : wr.cell? ⟨w.heap.size, 0, none⟩ = some (.pointer (some ⟨q, 0, none⟩)) := hr1.cell 0
    have c2 : wr.cell? ⟨w.heap.size + 1, 0, none⟩ = some (.int .i64 0) := hr2.cell 0
    have f2 := hr2.frozen 0
    have hw1 : Stp q (.slice A0 n cc0) v1 n w wr := (Stp.of_new HBW.out).trans hst (Nat.le_refl _)
    have HW := hid hw
    have HST := hid hst
    have HAL := hid hal
    have HW1 := hid hw1
    have HR2 := hid hr2
    have HR3 := hid hr3
    have HR1 := hid hr1
    clear hw hst hal hw1 hr2 hr3 hr1 hset hno
    by_cases hlt : j < m
    · have hjf : j < fs.length := by have := HM.out; omega
      have hjg : j < gs.length := by have := HG.out; omega
      have hcl := HC.out j hjf hjg
      obtain ⟨b, o, rfl, hbl, hcb⟩ := HS.out.rd j fs[j] (List.getElem?_eq_getElem hjf)
      have hcr : wr.cell? ⟨b, o + j, none⟩ = some fs[j] := (World.cell?_of_block (a := ⟨b, o + j, none⟩) (HW1.out.chg.block b hbl (HFAR.out b o rfl))).trans hcb
      have hstep := allR_step hjg HAL.out
      have hstop := fun he => allR_stop hjg HAL.out he
      have hji : (j : Int) < (m : Int) := by omega
      have hj0 : (0 : Int) ≤ (j : Int) := by omega
      clear hcb
      generalize fs[j] = f at *
      generalize gs[j] = g at *
      rcases hcl with ⟨rfl, hgid⟩ | ⟨fn, cap, rfl, hent, hcall⟩
      · rw [hgid] at hstep
        have HSTEP := hid hstep
        clear hstep hstop hgid
        go_wp2_with fail
        exact ⟨⟨j + 1, v1, b1, by omega, by go_num, HW.out, HST.out, hnb, HSTEP.out⟩, by simp [intOf] <;> omega⟩
      · have hcl := hcall wr v1 b1 HW.out HW1.out hnb
        have HCALL := hid hcl
        have HSTEP := hid hstep
        have HSTOP := hid hstop
        clear hcall hcl hstep hstop
        go_wp2_with fail
        refine HCALL.out.mono ?_
        rintro e w5 ⟨v2, rfl, hw5, hst5, hle5⟩
        generalize hgr : g b1 = gr at *
        obtain ⟨b2, er⟩ := gr
        simp only at hw5 hle5
        have hst6 := HST.out.trans hst5 hnb
        have hno : ∀ k, w.heap.size ≤ k → k < w0.heap.size → ¬ Oset q v1 k := by
          intro k hk hk2 ho
          have h1 := ho.back HST.out.new hk2
          have h2 := (HH.out.sets k h1).2
          omega
        have hr1 := hst5.chg.blk HR1.out (hno _ (Nat.le_refl _) (by omega))
        have hr2 := hst5.chg.blk HR2.out (hno _ (by omega) (by omega))
        have hr3 := hst5.chg.blk HR3.out (hno _ (by omega) (by omega))
        have d1 : w5.cell? ⟨w.heap.size, 0, none⟩ = some (.pointer (some ⟨q, 0, none⟩)) := hr1.cell 0
        have d2 : w5.cell? ⟨w.heap.size + 1, 0, none⟩ = some (.int .i64 0) := hr2.cell 0
        have g2 := hr2.frozen 0
        have HQ1 := hid hr1
        have HQ2 := hid hr2
        have HQ3 := hid hr3
        have HW5 := hid hw5
        have HST6 := hid hst6
        have hst5' := hst5
        clear hr1 hr2 hr3 hw5 hst6 hst5 hno
        by_cases he : er = 0
        · subst he
          go_wp2_with fail
          exact ⟨⟨j + 1, v2, b2, by omega, by go_num, HW5.out, HST6.out, Nat.le_trans hnb hle5, HSTEP.out⟩, by simp [intOf] <;> omega⟩
        · have heb : ((er : Int) != 0) = true := by simp [he]
          have hst0 := HSTOP.out (by simpa using he)
          have HSTOP0 := hid hst0
          clear hst0 HSTOP HCALL
          have hw6 := HW1.out.trans hst5' hnb
          have hend := fun u => all_back (p := w.heap.size + 1) HH.out HBN.out hw6 HW5.out (by omega) u
          obtain ⟨A2, c2, rfl, -, -⟩ := Sl.of_own HW5.out.row
          have hb5 := HW5.out.blk
          have hqp : q ≠ w.heap.size + 1 := by omega
          have hrs := fun (u : Value) => restore_any (w.heap.size + 1) (w.heap.size + 1 + 1) w.heap.size q (er : Int) (most : Int) (most : Int) A0 A2 n b2.length cc0 c2 (w5.setCell ⟨w.heap.size + 1, 0, none⟩ (.int .i64 (er : Int))) (by simpa using (HQ2.out.set_ 0 (.int .i64 (er : Int))).cell 0) (HQ3.out.far (by simp) _) (by simpa using (HQ1.out.far (p := ⟨w.heap.size + 1, 0, none⟩) (by simp) (.int .i64 (er : Int))).cell 0) (hb5.far (p := ⟨w.heap.size + 1, 0, none⟩) hqp _)
          rw [if_neg (by omega)] at hrs
          have HEND := hid hend
          have HRS := hid hrs
          have hres : (allW gs bs) = (bs, er) := by unfold allW; rw [HSTOP0.out, if_neg he]
          have HRES := hid hres
          clear hw6 hend hb5 hqp hrs hres
          go_wp2_with fail
          refine leaves_cons (f := 42) (args := #[.pointer (some ⟨w.heap.size + 1, 0, none⟩), .pointer (some ⟨w.heap.size + 1 + 1, 0, none⟩), .pointer (some ⟨w.heap.size, 0, none⟩)]) (by simp) (by simp [go_sem]) ?_
          refine (HRS.out undef).mono ?_
          rintro e u' w'' ⟨rfl, rfl, rfl⟩
          rw [HRES.out]
          have hcell : ((((w5.setCell ⟨w.heap.size + 1, 0, none⟩ (.int .i64 (er : Int))).setCell ⟨q, 0, none⟩ (.slice A0 n cc0)).setCell ⟨q, 1, none⟩ (.int .i64 (most : Int)))).cell? ⟨w.heap.size + 1, 0, none⟩ = some (.int .i64 (er : Int)) := by
            simpa using (((HQ2.out.set_ 0 (.int .i64 (er : Int))).far (p := ⟨q, 0, none⟩) (by simp; omega) (.slice A0 n cc0)).far (p := ⟨q, 1, none⟩) (by simp; omega) (.int .i64 (most : Int))).cell 0
          have hE := HEND.out (.int .i64 (er : Int))
          refine ⟨.int .i64 (er : Int), by simp [results, Try.results18, go_sem, hcell], _, rfl, hE.1, hE.2, by rw [HBN.out]; exact Nat.le_refl _⟩
    · obtain rfl : j = m := by omega
      have hfull : allR gs bs = (b1, 0) := by have := HAL.out; rwa [List.take_of_length_le (by have := HG.out; omega)] at this
      have hres : (allW gs bs) = (b1, 0) := by unfold allW; rw [hfull, if_pos rfl]
      have HRES := hid hres
      have hend := fun u => all_fwd (p := w.heap.size + 1) HH.out HW1.out HW.out (by omega) HR2.out (by decide) u
      obtain ⟨A2, c2, rfl, -, -⟩ := Sl.of_own HW.out.row
      have hb5 := HW.out.blk
      have hqp : q ≠ w.heap.size + 1 := by omega
      have hrs := fun (u : Value) => restore_any (w.heap.size + 1) (w.heap.size + 1 + 1) w.heap.size q 0 (most : Int) (most : Int) A0 A2 n b1.length cc0 c2 (wr.setCell ⟨w.heap.size + 1, 0, none⟩ (.int .i64 0)) (by simpa using (HR2.out.set_ 0 (.int .i64 0)).cell 0) (HR3.out.far (by simp) _) (by simpa using (HR1.out.far (p := ⟨w.heap.size + 1, 0, none⟩) (by simp) (.int .i64 0)).cell 0) (hb5.far (p := ⟨w.heap.size + 1, 0, none⟩) hqp _)
      rw [if_pos rfl] at hrs
      have HEND := hid hend
      have HRS := hid hrs
      clear hfull hres hend hb5 hqp hrs
      go_wp2_with fail
      refine leaves_cons (f := 42) (args := #[.pointer (some ⟨w.heap.size + 1, 0, none⟩), .pointer (some ⟨w.heap.size + 1 + 1, 0, none⟩), .pointer (some ⟨w.heap.size, 0, none⟩)]) (by simp) (by simp [go_sem]) ?_
      refine (HRS.out undef).mono ?_
      rintro e u' w'' ⟨rfl, rfl, rfl⟩
      rw [HRES.out]
      have hcell : (wr.setCell ⟨w.heap.size + 1, 0, none⟩ (.int .i64 0)).cell? ⟨w.heap.size + 1, 0, none⟩ = some (.int .i64 0) := by
        simpa using (HR2.out.set_ 0 (.int .i64 0)).cell 0
      have hE := HEND.out (.int .i64 0)
      refine ⟨.int .i64 0, by simp [results, Try.results18, go_sem, hcell], _, rfl, hE.1, hE.2, hnb⟩
end Go.Proofs.Ytefoccpgnijamaa
