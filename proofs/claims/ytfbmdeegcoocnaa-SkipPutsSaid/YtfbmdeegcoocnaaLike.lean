/- Fields alike; few fields. -/
import Derived.Test.YtfbmdeegcoocnaaLive6
set_option linter.unusedVariables false
namespace Go.Proofs.Ytfbmdeegcoocnaa
open Go.RowKit
def likeB (f g : FV) : Bool := decide (f.num = g.num ∧ f.w = g.w ∧ f.n = g.n ∧ f.s.xs = g.s.xs)
set_option maxRecDepth 100000 in
set_option maxHeartbeats 2000000 in
theorem like_any (f g : FV) (w : World) (hf : Sl w f.s.A f.s.c (f.s.xs.map bv)) (hg : Sl w g.s.A g.s.c (g.s.xs.map bv)) :
    Calls Try.prog 21 #[.agg (fvC f).toArray, .agg (fvC g).toArray] w fun e w' => e = .returned (.bool (likeB f g)) ∧ Below w.heap.size w w' := by
  obtain ⟨fnum, fw, fn_, ⟨fA, fc, fxs⟩, fat⟩ := f
  obtain ⟨gnum, gw, gn_, ⟨gA, gc, gxs⟩, gat⟩ := g
  simp only at hf hg
  have hlf : fxs.length ≤ 9223372036854775807 := by have h1 := hf.cap; have h2 := hf.small; rw [List.length_map] at h1; omega
  have hsm := fun W (hW : Below w.heap.size w W) => same_any fxs gxs fA gA fc gc W hlf (hf.below hW).rd (hg.below hW).rd
  obtain ⟨R, hR⟩ : ∃ R : Ending → World → Prop, R = fun e w' => e = .returned (.bool (likeB ⟨fnum, fw, fn_, ⟨fA, fc, fxs⟩, fat⟩ ⟨gnum, gw, gn_, ⟨gA, gc, gxs⟩, gat⟩)) ∧ Below w.heap.size w w' := ⟨_, rfl⟩
  rw [← hR]
  have HR := hid hR
  have HSM := hid hsm
  clear hR hsm hf hg
  have hbb := bw_a (bw_a (Below.refl w.heap.size w) (.cells #[.int .i64 fnum, .int .u8 fw, .int .u64 (fn_ : Int), .slice fA fxs.length fc, .int .i64 fat] 39)) (.cells #[.int .i64 gnum, .int .u8 gw, .int .u64 (gn_ : Int), .slice gA gxs.length gc, .int .i64 gat] 39)
  have HB := hid hbb
  clear hbb
  simp only [fvC]
  by_cases h1 : fnum = gnum
  · subst h1
    by_cases h2 : fw = gw
    · subst h2
      by_cases h3 : fn_ = gn_
      · subst h3
        go_enter Try.func21, Try.ntmps21
        go_wp2_with (go_at_call 20; refine (HSM.out _ HB.out).mono ?_; rintro e w2 ⟨rfl, hk⟩)
        rw [HR.out]
        obtain ⟨k, rfl⟩ := hk
        exact ⟨by simp [likeB], bw_d HB.out k⟩
      · have h3b : ((fn_ : Int) == (gn_ : Int)) = false := by simp; omega
        go_enter Try.func21, Try.ntmps21
        go_wp2_with fail
        rw [HR.out]
        exact ⟨by simp [likeB, h3], HB.out⟩
    · have h2b : (fw == gw) = false := by simpa using h2
      go_enter Try.func21, Try.ntmps21
      go_wp2_with fail
      rw [HR.out]
      exact ⟨by simp [likeB, h2], HB.out⟩
  · have h1b : (fnum == gnum) = false := by simpa using h1
    go_enter Try.func21, Try.ntmps21
    go_wp2_with fail
    rw [HR.out]
    exact ⟨by simp [likeB, h1], HB.out⟩
/-- Few fields, of few bytes each. -/
def fewB (l : List FV) : Bool := decide (l.length ≤ 40) && l.all fun f => decide (f.s.xs.length ≤ 1000)
theorem fewB_facts {l : List FV} (h : fewB l = true) : l.length ≤ 40 ∧ ∀ f ∈ l, f.s.xs.length ≤ 1000 := by
  unfold fewB at h
  rw [Bool.and_eq_true, List.all_eq_true] at h
  exact ⟨by simpa using h.1, fun f hf => by simpa using h.2 f hf⟩
set_option maxRecDepth 100000 in
set_option maxHeartbeats 1000000 in
theorem few_any (l : List FV) (m : Nat) (A : Option Addr) (c : Nat) (w : World) (hm : l.length = m) (hl : SlN w A m c 5 (l.flatMap fvC)) (hok : ∀ a ∈ l, a.s.xs.length ≤ 9223372036854775807) :
    Calls Try.prog 17 #[.slice A m c] w fun e w' => e = .returned (.bool (fewB l)) ∧ ∃ k, w' = w.drewN k := by
  have hcm : m ≤ 9223372036854775807 := by have g1 := hl.cap; have g2 := hl.small; omega
  by_cases hb : 40 < m
  · have hs : fewB l = false := by unfold fewB; rw [hm]; simp; omega
    rw [hs]
    clear hs
    go_enter Try.func17, Try.ntmps17
    go_wp2_with fail
    go_ret
    exact ⟨rfl, 0, rfl⟩
  have HM := hid hm
  have HL := hid hl
  have HOK := hid hok
  clear hm hl hok
  go_enter Try.func17, Try.ntmps17
  go_wp2_with fail
  go_loopw [3] (fun i wr => ∃ j k : Nat, j ≤ m ∧ (∀ a ∈ l.take j, a.s.xs.length ≤ 1000) ∧ i = .int .i64 (j : Int) ∧ wr = w.drewN k) (fun i _ => m - (intOf i).toNat)
  case atStart => exact ⟨0, 0, by omega, by simp, rfl, rfl⟩
  case round =>
    obtain ⟨j, k, hj, hall, rfl, rfl⟩ := hrel
    have HALL := hid hall
    clear hall
    by_cases hlt : j < m
    · have hjl : j < l.length := by have := HM.out; omega
      have hsn : l.take (j + 1) = l.take j ++ [l[j]] := List.take_succ_eq_append_getElem hjl
      have hn0 : (l.flatMap fvC)[j * 5 + 0]? = _ := flatMap_get fvC 5 l j 0 hjl (fun _ _ => rfl) (by omega)
      have hn3 : (l.flatMap fvC)[j * 5 + 3]? = _ := flatMap_get fvC 5 l j 3 hjl (fun _ _ => rfl) (by omega)
      have hlen := HOK.out l[j] (List.getElem_mem hjl)
      have hmem := List.getElem_mem hjl
      have hsm : 1000 < l[j].s.xs.length → fewB l = false := fun h => by
        unfold fewB
        rw [Bool.and_eq_false_iff]
        exact .inr (by rw [List.all_eq_false]; exact ⟨l[j], hmem, by simp; omega⟩)
      obtain ⟨b, off, rfl, hbl, hc⟩ := HL.out.rd _ _ hn3
      replace hc : w.cell? ⟨b, off + (j * 5 + 3), none⟩ = some (.slice l[j].s.A l[j].s.xs.length l[j].s.c) := hc
      have hji : (j : Int) < (m : Int) := by omega
      have hj0 : (0 : Int) ≤ (j : Int) := by omega
      have HSN := hid hsn
      clear hsn hn0 hn3 hmem
      generalize l[j] = a at *
      obtain ⟨anum, aw, an, ⟨aA, ac, axs⟩, aat⟩ := a
      simp only at hc hlen hsm
      generalize hal : axs.length = al at *
      have HAL := hid hal
      have HSM := hid hsm
      clear hal hsm
      have hc2 : (w.drewN k).cell? ⟨b, off + j * 5 + 3, none⟩ = some (.slice aA al ac) := by rw [Nat.add_assoc]; exact hc
      by_cases hbig : 1000 < al
      · have HF := hid (HSM.out hbig)
        go_wp2_with fail
        go_ret
        rw [HF.out]
        exact ⟨rfl, _, rfl⟩
      · go_wp2_with fail
        exact ⟨⟨j + 1, k, by omega, by rw [HSN.out]; intro s hs; rcases List.mem_append.1 hs with h | h; exact HALL.out s h; simp at h; subst h; show axs.length ≤ 1000; rw [HAL.out]; omega, by go_num, rfl⟩, by simp [intOf] <;> omega⟩
    · obtain rfl : j = m := by omega
      have hs : fewB l = true := by
        unfold fewB
        rw [Bool.and_eq_true]
        refine ⟨by have := HM.out; simp; omega, ?_⟩
        rw [List.all_eq_true]
        intro a ha
        have := HALL.out a (by rwa [List.take_of_length_le (by have := HM.out; omega)])
        simpa using this
      have HSB := hid hs
      clear hs
      go_wp2_with fail
      go_ret
      rw [HSB.out]
      exact ⟨rfl, _, rfl⟩
end Go.Proofs.Ytfbmdeegcoocnaa
