/- Fields alike; few fields. -/
import Derived.Test.YtefoccpgnijamaaLive6
set_option linter.unusedVariables false
namespace Go.Proofs.Ytefoccpgnijamaa
open Go.RowKit
def likeB (f g : FV) : Bool := decide (f.num = g.num ∧ f.w = g.w ∧ f.n = g.n ∧ f.s.xs = g.s.xs)
set_option maxRecDepth 100000 in
set_option maxHeartbeats 2000000 in
theorem like_any (f g : FV) (w : World) (hf : Sl w f.s.A f.s.c (f.s.xs.map bv)) (hg : Sl w g.s.A g.s.c (g.s.xs.map bv)) :
    Calls Try.prog 35 #[.agg (fvC f).toArray, .agg (fvC g).toArray] w fun e w' => e = .returned (.bool (likeB f g)) ∧ Below w.heap.size w w' := by
  obtain ⟨fnum, fw, fn_, ⟨fA, fc, fxs⟩, fat⟩ := f
  obtain ⟨gnum, gw, gn_, ⟨gA, gc, gxs⟩, gat⟩ := g
  simp only at hf hg
  have hlf : fxs.length ≤ 9223372036854775807 := by have h1 := hf.cap; have h2 := hf.small; rw [List.length_map] at h1; omega
  have hsm := fun W (hW : Below w.heap.size w W) => same_any fxs gxs fA gA fc gc W hlf (hf.below hW).rd (hg.below hW).rd
  obtain ⟨R, hR⟩ : ∃ R : Ending → World → Prop, R = fun e w' => e = .returned (.bool (likeB ⟨fnum, fw, fn_, ⟨fA, fc, fxs⟩, fat⟩ ⟨gnum, gw, gn_, ⟨gA, gc, gxs⟩, gat⟩)) ∧ Below w.heap.size w w' := ⟨_, rfl⟩
  rw [← hR]
  have HR := hid hR
  have HSM := hid hsm
  clear hR hsm hf hg
  have hbb := bw_a (bw_a (Below.refl w.heap.size w) (.cells #[.int .i64 fnum, .int .u8 fw, .int .u64 (fn_ : Int), .slice fA fxs.length fc, .int .i64 fat] 41)) (.cells #[.int .i64 gnum, .int .u8 gw, .int .u64 (gn_ : Int), .slice gA gxs.length gc, .int .i64 gat] 41)
  have HB := hid hbb
  clear hbb
  simp only [fvC]
  by_cases h1 : fnum = gnum
  · subst h1
    by_cases h2 : fw = gw
    · subst h2
      by_cases h3 : fn_ = gn_
      · subst h3
        go_enter Try.func35, Try.ntmps35
        go_wp2_with (go_at_call 27; refine (HSM.out _ HB.out).mono ?_; rintro e w2 ⟨rfl, hk⟩)
        rw [HR.out]
        obtain ⟨k, rfl⟩ := hk
        exact ⟨by simp [likeB], bw_d HB.out k⟩
      · have h3b : ((fn_ : Int) == (gn_ : Int)) = false := by simp; omega
        go_enter Try.func35, Try.ntmps35
        go_wp2_with fail
        rw [HR.out]
        exact ⟨by simp [likeB, h3], HB.out⟩
    · have h2b : (fw == gw) = false := by simpa using h2
      go_enter Try.func35, Try.ntmps35
      go_wp2_with fail
      rw [HR.out]
      exact ⟨by simp [likeB, h2], HB.out⟩
  · have h1b : (fnum == gnum) = false := by simpa using h1
    go_enter Try.func35, Try.ntmps35
    go_wp2_with fail
    rw [HR.out]
    exact ⟨by simp [likeB, h1], HB.out⟩
/-- Few fields, of few bytes each. -/
def fewB (l : List FV) : Bool := decide (l.length ≤ 40) && l.all fun f => decide (f.s.xs.length ≤ 1000)
theorem fewB_facts {l : List FV} (h : fewB l = true) : l.length ≤ 40 ∧ ∀ f ∈ l, f.s.xs.length ≤ 1000 := by
  unfold fewB at h
  rw [Bool.and_eq_true, List.all_eq_true] at h
  exact ⟨by simpa using h.1, fun f hf => by simpa using h.2 f hf⟩
end Go.Proofs.Ytefoccpgnijamaa
