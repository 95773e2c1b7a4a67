/- resync.Passed. -/
import Derived.Test.YtnfodgjihdoncaaRsGaps
set_option linter.unusedVariables false
namespace Go.Proofs.Ytnfodgjihdoncaa
open Go.RowKit
def Rs.psum (l : List (Nat × Nat)) : Nat := (l.map fun x => x.2 - x.1).sum
theorem Rs.psum_snoc (l : List (Nat × Nat)) (x : Nat × Nat) : Rs.psum (l ++ [x]) = Rs.psum l + (x.2 - x.1) := by unfold Rs.psum; simp
theorem Rs.psum_le {n : Nat} {l : List (Nat × Nat)} (h : ∀ g ∈ l, g.2 ≤ n) : Rs.psum l ≤ n * l.length := by
  induction l with
  | nil => simp [Rs.psum]
  | cons x l ih =>
    have h1 := ih (fun g hg => h g (List.mem_cons_of_mem _ hg))
    have h2 := h x (List.mem_cons_self ..)
    have h3 : Rs.psum (x :: l) = (x.2 - x.1) + Rs.psum l := by unfold Rs.psum; simp
    rw [h3, List.length_cons, Nat.mul_add]
    omega
theorem Rs.gap_mem {b e : Nat} {g : Nat × Nat} (h : g ∈ Rs.gap b e) : g = (b, e) ∧ b < e := by
  unfold Rs.gap at h
  split at h
  · exact ⟨List.mem_singleton.1 h, by assumption⟩
  · simp at h
theorem Rs.gs_mem' (n : Nat) (l : List Fnd) : ∀ s : List (Nat × Nat) × Nat, (∀ g ∈ s.1, g.1 < g.2 ∧ g.2 ≤ n) → (∀ f ∈ l, f.at_ + f.size ≤ n) → ∀ g ∈ (l.foldl Rs.gstep s).1, g.1 < g.2 ∧ g.2 ≤ n := by
  induction l with
  | nil => intro s h _; exact h
  | cons f l ih =>
    intro s h hf
    rw [List.foldl_cons]
    refine ih _ ?_ (fun g hg => hf g (List.mem_cons_of_mem _ hg))
    intro g hg
    rcases List.mem_append.1 hg with hg | hg
    · exact h g hg
    · obtain ⟨rfl, hlt⟩ := Rs.gap_mem hg
      have := hf f (List.mem_cons_self ..)
      exact ⟨hlt, by show f.at_ ≤ n; omega⟩
theorem Rs.gaps_mem {n : Nat} {l : List Fnd} {e : Nat} (h : ∀ f ∈ l, f.at_ + f.size ≤ n) (he : e ≤ n) : ∀ g ∈ Rs.gaps l e, g.1 < g.2 ∧ g.2 ≤ n := by
  intro g hg
  rcases List.mem_append.1 hg with hg | hg
  · exact Rs.gs_mem' n l _ (by simp) h g hg
  · obtain ⟨rfl, hlt⟩ := Rs.gap_mem hg
    exact ⟨hlt, he⟩
theorem Rs.gaps_len (l : List Fnd) (e : Nat) : (Rs.gaps l e).length ≤ l.length + 1 := by
  unfold Rs.gaps
  rw [List.length_append]
  have h1 := Rs.gs_len l
  have h2 := Rs.gap_len (Rs.gs l).2 e
  omega
set_option maxRecDepth 100000 in
set_option maxHeartbeats 2000000 in
theorem spassed_any (bs : List UInt8) (n : Nat) (A : Option Addr) (c : Nat) (w : World) (hn : bs.length = n) (hl : n ≤ 1000000) (hs : Sl w A c (bs.map bv)) :
    Calls Try.prog 48 #[.slice A n c] w fun e w' => e = .returned (.int .i64 (Rs.psum (Rs.gaps (Rs.wk false bs 0).1 (Rs.wk false bs 0).2) : Nat)) ∧ Below w.heap.size w w' := by
  have hg := sgaps_any bs n A c w hn hl hs
  have hf := Rs.wk_facts false bs 0
  have hm := Rs.gaps_mem (n := n) (l := (Rs.wk false bs 0).1) (e := (Rs.wk false bs 0).2) (fun f h => by have := (hf.1 f h).2.1.2.2.2; omega) (by have := hf.2.2 (Nat.zero_le _); omega)
  have hk := Rs.gaps_len (Rs.wk false bs 0).1 (Rs.wk false bs 0).2
  have hwl := Rs.wk_len false bs 0
  have hk2 : (Rs.gaps (Rs.wk false bs 0).1 (Rs.wk false bs 0).2).length ≤ 1000001 := by omega
  clear hk hwl hf
  generalize Rs.gaps (Rs.wk false bs 0).1 (Rs.wk false bs 0).2 = gg at *
  obtain ⟨k, hk⟩ : ∃ k, gg.length = k := ⟨_, rfl⟩
  rw [hk] at hg hk2
  have HG := hid hg
  have HM := hid hm
  have HK := hid hk
  clear hg hm hk hn hs
  go_enter Try.func48, Try.ntmps48
  go_wp2_with fail
  refine HG.out.mono ?_
  rintro e w1 ⟨v, rfl, ho, hb⟩
  obtain ⟨A1, c1, rfl⟩ := row_slice_g ho
  have hsl := own_slg (by omega) ho
  have HSL := hid hsl
  have HB := hid hb
  have hkc : k ≤ c1 := hsl.cap
  clear ho hb hsl
  go_wp2_with fail
  go_loopw [3, 5, 9] (fun v _ i wr => ∃ j : Nat, j ≤ k ∧ i = .int .i64 (j : Int) ∧ v = .int .i64 (Rs.psum (gg.take j) : Nat) ∧ Below w1.heap.size w1 wr) (fun _ _ i _ => k - (intOf i).toNat)
  case atStart => exact ⟨0, by omega, rfl, rfl, Below.refl _ _⟩
  case round =>
    obtain ⟨j, hj, rfl, rfl, hB⟩ := hrel
    by_cases hlt : j < k
    · have hjl : j < gg.length := by have := HK.out; omega
      have hn0' : (gg.flatMap gC)[j * 2 + 0]? = _ := flatMap_get gC 2 gg j 0 hjl (fun _ _ => rfl) (by omega)
      have hn1' : (gg.flatMap gC)[j * 2 + 1]? = _ := flatMap_get gC 2 gg j 1 hjl (fun _ _ => rfl) (by omega)
      obtain ⟨b, off, hA, hbw, t0⟩ := HSL.out.rd _ _ hn0'
      subst hA
      have t1 := HSL.out.rd.addr _ _ hn1'
      rw [addr_add] at t1
      simp only [Nat.add_zero, ← Nat.add_assoc] at t0 t1
      have t0 := (hB.cell (p := ⟨b, off + j * 2, none⟩) hbw).trans t0
      have t1 := (hB.cell (p := ⟨b, off + j * 2 + 1, none⟩) hbw).trans t1
      have htk : gg.take (j + 1) = gg.take j ++ [gg[j]] := List.take_succ_eq_append_getElem hjl
      have hps := Rs.psum_snoc (gg.take j) gg[j]
      rw [← htk] at hps
      have hpl := Rs.psum_le (n := 1000000) (l := gg.take j) (fun g hg => by have := HM.out g (List.mem_of_mem_take hg); omega)
      rw [List.length_take] at hpl
      have hgm := HM.out gg[j] (List.getElem_mem hjl)
      have hji : (j : Int) < (k : Int) := by omega
      have hj0 : (0 : Int) ≤ (j : Int) := by omega
      generalize Rs.psum (gg.take j) = ps at *
      generalize hp2 : Rs.psum (gg.take (j + 1)) = ps2 at *
      have HP2 := hid hp2
      clear hp2
      generalize gg[j] = g at *
      obtain ⟨g1, g2⟩ := g
      simp only at t0 t1 hgm hps
      have hps' : ps ≤ 1000000000000000 := by
        have : 1000000 * min j gg.length ≤ 1000000 * 1000001 := Nat.mul_le_mul_left _ (by omega)
        omega
      have HPS := hid hps
      have HBB := hid hB
      have hbl : b < wr.heap.size := Nat.lt_of_lt_of_le hbw hB.size
      clear hn0' hn1' htk hps hB hpl
      go_wp2_with fail
      go_roundw
      case rel =>
        refine ⟨j + 1, by omega, by go_num, ?_, bw_a HBB.out _⟩
        rw [HP2.out, HPS.out]
        go_num
      case measure => simp [intOf]; omega
    · obtain rfl : j = k := by omega
      have htk : gg.take j = gg := List.take_of_length_le (by have := HK.out; omega)
      rw [htk]
      have HBB := hid hB
      clear hB htk
      go_wp2_with fail
      go_ret
      exact ⟨rfl, HB.out.trans (HBB.out.mono HB.out.size)⟩
end Go.Proofs.Ytnfodgjihdoncaa
