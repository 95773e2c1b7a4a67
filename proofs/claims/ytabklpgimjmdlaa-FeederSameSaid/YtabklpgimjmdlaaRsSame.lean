/- The document's Same, of frames that were found. -/
import Derived.Test.YtabklpgimjmdlaaRsRow
set_option linter.unusedVariables false
namespace Go.Proofs.Ytabklpgimjmdlaa
open Go.RowKit
theorem Fnd.ext_iff' (a b : Fnd) : a = b ↔ a.at_ = b.at_ ∧ a.ty = b.ty ∧ a.pl = b.pl := by
  cases a; cases b; simp
set_option maxRecDepth 100000 in
set_option maxHeartbeats 4000000 in
/-- Rows of frames that are alike: the same frames. -/
theorem rsame14_yes (l : List Fnd) (n : Nat) (A B : Option Addr) (c d B1 B2 : Nat) (w : World) (hn : l.length = n) (hl : n ≤ 1000000) (hp : ∀ f ∈ l, f.at_ ≤ 10000000 ∧ f.pl.length ≤ 10000000) (hA : FdRow B1 w (.slice A n c) l) (hB : FdRow B2 w (.slice B n d) l) :
    Calls Try.prog 14 #[.slice A n c, .slice B n d] w fun e w' => e = .returned (.bool true) ∧ Below w.heap.size w w' := by
  have HN := hid hn
  have HA := hid hA
  have HB := hid hB
  have HP := hid hp
  clear hn hA hB hp
  go_enter Try.func14, Try.ntmps14
  go_wp2_with fail
  go_loopw [5] (fun i wr => ∃ k : Nat, k ≤ n ∧ i = .int .i64 (k : Int) ∧ Below w.heap.size w wr) (fun i _ => n - (intOf i).toNat)
  case atStart => exact ⟨0, by omega, rfl, Below.refl _ _⟩
  case round =>
    obtain ⟨k, hk, rfl, hB⟩ := hrel
    by_cases hlt : k < n
    · have hkl : k < l.length := by have := HN.out; omega
      obtain ⟨b1, o1, P1, q1, rfl, hb1, s0, s1, s2, hp1, hnc1, hm1⟩ := (HA.out.below hB).get HN.out k hkl
      obtain ⟨b2, o2, P2, q2, rfl, hb2, t0, t1, t2, hp2, hnc2, hm2⟩ := (HB.out.below hB).get HN.out k hkl
      have hpk := HP.out _ (List.getElem_mem hkl)
      generalize l[k] = f at *
      obtain ⟨fa, fty, fpl⟩ := f
      simp only at s0 s1 s2 t0 t1 t2 hp1 hp2 hpk
      obtain ⟨pl, hpl⟩ : ∃ m, fpl.length = m := ⟨_, rfl⟩
      rw [hpl] at s2 t2 hpk
      have hsame := fun W (hW : Below wr.heap.size wr W) => (rfsame_any fty fty fpl fpl pl pl P1 P2 q1 q2 W hpl hpl (by omega) (hp1.sl.below hW) (hp2.sl.below hW)).mono (fun e w' h => (show e = .returned (.bool true) ∧ Below W.heap.size W w' from ⟨by rw [h.1]; simp, h.2⟩))
      have HSM := hid hsame
      have HBE := hid hB
      have HP1 := hid hp1
      have HP2 := hid hp2
      have hki : (k : Int) < (n : Int) := by omega
      have hk0 : (0 : Int) ≤ (k : Int) := by omega
      clear hsame hB hpl hp1 hp2
      generalize fty.toNat = ty at *
      have HBR := hid (Below.refl wr.heap.size wr)
      go_wp2_with fail
      go_region_held3 (fun w' => w'.cell? ⟨b1, o1 + k * 3, none⟩ = some (.int .i64 (fa : Int)) ∧ w'.cell? ⟨b1, o1 + k * 3 + 1, none⟩ = some (.int .u8 (ty : Int)) ∧ w'.cell? ⟨b1, o1 + k * 3 + 2, none⟩ = some (.slice P1 pl q1) ∧ w'.cell? ⟨b2, o2 + k * 3, none⟩ = some (.int .i64 (fa : Int)) ∧ w'.cell? ⟨b2, o2 + k * 3 + 1, none⟩ = some (.int .u8 (ty : Int)) ∧ w'.cell? ⟨b2, o2 + k * 3 + 2, none⟩ = some (.slice P2 pl q2)) (first | exact ⟨s0, s1, s2, t0, t1, t2⟩ | exact ⟨x0, x1, x2, y0, y1, y2⟩ | go_keep) (first | (go_at_call 27; (with_reducible refine (HSM.out _ (below_drew' HBR.out)).mono ?_); rintro e w5 ⟨rfl, hb5⟩; have hbq := (below_drew' (Below.refl _ wr)).trans hb5; have x0 := (hbq.cell (p := ⟨b1, o1 + k * 3, none⟩) hb1).trans s0; have x1 := (hbq.cell (p := ⟨b1, o1 + k * 3 + 1, none⟩) hb1).trans s1; have x2 := (hbq.cell (p := ⟨b1, o1 + k * 3 + 2, none⟩) hb1).trans s2; have y0 := (hbq.cell (p := ⟨b2, o2 + k * 3, none⟩) hb2).trans t0; have y1 := (hbq.cell (p := ⟨b2, o2 + k * 3 + 1, none⟩) hb2).trans t1; have y2 := (hbq.cell (p := ⟨b2, o2 + k * 3 + 2, none⟩) hb2).trans t2; have HB5 := hid hbq; clear hb5 hbq))
      go_wp2_with fail
      go_roundw
      case rel => exact ⟨k + 1, by omega, by go_num, HBE.out.trans (HB5.out.mono HBE.out.size)⟩
      case measure => simp [intOf]; omega
    · obtain rfl : k = n := by omega
      have HBE := hid hB
      clear hB
      go_wp2_with fail
      go_ret
      exact ⟨rfl, HBE.out⟩
end Go.Proofs.Ytabklpgimjmdlaa
