/- A feeder's small functions, and its end. -/
import Derived.Test.YtnfodgjihdoncaaFdProg
import Derived.Deep.RegionHeld3
set_option linter.unusedVariables false
namespace Go.Proofs.Ytnfodgjihdoncaa
open Go.RowKit
set_option maxRecDepth 100000 in
set_option maxHeartbeats 1000000 in
theorem fnew_any (w : World) : Calls Try.prog 20 #[] w fun e w' => e = .returned (.pointer (some ⟨w.heap.size, 0, none⟩)) ∧ w' = w.alloc (.cells #[.slice none 0 0, .int .i64 0, .bool false] 105) := by
  go_enter Try.func20, Try.ntmps20
  go_wp2_with fail
  go_ret
  exact ⟨rfl, rfl⟩
theorem fnew_st (w : World) (B : Nat) : FdS B w.heap.size [] 0 false (.slice none 0 0) (w.alloc (.cells #[.slice none 0 0, .int .i64 0, .bool false] 105)) := ⟨Blk.new w _ _, World.ownsRow_nil _ _ _ _⟩
set_option maxRecDepth 100000 in
set_option maxHeartbeats 1000000 in
theorem fheld_any (g hl : Nat) (A : Option Addr) (c came : Nat) (over : Bool) (w : World) (hk : Blk w g 105 #[.slice A hl c, .int .i64 (came : Int), .bool over]) : Calls Try.prog 26 #[.pointer (some ⟨g, 0, none⟩)] w fun e w' => e = .returned (.int .i64 (hl : Int)) ∧ w' = w := by
  have c0 := hk.cell 0
  simp only [List.getElem?_toArray, List.getElem?_cons_zero, List.getElem?_cons_succ] at c0
  clear hk
  go_enter Try.func26, Try.ntmps26
  go_wp2_with fail
  go_ret
  exact ⟨rfl, rfl⟩
set_option maxRecDepth 100000 in
set_option maxHeartbeats 1000000 in
theorem fheld_nil (w : World) : Calls Try.prog 26 #[.pointer none] w fun e w' => e = .returned (.int .i64 0) ∧ w' = w := by
  go_enter Try.func26, Try.ntmps26
  go_wp2_with fail
  go_ret
  exact ⟨rfl, rfl⟩
set_option maxRecDepth 100000 in
set_option maxHeartbeats 1000000 in
theorem fcame_any (g : Nat) (vb : Value) (came : Nat) (over : Bool) (w : World) (hk : Blk w g 105 #[vb, .int .i64 (came : Int), .bool over]) : Calls Try.prog 28 #[.pointer (some ⟨g, 0, none⟩)] w fun e w' => e = .returned (.int .i64 (came : Int)) ∧ w' = w := by
  have c1 := hk.cell 1
  simp only [List.getElem?_toArray, List.getElem?_cons_zero, List.getElem?_cons_succ] at c1
  clear hk
  go_enter Try.func28, Try.ntmps28
  go_wp2_with fail
  go_ret
  exact ⟨rfl, rfl⟩
set_option maxRecDepth 100000 in
set_option maxHeartbeats 1000000 in
theorem fcame_nil (w : World) : Calls Try.prog 28 #[.pointer none] w fun e w' => e = .returned (.int .i64 0) ∧ w' = w := by
  go_enter Try.func28, Try.ntmps28
  go_wp2_with fail
  go_ret
  exact ⟨rfl, rfl⟩
set_option maxRecDepth 100000 in
set_option maxHeartbeats 1000000 in
theorem fover_any (g : Nat) (vb : Value) (came : Nat) (over : Bool) (w : World) (hk : Blk w g 105 #[vb, .int .i64 (came : Int), .bool over]) : Calls Try.prog 29 #[.pointer (some ⟨g, 0, none⟩)] w fun e w' => e = .returned (.bool over) ∧ w' = w := by
  have c2 := hk.cell 2
  simp only [List.getElem?_toArray, List.getElem?_cons_zero, List.getElem?_cons_succ] at c2
  clear hk
  go_enter Try.func29, Try.ntmps29
  go_wp2_with fail
  go_ret
  exact ⟨rfl, rfl⟩
set_option maxRecDepth 100000 in
set_option maxHeartbeats 1000000 in
theorem fover_nil (w : World) : Calls Try.prog 29 #[.pointer none] w fun e w' => e = .returned (.bool false) ∧ w' = w := by
  go_enter Try.func29, Try.ntmps29
  go_wp2_with fail
  go_ret
  exact ⟨rfl, rfl⟩
/-- Frames found in the tail, at their places in the whole stream. -/
theorem fplaced_row (B2 g hl came : Nat) (Ab : Option Addr) (cb : Nat) (l : List Fnd) (L : Nat) (Al : Option Addr) (cl : Nat) (w : World) (hk : Blk w g 105 #[.slice Ab hl cb, .int .i64 (came : Int), .bool false]) (hr : FdRow B2 w (.slice Al L cl) l) (hL : l.length = L) (hgB : g < B2) (hle : hl ≤ came) (hc : came ≤ 1000000000000) (hat : ∀ f ∈ l, f.at_ ≤ hl) :
    Calls Try.prog 55 #[.pointer (some ⟨g, 0, none⟩), .slice Al L cl] w fun e w' => e = .returned (.slice Al L cl) ∧ FdRow B2 w' (.slice Al L cl) (l.map (Fnd.shift (came - hl))) ∧ Chg (fun q => (Value.slice Al L cl).ownBlock = some q) w w' := by
  obtain ⟨fs, h1, h2, h3⟩ := hr
  have hfl : fs.length = L := by rw [← hL, ← h1, List.length_map]
  rw [hfl] at h2
  refine (fplaced_any B2 g hl came _ Ab cb fs L Al cl w rfl hk h2 hfl hgB hle hc (fun f hf => hat f.f (by rw [← h1]; exact List.mem_map_of_mem hf))).mono ?_
  rintro e w' ⟨he, ho, hch⟩
  refine ⟨he, ⟨fs.map (FdV.shift (came - hl)), ?_, ?_, ?_⟩, hch⟩
  · rw [← h1, List.map_map, List.map_map]; rfl
  · rw [List.length_map, hfl]; exact ho
  · intro f hf
    obtain ⟨f0, hf0, rfl⟩ := List.mem_map.1 hf
    refine Pay.chg (h3 f0 hf0) hch fun b cs k hb hbk hs => ?_
    rcases h2.2 with ⟨h4, -⟩ | ⟨g2, cap, cur, h4, -, hg2, -⟩
    · rw [h4] at hs; cases hs
    · rw [h4] at hs
      injection hs with hs
      simp only at hs
      subst hs
      rw [hg2] at hbk
      injection hbk with hbk
      injection hbk with _ h6
      exact absurd h6 (by decide)
end Go.Proofs.Ytnfodgjihdoncaa
