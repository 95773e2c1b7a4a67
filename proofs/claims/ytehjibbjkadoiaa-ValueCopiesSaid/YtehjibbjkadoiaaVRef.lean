/- The document's Place, Default and one of a message's field. -/
import Derived.Test.YtehjibbjkadoiaaVCheck
import Derived.Test.YtehjibbjkadoiaaFirst
set_option linter.unusedVariables false
namespace Go.Proofs.Ytehjibbjkadoiaa
open Go.RowKit
theorem bw_d' {a b : World} {B : Nat} (h : Below B a b) (n : Nat) : Below B a (b.drewN n) := ⟨h.os, h.tape, h.output, h.size, h.block⟩
/-- What stands in a place. -/
def plN (m : MV) (t i : Int) : Nat := if 1 ≤ t ∧ t ≤ 6 then m.num i else 0
def plS (m : MV) (t i : Int) : ByteArray := if 7 ≤ t ∧ t ≤ 9 then m.text i else ⟨#[]⟩
def plV (m : MV) (t : Int) : Value := if t = 10 then .slice m.A m.l.length m.c else .slice none 0 0
theorem pl_num (m : MV) (t i : Int) (h : 1 ≤ t ∧ t ≤ 6) : plN m t i = m.num i ∧ plS m t i = ⟨#[]⟩ ∧ plV m t = .slice none 0 0 := by
  unfold plN plS plV; rw [if_pos h, if_neg (by omega), if_neg (by omega)]; exact ⟨rfl, rfl, rfl⟩
theorem pl_text (m : MV) (t i : Int) (h : 7 ≤ t ∧ t ≤ 9) : plN m t i = 0 ∧ plS m t i = m.text i ∧ plV m t = .slice none 0 0 := by
  unfold plN plS plV; rw [if_neg (by omega), if_pos h, if_neg (by omega)]; exact ⟨rfl, rfl, rfl⟩
theorem pl_list (m : MV) (i : Int) : plN m 10 i = 0 ∧ plS m 10 i = ⟨#[]⟩ ∧ plV m 10 = .slice m.A m.l.length m.c := by
  unfold plN plS plV; rw [if_neg (by omega), if_neg (by omega), if_pos rfl]; exact ⟨rfl, rfl, rfl⟩
theorem pl_out (m : MV) (t i : Int) (h : t < 1 ∨ 10 < t) : plN m t i = 0 ∧ plS m t i = ⟨#[]⟩ ∧ plV m t = .slice none 0 0 := by
  unfold plN plS plV; rw [if_neg (by omega), if_neg (by omega), if_neg (by omega)]; exact ⟨rfl, rfl, rfl⟩
set_option maxRecDepth 100000 in
set_option maxHeartbeats 4000000 in
theorem rplace_any (m : MV) (num t i : Int) (w : World) : Calls Try.prog 39 #[mvV m, .agg #[.int .i64 num, .int .i64 t, .int .i64 i]] w fun e w' => e = .returned (.tuple #[.int .u64 (plN m t i : Nat), .string (plS m t i), plV m t]) ∧ Below w.heap.size w w' := by
  have hpn := pl_num m t i
  have hpt := pl_text m t i
  have hpl := pl_list m i
  have hpo := pl_out m t i
  have hno := num_out m i
  have hto := text_out m i
  unfold mvV mvA at *
  generalize hlen : m.l.length = len at *
  obtain ⟨s, hws⟩ : ∃ s, w.heap.size = s := ⟨_, rfl⟩
  have HBX := hid (bx2 w s len m num t i hws)
  rw [hws]
  have hcase : (1 ≤ t ∧ t ≤ 6) ∨ (7 ≤ t ∧ t ≤ 9) ∨ t = 10 ∨ (t < 1 ∨ 10 < t) := by omega
  rcases hcase with h | h | rfl | h
  · obtain ⟨p1, p2, p3⟩ := hpn h
    rw [p1, p2, p3]
    obtain ⟨hA, hB⟩ := h
    have n10 : (t == 10) = false := by simp; omega
    clear hpn hpt hpl hpo p1 p2 p3
    have hi : i < 0 ∨ 6 ≤ i ∨ i = 0 ∨ i = 1 ∨ i = 2 ∨ i = 3 ∨ i = 4 ∨ i = 5 := by omega
    rcases hi with hi | hi | rfl | rfl | rfl | rfl | rfl | rfl
    · have hz := hno (by omega)
      rw [hz]
      clear hz hno hto
      go_enter Try.func39, Try.ntmps39
      go_wp2_with fail
      go_ret3
      exact ⟨rfl, HBX.out.bel⟩
    · have hz := hno (by omega)
      rw [hz]
      clear hz hno hto
      go_enter Try.func39, Try.ntmps39
      go_wp2_with fail
      go_ret3
      exact ⟨rfl, HBX.out.bel⟩
    · clear hno hto
      go_enter Try.func39, Try.ntmps39
      go_wp2_with fail
      go_ret3
      exact ⟨rfl, HBX.out.bel⟩
    · clear hno hto
      go_enter Try.func39, Try.ntmps39
      go_wp2_with fail
      go_ret3
      exact ⟨rfl, HBX.out.bel⟩
    · clear hno hto
      go_enter Try.func39, Try.ntmps39
      go_wp2_with fail
      go_ret3
      exact ⟨rfl, HBX.out.bel⟩
    · clear hno hto
      go_enter Try.func39, Try.ntmps39
      go_wp2_with fail
      go_ret3
      exact ⟨rfl, HBX.out.bel⟩
    · clear hno hto
      go_enter Try.func39, Try.ntmps39
      go_wp2_with fail
      go_ret3
      exact ⟨rfl, HBX.out.bel⟩
    · clear hno hto
      go_enter Try.func39, Try.ntmps39
      go_wp2_with fail
      go_ret3
      exact ⟨rfl, HBX.out.bel⟩
  · obtain ⟨p1, p2, p3⟩ := hpt h
    rw [p1, p2, p3]
    obtain ⟨hA, hB⟩ := h
    have n10 : (t == 10) = false := by simp; omega
    clear hpn hpt hpl hpo p1 p2 p3
    have hi : i < 0 ∨ 2 ≤ i ∨ i = 0 ∨ i = 1 := by omega
    rcases hi with hi | hi | rfl | rfl
    · have hz := hto (by omega)
      rw [hz]
      clear hz hno hto
      go_enter Try.func39, Try.ntmps39
      go_wp2_with fail
      go_ret3
      exact ⟨rfl, HBX.out.bel⟩
    · have hz := hto (by omega)
      rw [hz]
      clear hz hno hto
      go_enter Try.func39, Try.ntmps39
      go_wp2_with fail
      go_ret3
      exact ⟨rfl, HBX.out.bel⟩
    · clear hno hto
      go_enter Try.func39, Try.ntmps39
      go_wp2_with fail
      go_quiet (fail)
      go_wp2_with fail
      go_ret3
      exact ⟨rfl, bw_d' HBX.out.bel nq⟩
    · clear hno hto
      go_enter Try.func39, Try.ntmps39
      go_wp2_with fail
      go_quiet (fail)
      go_wp2_with fail
      go_ret3
      exact ⟨rfl, bw_d' HBX.out.bel nq⟩
  · obtain ⟨p1, p2, p3⟩ := hpl
    rw [p1, p2, p3]
    clear hpn hpt hpo p1 p2 p3 hno hto
    go_enter Try.func39, Try.ntmps39
    go_wp2_with fail
    go_quiet (fail)
    go_wp2_with fail
    go_ret3
    exact ⟨rfl, bw_d' HBX.out.bel nq⟩
  · obtain ⟨p1, p2, p3⟩ := hpo h
    rw [p1, p2, p3]
    have n10 : (t == 10) = false := by simp; omega
    clear hpn hpt hpl hpo p1 p2 p3 hno hto
    rcases h with h | h
    · go_enter Try.func39, Try.ntmps39
      go_wp2_with fail
      go_ret3
      exact ⟨rfl, HBX.out.bel⟩
    · go_enter Try.func39, Try.ntmps39
      go_wp2_with fail
      go_ret3
      exact ⟨rfl, HBX.out.bel⟩
end Go.Proofs.Ytehjibbjkadoiaa
