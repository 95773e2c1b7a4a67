/- The document's Place, Default and one of a message's field. · The document's Default and one of a message's field; Texts. · The document's one and Same of messages. · Short messages (the document's Small); value.Clean. -/
import Derived.Test.YtdnfbnfjjenjjaaV2
import Derived.Test.YtdnfbnfjjenjjaaUt
set_option linter.unusedVariables false
namespace Go.Proofs.Ytdnfbnfjjenjjaa
open Go.RowKit
theorem bw_d' {a b : World} {B : Nat} (h : Below B a b) (n : Nat) : Below B a (b.drewN n) := ⟨h.os, h.tape, h.output, h.size, h.block⟩
/-- What stands in a place. -/
def plN (m : MV) (t i : Int) : Nat := if 1 ≤ t ∧ t ≤ 6 then m.num i else 0
def plS (m : MV) (t i : Int) : ByteArray := if 7 ≤ t ∧ t ≤ 9 then m.text i else ⟨#[]⟩
def plV (m : MV) (t : Int) : Value := if t = 10 then .slice m.A m.l.length m.c else .slice none 0 0
theorem pl_num (m : MV) (t i : Int) (h : 1 ≤ t ∧ t ≤ 6) : plN m t i = m.num i ∧ plS m t i = ⟨#[]⟩ ∧ plV m t = .slice none 0 0 := by
  unfold plN plS plV; rw [if_pos h, if_neg (by omega), if_neg (by omega)]; exact ⟨rfl, rfl, rfl⟩
theorem pl_text (m : MV) (t i : Int) (h : 7 ≤ t ∧ t ≤ 9) : plN m t i = 0 ∧ plS m t i = m.text i ∧ plV m t = .slice none 0 0 := by
  unfold plN plS plV; rw [if_neg (by omega), if_pos h, if_neg (by omega)]; exact ⟨rfl, rfl, rfl⟩
theorem pl_list (m : MV) (i : Int) : plN m 10 i = 0 ∧ plS m 10 i = ⟨#[]⟩ ∧ plV m 10 = .slice m.A m.l.length m.c := by
  unfold plN plS plV; rw [if_neg (by omega), if_neg (by omega), if_pos rfl]; exact ⟨rfl, rfl, rfl⟩
theorem pl_out (m : MV) (t i : Int) (h : t < 1 ∨ 10 < t) : plN m t i = 0 ∧ plS m t i = ⟨#[]⟩ ∧ plV m t = .slice none 0 0 := by
  unfold plN plS plV; rw [if_neg (by omega), if_neg (by omega), if_neg (by omega)]; exact ⟨rfl, rfl, rfl⟩
end Go.Proofs.Ytdnfbnfjjenjjaa
set_option linter.unusedVariables false
namespace Go.Proofs.Ytdnfbnfjjenjjaa
open Go.RowKit
theorem pl_view (m : MV) (t i : Int) : ∃ A n c, plV m t = .slice A n c ∧ dflB m t i = (decide (plN m t i = 0) && decide (plS m t i = ⟨#[]⟩) && decide (n = 0)) ∧ (A = none → t = 10 → m.A = none) := by
  have hcase : (1 ≤ t ∧ t ≤ 6) ∨ (7 ≤ t ∧ t ≤ 9) ∨ t = 10 ∨ (t < 1 ∨ 10 < t) := by omega
  rcases hcase with h | h | rfl | h
  · obtain ⟨p1, p2, p3⟩ := pl_num m t i h
    rw [p1, p2, p3, dfl_num m t i h]
    exact ⟨none, 0, 0, rfl, by simp, fun _ h2 => by omega⟩
  · obtain ⟨p1, p2, p3⟩ := pl_text m t i h
    rw [p1, p2, p3, dfl_text m t i h]
    exact ⟨none, 0, 0, rfl, by simp, fun _ h2 => by omega⟩
  · obtain ⟨p1, p2, p3⟩ := pl_list m i
    rw [p1, p2, p3, dfl_list m i]
    exact ⟨_, _, _, rfl, by simp, fun h _ => h⟩
  · obtain ⟨p1, p2, p3⟩ := pl_out m t i h
    rw [p1, p2, p3, dfl_out m t i h]
    exact ⟨none, 0, 0, rfl, by simp, fun _ h2 => by omega⟩
theorem chk_nil (most : Int) (h : 0 ≤ most) : chk ⟨#[]⟩ most = 0 := by
  have h2 : ¬ most < 0 := by omega
  unfold chk checkI
  simp [scan_nil, h2]
/-- A field that has nothing is right. -/
theorem fldE_eq (m : MV) (r : SRow) : fldE m r = wrongE m (r.typ : Nat) (r.slot : Nat) := by
  unfold fldE
  generalize (r.slot : Int) = i
  generalize (r.typ : Int) = t
  by_cases hd : dflB m t i = true
  · rw [if_pos hd]
    have hcase : (1 ≤ t ∧ t ≤ 6) ∨ (7 ≤ t ∧ t ≤ 9) ∨ t = 10 ∨ (t < 1 ∨ 10 < t) := by omega
    rcases hcase with h | h | rfl | h
    · rw [dfl_num m t i h] at hd
      have hx : m.num i = 0 := by simpa using hd
      by_cases h1 : t = 1 ∨ t = 5
      · rw [wr_num m t i h1, hx]; rfl
      · by_cases h4 : t = 4
        · subst h4; rw [wr_bool, hx]; rfl
        · rw [wr_out m t i (by omega)]
    · rw [dfl_text m t i h] at hd
      have hx : m.text i = ⟨#[]⟩ := by simpa using hd
      rw [wr_text m t i h, hx, chk_nil _ (by omega)]
    · rw [dfl_list m i] at hd
      have hx : m.l.length = 0 := by simpa using hd
      rw [wr_list, List.eq_nil_of_length_eq_zero hx]; rfl
    · rw [wr_out m t i (by omega)]
  · rw [if_neg hd]
end Go.Proofs.Ytdnfbnfjjenjjaa
set_option linter.unusedVariables false
namespace Go.Proofs.Ytdnfbnfjjenjjaa
open Go.RowKit
end Go.Proofs.Ytdnfbnfjjenjjaa
set_option linter.unusedVariables false
namespace Go.Proofs.Ytdnfbnfjjenjjaa
open Go.RowKit
def smallB (m : MV) : Bool := decide (m.s0.size ≤ 8000) && decide (m.s1.size ≤ 8000) && decide (m.l.length ≤ 70) && m.l.all fun s => decide (s.size ≤ 200)
theorem smallB_facts {m : MV} (h : smallB m = true) : m.s0.size ≤ 8000 ∧ m.s1.size ≤ 8000 ∧ m.l.length ≤ 70 ∧ ∀ s ∈ m.l, s.size ≤ 200 := by
  unfold smallB at h
  simp only [Bool.and_eq_true, decide_eq_true_eq, List.all_eq_true] at h
  exact ⟨h.1.1.1, h.1.1.2, h.1.2, h.2⟩
theorem kept_len {L : List SRow} {m : MV} : (keptM L m).l.length ≤ m.l.length := by
  unfold keptM; cases mkL L <;> simp
end Go.Proofs.Ytdnfbnfjjenjjaa
