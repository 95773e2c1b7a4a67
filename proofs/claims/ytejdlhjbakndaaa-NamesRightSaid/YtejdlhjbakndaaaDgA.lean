/- diag: compare, Less, the document's Less: walks. -/
import Derived.Test.YtejdlhjbakndaaaM1
import Derived.Test.YtejdlhjbakndaaaM3
import Derived.Test.YtejdlhjbakndaaaDgMath
import Derived.StillTailTactics
import Derived.Deep.QuietTactic
import Derived.Sort.Grow
import Derived.Lib.Bytealg
import Derived.Lib.Strings
import Derived.Lib.Walk
import Derived.WalkSmall
set_option linter.unusedVariables false
namespace Go.Proofs.Ytejdlhjbakndaaa
open Go.RowKit
/-- A finding's cells. -/
def dC (x : Dg.D) : List Value := [.int .i64 x.1, .int .i64 x.2.1, .string x.2.2]
theorem dC_len (x : Dg.D) : (dC x).length = 3 := rfl
theorem dC_one (x : Dg.D) : ∀ v ∈ dC x, v.oneCell' = true := fun v hv => by
  simp [dC] at hv
  rcases hv with rfl | rfl | rfl <;> rfl
/-- Which of two numbers is the lesser. -/
def cI (a b : Int) : Int := if a < b then -1 else if b < a then 1 else 0
def cS (a b : ByteArray) : Int := if a.data.toList < b.data.toList then -1 else if b.data.toList < a.data.toList then 1 else 0
def or3 (a b c : Int) : Int := if a ≠ 0 then a else if b ≠ 0 then b else c
/-- Which of two findings stands ahead. -/
def cD (x y : Dg.D) : Int := or3 (cI x.1 y.1) (cI x.2.1 y.2.1) (cS x.2.2 y.2.2)
theorem less_eq : ∀ (x y : List UInt8), Op.bytesLess x y = decide (x < y)
  | [], [] => by simp [Op.bytesLess]
  | _ :: _, [] => by simp [Op.bytesLess]
  | [], _ :: _ => by simp [Op.bytesLess]
  | a :: x, b :: y => by
    rw [Op.bytesLess, less_eq x y]
    simp only [List.cons_lt_cons_iff]
    by_cases h1 : a < b <;> by_cases h2 : a = b <;> by_cases h3 : x < y <;> simp [h1, h2, h3]
theorem cI_ways (a b : Int) : (cI a b = -1 ∧ a < b) ∨ (cI a b = 1 ∧ b < a) ∨ (cI a b = 0 ∧ a = b) := by
  unfold cI; split
  · exact .inl ⟨rfl, by assumption⟩
  · split
    · exact .inr (.inl ⟨rfl, by assumption⟩)
    · exact .inr (.inr ⟨rfl, by omega⟩)
theorem cS_ways (a b : ByteArray) : (cS a b = -1 ∧ a.data.toList < b.data.toList) ∨ (cS a b = 1 ∧ ¬ a.data.toList < b.data.toList ∧ b.data.toList < a.data.toList) ∨ (cS a b = 0 ∧ a = b) := by
  unfold cS; split
  · exact .inl ⟨rfl, by assumption⟩
  · split
    · exact .inr (.inl ⟨rfl, by assumption, by assumption⟩)
    · refine .inr (.inr ⟨rfl, ?_⟩)
      rcases Dg.ltri a.data.toList b.data.toList with h | h | h
      · contradiction
      · exact Dg.bext h
      · contradiction
theorem cD_lt (x y : Dg.D) : decide (cD x y < 0) = Dg.ltb x y := by
  obtain ⟨s1, e1, t1⟩ := x; obtain ⟨s2, e2, t2⟩ := y
  unfold cD or3 Dg.ltb
  simp only
  rcases cI_ways s1 s2 with ⟨h1, h2⟩ | ⟨h1, h2⟩ | ⟨h1, h2⟩
  · have : ¬ s1 = s2 := by omega
    simp [h1, h2, this]
  · have : ¬ s1 = s2 := by omega
    have h3 : ¬ s1 < s2 := by omega
    simp [h1, this, h3]
  · subst h2
    rcases cI_ways e1 e2 with ⟨g1, g2⟩ | ⟨g1, g2⟩ | ⟨g1, g2⟩
    · have : ¬ e1 = e2 := by omega
      simp [h1, g1, g2, this]
    · have : ¬ e1 = e2 := by omega
      have h3 : ¬ e1 < e2 := by omega
      simp [h1, g1, this, h3]
    · subst g2
      rcases cS_ways t1 t2 with ⟨k1, k2⟩ | ⟨k1, k2, k3⟩ | ⟨k1, k2⟩
      · simp [h1, g1, k1, k2]
      · simp [h1, g1, k1, k2]
      · subst k2; simp [h1, g1, k1]
set_option maxRecDepth 100000 in
set_option maxHeartbeats 2000000 in
theorem isNaNi_any (x : Int) (w : World) : Calls Try.prog 71 #[.int .i64 x] w fun e w' => e = .returned (.bool false) ∧ w' = w := by
  go_enter Try.func71, Try.ntmps71
  go_wp2_with fail
  go_ret
  exact ⟨by simp, rfl⟩
set_option maxRecDepth 100000 in
set_option maxHeartbeats 2000000 in
theorem isNaNe_any (x : Int) (w : World) : Calls Try.prog 72 #[.int .i64 x] w fun e w' => e = .returned (.bool false) ∧ w' = w := by
  go_enter Try.func72, Try.ntmps72
  go_wp2_with fail
  go_ret
  exact ⟨by simp, rfl⟩
set_option maxRecDepth 100000 in
set_option maxHeartbeats 2000000 in
theorem isNaNs_any (x : ByteArray) (w : World) : Calls Try.prog 73 #[.string x] w fun e w' => e = .returned (.bool false) ∧ w' = w := by
  go_enter Try.func73, Try.ntmps73
  go_wp2_with fail
  go_ret
  exact ⟨by simp, rfl⟩
set_option maxRecDepth 100000 in
set_option maxHeartbeats 4000000 in
theorem cmpi_any (x y : Int) (w : World) : Calls Try.prog 57 #[.int .i64 x, .int .i64 y] w fun e w' => e = .returned (.int .i64 (cI x y)) ∧ w' = w := by
  rcases cI_ways x y with ⟨h1, h2⟩ | ⟨h1, h2⟩ | ⟨h1, h2⟩ <;> rw [h1]
  · go_enter Try.func57, Try.ntmps57
    go_wp2_with (go_at_call 71; refine (isNaNi_any _ _).mono ?_; rintro e w' ⟨rfl, rfl⟩)
    go_ret
    exact ⟨rfl, rfl⟩
  · have h3 : ¬ x < y := by omega
    go_enter Try.func57, Try.ntmps57
    go_wp2_with (go_at_call 71; refine (isNaNi_any _ _).mono ?_; rintro e w' ⟨rfl, rfl⟩)
    go_ret
    exact ⟨rfl, rfl⟩
  · subst h2
    go_enter Try.func57, Try.ntmps57
    go_wp2_with (go_at_call 71; refine (isNaNi_any _ _).mono ?_; rintro e w' ⟨rfl, rfl⟩)
    go_ret
    exact ⟨rfl, rfl⟩
set_option maxRecDepth 100000 in
set_option maxHeartbeats 4000000 in
theorem cmpe_any (x y : Int) (w : World) : Calls Try.prog 58 #[.int .i64 x, .int .i64 y] w fun e w' => e = .returned (.int .i64 (cI x y)) ∧ w' = w := by
  rcases cI_ways x y with ⟨h1, h2⟩ | ⟨h1, h2⟩ | ⟨h1, h2⟩ <;> rw [h1]
  · go_enter Try.func58, Try.ntmps58
    go_wp2_with (go_at_call 72; refine (isNaNe_any _ _).mono ?_; rintro e w' ⟨rfl, rfl⟩)
    go_ret
    exact ⟨rfl, rfl⟩
  · have h3 : ¬ x < y := by omega
    go_enter Try.func58, Try.ntmps58
    go_wp2_with (go_at_call 72; refine (isNaNe_any _ _).mono ?_; rintro e w' ⟨rfl, rfl⟩)
    go_ret
    exact ⟨rfl, rfl⟩
  · subst h2
    go_enter Try.func58, Try.ntmps58
    go_wp2_with (go_at_call 72; refine (isNaNe_any _ _).mono ?_; rintro e w' ⟨rfl, rfl⟩)
    go_ret
    exact ⟨rfl, rfl⟩
set_option maxRecDepth 100000 in
set_option maxHeartbeats 4000000 in
theorem cmps_any (x y : ByteArray) (w : World) : Calls Try.prog 59 #[.string x, .string y] w fun e w' => e = .returned (.int .i64 (cS x y)) ∧ w' = w := by
  rcases cS_ways x y with ⟨h1, h2⟩ | ⟨h1, h2, h3⟩ | ⟨h1, h2⟩ <;> rw [h1]
  · have hx : Op.bytesLess x.toList y.toList = true := by rw [less_eq, Lib.toList_data, Lib.toList_data]; simpa using h2
    clear h2
    go_enter Try.func59, Try.ntmps59
    go_wp2_with (go_at_call 73; refine (isNaNs_any _ _).mono ?_; rintro e w' ⟨rfl, rfl⟩)
    go_ret
    exact ⟨rfl, rfl⟩
  · have hx : Op.bytesLess x.toList y.toList = false := by rw [less_eq, Lib.toList_data, Lib.toList_data]; simpa using h2
    have hne : (x.toList == y.toList) = false := by
      simp only [beq_eq_false_iff_ne, ne_eq]
      intro e
      rw [Lib.toList_data, Lib.toList_data] at e
      rw [e] at h3
      exact Dg.lirr _ h3
    clear h2 h3
    go_enter Try.func59, Try.ntmps59
    go_wp2_with (go_at_call 73; refine (isNaNs_any _ _).mono ?_; rintro e w' ⟨rfl, rfl⟩)
    go_ret
    exact ⟨rfl, rfl⟩
  · subst h2
    have hx : Op.bytesLess x.toList x.toList = false := by rw [less_eq]; simp
    go_enter Try.func59, Try.ntmps59
    go_wp2_with (go_at_call 73; refine (isNaNs_any _ _).mono ?_; rintro e w' ⟨rfl, rfl⟩)
    go_ret
    exact ⟨rfl, rfl⟩
end Go.Proofs.Ytejdlhjbakndaaa
