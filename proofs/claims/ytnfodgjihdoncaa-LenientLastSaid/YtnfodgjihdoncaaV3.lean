/- The document's Place, Default and one of a message's field. · The document's Default and one of a message's field; Texts. · The document's one and Same of messages. · Short messages (the document's Small); value.Clean. -/
import Derived.Test.YtnfodgjihdoncaaV2
import Derived.Test.YtnfodgjihdoncaaUt
set_option linter.unusedVariables false
namespace Go.Proofs.Ytnfodgjihdoncaa
open Go.RowKit
theorem bw_d' {a b : World} {B : Nat} (h : Below B a b) (n : Nat) : Below B a (b.drewN n) := ⟨h.os, h.tape, h.output, h.size, h.block⟩
/-- What stands in a place. -/
def plN (m : MV) (t i : Int) : Nat := if 1 ≤ t ∧ t ≤ 6 then m.num i else 0
def plS (m : MV) (t i : Int) : ByteArray := if 7 ≤ t ∧ t ≤ 9 then m.text i else ⟨#[]⟩
def plV (m : MV) (t : Int) : Value := if t = 10 then .slice m.A m.l.length m.c else .slice none 0 0
theorem pl_num (m : MV) (t i : Int) (h : 1 ≤ t ∧ t ≤ 6) : plN m t i = m.num i ∧ plS m t i = ⟨#[]⟩ ∧ plV m t = .slice none 0 0 := by
  unfold plN plS plV; rw [if_pos h, if_neg (by omega), if_neg (by omega)]; exact ⟨rfl, rfl, rfl⟩
theorem pl_text (m : MV) (t i : Int) (h : 7 ≤ t ∧ t ≤ 9) : plN m t i = 0 ∧ plS m t i = m.text i ∧ plV m t = .slice none 0 0 := by
  unfold plN plS plV; rw [if_neg (by omega), if_pos h, if_neg (by omega)]; exact ⟨rfl, rfl, rfl⟩
theorem pl_list (m : MV) (i : Int) : plN m 10 i = 0 ∧ plS m 10 i = ⟨#[]⟩ ∧ plV m 10 = .slice m.A m.l.length m.c := by
  unfold plN plS plV; rw [if_neg (by omega), if_neg (by omega), if_pos rfl]; exact ⟨rfl, rfl, rfl⟩
theorem pl_out (m : MV) (t i : Int) (h : t < 1 ∨ 10 < t) : plN m t i = 0 ∧ plS m t i = ⟨#[]⟩ ∧ plV m t = .slice none 0 0 := by
  unfold plN plS plV; rw [if_neg (by omega), if_neg (by omega), if_neg (by omega)]; exact ⟨rfl, rfl, rfl⟩
end Go.Proofs.Ytnfodgjihdoncaa
set_option linter.unusedVariables false
namespace Go.Proofs.Ytnfodgjihdoncaa
open Go.RowKit
theorem pl_view (m : MV) (t i : Int) : ∃ A n c, plV m t = .slice A n c ∧ dflB m t i = (decide (plN m t i = 0) && decide (plS m t i = ⟨#[]⟩) && decide (n = 0)) ∧ (A = none → t = 10 → m.A = none) := by
  have hcase : (1 ≤ t ∧ t ≤ 6) ∨ (7 ≤ t ∧ t ≤ 9) ∨ t = 10 ∨ (t < 1 ∨ 10 < t) := by omega
  rcases hcase with h | h | rfl | h
  · obtain ⟨p1, p2, p3⟩ := pl_num m t i h
    rw [p1, p2, p3, dfl_num m t i h]
    exact ⟨none, 0, 0, rfl, by simp, fun _ h2 => by omega⟩
  · obtain ⟨p1, p2, p3⟩ := pl_text m t i h
    rw [p1, p2, p3, dfl_text m t i h]
    exact ⟨none, 0, 0, rfl, by simp, fun _ h2 => by omega⟩
  · obtain ⟨p1, p2, p3⟩ := pl_list m i
    rw [p1, p2, p3, dfl_list m i]
    exact ⟨_, _, _, rfl, by simp, fun h _ => h⟩
  · obtain ⟨p1, p2, p3⟩ := pl_out m t i h
    rw [p1, p2, p3, dfl_out m t i h]
    exact ⟨none, 0, 0, rfl, by simp, fun _ h2 => by omega⟩
theorem chk_nil (most : Int) (h : 0 ≤ most) : chk ⟨#[]⟩ most = 0 := by
  have h2 : ¬ most < 0 := by omega
  unfold chk checkI
  simp [scan_nil, h2]
/-- A field that has nothing is right. -/
theorem fldE_eq (m : MV) (r : SRow) : fldE m r = wrongE m (r.typ : Nat) (r.slot : Nat) := by
  unfold fldE
  generalize (r.slot : Int) = i
  generalize (r.typ : Int) = t
  by_cases hd : dflB m t i = true
  · rw [if_pos hd]
    have hcase : (1 ≤ t ∧ t ≤ 6) ∨ (7 ≤ t ∧ t ≤ 9) ∨ t = 10 ∨ (t < 1 ∨ 10 < t) := by omega
    rcases hcase with h | h | rfl | h
    · rw [dfl_num m t i h] at hd
      have hx : m.num i = 0 := by simpa using hd
      by_cases h1 : t = 1 ∨ t = 5
      · rw [wr_num m t i h1, hx]; rfl
      · by_cases h4 : t = 4
        · subst h4; rw [wr_bool, hx]; rfl
        · rw [wr_out m t i (by omega)]
    · rw [dfl_text m t i h] at hd
      have hx : m.text i = ⟨#[]⟩ := by simpa using hd
      rw [wr_text m t i h, hx, chk_nil _ (by omega)]
    · rw [dfl_list m i] at hd
      have hx : m.l.length = 0 := by simpa using hd
      rw [wr_list, List.eq_nil_of_length_eq_zero hx]; rfl
    · rw [wr_out m t i (by omega)]
  · rw [if_neg hd]
end Go.Proofs.Ytnfodgjihdoncaa
set_option linter.unusedVariables false
namespace Go.Proofs.Ytnfodgjihdoncaa
open Go.RowKit
end Go.Proofs.Ytnfodgjihdoncaa
set_option linter.unusedVariables false
namespace Go.Proofs.Ytnfodgjihdoncaa
open Go.RowKit
def smallB (m : MV) : Bool := decide (m.s0.size ≤ 8000) && decide (m.s1.size ≤ 8000) && decide (m.l.length ≤ 70) && m.l.all fun s => decide (s.size ≤ 200)
theorem smallB_facts {m : MV} (h : smallB m = true) : m.s0.size ≤ 8000 ∧ m.s1.size ≤ 8000 ∧ m.l.length ≤ 70 ∧ ∀ s ∈ m.l, s.size ≤ 200 := by
  unfold smallB at h
  simp only [Bool.and_eq_true, decide_eq_true_eq, List.all_eq_true] at h
  exact ⟨h.1.1.1, h.1.1.2, h.1.2, h.2⟩
set_option maxRecDepth 100000 in
set_option maxHeartbeats 2000000 in
theorem small9_any (m : MV) (w : World) (hs : Sl w m.A m.c (m.l.map sv)) : Calls Try.prog 15 #[mvV m] w fun e w' => e = .returned (.bool (smallB m)) ∧ Below w.heap.size w w' := by
  have hS : smallB m = (decide (m.s0.size ≤ 8000) && decide (m.s1.size ≤ 8000) && decide (m.l.length ≤ 70) && m.l.all fun s => decide (s.size ≤ 200)) := rfl
  generalize smallB m = R at *
  obtain ⟨len, hlen⟩ : ∃ n, m.l.length = n := ⟨_, rfl⟩
  unfold mvV mvA
  rw [hlen] at hS ⊢
  have hbx := bw_a (Below.refl w.heap.size w) (.cells #[.int .u8 (m.k : Int), .int .u64 (m.n0 : Int), .int .u64 (m.n1 : Int), .int .u64 (m.n2 : Int), .int .u64 (m.n3 : Int), .int .u64 (m.n4 : Int), .int .u64 (m.n5 : Int), .string m.s0, .string m.s1, .slice m.A len m.c] 27)
  have hbk := Blk.new w 27 #[.int .u8 (m.k : Int), .int .u64 (m.n0 : Int), .int .u64 (m.n1 : Int), .int .u64 (m.n2 : Int), .int .u64 (m.n3 : Int), .int .u64 (m.n4 : Int), .int .u64 (m.n5 : Int), .string m.s0, .string m.s1, .slice m.A len m.c]
  have HS := hid hS
  have HL := hid hlen
  have HSL := hid (hs.below hbx)
  have HBX := hid hbx
  have HBK := hid hbk
  clear hS hlen hs hbx hbk
  by_cases h0 : m.s0.size ≤ 8000
  case neg =>
    have HR := hid (show R = false from by rw [HS.out]; simp [h0])
    clear HS
    have h0' : 8000 < m.s0.size := by omega
    go_enter Try.func15, Try.ntmps15
    go_wp2_with fail
    go_ret
    exact ⟨by rw [HR.out]; rfl, HBX.out⟩
  by_cases h1 : m.s1.size ≤ 8000
  case neg =>
    have HR := hid (show R = false from by rw [HS.out]; simp [h1])
    clear HS
    have h1' : 8000 < m.s1.size := by omega
    go_enter Try.func15, Try.ntmps15
    go_wp2_with fail
    go_ret
    exact ⟨by rw [HR.out]; rfl, HBX.out⟩
  by_cases h2 : len ≤ 70
  case neg =>
    have HR := hid (show R = false from by rw [HS.out]; simp [h2])
    clear HS
    have h2' : 70 < len := by omega
    go_enter Try.func15, Try.ntmps15
    go_wp2_with fail
    go_ret
    exact ⟨by rw [HR.out]; rfl, HBX.out⟩
  have HR := hid (show R = m.l.all fun s => decide (s.size ≤ 200) from by rw [HS.out]; simp [h0, h1, h2])
  clear HS
  go_enter Try.func15, Try.ntmps15
  go_wp2_with fail
  obtain ⟨W, hW⟩ : ∃ W, w.alloc (.cells #[.int .u8 (m.k : Int), .int .u64 (m.n0 : Int), .int .u64 (m.n1 : Int), .int .u64 (m.n2 : Int), .int .u64 (m.n3 : Int), .int .u64 (m.n4 : Int), .int .u64 (m.n5 : Int), .string m.s0, .string m.s1, .slice m.A len m.c] 27) = W := ⟨_, rfl⟩
  rw [hW] at HBX HBK HSL
  rw [hW]
  obtain ⟨s, hws⟩ : ∃ s, w.heap.size = s := ⟨_, rfl⟩
  rw [hws] at HBK
  have c9 := HBK.out.cell 9
  simp only [List.getElem?_toArray, List.getElem?_cons_zero, List.getElem?_cons_succ] at c9
  clear hW
  go_loopw [3] (fun i wr => ∃ j : Nat, j ≤ len ∧ i = .int .i64 (j : Int) ∧ (m.l.take j).all (fun s => decide (s.size ≤ 200)) = true ∧ wr = W) (fun i _ => len - (intOf i).toNat)
  case atStart => exact ⟨0, by omega, rfl, rfl, rfl⟩
  case round =>
    obtain ⟨j, hj, rfl, hall, rfl⟩ := hrel
    by_cases hlt : j < len
    · have hj1 : j < m.l.length := by have := HL.out; omega
      obtain ⟨b, off, hA, hbw, t0⟩ := HSL.out.rd j (sv m.l[j]) (by simp [hj1])
      rw [hA] at c9
      have hnx : m.l[j].size ≤ 200 → (m.l.take (j + 1)).all (fun s => decide (s.size ≤ 200)) = true := fun h => by
        rw [List.take_succ_eq_append_getElem hj1, List.all_append, hall]; simp [h]
      have hno : ¬ m.l[j].size ≤ 200 → (m.l.all fun s => decide (s.size ≤ 200)) = false := fun h => by
        rw [Bool.eq_false_iff]
        intro h2
        have h3 := List.all_eq_true.1 h2 m.l[j] (List.getElem_mem hj1)
        exact h (by simpa using h3)
      have hji : (j : Int) < (len : Int) := by omega
      have hj0 : (0 : Int) ≤ (j : Int) := by omega
      unfold sv at t0
      generalize m.l[j] = x at *
      have HNX := hid hnx
      have HNO := hid hno
      clear hnx hno hall
      by_cases hx : x.size ≤ 200
      · have HX := hid (HNX.out hx)
        go_wp2_with fail
        exact ⟨⟨j + 1, by omega, by go_num, HX.out, trivial⟩, by simp [intOf] <;> omega⟩
      · have HX := hid (HNO.out hx)
        have hx' : 200 < x.size := by omega
        go_wp2_with fail
        go_ret
        exact ⟨by rw [HR.out, HX.out]; rfl, HBX.out⟩
    · obtain rfl : j = len := by omega
      rw [List.take_of_length_le (by have := HL.out; omega)] at hall
      have HX := hid hall
      clear hall
      go_wp2_with fail
      go_ret
      exact ⟨by rw [HR.out, HX.out]; rfl, HBX.out⟩
theorem kept_len {L : List SRow} {m : MV} : (keptM L m).l.length ≤ m.l.length := by
  unfold keptM; cases mkL L <;> simp
end Go.Proofs.Ytnfodgjihdoncaa
