/- The document's Default and one of a message's field; Texts. -/
import Derived.Test.YtehjibbjkadoiaaVRef
set_option linter.unusedVariables false
namespace Go.Proofs.Ytehjibbjkadoiaa
open Go.RowKit
theorem pl_view (m : MV) (t i : Int) : ∃ A n c, plV m t = .slice A n c ∧ dflB m t i = (decide (plN m t i = 0) && decide (plS m t i = ⟨#[]⟩) && decide (n = 0)) ∧ (A = none → t = 10 → m.A = none) := by
  have hcase : (1 ≤ t ∧ t ≤ 6) ∨ (7 ≤ t ∧ t ≤ 9) ∨ t = 10 ∨ (t < 1 ∨ 10 < t) := by omega
  rcases hcase with h | h | rfl | h
  · obtain ⟨p1, p2, p3⟩ := pl_num m t i h
    rw [p1, p2, p3, dfl_num m t i h]
    exact ⟨none, 0, 0, rfl, by simp, fun _ h2 => by omega⟩
  · obtain ⟨p1, p2, p3⟩ := pl_text m t i h
    rw [p1, p2, p3, dfl_text m t i h]
    exact ⟨none, 0, 0, rfl, by simp, fun _ h2 => by omega⟩
  · obtain ⟨p1, p2, p3⟩ := pl_list m i
    rw [p1, p2, p3, dfl_list m i]
    exact ⟨_, _, _, rfl, by simp, fun h _ => h⟩
  · obtain ⟨p1, p2, p3⟩ := pl_out m t i h
    rw [p1, p2, p3, dfl_out m t i h]
    exact ⟨none, 0, 0, rfl, by simp, fun _ h2 => by omega⟩
set_option maxRecDepth 100000 in
set_option maxHeartbeats 4000000 in
theorem rdef_any (m : MV) (num t i : Int) (w : World) : Calls Try.prog 44 #[mvV m, .agg #[.int .i64 num, .int .i64 t, .int .i64 i]] w fun e w' => e = .returned (.bool (dflB m t i)) ∧ Below w.heap.size w w' := by
  have hp := fun W => rplace_any m num t i W
  obtain ⟨A, n, c, hv, hd, -⟩ := pl_view m t i
  rw [hd]
  rw [hv] at hp
  clear hd hv
  generalize plN m t i = x at *
  generalize plS m t i = y at *
  unfold mvV mvA at *
  generalize m.l.length = len at *
  obtain ⟨s, hws⟩ : ∃ s, w.heap.size = s := ⟨_, rfl⟩
  have HBX := hid (bx2 w s len m num t i hws)
  rw [hws]
  have HP := hid hp
  clear hp
  by_cases hx : x = 0
  · subst hx
    by_cases hy : y = ⟨#[]⟩
    · subst hy
      by_cases hn : n = 0
      · subst hn
        go_enter Try.func44, Try.ntmps44
        go_wp2_with fail
        refine (HP.out _).mono ?_
        rintro e w1 ⟨rfl, hb1⟩
        have HB1 := hid (HBX.out.bel.trans (hb1.mono (by have := HBX.out.z; omega)))
        clear hb1
        go_wp2_with fail
        go_ret
        exact ⟨rfl, HB1.out⟩
      · have hnb : ((n : Int) == 0) = false := by simp; omega
        have hd : (decide ((0 : Nat) = 0) && decide ((⟨#[]⟩ : ByteArray) = ⟨#[]⟩) && decide (n = 0)) = false := by simp [hn]
        rw [hd]
        clear hd
        have HN := hid hn
        clear hn
        go_enter Try.func44, Try.ntmps44
        go_wp2_with fail
        refine (HP.out _).mono ?_
        rintro e w1 ⟨rfl, hb1⟩
        have HB1 := hid (HBX.out.bel.trans (hb1.mono (by have := HBX.out.z; omega)))
        clear hb1
        go_wp2_with fail
        go_ret
        exact ⟨rfl, HB1.out⟩
    · have hd : (decide ((0 : Nat) = 0) && decide (y = ⟨#[]⟩) && decide (n = 0)) = false := by simp [hy]
      have hx1 : ¬ y.toList = [] := fun h => hy ((bytes_nil y).2 h)
      have hx2 : (y.toList == []) = false := by simpa using hx1
      have hx3 : y.toList.isEmpty = false := by simpa using hx1
      have hx4 : (!y.toList.isEmpty) = true := by simpa using hx1
      rw [hd]
      clear hd
      have HY := hid hy
      clear hy
      go_enter Try.func44, Try.ntmps44
      go_wp2_with fail
      refine (HP.out _).mono ?_
      rintro e w1 ⟨rfl, hb1⟩
      have HB1 := hid (HBX.out.bel.trans (hb1.mono (by have := HBX.out.z; omega)))
      clear hb1
      go_wp2_with fail
      go_ret
      exact ⟨rfl, HB1.out⟩
  · have hxb : ((x : Int) == 0) = false := by simp; omega
    have hd : (decide (x = 0) && decide (y = ⟨#[]⟩) && decide (n = 0)) = false := by simp [hx]
    rw [hd]
    clear hd
    have HX := hid hx
    clear hx
    go_enter Try.func44, Try.ntmps44
    go_wp2_with fail
    refine (HP.out _).mono ?_
    rintro e w1 ⟨rfl, hb1⟩
    have HB1 := hid (HBX.out.bel.trans (hb1.mono (by have := HBX.out.z; omega)))
    clear hb1
    go_wp2_with fail
    go_ret
    exact ⟨rfl, HB1.out⟩
set_option maxRecDepth 100000 in
set_option maxHeartbeats 2000000 in
theorem rtexts_any (l l2 : List ByteArray) (n n2 : Nat) (A A2 : Option Addr) (c c2 : Nat) (w : World) (hn : l.length = n) (hn2 : l2.length = n2) (hs : Sl w A c (l.map sv)) (hs2 : Sl w A2 c2 (l2.map sv)) :
    Calls Try.prog 37 #[.slice A n c, .slice A2 n2 c2] w fun e w' => e = .returned (.bool (decide (l = l2))) ∧ ∃ q, w' = w.drewN q := by
  have hc1 : n ≤ 9223372036854775807 := by have g1 := hs.cap; have g2 := hs.small; rw [List.length_map] at g1; omega
  have hc2 : n2 ≤ 9223372036854775807 := by have g1 := hs2.cap; have g2 := hs2.small; rw [List.length_map] at g1; omega
  obtain ⟨R, hR⟩ : ∃ R, decide (l = l2) = R := ⟨_, rfl⟩
  rw [hR]
  have HR := hid hR
  have HN := hid hn
  have HN2 := hid hn2
  have HS := hid hs
  have HS2 := hid hs2
  clear hR hn hn2 hs hs2
  by_cases hne : n = n2
  · subst hne
    go_enter Try.func37, Try.ntmps37
    go_wp2_with fail
    go_loopw [5] (fun i wr => ∃ (j q : Nat), j ≤ n ∧ i = .int .i64 (j : Int) ∧ l.take j = l2.take j ∧ wr = w.drewN q) (fun i _ => n - (intOf i).toNat)
    case atStart => exact ⟨0, 0, by omega, rfl, rfl, rfl⟩
    case round =>
      obtain ⟨j, q, hj, rfl, heq, rfl⟩ := hrel
      by_cases hlt : j < n
      · have hj1 : j < l.length := by have := HN.out; omega
        have hj2 : j < l2.length := by have := HN2.out; omega
        obtain ⟨b, off, rfl, hbw, t0⟩ := HS.out.rd j (sv l[j]) (by simp [hj1])
        obtain ⟨d, of2, rfl, hdw, t1⟩ := HS2.out.rd j (sv l2[j]) (by simp [hj2])
        have hnx := take_next hj1 hj2 heq
        have hno : ¬ l[j] = l2[j] → l ≠ l2 := fun h e => by subst e; exact h rfl
        have hji : (j : Int) < (n : Int) := by omega
        have hj0 : (0 : Int) ≤ (j : Int) := by omega
        unfold sv at t0 t1
        generalize l[j] = x at *
        generalize l2[j] = y at *
        have HNX := hid hnx
        have HNO := hid hno
        clear hnx hno heq
        by_cases hxy : x = y
        · subst hxy
          have HX := hid (HNX.out rfl)
          clear HNX HNO
          go_wp2_with fail
          go_quiet (fail)
          go_wp2_with fail
          exact ⟨⟨j + 1, q + nq, by omega, by go_num, HX.out, rfl⟩, by simp [intOf] <;> omega⟩
        · have heb := bstr_ne' hxy
          have HX := hid (HNO.out hxy)
          clear HNX HNO hxy
          go_wp2_with fail
          go_quiet (fail)
          go_wp2_with fail
          go_ret
          exact ⟨by rw [← HR.out, decide_eq_false HX.out]; rfl, q + nq, World.drewN_drewN _ _ _⟩
      · obtain rfl : j = n := by omega
        have hll : l = l2 := by
          have h1 := heq
          rwa [List.take_of_length_le (by have := HN.out; omega), List.take_of_length_le (by have := HN2.out; omega)] at h1
        have HX := hid hll
        clear hll heq
        go_wp2_with fail
        go_ret
        exact ⟨by rw [← HR.out, decide_eq_true HX.out]; rfl, _, rfl⟩
  · have hneb : ((n : Int) != (n2 : Int)) = true := by simp; omega
    have hX : l ≠ l2 := fun e => hne (by rw [← HN.out, ← HN2.out, e])
    have HX := hid hX
    clear hX
    go_enter Try.func37, Try.ntmps37
    go_wp2_with fail
    go_ret
    exact ⟨by rw [← HR.out, decide_eq_false HX.out]; rfl, 0, rfl⟩
theorem chk_nil (most : Int) (h : 0 ≤ most) : chk ⟨#[]⟩ most = 0 := by
  have h2 : ¬ most < 0 := by omega
  unfold chk checkI
  simp [scan_nil, h2]
/-- A field that has nothing is right. -/
theorem fldE_eq (m : MV) (r : SRow) : fldE m r = wrongE m (r.typ : Nat) (r.slot : Nat) := by
  unfold fldE
  generalize (r.slot : Int) = i
  generalize (r.typ : Int) = t
  by_cases hd : dflB m t i = true
  · rw [if_pos hd]
    have hcase : (1 ≤ t ∧ t ≤ 6) ∨ (7 ≤ t ∧ t ≤ 9) ∨ t = 10 ∨ (t < 1 ∨ 10 < t) := by omega
    rcases hcase with h | h | rfl | h
    · rw [dfl_num m t i h] at hd
      have hx : m.num i = 0 := by simpa using hd
      by_cases h1 : t = 1 ∨ t = 5
      · rw [wr_num m t i h1, hx]; rfl
      · by_cases h4 : t = 4
        · subst h4; rw [wr_bool, hx]; rfl
        · rw [wr_out m t i (by omega)]
    · rw [dfl_text m t i h] at hd
      have hx : m.text i = ⟨#[]⟩ := by simpa using hd
      rw [wr_text m t i h, hx, chk_nil _ (by omega)]
    · rw [dfl_list m i] at hd
      have hx : m.l.length = 0 := by simpa using hd
      rw [wr_list, List.eq_nil_of_length_eq_zero hx]; rfl
    · rw [wr_out m t i (by omega)]
  · rw [if_neg hd]
end Go.Proofs.Ytehjibbjkadoiaa
