/- The document's Place, Default and one of a message's field. · The document's Default and one of a message's field; Texts. · The document's one and Same of messages. · Short messages (the document's Small); value.Clean. -/
import Derived.Test.YtmcebepfoleknaaV2
import Derived.Test.YtmcebepfoleknaaUt
set_option linter.unusedVariables false
namespace Go.Proofs.Ytmcebepfoleknaa
open Go.RowKit
theorem bw_d' {a b : World} {B : Nat} (h : Below B a b) (n : Nat) : Below B a (b.drewN n) := ⟨h.os, h.tape, h.output, h.size, h.block⟩
/-- What stands in a place. -/
def plN (m : MV) (t i : Int) : Nat := if 1 ≤ t ∧ t ≤ 6 then m.num i else 0
def plS (m : MV) (t i : Int) : ByteArray := if 7 ≤ t ∧ t ≤ 9 then m.text i else ⟨#[]⟩
def plV (m : MV) (t : Int) : Value := if t = 10 then .slice m.A m.l.length m.c else .slice none 0 0
theorem pl_num (m : MV) (t i : Int) (h : 1 ≤ t ∧ t ≤ 6) : plN m t i = m.num i ∧ plS m t i = ⟨#[]⟩ ∧ plV m t = .slice none 0 0 := by
  unfold plN plS plV; rw [if_pos h, if_neg (by omega), if_neg (by omega)]; exact ⟨rfl, rfl, rfl⟩
theorem pl_text (m : MV) (t i : Int) (h : 7 ≤ t ∧ t ≤ 9) : plN m t i = 0 ∧ plS m t i = m.text i ∧ plV m t = .slice none 0 0 := by
  unfold plN plS plV; rw [if_neg (by omega), if_pos h, if_neg (by omega)]; exact ⟨rfl, rfl, rfl⟩
theorem pl_list (m : MV) (i : Int) : plN m 10 i = 0 ∧ plS m 10 i = ⟨#[]⟩ ∧ plV m 10 = .slice m.A m.l.length m.c := by
  unfold plN plS plV; rw [if_neg (by omega), if_neg (by omega), if_pos rfl]; exact ⟨rfl, rfl, rfl⟩
theorem pl_out (m : MV) (t i : Int) (h : t < 1 ∨ 10 < t) : plN m t i = 0 ∧ plS m t i = ⟨#[]⟩ ∧ plV m t = .slice none 0 0 := by
  unfold plN plS plV; rw [if_neg (by omega), if_neg (by omega), if_neg (by omega)]; exact ⟨rfl, rfl, rfl⟩
set_option maxRecDepth 100000 in
set_option maxHeartbeats 4000000 in
theorem rplace_any (m : MV) (num t i : Int) (w : World) : Calls Try.prog 43 #[mvV m, .agg #[.int .i64 num, .int .i64 t, .int .i64 i]] w fun e w' => e = .returned (.tuple #[.int .u64 (plN m t i : Nat), .string (plS m t i), plV m t]) ∧ Below w.heap.size w w' := by
  have hpn := pl_num m t i
  have hpt := pl_text m t i
  have hpl := pl_list m i
  have hpo := pl_out m t i
  have hno := num_out m i
  have hto := text_out m i
  unfold mvV mvA at *
  generalize hlen : m.l.length = len at *
  obtain ⟨s, hws⟩ : ∃ s, w.heap.size = s := ⟨_, rfl⟩
  have HBX := hid (bx2 w s len m num t i hws)
  rw [hws]
  have hcase : (1 ≤ t ∧ t ≤ 6) ∨ (7 ≤ t ∧ t ≤ 9) ∨ t = 10 ∨ (t < 1 ∨ 10 < t) := by omega
  rcases hcase with h | h | rfl | h
  · obtain ⟨p1, p2, p3⟩ := hpn h
    rw [p1, p2, p3]
    obtain ⟨hA, hB⟩ := h
    have n10 : (t == 10) = false := by simp; omega
    clear hpn hpt hpl hpo p1 p2 p3
    have hi : i < 0 ∨ 6 ≤ i ∨ i = 0 ∨ i = 1 ∨ i = 2 ∨ i = 3 ∨ i = 4 ∨ i = 5 := by omega
    rcases hi with hi | hi | rfl | rfl | rfl | rfl | rfl | rfl
    · have hz := hno (by omega)
      rw [hz]
      clear hz hno hto
      go_enter Try.func43, Try.ntmps43
      go_wp2_with fail
      go_ret3
      exact ⟨rfl, HBX.out.bel⟩
    · have hz := hno (by omega)
      rw [hz]
      clear hz hno hto
      go_enter Try.func43, Try.ntmps43
      go_wp2_with fail
      go_ret3
      exact ⟨rfl, HBX.out.bel⟩
    · clear hno hto
      go_enter Try.func43, Try.ntmps43
      go_wp2_with fail
      go_ret3
      exact ⟨rfl, HBX.out.bel⟩
    · clear hno hto
      go_enter Try.func43, Try.ntmps43
      go_wp2_with fail
      go_ret3
      exact ⟨rfl, HBX.out.bel⟩
    · clear hno hto
      go_enter Try.func43, Try.ntmps43
      go_wp2_with fail
      go_ret3
      exact ⟨rfl, HBX.out.bel⟩
    · clear hno hto
      go_enter Try.func43, Try.ntmps43
      go_wp2_with fail
      go_ret3
      exact ⟨rfl, HBX.out.bel⟩
    · clear hno hto
      go_enter Try.func43, Try.ntmps43
      go_wp2_with fail
      go_ret3
      exact ⟨rfl, HBX.out.bel⟩
    · clear hno hto
      go_enter Try.func43, Try.ntmps43
      go_wp2_with fail
      go_ret3
      exact ⟨rfl, HBX.out.bel⟩
  · obtain ⟨p1, p2, p3⟩ := hpt h
    rw [p1, p2, p3]
    obtain ⟨hA, hB⟩ := h
    have n10 : (t == 10) = false := by simp; omega
    clear hpn hpt hpl hpo p1 p2 p3
    have hi : i < 0 ∨ 2 ≤ i ∨ i = 0 ∨ i = 1 := by omega
    rcases hi with hi | hi | rfl | rfl
    · have hz := hto (by omega)
      rw [hz]
      clear hz hno hto
      go_enter Try.func43, Try.ntmps43
      go_wp2_with fail
      go_ret3
      exact ⟨rfl, HBX.out.bel⟩
    · have hz := hto (by omega)
      rw [hz]
      clear hz hno hto
      go_enter Try.func43, Try.ntmps43
      go_wp2_with fail
      go_ret3
      exact ⟨rfl, HBX.out.bel⟩
    · clear hno hto
      go_enter Try.func43, Try.ntmps43
      go_wp2_with fail
      go_quiet (fail)
      go_wp2_with fail
      go_ret3
      exact ⟨rfl, bw_d' HBX.out.bel nq⟩
    · clear hno hto
      go_enter Try.func43, Try.ntmps43
      go_wp2_with fail
      go_quiet (fail)
      go_wp2_with fail
      go_ret3
      exact ⟨rfl, bw_d' HBX.out.bel nq⟩
  · obtain ⟨p1, p2, p3⟩ := hpl
    rw [p1, p2, p3]
    clear hpn hpt hpo p1 p2 p3 hno hto
    go_enter Try.func43, Try.ntmps43
    go_wp2_with fail
    go_quiet (fail)
    go_wp2_with fail
    go_ret3
    exact ⟨rfl, bw_d' HBX.out.bel nq⟩
  · obtain ⟨p1, p2, p3⟩ := hpo h
    rw [p1, p2, p3]
    have n10 : (t == 10) = false := by simp; omega
    clear hpn hpt hpl hpo p1 p2 p3 hno hto
    rcases h with h | h
    · go_enter Try.func43, Try.ntmps43
      go_wp2_with fail
      go_ret3
      exact ⟨rfl, HBX.out.bel⟩
    · go_enter Try.func43, Try.ntmps43
      go_wp2_with fail
      go_ret3
      exact ⟨rfl, HBX.out.bel⟩
end Go.Proofs.Ytmcebepfoleknaa
set_option linter.unusedVariables false
namespace Go.Proofs.Ytmcebepfoleknaa
open Go.RowKit
set_option maxRecDepth 100000 in
set_option maxHeartbeats 2000000 in
theorem rtexts_any (l l2 : List ByteArray) (n n2 : Nat) (A A2 : Option Addr) (c c2 : Nat) (w : World) (hn : l.length = n) (hn2 : l2.length = n2) (hs : Sl w A c (l.map sv)) (hs2 : Sl w A2 c2 (l2.map sv)) :
    Calls Try.prog 41 #[.slice A n c, .slice A2 n2 c2] w fun e w' => e = .returned (.bool (decide (l = l2))) ∧ ∃ q, w' = w.drewN q := by
  have hc1 : n ≤ 9223372036854775807 := by have g1 := hs.cap; have g2 := hs.small; rw [List.length_map] at g1; omega
  have hc2 : n2 ≤ 9223372036854775807 := by have g1 := hs2.cap; have g2 := hs2.small; rw [List.length_map] at g1; omega
  obtain ⟨R, hR⟩ : ∃ R, decide (l = l2) = R := ⟨_, rfl⟩
  rw [hR]
  have HR := hid hR
  have HN := hid hn
  have HN2 := hid hn2
  have HS := hid hs
  have HS2 := hid hs2
  clear hR hn hn2 hs hs2
  by_cases hne : n = n2
  · subst hne
    go_enter Try.func41, Try.ntmps41
    go_wp2_with fail
    go_loopw [5] (fun i wr => ∃ (j q : Nat), j ≤ n ∧ i = .int .i64 (j : Int) ∧ l.take j = l2.take j ∧ wr = w.drewN q) (fun i _ => n - (intOf i).toNat)
    case atStart => exact ⟨0, 0, by omega, rfl, rfl, rfl⟩
    case round =>
      obtain ⟨j, q, hj, rfl, heq, rfl⟩ := hrel
      by_cases hlt : j < n
      · have hj1 : j < l.length := by have := HN.out; omega
        have hj2 : j < l2.length := by have := HN2.out; omega
        obtain ⟨b, off, rfl, hbw, t0⟩ := HS.out.rd j (sv l[j]) (by simp [hj1])
        obtain ⟨d, of2, rfl, hdw, t1⟩ := HS2.out.rd j (sv l2[j]) (by simp [hj2])
        have hnx := take_next hj1 hj2 heq
        have hno : ¬ l[j] = l2[j] → l ≠ l2 := fun h e => by subst e; exact h rfl
        have hji : (j : Int) < (n : Int) := by omega
        have hj0 : (0 : Int) ≤ (j : Int) := by omega
        unfold sv at t0 t1
        generalize l[j] = x at *
        generalize l2[j] = y at *
        have HNX := hid hnx
        have HNO := hid hno
        clear hnx hno heq
        by_cases hxy : x = y
        · subst hxy
          have HX := hid (HNX.out rfl)
          clear HNX HNO
          go_wp2_with fail
          go_quiet (fail)
          go_wp2_with fail
          exact ⟨⟨j + 1, q + nq, by omega, by go_num, HX.out, rfl⟩, by simp [intOf] <;> omega⟩
        · have heb := bstr_ne' hxy
          have HX := hid (HNO.out hxy)
          clear HNX HNO hxy
          go_wp2_with fail
          go_quiet (fail)
          go_wp2_with fail
          go_ret
          exact ⟨by rw [← HR.out, decide_eq_false HX.out]; rfl, q + nq, World.drewN_drewN _ _ _⟩
      · obtain rfl : j = n := by omega
        have hll : l = l2 := by
          have h1 := heq
          rwa [List.take_of_length_le (by have := HN.out; omega), List.take_of_length_le (by have := HN2.out; omega)] at h1
        have HX := hid hll
        clear hll heq
        go_wp2_with fail
        go_ret
        exact ⟨by rw [← HR.out, decide_eq_true HX.out]; rfl, _, rfl⟩
  · have hneb : ((n : Int) != (n2 : Int)) = true := by simp; omega
    have hX : l ≠ l2 := fun e => hne (by rw [← HN.out, ← HN2.out, e])
    have HX := hid hX
    clear hX
    go_enter Try.func41, Try.ntmps41
    go_wp2_with fail
    go_ret
    exact ⟨by rw [← HR.out, decide_eq_false HX.out]; rfl, 0, rfl⟩
end Go.Proofs.Ytmcebepfoleknaa
set_option linter.unusedVariables false
namespace Go.Proofs.Ytmcebepfoleknaa
open Go.RowKit
set_option maxRecDepth 100000 in
set_option maxHeartbeats 2000000 in
theorem rsame9_any (a b : MV) (w : World) (ha : Sl w a.A a.c (a.l.map sv)) (hb : Sl w b.A b.c (b.l.map sv)) : Calls Try.prog 15 #[mvV a, mvV b] w fun e w' => e = .returned (.bool (sameB a b)) ∧ Below w.heap.size w w' := by
  have hq := fun (W : World) (hW : Below w.heap.size w W) => rtexts_any a.l b.l a.l.length b.l.length a.A b.A a.c b.c W rfl rfl (ha.below hW) (hb.below hW)
  have hen := fun (W : World) => eq_nums a.n0 a.n1 a.n2 a.n3 a.n4 a.n5 b.n0 b.n1 b.n2 b.n3 b.n4 b.n5 W
  have het := fun (W : World) => eq_texts a.s0 a.s1 b.s0 b.s1 W
  have hen' : ∀ W, _ = Result.ok (Value.bool (decide (sameN a b))) W := hen
  have het' : ∀ W, _ = Result.ok (Value.bool (decide (sameT a b))) W := het
  have hS : sameB a b = (decide (a.k = b.k) && decide (sameN a b) && decide (sameT a b) && decide (a.l = b.l)) := rfl
  have hbb := fun (la lb : Nat) => bw_a (bw_a (Below.refl _ w) (.cells #[.int .u8 (a.k : Int), .int .u64 (a.n0 : Int), .int .u64 (a.n1 : Int), .int .u64 (a.n2 : Int), .int .u64 (a.n3 : Int), .int .u64 (a.n4 : Int), .int .u64 (a.n5 : Int), .string a.s0, .string a.s1, .slice a.A la a.c] 29)) (.cells #[.int .u8 (b.k : Int), .int .u64 (b.n0 : Int), .int .u64 (b.n1 : Int), .int .u64 (b.n2 : Int), .int .u64 (b.n3 : Int), .int .u64 (b.n4 : Int), .int .u64 (b.n5 : Int), .string b.s0, .string b.s1, .slice b.A lb b.c] 29)
  clear hen het ha hb
  generalize sameB a b = R at *
  generalize hdn : decide (sameN a b) = dn at *
  generalize hdt : decide (sameT a b) = dt at *
  generalize hdl : decide (a.l = b.l) = dl at *
  unfold mvV mvA
  generalize a.l.length = la at *
  generalize b.l.length = lb at *
  clear hdn hdt hdl
  have HS := hid hS
  have HQ := hid hq
  have HBB := hid (hbb la lb)
  clear hS hq hbb
  by_cases hk : a.k = b.k
  · have hkb : ((a.k : Int) == (b.k : Int)) = true := by simp [hk]
    have hkd : decide (a.k = b.k) = true := by simp [hk]
    rw [hkd] at HS
    clear hkd
    have HK := hid hk
    clear hk
    cases dn with
    | false =>
      have HS2 := hid (show R = false from by rw [HS.out]; rfl)
      go_enter Try.func15, Try.ntmps15
      go_wp2_with fail
      go_ret
      exact ⟨by rw [HS2.out]; rfl, HBB.out⟩
    | true =>
      cases dt with
      | false =>
        have HS2 := hid (show R = false from by rw [HS.out]; rfl)
        go_enter Try.func15, Try.ntmps15
        go_wp2_with fail
        go_ret
        exact ⟨by rw [HS2.out]; rfl, HBB.out⟩
      | true =>
        have HS2 := hid (show R = dl from by rw [HS.out]; rfl)
        go_enter Try.func15, Try.ntmps15
        go_wp2_with fail
        refine (HQ.out _ HBB.out).mono ?_
        rintro e w1 ⟨rfl, q, rfl⟩
        go_wp2_with fail
        go_ret
        exact ⟨by rw [HS2.out]; rfl, bw_d HBB.out q⟩
  · have hkb : ((a.k : Int) == (b.k : Int)) = false := by simp; omega
    have hkd : decide (a.k = b.k) = false := by simpa using hk
    rw [hkd] at HS
    have HS2 := hid (show R = false from by rw [HS.out]; rfl)
    clear hkd
    have HK := hid hk
    clear hk
    go_enter Try.func15, Try.ntmps15
    go_wp2_with fail
    go_ret
    exact ⟨by rw [HS2.out]; rfl, HBB.out⟩

end Go.Proofs.Ytmcebepfoleknaa
set_option linter.unusedVariables false
namespace Go.Proofs.Ytmcebepfoleknaa
open Go.RowKit
def smallB (m : MV) : Bool := decide (m.s0.size ≤ 8000) && decide (m.s1.size ≤ 8000) && decide (m.l.length ≤ 70) && m.l.all fun s => decide (s.size ≤ 200)
theorem smallB_facts {m : MV} (h : smallB m = true) : m.s0.size ≤ 8000 ∧ m.s1.size ≤ 8000 ∧ m.l.length ≤ 70 ∧ ∀ s ∈ m.l, s.size ≤ 200 := by
  unfold smallB at h
  simp only [Bool.and_eq_true, decide_eq_true_eq, List.all_eq_true] at h
  exact ⟨h.1.1.1, h.1.1.2, h.1.2, h.2⟩
set_option maxRecDepth 100000 in
set_option maxHeartbeats 2000000 in
theorem small9_any (m : MV) (w : World) (hs : Sl w m.A m.c (m.l.map sv)) : Calls Try.prog 19 #[mvV m] w fun e w' => e = .returned (.bool (smallB m)) ∧ Below w.heap.size w w' := by
  have hS : smallB m = (decide (m.s0.size ≤ 8000) && decide (m.s1.size ≤ 8000) && decide (m.l.length ≤ 70) && m.l.all fun s => decide (s.size ≤ 200)) := rfl
  generalize smallB m = R at *
  obtain ⟨len, hlen⟩ : ∃ n, m.l.length = n := ⟨_, rfl⟩
  unfold mvV mvA
  rw [hlen] at hS ⊢
  have hbx := bw_a (Below.refl w.heap.size w) (.cells #[.int .u8 (m.k : Int), .int .u64 (m.n0 : Int), .int .u64 (m.n1 : Int), .int .u64 (m.n2 : Int), .int .u64 (m.n3 : Int), .int .u64 (m.n4 : Int), .int .u64 (m.n5 : Int), .string m.s0, .string m.s1, .slice m.A len m.c] 29)
  have hbk := Blk.new w 29 #[.int .u8 (m.k : Int), .int .u64 (m.n0 : Int), .int .u64 (m.n1 : Int), .int .u64 (m.n2 : Int), .int .u64 (m.n3 : Int), .int .u64 (m.n4 : Int), .int .u64 (m.n5 : Int), .string m.s0, .string m.s1, .slice m.A len m.c]
  have HS := hid hS
  have HL := hid hlen
  have HSL := hid (hs.below hbx)
  have HBX := hid hbx
  have HBK := hid hbk
  clear hS hlen hs hbx hbk
  by_cases h0 : m.s0.size ≤ 8000
  case neg =>
    have HR := hid (show R = false from by rw [HS.out]; simp [h0])
    clear HS
    have h0' : 8000 < m.s0.size := by omega
    go_enter Try.func19, Try.ntmps19
    go_wp2_with fail
    go_ret
    exact ⟨by rw [HR.out]; rfl, HBX.out⟩
  by_cases h1 : m.s1.size ≤ 8000
  case neg =>
    have HR := hid (show R = false from by rw [HS.out]; simp [h1])
    clear HS
    have h1' : 8000 < m.s1.size := by omega
    go_enter Try.func19, Try.ntmps19
    go_wp2_with fail
    go_ret
    exact ⟨by rw [HR.out]; rfl, HBX.out⟩
  by_cases h2 : len ≤ 70
  case neg =>
    have HR := hid (show R = false from by rw [HS.out]; simp [h2])
    clear HS
    have h2' : 70 < len := by omega
    go_enter Try.func19, Try.ntmps19
    go_wp2_with fail
    go_ret
    exact ⟨by rw [HR.out]; rfl, HBX.out⟩
  have HR := hid (show R = m.l.all fun s => decide (s.size ≤ 200) from by rw [HS.out]; simp [h0, h1, h2])
  clear HS
  go_enter Try.func19, Try.ntmps19
  go_wp2_with fail
  obtain ⟨W, hW⟩ : ∃ W, w.alloc (.cells #[.int .u8 (m.k : Int), .int .u64 (m.n0 : Int), .int .u64 (m.n1 : Int), .int .u64 (m.n2 : Int), .int .u64 (m.n3 : Int), .int .u64 (m.n4 : Int), .int .u64 (m.n5 : Int), .string m.s0, .string m.s1, .slice m.A len m.c] 29) = W := ⟨_, rfl⟩
  rw [hW] at HBX HBK HSL
  rw [hW]
  obtain ⟨s, hws⟩ : ∃ s, w.heap.size = s := ⟨_, rfl⟩
  rw [hws] at HBK
  have c9 := HBK.out.cell 9
  simp only [List.getElem?_toArray, List.getElem?_cons_zero, List.getElem?_cons_succ] at c9
  clear hW
  go_loopw [3] (fun i wr => ∃ j : Nat, j ≤ len ∧ i = .int .i64 (j : Int) ∧ (m.l.take j).all (fun s => decide (s.size ≤ 200)) = true ∧ wr = W) (fun i _ => len - (intOf i).toNat)
  case atStart => exact ⟨0, by omega, rfl, rfl, rfl⟩
  case round =>
    obtain ⟨j, hj, rfl, hall, rfl⟩ := hrel
    by_cases hlt : j < len
    · have hj1 : j < m.l.length := by have := HL.out; omega
      obtain ⟨b, off, hA, hbw, t0⟩ := HSL.out.rd j (sv m.l[j]) (by simp [hj1])
      rw [hA] at c9
      have hnx : m.l[j].size ≤ 200 → (m.l.take (j + 1)).all (fun s => decide (s.size ≤ 200)) = true := fun h => by
        rw [List.take_succ_eq_append_getElem hj1, List.all_append, hall]; simp [h]
      have hno : ¬ m.l[j].size ≤ 200 → (m.l.all fun s => decide (s.size ≤ 200)) = false := fun h => by
        rw [Bool.eq_false_iff]
        intro h2
        have h3 := List.all_eq_true.1 h2 m.l[j] (List.getElem_mem hj1)
        exact h (by simpa using h3)
      have hji : (j : Int) < (len : Int) := by omega
      have hj0 : (0 : Int) ≤ (j : Int) := by omega
      unfold sv at t0
      generalize m.l[j] = x at *
      have HNX := hid hnx
      have HNO := hid hno
      clear hnx hno hall
      by_cases hx : x.size ≤ 200
      · have HX := hid (HNX.out hx)
        go_wp2_with fail
        exact ⟨⟨j + 1, by omega, by go_num, HX.out, trivial⟩, by simp [intOf] <;> omega⟩
      · have HX := hid (HNO.out hx)
        have hx' : 200 < x.size := by omega
        go_wp2_with fail
        go_ret
        exact ⟨by rw [HR.out, HX.out]; rfl, HBX.out⟩
    · obtain rfl : j = len := by omega
      rw [List.take_of_length_le (by have := HL.out; omega)] at hall
      have HX := hid hall
      clear hall
      go_wp2_with fail
      go_ret
      exact ⟨by rw [HR.out, HX.out]; rfl, HBX.out⟩
end Go.Proofs.Ytmcebepfoleknaa
