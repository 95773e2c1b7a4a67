/- Names: what stands where, among some: walks of small functions. -/
import Derived.Test.YtejdlhjbakndaaaDfC
import Derived.Test.YtejdlhjbakndaaaSrT
set_option linter.unusedVariables false
namespace Go.Proofs.Ytejdlhjbakndaaa
open Go.RowKit
namespace Nm
def ix (L : List ByteArray) (s : ByteArray) : Nat := L.findIdx (fun x => decide (x = s))
def ixI (L : List ByteArray) (s : ByteArray) : Int := if ix L s < L.length then (ix L s : Int) else -1
theorem ix_hit {L : List ByteArray} {s : ByteArray} {k : Nat} (hk : k < L.length) (h : L[k] = s) (hn : ∀ j (hj : j < k) (h2 : j < L.length), L[j] ≠ s) : ix L s = k := by
  unfold ix
  rw [List.findIdx_eq hk]
  exact ⟨by simpa using h, fun j hj => by simpa using hn j hj (by omega)⟩
theorem ixI_hit {L : List ByteArray} {s : ByteArray} {k : Nat} (hk : k < L.length) (h : L[k] = s) (hn : ∀ j (hj : j < k) (h2 : j < L.length), L[j] ≠ s) : ixI L s = (k : Int) := by
  unfold ixI; rw [ix_hit hk h hn, if_pos hk]
theorem ix_miss {L : List ByteArray} {s : ByteArray} (hn : ∀ j (h2 : j < L.length), L[j] ≠ s) : ix L s = L.length := by
  unfold ix
  rw [List.findIdx_eq_length]
  intro x hx
  obtain ⟨j, hj, rfl⟩ := List.getElem_of_mem hx
  simpa using hn j hj
theorem ixI_miss {L : List ByteArray} {s : ByteArray} (hn : ∀ j (h2 : j < L.length), L[j] ≠ s) : ixI L s = -1 := by
  unfold ixI; rw [ix_miss hn, if_neg (by omega)]
theorem ix_at {L : List ByteArray} {s : ByteArray} (h : ix L s < L.length) : L[ix L s] = s := by
  have := List.findIdx_getElem (xs := L) (p := fun x => decide (x = s)) (w := h)
  exact of_decide_eq_true this
theorem ix_lt {L : List ByteArray} {s : ByteArray} : ix L s < L.length ↔ s ∈ L := by
  unfold ix
  rw [List.findIdx_lt_length]
  simp
theorem str_ne {q b : ByteArray} (h : q ≠ b) : (q.toList == b.toList) = false := by
  have h2 : ¬ q.toList = b.toList := fun e => h (Dg.bext (by rw [← Lib.toList_data, ← Lib.toList_data]; exact e))
  simpa using h2
def inB (L : List ByteArray) (s : ByteArray) : Bool := L.any (fun x => decide (x = s))
theorem inB_iff {L : List ByteArray} {s : ByteArray} : inB L s = true ↔ s ∈ L := by simp [inB]
theorem inB_yes {L : List ByteArray} {s : ByteArray} (h : s ∈ L) : inB L s = true := inB_iff.2 h
theorem inB_no {L : List ByteArray} {s : ByteArray} (h : ¬ s ∈ L) : inB L s = false := by
  cases e : inB L s
  · rfl
  · exact absurd (inB_iff.1 e) h
end Nm
def nms (X : List StV) : List ByteArray := X.map StV.nm
theorem nms_len (X : List StV) : (nms X).length = X.length := by simp [nms]
theorem nms_at (X : List StV) (j : Nat) (h : j < X.length) : (nms X)[j]'(by rw [nms_len]; exact h) = X[j].nm := by simp [nms]
/-- A definition's row of steps, as it lies. -/
def StRow (w : World) (D : DfV) : Prop := SlN w D.st.A D.st.xs.length D.st.c 13 (D.st.xs.flatMap stC)
theorem StRow.below {w w' : World} {D : DfV} (h : StRow w D) (hb : Below w.heap.size w w') : StRow w' D := SlN.below h hb
set_option maxRecDepth 100000 in
set_option maxHeartbeats 4000000 in
theorem index25_any (D : DfV) (s : ByteArray) (w : World) (hst : StRow w D) (hl : D.st.xs.length ≤ 1000) :
    Calls Try.prog 34 #[.agg #[.string D.nm, .string D.tx, .slice D.st.A D.st.xs.length D.st.c], .string s] w fun e w' => e = .returned (.int .i64 (Nm.ixI (nms D.st.xs) s)) ∧ Below w.heap.size w w' := by
  obtain ⟨R, hR⟩ : ∃ R, Nm.ixI (nms D.st.xs) s = R := ⟨_, rfl⟩
  have HR := hid hR
  rw [hR]
  have hb1 := bw_a (Below.refl _ w) (.cells #[.string D.nm, .string D.tx, .slice D.st.A D.st.xs.length D.st.c] 24)
  have hk1 := Blk.new w 24 #[.string D.nm, .string D.tx, .slice D.st.A D.st.xs.length D.st.c]
  obtain ⟨n, hn⟩ : ∃ n, D.st.xs.length = n := ⟨_, rfl⟩
  obtain ⟨SA, hSA⟩ : ∃ SA, D.st.A = SA := ⟨_, rfl⟩
  have HN := hid hn
  have HSA := hid hSA
  unfold StRow at hst
  rw [hn, hSA] at hb1 hk1 hst ⊢
  rw [hn] at hl
  have HB1 := hid hb1
  have HK1 := hid hk1
  have HS1 := hid (hst.below hb1)
  clear hn hSA hb1 hk1 hst hR
  go_enter Try.func34, Try.ntmps34
  go_wp2_with fail
  obtain ⟨w1, hw1⟩ : ∃ w1, w.alloc (.cells #[.string D.nm, .string D.tx, .slice SA n D.st.c] 24) = w1 := ⟨_, rfl⟩
  rw [hw1] at HB1 HK1 HS1 ⊢
  clear hw1
  obtain ⟨g0, hg0⟩ : ∃ g0, w.heap.size = g0 := ⟨_, rfl⟩
  rw [hg0] at HK1 ⊢
  go_loopw [5] (fun i wr => ∃ k : Nat, k ≤ n ∧ i = .int .i64 (k : Int) ∧ (∀ j (hj : j < k) (hj2 : j < (nms D.st.xs).length), (nms D.st.xs)[j] ≠ s) ∧ wr = w1) (fun i _ => n - (intOf i).toNat)
  case atStart => exact ⟨0, by omega, rfl, (fun j hj => by omega), rfl⟩
  case round =>
    obtain ⟨k, hk, rfl, hne, rfl⟩ := hrel
    have HNE := hid hne
    clear hne
    have d2 := HK1.out.cell 2
    simp only [List.getElem?_toArray, List.getElem?_cons_zero, List.getElem?_cons_succ] at d2
    by_cases hlt : k < n
    · have hkl : k < D.st.xs.length := by have := HN.out; omega
      obtain ⟨g, o, hA, hg, e0, -⟩ := st_at (X := D.st.xs) (by have := HS1.out; exact this) k hkl
      have hkn := nms_at D.st.xs k hkl
      have hkl2 : k < (nms D.st.xs).length := by rw [nms_len]; exact hkl
      have HHIT := hid (fun (h : (nms D.st.xs)[k] = s) => Nm.ixI_hit hkl2 h HNE.out)
      have HNX := hid (fun (h : (nms D.st.xs)[k] ≠ s) => (show ∀ j (hj : j < k + 1) (hj2 : j < (nms D.st.xs).length), (nms D.st.xs)[j] ≠ s from fun j hj hj2 => by
        rcases Nat.lt_or_ge j k with h2 | h2
        · exact HNE.out j h2 hj2
        · obtain rfl : j = k := by omega
          exact h))
      rw [hkn] at HHIT HNX
      clear hkn hkl2
      generalize D.st.xs[k].nm = x at *
      rw [hA] at d2
      clear hA
      have hki : (k : Int) < (n : Int) := by omega
      have hk0 : (0 : Int) ≤ (k : Int) := by omega
      by_cases hx : x = s
      · subst hx
        have HH := hid (HHIT.out rfl)
        clear HHIT HNX
        go_wp2_with fail
        go_ret
        exact ⟨by rw [← HR.out, HH.out]; rfl, by first | exact HB1.out | (rw [hg0] at HB1; exact HB1.out)⟩
      · have hxb := Nm.str_ne hx
        have HH := hid (HNX.out hx)
        clear HHIT HNX hx
        go_wp2_with fail
        go_roundw
        case rel => exact ⟨k + 1, by omega, by go_num, HH.out, (by first | trivial | rfl)⟩
        case measure => simp [intOf] <;> omega
    · obtain rfl : k = n := by omega
      have hnk : ¬ (k : Int) < (k : Int) := by omega
      have HH := hid (Nm.ixI_miss (L := nms D.st.xs) (s := s) (fun j hj => HNE.out j (by rw [nms_len, HN.out] at hj; exact hj) hj))
      go_wp2_with fail
      go_ret
      exact ⟨by rw [← HR.out, HH.out]; rfl, by first | exact HB1.out | (rw [hg0] at HB1; exact HB1.out)⟩
set_option maxRecDepth 100000 in
set_option maxHeartbeats 4000000 in
theorem among25_any (L : List ByteArray) (n : Nat) (A : Option Addr) (c : Nat) (s : ByteArray) (w : World) (hn : L.length = n) (hl : n ≤ 1000000) (hs : SlN w A n c 1 (L.flatMap svC)) :
    Calls Try.prog 35 #[.slice A n c, .string s] w fun e w' => e = .returned (.bool (Nm.inB L s)) ∧ w = w' := by
  obtain ⟨R, hR⟩ : ∃ R, Nm.inB L s = R := ⟨_, rfl⟩
  have HR := hid hR
  rw [hR]
  have HN := hid hn
  have HS := hid hs
  clear hn hs hR
  go_enter Try.func35, Try.ntmps35
  go_wp2_with fail
  obtain ⟨w1, hw1⟩ : ∃ w1, w1 = w := ⟨_, rfl⟩
  go_loopw [5] (fun i wr => ∃ k : Nat, k ≤ n ∧ i = .int .i64 (k : Int) ∧ (∀ j (hj : j < k) (hj2 : j < L.length), L[j] ≠ s) ∧ wr = w) (fun i _ => n - (intOf i).toNat)
  case atStart => exact ⟨0, by omega, rfl, (fun j hj => by omega), rfl⟩
  case round =>
    obtain ⟨k, hk, rfl, hne, rfl⟩ := hrel
    have HNE := hid hne
    clear hne
    by_cases hlt : k < n
    · have hkl : k < L.length := by have := HN.out; omega
      obtain ⟨g, o, hA, hg, e0⟩ := row_cells (m := 1) (fun _ => rfl) (by omega) HS.out k hkl
      have e0 := e0 0 (by omega)
      simp only [Nat.mul_one, Nat.add_zero, svC, List.getElem?_cons_zero] at e0
      have HNX := hid (fun (h : L[k] ≠ s) => (show ∀ j (hj : j < k + 1) (hj2 : j < L.length), L[j] ≠ s from fun j hj hj2 => by
        rcases Nat.lt_or_ge j k with h2 | h2
        · exact HNE.out j h2 hj2
        · obtain rfl : j = k := by omega
          exact h))
      have HIN := hid (List.getElem_mem hkl)
      generalize L[k] = x at *
      subst hA
      have hki : (k : Int) < (n : Int) := by omega
      have hk0 : (0 : Int) ≤ (k : Int) := by omega
      by_cases hx : x = s
      · subst hx
        clear HNX
        go_wp2_with fail
        go_ret
        exact ⟨by rw [← HR.out, Nm.inB_yes HIN.out]; rfl, rfl⟩
      · have hxb := Nm.str_ne hx
        have HH := hid (HNX.out hx)
        clear HNX hx
        go_wp2_with fail
        go_roundw
        case rel => exact ⟨k + 1, by omega, by go_num, HH.out, (by first | trivial | rfl)⟩
        case measure => simp [intOf] <;> omega
    · obtain rfl : k = n := by omega
      have hnk : ¬ (k : Int) < (k : Int) := by omega
      have HH := hid (show ¬ s ∈ L from fun h => by
        obtain ⟨j, hj, e⟩ := List.getElem_of_mem h
        exact HNE.out j (by have := HN.out; omega) hj e)
      go_wp2_with fail
      go_ret
      exact ⟨by rw [← HR.out, Nm.inB_no HH.out]; rfl, rfl⟩
/-- A row of numbers. -/
def nvC (x : Nat) : List Value := [.int .i64 (x : Int)]
set_option maxRecDepth 100000 in
set_option maxHeartbeats 4000000 in
theorem has25_any (L : List Nat) (n : Nat) (A : Option Addr) (c : Nat) (s : Nat) (w : World) (hn : L.length = n) (hl : n ≤ 1000000) (hs : SlN w A n c 1 (L.flatMap nvC)) :
    Calls Try.prog 39 #[.slice A n c, .int .i64 (s : Int)] w fun e w' => e = .returned (.bool (decide (s ∈ L))) ∧ w = w' := by
  obtain ⟨R, hR⟩ : ∃ R, decide (s ∈ L) = R := ⟨_, rfl⟩
  have HR := hid hR
  rw [hR]
  have HN := hid hn
  have HS := hid hs
  clear hn hs hR
  go_enter Try.func39, Try.ntmps39
  go_wp2_with fail
  go_loopw [5] (fun i wr => ∃ k : Nat, k ≤ n ∧ i = .int .i64 (k : Int) ∧ (∀ j (hj : j < k) (hj2 : j < L.length), L[j] ≠ s) ∧ wr = w) (fun i _ => n - (intOf i).toNat)
  case atStart => exact ⟨0, by omega, rfl, (fun j hj => by omega), rfl⟩
  case round =>
    obtain ⟨k, hk, rfl, hne, rfl⟩ := hrel
    have HNE := hid hne
    clear hne
    by_cases hlt : k < n
    · have hkl : k < L.length := by have := HN.out; omega
      obtain ⟨g, o, hA, hg, e0⟩ := row_cells (m := 1) (fun _ => rfl) (by omega) HS.out k hkl
      have e0 := e0 0 (by omega)
      simp only [Nat.mul_one, Nat.add_zero, nvC, List.getElem?_cons_zero] at e0
      have HNX := hid (fun (h : L[k] ≠ s) => (show ∀ j (hj : j < k + 1) (hj2 : j < L.length), L[j] ≠ s from fun j hj hj2 => by
        rcases Nat.lt_or_ge j k with h2 | h2
        · exact HNE.out j h2 hj2
        · obtain rfl : j = k := by omega
          exact h))
      have HIN := hid (List.getElem_mem hkl)
      generalize L[k] = x at *
      subst hA
      have hki : (k : Int) < (n : Int) := by omega
      have hk0 : (0 : Int) ≤ (k : Int) := by omega
      by_cases hx : x = s
      · subst hx
        clear HNX
        go_wp2_with fail
        go_ret
        exact ⟨by rw [← HR.out, decide_eq_true HIN.out]; rfl, rfl⟩
      · have hxb : ¬ (x : Int) = (s : Int) := by omega
        have HH := hid (HNX.out hx)
        clear HNX hx
        go_wp2_with fail
        go_roundw
        case rel => exact ⟨k + 1, by omega, by go_num, HH.out, (by first | trivial | rfl)⟩
        case measure => simp [intOf] <;> omega
    · obtain rfl : k = n := by omega
      have hnk : ¬ (k : Int) < (k : Int) := by omega
      have HH := hid (show ¬ s ∈ L from fun h => by
        obtain ⟨j, hj, e⟩ := List.getElem_of_mem h
        exact HNE.out j (by have := HN.out; omega) hj e)
      go_wp2_with fail
      go_ret
      exact ⟨by rw [← HR.out, decide_eq_false HH.out]; rfl, rfl⟩
/-- May a text be a name? -/
def rgB (s : ByteArray) : Bool := plB s.data.toList && decide (s.size ≤ 64)
set_option maxRecDepth 100000 in
set_option maxHeartbeats 4000000 in
theorem right25_any (s : ByteArray) (w : World) (hl : s.size ≤ 9223372036854775807) :
    Calls Try.prog 14 #[.string s] w fun e w' => e = .returned (.bool (rgB s)) ∧ w = w' := by
  have hC := hid (sPlain_any s s.data.toList w rfl (by rw [← Lib.size_eq]; exact hl))
  obtain ⟨p, hp⟩ : ∃ p, plB s.data.toList = p := ⟨_, rfl⟩
  have hr : rgB s = (p && decide (s.size ≤ 64)) := by unfold rgB; rw [hp]
  rw [hp] at hC
  rw [hr]
  clear hp hr
  by_cases h : s.size ≤ 64
  · have hi : (s.size : Int) ≤ 64 := by omega
    rw [decide_eq_true h]
    go_enter Try.func14, Try.ntmps14
    go_wp2_with fail
    refine hC.out.mono ?_
    rintro e w1 ⟨rfl, rfl⟩
    go_wp2_with fail
    go_ret
    exact ⟨by simp, rfl⟩
  · have hi : ¬ (s.size : Int) ≤ 64 := by omega
    rw [decide_eq_false h]
    go_enter Try.func14, Try.ntmps14
    go_wp2_with fail
    go_ret
    exact ⟨by simp, rfl⟩
set_option maxRecDepth 100000 in
set_option maxHeartbeats 4000000 in
theorem rright25_any (s : ByteArray) (w : World) (hl : s.size ≤ 9223372036854775807) :
    Calls Try.prog 15 #[.string s] w fun e w' => e = .returned (.bool (rgB s)) ∧ w = w' := by
  have hC := hid (rPlain_any s s.data.toList w rfl (by rw [← Lib.size_eq]; exact hl))
  obtain ⟨p, hp⟩ : ∃ p, plB s.data.toList = p := ⟨_, rfl⟩
  have hr : rgB s = (p && decide (s.size ≤ 64)) := by unfold rgB; rw [hp]
  rw [hp] at hC
  rw [hr]
  clear hp hr
  have hi : decide ((s.size : Int) ≤ 64) = decide (s.size ≤ 64) := by rw [decide_eq_decide]; omega
  go_enter Try.func15, Try.ntmps15
  go_wp2_with fail
  refine hC.out.mono ?_
  rintro e w1 ⟨rfl, rfl⟩
  cases p
  · go_wp2_with fail
    go_ret
    exact ⟨by simp, rfl⟩
  · go_wp2_with fail
    go_ret
    exact ⟨by simp [hi], rfl⟩
end Go.Proofs.Ytejdlhjbakndaaa
