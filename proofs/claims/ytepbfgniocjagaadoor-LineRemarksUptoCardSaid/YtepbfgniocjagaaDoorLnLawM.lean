/- LineRemarks: a walk. -/
import Derived.Test.YtepbfgniocjagaaDoorLnL
import Derived.Test.YtepbfgniocjagaaDoorLnQ
import Derived.BigQuiet
import Derived.Deep.QuietTactic
set_option linter.unusedVariables false
namespace Go.Proofs.YtepbfgniocjagaaDoor
open Go.RowKit
theorem lns_len (bs : List UInt8) : (lnsL bs).length ≤ bs.length + 1 := by
  have h2 := cntL_spl bs.length bs (Nat.le_refl _)
  have h3 := cntL_le bs
  omega
theorem allL_len (bs : List UInt8) : (allL bs).1.length ≤ bs.length + 1 := by
  have h1 := acR_len bs (lnsL bs).length
  have h2 := lns_len bs
  unfold allL
  split
  · simp
  · split
    · simp
    · simp only; omega
theorem rw_num : ∀ (Y : List (List UInt8)) (n : Nat), ∀ r ∈ rwL n Y, r.1 ≤ n + Y.length
  | [], n, r, h => by simp [rwL] at h
  | l :: t, n, r, h => by
    rw [rwL, List.mem_append] at h
    rw [List.length_cons]
    rcases h with h | h
    · unfold lnOne at h
      split at h
      · simp at h
      · simp at h; rw [h]; simp only; omega
    · have := rw_num t (n + 1) r h; omega
theorem al_num (bs : List UInt8) : ∀ r ∈ (allL bs).1, r.1 ≤ bs.length + 1 := by
  intro r h
  have hl := lns_len bs
  rcases allL_lines (bs := bs) with ⟨-, -, e⟩ | ⟨-, -, a, e⟩ | ⟨-, a, e⟩
  · rw [e] at h; have := rw_num _ _ r h; omega
  · rw [e] at h; simp at h
  · rw [e] at h; simp at h
theorem sL_get (X : List (List UInt8)) (j : Nat) (hj : j < X.length) : (sL X)[j]? = some (.string ⟨X[j].toArray⟩) := by
  unfold sL
  rw [List.getElem?_map, List.getElem?_eq_getElem hj]; rfl
/-- Does a line hold a quote? -/
def qtB (l : List UInt8) : Bool := l.any fun c => decide (c.toNat = 34)
theorem qt_snoc (l : List UInt8) (c : UInt8) : qtB (l ++ [c]) = (qtB l || decide (c.toNat = 34)) := by simp [qtB]
theorem qt_no {l : List UInt8} (h : qtB l = false) : ∀ c ∈ l, c.toNat ≠ 34 := by
  intro c hc e
  have : qtB l = true := by unfold qtB; rw [List.any_eq_true]; exact ⟨c, hc, by simp [e]⟩
  rw [h] at this; cases this
/-- The text that is made: so many lines of it. -/
def moL (q : Bool) (rs : List UInt8) (a : Nat) (Y : List (List UInt8)) : Nat → List UInt8
  | 0 => []
  | k + 1 => moL q rs a Y k ++ (Y.getD k []) ++ (if k = a ∧ q = false then 32 :: 35 :: rs ++ [10, 32, 32, 32] else []) ++ [10]
theorem mo_q (rs : List UInt8) (a : Nat) (Y : List (List UInt8)) : ∀ k, k ≤ Y.length → moL true rs a Y k = (Y.take k).flatMap fun l => l ++ [10]
  | 0, _ => by simp [moL]
  | k + 1, h => by
    rw [moL, mo_q rs a Y k (by omega), if_neg (by simp), List.take_succ_eq_append_getElem (by omega), List.flatMap_append, List.getD_eq_getElem?_getD, List.getElem?_eq_getElem (by omega)]
    simp
theorem mo_pre (rs : List UInt8) (a : Nat) (Y : List (List UInt8)) : ∀ k, k ≤ Y.length → k ≤ a → moL false rs a Y k = (Y.take k).flatMap fun l => l ++ [10]
  | 0, _, _ => by simp [moL]
  | k + 1, h, h2 => by
    rw [moL, mo_pre rs a Y k (by omega) (by omega), if_neg (by omega), List.take_succ_eq_append_getElem (by omega), List.flatMap_append, List.getD_eq_getElem?_getD, List.getElem?_eq_getElem (by omega)]
    simp
theorem ins_split (rem : List UInt8) : ∀ (k : Nat) (Y : List (List UInt8)) (hk : k < Y.length), insR rem k Y = Y.take k ++ (Y[k] ++ 32 :: 35 :: rem) :: [32, 32, 32] :: Y.drop (k + 1)
  | _, [], h => absurd h (Nat.not_lt_zero _)
  | 0, l :: r, _ => by simp [insR]
  | k + 1, l :: r, h => by rw [insR, ins_split rem k r (by simpa using h)]; simp
theorem mo_post (rs : List UInt8) (a : Nat) (Y : List (List UInt8)) (ha : a < Y.length) : ∀ d, a + 1 + d ≤ Y.length → moL false rs a Y (a + 1 + d) = ((Y.take a).flatMap fun l => l ++ [10]) ++ ((Y[a] ++ 32 :: 35 :: rs) ++ [10]) ++ ([32, 32, 32] ++ [10]) ++ (((Y.drop (a + 1)).take d).flatMap fun l => l ++ [10])
  | 0, _ => by
    rw [Nat.add_zero, moL, mo_pre rs a Y a (by omega) (Nat.le_refl _), if_pos ⟨rfl, rfl⟩, List.getD_eq_getElem?_getD, List.getElem?_eq_getElem ha]
    simp
  | d + 1, h => by
    rw [show a + 1 + (d + 1) = (a + 1 + d) + 1 from rfl, moL, mo_post rs a Y ha d (by omega), if_neg (by omega), List.take_succ_eq_append_getElem (by rw [List.length_drop]; omega), List.flatMap_append, List.getD_eq_getElem?_getD, List.getElem?_eq_getElem (by omega), List.getElem_drop]
    simp [List.append_assoc]
theorem mo_all (rs : List UInt8) (a : Nat) (Y : List (List UInt8)) (ha : a < Y.length) : moL false rs a Y Y.length = (insR rs a Y).flatMap fun l => l ++ [10] := by
  have h := mo_post rs a Y ha (Y.length - (a + 1)) (by omega)
  rw [show a + 1 + (Y.length - (a + 1)) = Y.length by omega, List.take_of_length_le (l := Y.drop (a + 1)) (by rw [List.length_drop]; omega)] at h
  rw [h, ins_split rs a Y ha]
  simp [List.append_assoc]
/-- What comes of it: as many lines, alike but for numbers. -/
theorem mo_like {q : Bool} {bs rs : List UInt8} {a : Nat} (ha : a < (lnsL bs).length) (hq : q = qtB (lnsL bs)[a]) (hv : VT rs) (hd : dirtyL rs = false) (h10 : ∀ c ∈ rs, c.toNat ≠ 10) :
    (allL (moL q rs a (lnsL bs) (lnsL bs).length)).2.1 = (allL bs).2.1 ∧ nrL (allL bs).1 (allL (moL q rs a (lnsL bs) (lnsL bs).length)).1 := by
  cases q with
  | true => rw [mo_q rs a _ _ (Nat.le_refl _), List.take_of_length_le (Nat.le_refl _)]; exact all_feeds bs
  | false => rw [mo_all rs a _ ha]; exact all_remark ha (qt_no hq.symm) hv hd h10
theorem lns_sum : ∀ (n : Nat) (bs : List UInt8), bs.length ≤ n → ((lnsL bs).map List.length).sum ≤ bs.length
  | _, [], _ => by rw [spl_nil]; simp
  | 0, c :: r, h => by simp at h
  | n + 1, c :: r, h => by
    have hb := lnB_lt c r
    have h1 := lns_sum n (lnB (c :: r)) (by simp at h; omega)
    rw [spl_cons, List.map_cons, List.sum_cons]
    rcases ln_ways (c :: r) with ⟨g1, g2, -⟩ | ⟨g1, -⟩
    · rw [g2] at h1 ⊢; rw [g1]; simp only [List.length_nil] at h1; omega
    · have := congrArg List.length g1
      simp only [List.length_append, List.length_cons] at this ⊢
      omega
theorem mo_len (q : Bool) (rs : List UInt8) (a : Nat) (Y : List (List UInt8)) : ∀ k, k ≤ Y.length → (moL q rs a Y k).length ≤ ((Y.take k).map List.length).sum + k + (if k ≤ a then 0 else rs.length + 6)
  | 0, _ => by simp [moL]
  | k + 1, h => by
    have h1 := mo_len q rs a Y k (by omega)
    have h2 : Y.getD k [] = Y[k] := by rw [List.getD_eq_getElem?_getD, List.getElem?_eq_getElem (by omega)]; rfl
    rw [moL, List.length_append, List.length_append, List.length_append, h2, List.take_succ_eq_append_getElem (by omega), List.map_append, List.sum_append]
    simp only [List.map_cons, List.map_nil, List.sum_cons, List.sum_nil]
    by_cases hka : k = a
    · subst hka
      rw [if_pos (Nat.le_refl k)] at h1
      rw [if_neg (by omega : ¬ k + 1 ≤ k)]
      split
      · simp only [List.length_append, List.length_cons, List.length_nil]; omega
      · simp only [List.length_cons, List.length_nil]; omega
    · rw [if_neg (fun h => hka h.1)]
      simp only [List.length_cons, List.length_nil]
      by_cases hle : k + 1 ≤ a
      · rw [if_pos hle]; rw [if_pos (by omega)] at h1; omega
      · rw [if_neg hle]; rw [if_neg (by omega)] at h1; omega
theorem sum_take (Y : List (List UInt8)) (k : Nat) : ((Y.take k).map List.length).sum ≤ (Y.map List.length).sum := by
  have h : (Y.map List.length).sum = ((Y.take k).map List.length).sum + ((Y.drop k).map List.length).sum := by
    rw [← List.sum_append, ← List.map_append, List.take_append_drop]
  omega
theorem tk_snoc {L : List UInt8} {j : Nat} {c : UInt8} {r : List UInt8} (hd : L.drop j = c :: r) : L.take (j + 1) = L.take j ++ [c] := by
  have hk : j < L.length := by have := congrArg List.length hd; simp at this; omega
  have hc : L[j] = c := by
    have := List.drop_eq_getElem_cons hk
    rw [hd] at this; injection this with h _; exact h.symm
  rw [List.take_succ_eq_append_getElem hk, hc]
theorem bstr_ne2 {q b : ByteArray} (h : q ≠ b) : (q.toList == b.toList) = false := by
  have h2 : ¬ q.toList = b.toList := fun e => h (str_ext (bs := b.toList) (by rw [← Lib.toList_data]; exact e) (by rw [Lib.toList_data]))
  simpa using h2
set_option maxRecDepth 100000 in
set_option maxHeartbeats 16000000 in
theorem lineRemarks_early (s rm : ByteArray) (at' : Int) (w : World) (hl : s.size ≤ 1048576) (h : 1000 < s.size ∨ 100 < rm.size ∨ at' < 0 ∨ ((lnsL s.data.toList).length : Int) ≤ at') :
    Calls Tryd.prog 3 #[.string s, .string rm, .int .i64 at'] w fun e w' => e = .returned (.bool true) ∧ Below w.heap.size w w' := by
  have HLV := hid (live17_any w)
  have HSP := hid (fun w => rsplit17_any s s.data.toList w rfl (by rw [← Lib.size_eq]; omega))
  generalize lnsL s.data.toList = Y at *
  generalize hn : Y.length = n at *
  by_cases c1 : 1000 < s.size
  · have c1i : (1000 : Int) < (s.size : Int) := by omega
    clear h
    go_enter Tryd.func3, Tryd.ntmps3
    go_wp2_with fail
    refine HLV.out.mono ?_
    rintro e w1 ⟨rfl, hb1⟩
    have HB1 := hid hb1
    clear hb1
    go_wp2_with fail
    refine (HSP.out _).mono ?_
    rintro e w2 ⟨v, rfl, hr2, hb2⟩
    obtain ⟨A, c, rfl⟩ := row_sl hr2
    have HB2 := hid (bw_t HB1.out hb2)
    clear hr2 hb2
    go_wp2_with fail
    go_ret
    exact ⟨rfl, HB2.out⟩
  have c1i : ¬ (1000 : Int) < (s.size : Int) := by omega
  by_cases c2 : 100 < rm.size
  · have c2i : (100 : Int) < (rm.size : Int) := by omega
    clear h
    go_enter Tryd.func3, Tryd.ntmps3
    go_wp2_with fail
    refine HLV.out.mono ?_
    rintro e w1 ⟨rfl, hb1⟩
    have HB1 := hid hb1
    clear hb1
    go_wp2_with fail
    refine (HSP.out _).mono ?_
    rintro e w2 ⟨v, rfl, hr2, hb2⟩
    obtain ⟨A, c, rfl⟩ := row_sl hr2
    have HB2 := hid (bw_t HB1.out hb2)
    clear hr2 hb2
    go_wp2_with fail
    go_ret
    exact ⟨rfl, HB2.out⟩
  have c2i : ¬ (100 : Int) < (rm.size : Int) := by omega
  by_cases c3 : at' < 0
  · clear h
    go_enter Tryd.func3, Tryd.ntmps3
    go_wp2_with fail
    refine HLV.out.mono ?_
    rintro e w1 ⟨rfl, hb1⟩
    have HB1 := hid hb1
    clear hb1
    go_wp2_with fail
    refine (HSP.out _).mono ?_
    rintro e w2 ⟨v, rfl, hr2, hb2⟩
    obtain ⟨A, c, rfl⟩ := row_sl hr2
    have HB2 := hid (bw_t HB1.out hb2)
    clear hr2 hb2
    go_wp2_with fail
    go_ret
    exact ⟨rfl, HB2.out⟩
  have c4 : (n : Int) ≤ at' := by omega
  clear h
  go_enter Tryd.func3, Tryd.ntmps3
  go_wp2_with fail
  refine HLV.out.mono ?_
  rintro e w1 ⟨rfl, hb1⟩
  have HB1 := hid hb1
  clear hb1
  go_wp2_with fail
  refine (HSP.out _).mono ?_
  rintro e w2 ⟨v, rfl, hr2, hb2⟩
  obtain ⟨A, c, rfl⟩ := row_sl hr2
  have HB2 := hid (bw_t HB1.out hb2)
  clear hr2 hb2
  go_wp2_with fail
  go_ret
  exact ⟨rfl, HB2.out⟩
set_option maxRecDepth 100000 in
set_option maxHeartbeats 16000000 in
theorem lineRemarks_main (s rm : ByteArray) (k : Nat) (w : World) (bs rs : List UInt8) (hs : s.data.toList = bs) (hr : rm.data.toList = rs) (hl : bs.length ≤ 1000) (hl2 : rs.length ≤ 100) (hk : k < (lnsL bs).length) :
    Calls Tryd.prog 3 #[.string s, .string rm, .int .i64 (k : Int)] w fun e w' => e = .returned (.bool true) ∧ Below w.heap.size w w' := by
  have hsz : s.size = bs.length := by rw [Lib.size_eq, hs]
  have hrz : rm.size = rs.length := by rw [Lib.size_eq, hr]
  have HLV := hid (live17_any w)
  have HSP := hid (fun w => rsplit17_any s bs w hs (by omega))
  have HS2 := hid (fun (t : ByteArray) (ts : List UInt8) w (h : t.data.toList = ts) (h2 : ts.length ≤ 1000) => rsplit17_any t ts w h (by omega))
  have HRA := hid (fun (t : ByteArray) w (h : t.data.toList = 35 :: rs) => rall17_any t (35 :: rs) w h (by simp; omega))
  have HA1 := hid (fun w => lall_any s bs w hs (by omega))
  have HA2 := hid (fun (t : ByteArray) (ts : List UInt8) w (h : t.data.toList = ts) (h2 : ts.length ≤ 1000000) => lall_any t ts w h h2)
  unfold LAR at HA1 HA2
  unfold LDR at HRA
  have HLIKE := hid (fun (Z : List (List UInt8)) (hZ : lnsL bs = Z) (hkz : k < Z.length) (q : Bool) (hq : q = qtB Z[k]) (hv : VT rs) (hd : dirtyL rs = false) (h10 : ∀ c ∈ rs, c.toNat ≠ 10) => show (allL (moL q rs k Z Z.length)).2.1 = (allL bs).2.1 ∧ nrL (allL bs).1 (allL (moL q rs k Z Z.length)).1 by
    subst hZ; exact mo_like hkz hq hv hd h10)
  have hnl := lns_len bs
  have hlm : ∀ l ∈ lnsL bs, l.length ≤ 1000 := fun l hl' => by
    obtain ⟨j, hj, rfl⟩ := List.getElem_of_mem hl'
    have h := atLn_le bs j
    unfold atLn at h
    rw [List.getD_eq_getElem?_getD, List.getElem?_eq_getElem hj] at h
    simp only [Option.getD_some] at h
    omega
  have hml : ∀ (q : Bool) j, j ≤ (lnsL bs).length → (moL q rs k (lnsL bs) j).length ≤ bs.length + j + (rs.length + 6) := fun q j hj => by
    have h1 := mo_len q rs k (lnsL bs) j hj
    have h2 := sum_take (lnsL bs) j
    have h3 := lns_sum bs.length bs (Nat.le_refl _)
    split at h1 <;> omega
  have HML := hid hml
  have HLM := hid hlm
  have HROK := hid (fun (X : List (Nat × Nat × List UInt8)) (a : Int) (h : allL (35 :: rs) = (X, 0, a)) (h10 : ∀ c ∈ rs, c.toNat ≠ 10) => rem_ok h h10)
  have HRS := hid hr
  clear hs hlm hml
  obtain ⟨Y, hY⟩ : ∃ Y, lnsL bs = Y := ⟨_, rfl⟩
  have HYB := hid hY
  rw [hY] at hk hnl HLM HSP HML
  clear hY
  obtain ⟨n, hn⟩ : ∃ n, Y.length = n := ⟨_, rfl⟩
  have HN := hid hn
  rw [hn] at hk hnl HSP HML
  clear hn
  have hc1 : ¬ (1000 : Int) < (s.size : Int) := by omega
  have hc2 : ¬ (100 : Int) < (rm.size : Int) := by omega
  have hc3 : ¬ (k : Int) < 0 := by omega
  have hc4 : ¬ (n : Int) ≤ (k : Int) := by omega
  have hk0 : (0 : Int) ≤ (k : Int) := by omega
  have hkn : (k : Int) < (n : Int) := by omega
  go_enter Tryd.func3, Tryd.ntmps3
  go_wp2_with fail
  refine HLV.out.mono ?_
  rintro e w1 ⟨rfl, hb1⟩
  have HB1 := hid hb1
  clear hb1
  go_wp2_with fail
  refine (HSP.out _).mono ?_
  rintro e w2 ⟨v, rfl, hr2, hb2⟩
  obtain ⟨A, c, rfl⟩ := row_sl hr2
  have HB2 := hid (bw_t HB1.out hb2)
  have HR2 := hid hr2
  clear hr2 hb2
  have hsum1 : ¬ 9223372036854775807 < 1 + rm.size := by omega
  go_wp2_with fail
  refine (HRA.out _ _ (by rw [app_data, HRS.out]; rfl)).mono ?_
  rintro e w3 ⟨A3, c3, rfl, -, hb3⟩
  have HB3 := hid (bw_t HB2.out hb3)
  have HR3 := hid (own_below HR2.out hb3)
  clear hb3
  obtain ⟨RA, hRA⟩ : ∃ RA, allL (35 :: rs) = RA := ⟨_, rfl⟩
  rw [hRA]
  obtain ⟨X, er, ea⟩ := RA
  simp only
  have HRX := hid hRA
  clear hRA
  by_cases he : er = 0
  rotate_left
  · go_wp2_with fail
    go_ret
    exact ⟨rfl, bw_a HB3.out _⟩
  subst he
  have hz1 : (⟨#[35]⟩ ++ rm : ByteArray).size = 1 + rm.size := by rw [app_size]; rfl
  have hsum2 : ¬ 9223372036854775807 < 1 + rm.size + 1 := by omega
  go_wp2_with fail
  refine (HS2.out _ (35 :: rs ++ [120]) _ (by rw [app_data, app_data, HRS.out]; rfl) (by simp; omega)).mono ?_
  rintro e w4 ⟨v4, rfl, hr4, hb4⟩
  have hs4 : lnsL (35 :: rs ++ [120]) = lnA (35 :: rs ++ [120]) :: lnsL (lnB (35 :: rs ++ [120])) := by rw [List.cons_append, spl_cons]
  have h104 := no10 _ (35 :: rs ++ [120]) (Nat.le_refl _)
  rw [hs4] at hr4 h104
  obtain ⟨n4, hn4⟩ : ∃ n4, (lnA (35 :: rs ++ [120]) :: lnsL (lnB (35 :: rs ++ [120]))).length = n4 := ⟨_, rfl⟩
  have hn40 : 0 < n4 := by rw [← hn4]; simp
  have hn4i : (0 : Int) < (n4 : Int) := by omega
  rw [hn4] at hr4
  clear hn4
  obtain ⟨A4, c4, rfl⟩ := row_sl hr4
  have h104 := h104 _ (List.mem_cons_self ..)
  have H104 := hid h104
  clear h104
  obtain ⟨g4, rfl⟩ := row_at hr4 (j := 0) hn40
  have x4 := (hr4.cellAt 0 (by omega)).trans (sL_get _ 0 (by simp))
  simp only [List.getElem_cons_zero] at x4
  have hgz4 := (hr4.lt g4 rfl).2
  have hb3' := bw_a HB3.out (.cells #[.int .i64 0, .int .i64 ea] 28)
  have HB4 := hid (bw_t hb3' hb4)
  have HR4 := hid (own_below (own_below HR3.out (bw_a (Below.refl _ w3) (.cells #[.int .i64 0, .int .i64 ea] 28))) hb4)
  clear hr4 hb4 hs4 hb3'
  obtain ⟨L4, hL4⟩ : ∃ L4, lnA (35 :: rs ++ [120]) = L4 := ⟨_, rfl⟩
  rw [hL4] at x4 H104
  clear hL4
  obtain ⟨z4, hz4⟩ : ∃ z4 : ByteArray, ⟨L4.toArray⟩ = z4 := ⟨_, rfl⟩
  rw [hz4] at x4
  have HZ4 := hid hz4
  clear hz4
  by_cases hq0 : z4 = ⟨#[35]⟩ ++ rm ++ ⟨#[120]⟩
  rotate_left
  · have hqb := bstr_ne2 hq0
    go_wp2_with fail
    go_ret
    exact ⟨rfl, HB4.out⟩
  have HL4 := hid (show L4 = 35 :: rs ++ [120] by
    have h := congrArg (fun b : ByteArray => b.data.toList) (HZ4.out.trans hq0)
    simp only [app_data, HRS.out] at h
    simpa using h)
  have h10r : ∀ c ∈ rs, c.toNat ≠ 10 := fun c hc => H104.out c (by rw [HL4.out]; simp [hc])
  obtain ⟨hvr, hdr⟩ := HROK.out X ea HRX.out h10r
  have HLK := hid (fun (q : Bool) (hq : q = qtB (Y[k]'(by rw [HN.out]; exact hk))) => HLIKE.out Y HYB.out (by rw [HN.out]; exact hk) q hq hvr hdr h10r)
  clear HLIKE HROK H104 HL4 HZ4 HRX h10r hvr hdr
  subst hq0
  obtain ⟨g, rfl⟩ := row_at HR4.out (j := k) hk
  have hgz := (HR4.out.lt g rfl).2
  have hyl : ∀ j (hj : j < n), ∃ h : j < Y.length, w4.cell? ⟨g, j, none⟩ = some (.string ⟨(Y[j]'h).toArray⟩) := fun j hj => ⟨by rw [HN.out]; exact hj, (HR4.out.cellAt j (by omega)).trans (sL_get Y j (by rw [HN.out]; exact hj))⟩
  have HYL := hid hyl
  clear hyl
  obtain ⟨hkY, xk⟩ := HYL.out k hk
  have hLm := HLM.out _ (List.getElem_mem hkY)
  obtain ⟨L, hL⟩ : ∃ L, Y[k]'hkY = L := ⟨_, rfl⟩
  rw [hL] at xk hLm
  have HLKq := hid (fun (q : Bool) (hq : q = qtB L) => HLK.out q (by rw [hq, hL]))
  clear HLK hL
  obtain ⟨m, hm⟩ : ∃ m, L.length = m := ⟨_, rfl⟩
  have hLz : (⟨L.toArray⟩ : ByteArray).size = m := by rw [Lib.size_eq]; simpa using hm
  have HM := hid hm
  rw [hm] at hLm
  clear hm
  obtain ⟨sL', hsL⟩ : ∃ z : ByteArray, ⟨L.toArray⟩ = z := ⟨_, rfl⟩
  have HSL := hid (show sL'.data.toList = L by rw [← hsL])
  rw [hsL] at xk hLz
  clear hsL
  go_wp2_with fail
  clear x4
  go_loopw [10, 11] (fun q i wr => ∃ j : Nat, j ≤ m ∧ i = .int .i64 (j : Int) ∧ q = .bool (qtB (L.take j)) ∧ wr = w4) (fun _ i _ => m - (intOf i).toNat)
  case atStart => exact ⟨0, by omega, rfl, by simp [qtB], rfl⟩
  case round =>
    obtain ⟨j, hj, rfl, rfl, rfl⟩ := hrel
    by_cases hlt : j < m
    · obtain ⟨cc, r, hd⟩ := str_cons HM.out hlt
      obtain ⟨hi, hg⟩ := str_at HSL.out hd
      have HNX := hid (show qtB (L.take (j + 1)) = (qtB (L.take j) || decide (cc.toNat = 34)) by rw [tk_snoc hd, qt_snoc])
      have hx : cc.toNat < 256 := cc.toNat_lt
      have hji : (j : Int) < (m : Int) := by omega
      have hj0 : (0 : Int) ≤ (j : Int) := by omega
      generalize cc.toNat = x at *
      clear hd
      generalize qtB (L.take j) = qb at *
      cases qb with
      | true =>
        go_wp2_with fail
        go_roundw
        case rel => exact ⟨j + 1, by omega, by go_num, by rw [HNX.out]; rfl, (by first | trivial | rfl)⟩
        case measure => simp [intOf] <;> omega
      | false =>
        by_cases hx34 : x = 34
        · subst hx34
          go_wp2_with fail
          go_roundw
          case rel => exact ⟨j + 1, by omega, by go_num, by rw [HNX.out]; rfl, (by first | trivial | rfl)⟩
          case measure => simp [intOf] <;> omega
        · have hxi : ((x : Int) == 34) = false := by simp; omega
          have hxd : decide (x = 34) = false := by simp [hx34]
          go_wp2_with fail
          go_roundw
          case rel => exact ⟨j + 1, by omega, by go_num, by rw [HNX.out, hxd]; rfl, (by first | trivial | rfl)⟩
          case measure => simp [intOf] <;> omega
    · obtain rfl : j = m := by omega
      have HQ := hid (show L.take j = L from List.take_of_length_le (by rw [HM.out]; omega))
      rw [HQ.out]
      obtain ⟨q, hq⟩ : ∃ q, qtB L = q := ⟨_, rfl⟩
      rw [hq]
      have HLQ := hid (HLKq.out q hq.symm)
      clear HLKq hq HQ
      clear HSL HM
      obtain ⟨M, hMM⟩ : ∃ M, moL q rs k Y n = M := ⟨_, rfl⟩
      have hMl : M.length ≤ 1000000 := by have h := HML.out q n (Nat.le_refl _); rw [hMM] at h; omega
      have HA2M := hid (fun (t : ByteArray) w (h : t.data.toList = M) => HA2.out t M w h hMl)
      have hLQ := HLQ.out
      rw [HN.out, hMM] at hLQ
      obtain ⟨R1, hR1⟩ : ∃ R, allL bs = R := ⟨_, rfl⟩
      obtain ⟨R2, hR2⟩ : ∃ R, allL M = R := ⟨_, rfl⟩
      rw [hR1] at HA1 hLQ
      rw [hR2] at HA2M hLQ
      obtain ⟨X1, e1, a1⟩ := R1
      obtain ⟨X2, e2, a2⟩ := R2
      simp only at HA1 HA2M hLQ
      obtain ⟨he12, hnr⟩ := hLQ
      subst he12
      have hX12 := nrL_len hnr
      obtain ⟨p, hp⟩ : ∃ p, X1.length = p := ⟨_, rfl⟩
      have HP1 := hid hp
      rw [hp] at HA1 hX12
      rw [hX12] at HA2M
      have HP2 := hid hX12
      have HNR := hid hnr
      have HMM := hid hMM
      have hXl := allL_len bs
      rw [hR1] at hXl
      have hnum := al_num bs
      rw [hR1] at hnum
      have HNUM := hid (fun r (h : r ∈ X1) => show r.1 ≤ 2000 by have h1 := hnum r h; omega)
      clear hnum
      simp only [hp] at hXl
      clear HA2 HLQ hR1 hR2 hnr hX12 hp hMM HYB
      go_wp2_with fail
      obtain ⟨wz, rfl⟩ : ∃ z, z = wr := ⟨_, rfl⟩
      go_loopw [12, 13] (fun mv i wr => ∃ (j : Nat) (t : ByteArray), j ≤ n ∧ i = .int .i64 (j : Int) ∧ mv = .string t ∧ t.data.toList = moL q rs k Y j ∧ wr = wz) (fun _ i _ => n - (intOf i).toNat)
      case atStart => exact ⟨0, ⟨#[]⟩, by omega, rfl, rfl, rfl, rfl⟩
      case round =>
        obtain ⟨j, t, hj, rfl, rfl, ht, rfl⟩ := hrel
        have HT := hid ht
        have htz : t.size = (moL q rs k Y j).length := by rw [Lib.size_eq, ht]
        have hml := HML.out q j hj
        clear ht
        generalize hTT : (moL q rs k Y j).length = T at *
        clear hTT
        by_cases hlt : j < n
        · obtain ⟨hjY, xj⟩ := HYL.out j hlt
          have hxl := HLM.out _ (List.getElem_mem hjY)
          have hnx : moL q rs k Y (j + 1) = moL q rs k Y j ++ Y[j] ++ (if j = k ∧ q = false then 32 :: 35 :: rs ++ [10, 32, 32, 32] else []) ++ [10] := by
            rw [moL, List.getD_eq_getElem?_getD, List.getElem?_eq_getElem hjY]; rfl
          generalize Y[j] = y at *
          obtain ⟨x, hx⟩ : ∃ z : ByteArray, ⟨y.toArray⟩ = z := ⟨_, rfl⟩
          have HX := hid (show x.data.toList = y by rw [← hx])
          have hxz : x.size = y.length := by rw [Lib.size_eq, HX.out]
          rw [hx] at xj
          have HNX := hid hnx
          clear hx hnx
          generalize y.length = yl at *
          have hji : (j : Int) < (n : Int) := by omega
          have hj0 : (0 : Int) ≤ (j : Int) := by omega
          have z0 : ¬ 9223372036854775807 < T + yl := by omega
          have z1 : (t ++ x : ByteArray).size = T + yl := by rw [app_size]; omega
          by_cases hjk : j = k
          · subst hjk
            cases q with
            | true =>
              have z2 : ¬ 9223372036854775807 < T + yl + 1 := by omega
              go_wp2_with fail
              go_roundw
              case rel => exact ⟨j + 1, _, by omega, by go_num, rfl, by rw [HNX.out, app_data, app_data, HT.out, HX.out, if_neg (by simp)]; simp, (by first | trivial | rfl)⟩
              case measure => simp [intOf] <;> omega
            | false =>
              have z2 : ¬ 9223372036854775807 < T + yl + 2 := by omega
              have z3 : (t ++ x ++ ⟨#[32, 35]⟩ : ByteArray).size = T + yl + 2 := by rw [app_size, z1]; rfl
              have z4 : ¬ 9223372036854775807 < T + yl + 2 + rs.length := by omega
              have z5 : (t ++ x ++ ⟨#[32, 35]⟩ ++ rm : ByteArray).size = T + yl + 2 + rs.length := by rw [app_size, z3]; omega
              have z6 : ¬ 9223372036854775807 < T + yl + 2 + rs.length + 4 := by omega
              have z7 : (t ++ x ++ ⟨#[32, 35]⟩ ++ rm ++ ⟨#[10, 32, 32, 32]⟩ : ByteArray).size = T + yl + 2 + rs.length + 4 := by rw [app_size, z5]; rfl
              have z8 : ¬ 9223372036854775807 < T + yl + 2 + rs.length + 4 + 1 := by omega
              go_wp2_with fail
              go_roundw
              case rel => exact ⟨j + 1, _, by omega, by go_num, rfl, by rw [HNX.out, app_data, app_data, app_data, app_data, app_data, HT.out, HX.out, HRS.out, if_pos ⟨rfl, rfl⟩]; simp, (by first | trivial | rfl)⟩
              case measure => simp [intOf] <;> omega
          · have hjki : ((j : Int) == (k : Int)) = false := by simp; omega
            have z2 : ¬ 9223372036854775807 < T + yl + 1 := by omega
            go_wp2_with fail
            go_roundw
            case rel => exact ⟨j + 1, _, by omega, by go_num, rfl, by rw [HNX.out, app_data, app_data, HT.out, HX.out, if_neg (fun h => hjk h.1)]; simp, (by first | trivial | rfl)⟩
            case measure => simp [intOf] <;> omega
        · obtain rfl : j = n := by omega
          have htM : t.data.toList = M := by rw [HT.out, HMM.out]
          have HTM := hid htM
          clear htM htz HT HML HLM HYL hml
          go_wp2_with fail
          refine (HA1.out _).mono ?_
          rintro e w5 ⟨A5, c5, rfl, hr5, hb5⟩
          have HR5 := hid hr5
          have HB5 := hid (bw_t HB4.out hb5)
          clear hr5 hb5
          go_wp2_with fail
          refine (HA2M.out _ _ HTM.out).mono ?_
          rintro e w6 ⟨A6, c6, rfl, hr6, hb6⟩
          have k1 := ((Blk.new w5 28 #[.int .i64 e2, .int .i64 a1]).below hb6 (by rw [World.size_alloc]; omega)).alloc (.cells #[.int .i64 e2, .int .i64 a2] 28)
          have k2 := Blk.new w6 28 #[.int .i64 e2, .int .i64 a2]
          have b1 : Below w5.heap.size w5 (w6.alloc (.cells #[.int .i64 e2, .int .i64 a2] 28)) := bw_a (bw_t (bw_a (Below.refl _ w5) (.cells #[.int .i64 e2, .int .i64 a1] 28)) hb6) (.cells #[.int .i64 e2, .int .i64 a2] 28)
          have ha := own_below HR5.out b1
          have hb := own_below hr6 (bw_a (Below.refl _ w6) (.cells #[.int .i64 e2, .int .i64 a2] 28))
          have hbw := bw_t HB5.out b1
          have p1 := k1.lt
          have p2 := k2.lt
          have x0 := k1.cell 0
          have x1 := k1.cell 1
          have y0 := k2.cell 0
          have y1 := k2.cell 1
          simp only [List.getElem?_toArray, List.getElem?_cons_zero, List.getElem?_cons_succ] at x0 x1 y0 y1
          have HA := hid ha
          have HB := hid hb
          have HBW := hid hbw
          clear ha hb hbw k1 k2 b1 hb6 hr6 HR5 HB5
          go_wp2_with fail
          obtain ⟨w7, hw7⟩ : ∃ w7, w6.alloc (.cells #[.int .i64 e2, .int .i64 a2] 28) = w7 := ⟨_, rfl⟩
          rw [hw7] at HA HB HBW x0 x1 y0 y1 p1 p2 ⊢
          clear x0 x1 y0 y1 hw7
          go_loopw [18] (fun i wr => ∃ (j q : Nat), j ≤ p ∧ i = .int .i64 (j : Int) ∧ wr = w7.drewN q) (fun i _ => p - (intOf i).toNat)
          case atStart => exact ⟨0, 0, by omega, rfl, rfl⟩
          case round =>
            obtain ⟨i, dq, hi, rfl, rfl⟩ := hrel
            by_cases hlt : i < p
            · have hi1 : i < X1.length := by have := HP1.out; omega
              have hi2 : i < X2.length := by have := HP2.out; omega
              obtain ⟨ga, oa, rfl, hga, -, c0, c1, c2⟩ := row3_at HA.out HP1.out i hi1
              obtain ⟨gb, ob, rfl, hgb, -, d0, d1, d2⟩ := row3_at HB.out HP2.out i hi2
              obtain ⟨hn1, hn2, hn3⟩ := nrL_at HNR.out i hi1 hi2
              rw [hn1] at d1 d2
              clear hn1
              have hn4 := HNUM.out _ (List.getElem_mem hi1)
              generalize X2[i].1 = nb at *
              generalize X1[i] = r1 at *
              obtain ⟨na, nc, nt⟩ := r1
              simp only at c0 c1 c2 d0 d1 d2 hn2 hn3 hn4
              have hii : (i : Int) < (p : Int) := by omega
              have hi0 : (0 : Int) ≤ (i : Int) := by omega
              have q1 : decide ((nb : Int) < (na : Int)) = false := by simp; omega
              have q2 : decide ((na : Int) + 1 < (nb : Int)) = false := by simp; omega
              have q3 : ¬ (nb : Int) < (na : Int) := by omega
              have q4 : ¬ (na : Int) + 1 < (nb : Int) := by omega
              have hwn : IntKind.i64.wrap ((na : Int) + 1) = (na : Int) + 1 := IntWalk.i64_in _ (by omega)
              clear HNR HP1 HP2 HNUM hi1 hi2
              go_wp2_with fail
              go_quiet (fail)
              go_wp2_with fail
              exact ⟨⟨i + 1, dq + nq, by omega, by go_num, rfl⟩, by simp [intOf] <;> omega⟩
            · obtain rfl : i = p := by omega
              go_wp2_with fail
              go_ret
              exact ⟨rfl, bw_d HBW.out _⟩
end Go.Proofs.YtepbfgniocjagaaDoor
