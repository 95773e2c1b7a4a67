/- diag: findings compared; Same, small, Of: walks. -/
import Derived.Test.YtdbbapedimnjhaaDoorDgK
import Derived.Test.YtdbbapedimnjhaaDoorM6
import Derived.Laws.StructEq
import Derived.Deep.QuietTactic
import Derived.BigQuiet
set_option linter.unusedVariables false
namespace Go.Proofs.YtdbbapedimnjhaaDoor
open Go.RowKit
set_option maxRecDepth 100000 in
theorem deql (x y : Dg.D) (w : World) : (binOp .eql 25 (.agg #[.int .i64 x.1, .int .i64 x.2.1, .string x.2.2]) (.agg #[.int .i64 y.1, .int .i64 y.2.1, .string y.2.2])).run Tryd.prog w = .ok (.bool (decide (x = y))) w := by
  obtain ⟨a1, a2, a3⟩ := x
  obtain ⟨b1, b2, b3⟩ := y
  have u3 := Tryd.underlying3
  have g3 := Tryd.isAgg3
  have z3 := Tryd.sizeOf3
  have u4 := Tryd.underlying9
  have g4 := Tryd.isAgg9
  have z4 := Tryd.sizeOf9
  have u5 := Tryd.underlying23
  have g5 := Tryd.isAgg23
  have z5 := Tryd.sizeOf23
  have hS : Tryd.prog.underlying 25 = some (.struct (Tryd.prog.fieldsOf 25)) := by kernel_rfl
  have hp : Tryd.prog.stoodInHeld 25 = false := by kernel_rfl
  rw [run_eql_struct, show (10000 : Nat) = 9999 + 1 from rfl, run_equalIn_struct w 9999 _ _ _ hS hp]
  simp only [Program.fieldsOf, Tryd.underlying25]
  go_simp
  by_cases h1 : a1 = b1
  case neg => simp [h1]
  by_cases h2 : a2 = b2
  case neg => simp [h1, h2]
  by_cases h3 : a3 = b3
  case neg =>
    have h3' : ¬ a3.toList = b3.toList := fun h => h3 (Dg.bext (by rw [Lib.toList_data, Lib.toList_data] at h; exact h))
    simp [h1, h2, h3, h3']
  simp [h1, h2, h3]
set_option maxRecDepth 100000 in
theorem dneq (x y : Dg.D) (w : World) : (binOp .neq 25 (.agg #[.int .i64 x.1, .int .i64 x.2.1, .string x.2.2]) (.agg #[.int .i64 y.1, .int .i64 y.2.1, .string y.2.2])).run Tryd.prog w = .ok (.bool (!decide (x = y))) w := by
  have h := deql x y w
  rw [run_eql_struct] at h
  rw [run_neq_struct]
  generalize (Op.equalIn 10000 25 (.agg #[.int .i64 x.1, .int .i64 x.2.1, .string x.2.2]) (.agg #[.int .i64 y.1, .int .i64 y.2.1, .string y.2.2])).run Tryd.prog w = r at h ⊢
  cases r with
  | ok b w1 => simp only [Result.andThen_ok] at h ⊢; injection h with h1 h2; injection h1 with h1; rw [h1, h2]
  | halt x w1 => simp [Result.andThen] at h
/-- Are they few, and short? -/
def smD (X : List Dg.D) : Bool := decide (X.length ≤ 60) && X.all fun x => decide (x.2.2.size ≤ 500)
set_option maxRecDepth 100000 in
set_option maxHeartbeats 4000000 in
theorem small24_any (X : List Dg.D) (n : Nat) (A : Option Addr) (c : Nat) (w : World) (hn : X.length = n) (hl : n ≤ 9223372036854775807) (hs : SlN w A n c 3 (X.flatMap dC)) :
    Calls Tryd.prog 7 #[.slice A n c] w fun e w' => e = .returned (.bool (smD X)) ∧ w' = w := by
  have HN := hid hn
  have HS := hid hs
  by_cases h60 : 60 < n
  · have hr : smD X = false := by unfold smD; rw [HN.out]; simp; omega
    rw [hr]
    clear hn hs
    go_enter Tryd.func7, Tryd.ntmps7
    go_wp2_with fail
    go_ret
    exact ⟨rfl, rfl⟩
  · have hr : smD X = X.all fun x => decide (x.2.2.size ≤ 500) := by unfold smD; rw [HN.out]; simp; omega
    rw [hr]
    clear hn hs hr
    go_enter Tryd.func7, Tryd.ntmps7
    go_wp2_with fail
    go_loopw [3] (fun i wr => ∃ k : Nat, k ≤ n ∧ i = .int .i64 (k : Int) ∧ (X.all fun x => decide (x.2.2.size ≤ 500)) = ((X.drop k).all fun x => decide (x.2.2.size ≤ 500)) ∧ wr = w) (fun i _ => n - (intOf i).toNat)
    case atStart => exact ⟨0, by omega, rfl, rfl, rfl⟩
    case round =>
      obtain ⟨k, hk, rfl, hall, rfl⟩ := hrel
      have HA := hid hall
      clear hall
      by_cases hlt : k < n
      · have hkl : k < X.length := by have := HN.out; omega
        obtain ⟨g, o, rfl, hg, c0, c1, c2⟩ := dRow_at HS.out k hkl
        have hd := HA.out
        rw [List.drop_eq_getElem_cons hkl, List.all_cons] at hd
        generalize X[k] = x at *
        have hki : (k : Int) < (n : Int) := by omega
        have hk0 : (0 : Int) ≤ (k : Int) := by omega
        by_cases ht : x.2.2.size ≤ 500
        · have HD := hid (show (X.all fun x => decide (x.2.2.size ≤ 500)) = ((X.drop (k + 1)).all fun x => decide (x.2.2.size ≤ 500)) by rw [hd]; simp [ht])
          have ht2 : ¬ (500 : Int) < (x.2.2.size : Int) := by omega
          clear hd
          go_wp2_with fail
          go_roundw
          case rel => exact ⟨k + 1, by omega, by go_num, HD.out, (by first | trivial | rfl)⟩
          case measure => simp [intOf] <;> omega
        · have hd2 : (X.all fun x => decide (x.2.2.size ≤ 500)) = false := by rw [hd]; simp [ht]
          have HD := hid hd2
          have ht2 : (500 : Int) < (x.2.2.size : Int) := by omega
          clear hd hd2
          go_wp2_with fail
          go_ret
          exact ⟨by rw [HD.out]; rfl, rfl⟩
      · obtain rfl : k = n := by omega
        have HD := hid (show (X.all fun x => decide (x.2.2.size ≤ 500)) = true by rw [HA.out, List.drop_eq_nil_of_le (by have := HN.out; omega)]; rfl)
        go_wp2_with fail
        go_ret
        exact ⟨by rw [HD.out]; rfl, rfl⟩
set_option maxRecDepth 100000 in
set_option maxHeartbeats 4000000 in
theorem same24_any (X Y : List Dg.D) (n m : Nat) (A B : Option Addr) (c d : Nat) (w : World) (hn : X.length = n) (hm : Y.length = m) (hl : n ≤ 1000000) (hl2 : m ≤ 1000000) (hs : SlN w A n c 3 (X.flatMap dC)) (ht : SlN w B m d 3 (Y.flatMap dC)) :
    Calls Tryd.prog 8 #[.slice A n c, .slice B m d] w fun e w' => e = .returned (.bool (decide (X = Y))) ∧ Below w.heap.size w w' := by
  have HN := hid hn
  have HM := hid hm
  have HS := hid hs
  have HT := hid ht
  by_cases hnm : n = m
  case neg =>
    have hr : decide (X = Y) = false := by simp; intro e; rw [e] at hn; omega
    rw [hr]
    have hne : ((n : Int) != (m : Int)) = true := by simp; omega
    clear hn hm hs ht
    go_enter Tryd.func8, Tryd.ntmps8
    go_wp2_with fail
    go_ret
    exact ⟨rfl, Below.refl _ _⟩
  subst hnm
  have hne : ((n : Int) != (n : Int)) = false := by simp
  have hb0 := Below.refl w.heap.size w
  have HB0 := hid hb0
  clear hn hm hs ht hb0
  go_enter Tryd.func8, Tryd.ntmps8
  go_wp2_with fail
  go_loopw [5] (fun i wr => ∃ k : Nat, k ≤ n ∧ i = .int .i64 (k : Int) ∧ X.take k = Y.take k ∧ Below w.heap.size w wr) (fun i _ => n - (intOf i).toNat)
  case atStart => exact ⟨0, by omega, rfl, by simp, HB0.out⟩
  case round =>
    obtain ⟨k, hk, rfl, htk, hbe⟩ := hrel
    have HTK := hid htk
    have HBE := hid hbe
    clear htk hbe
    by_cases hlt : k < n
    · have hkl : k < X.length := by have := HN.out; omega
      have hky : k < Y.length := by have := HM.out; omega
      obtain ⟨g, o, rfl, hg, c0, c1, c2⟩ := dRow_at (HS.out.below HBE.out) k hkl
      obtain ⟨g', o', rfl, hg', d0, d1, d2⟩ := dRow_at (HT.out.below HBE.out) k hky
      have HTX := hid (show X.take (k + 1) = X.take k ++ [X[k]] from List.take_succ_eq_append_getElem hkl)
      have HTY := hid (show Y.take (k + 1) = Y.take k ++ [Y[k]] from List.take_succ_eq_append_getElem hky)
      have HXK := hid (show X[k]? = some X[k] from List.getElem?_eq_getElem hkl)
      have HYK := hid (show Y[k]? = some Y[k] from List.getElem?_eq_getElem hky)
      generalize X[k] = x at *
      generalize Y[k] = y at *
      have hki : (k : Int) < (n : Int) := by omega
      have hk0 : (0 : Int) ≤ (k : Int) := by omega
      have hq := fun W => dneq x y W
      by_cases hxy : x = y
      · have hde : (!decide (x = y)) = false := by simp [hxy]
        rw [hde] at hq
        have HE := hid (show X.take (k + 1) = Y.take (k + 1) by rw [HTX.out, HTY.out, HTK.out, hxy])
        clear hxy hde
        go_wp2_with fail
        go_quiet (fail)
        go_wp2_with fail
        go_roundw
        case rel => exact ⟨k + 1, by omega, by go_num, HE.out, bw_d HBE.out _⟩
        case measure => simp [intOf] <;> omega
      · have hde : (!decide (x = y)) = true := by simp [hxy]
        rw [hde] at hq
        have HE := hid (show decide (X = Y) = false by
          simp only [decide_eq_false_iff_not]
          intro e
          have h1 := HXK.out
          rw [e, HYK.out] at h1
          exact hxy (Option.some.inj h1).symm)
        clear hxy hde
        go_wp2_with fail
        go_quiet (fail)
        go_wp2_with fail
        go_ret
        exact ⟨by rw [HE.out]; rfl, bw_d HBE.out _⟩
    · obtain rfl : k = n := by omega
      have HE := hid (show decide (X = Y) = true by
        have h := HTK.out
        rw [List.take_of_length_le (by have := HN.out; omega), List.take_of_length_le (by have := HM.out; omega)] at h
        simp [h])
      go_wp2_with fail
      go_ret
      exact ⟨by rw [HE.out]; rfl, HBE.out⟩
set_option maxRecDepth 100000 in
set_option maxHeartbeats 8000000 in
theorem dof_any (X : List Dg.D) (n : Nat) (A : Option Addr) (c : Nat) (st : Int) (w : World) (hn : X.length = n) (hl : n ≤ 1000000) (hs : SlN w A n c 3 (X.flatMap dC)) :
    Calls Tryd.prog 11 #[.slice A n c, .int .i64 st] w fun e w' => ∃ v, e = .returned v ∧ w'.ownsRow w.heap.size 25 3 v (X.filter fun x => decide (x.1 = st)).length ((X.filter fun x => decide (x.1 = st)).flatMap dC) ∧ Below w.heap.size w w' := by
  obtain ⟨i0, hi0, hz0, hz1, hz2⟩ := info_parts Tryd.infoDg
  obtain ⟨s, hws⟩ : ∃ s, w.heap.size = s := ⟨_, rfl⟩
  have hb0 := Below.refl w.heap.size w
  rw [hws] at hb0
  rw [hws]
  have HN := hid hn
  have HS := hid hs
  have HWS := hid hws
  have HB0 := hid hb0
  clear hn hs hb0
  go_enter Tryd.func11, Tryd.ntmps11
  go_wp2_with fail
  go_loopw [5, 10] (fun ov i wr => ∃ (k : Nat), k ≤ n ∧ i = .int .i64 (k : Int) ∧ wr.ownsRow s 25 3 ov ((X.take k).filter fun x => decide (x.1 = st)).length (((X.take k).filter fun x => decide (x.1 = st)).flatMap dC) ∧ Below s w wr) (fun _ i _ => n - (intOf i).toNat)
  case atStart => exact ⟨0, by omega, rfl, World.ownsRow_nil _ _ _ _, HB0.out⟩
  case round =>
    obtain ⟨k, hk, rfl, how, hbe⟩ := hrel
    have hsz : s ≤ wr.heap.size := by have := hbe.size; have := HWS.out; omega
    have HO := hid how
    have HBE := hid hbe
    clear how hbe
    by_cases hlt : k < n
    · have hkl : k < X.length := by have := HN.out; omega
      obtain ⟨g, o, rfl, hg, c0, c1, c2⟩ := dRow_at (HS.out.below (w' := wr) (by rw [HWS.out]; exact HBE.out)) k hkl
      have htk : (X.take (k + 1)).filter (fun x => decide (x.1 = st)) = (X.take k).filter (fun x => decide (x.1 = st)) ++ [X[k]].filter (fun x => decide (x.1 = st)) := by rw [List.take_succ_eq_append_getElem hkl, List.filter_append]
      have hol : ((X.take k).filter fun x => decide (x.1 = st)).length ≤ k := Nat.le_trans (List.length_filter_le _ _) (by rw [List.length_take]; omega)
      generalize X[k] = x at *
      obtain ⟨s1, e1, t1⟩ := x
      have hki : (k : Int) < (n : Int) := by omega
      have hk0 : (0 : Int) ≤ (k : Int) := by omega
      have HTK := hid htk
      clear htk hkl
      by_cases hst : s1 = st
      · have HT2 := hid (show (X.take (k + 1)).filter (fun x => decide (x.1 = st)) = (X.take k).filter (fun x => decide (x.1 = st)) ++ [(s1, e1, t1)] by rw [HTK.out]; simp [hst])
        have hsb : (s1 == st) = true := by simpa using hst
        clear hst
        go_wp2_with (at_builtin; refine wpList_append_rd rfl (.tmp 18) (.tmp 20) 22 rfl s 25 i0 (.agg #[.int .i64 0, .int .i64 0, .string ⟨#[]⟩]) 3 32 Tryd.underlying22 hi0 hz0 hz1 hz2 rfl (by decide) _ _ _ rfl (own_below HO.out (bw_a (bw_a (Below.refl _ wr) (.cells #[.int .i64 s1, .int .i64 e1, .string t1] 25)) (.cells #[.int .i64 s1, .int .i64 e1, .string t1] 25))) (some ⟨wr.heap.size + 1, 0, none⟩) 1 1 [.int .i64 s1, .int .i64 e1, .string t1] rfl rfl (by have h := Rd.new (wr.alloc (.cells #[.int .i64 s1, .int .i64 e1, .string t1] 25)) 25 #[.int .i64 s1, .int .i64 e1, .string t1]; rw [World.size_alloc] at h; exact h) (fun h => by cases h) (by simp [Value.oneCell']) (by simp only [maxLen]; omega) (by omega) (by simp; omega) ?_; intro v2 w2 hown2 hgrow2; have HO2 := hid hown2; have HG2 := hid hgrow2; clear hown2 hgrow2)
        have hvb : ∀ y, some y = u5.ownBlock → s ≤ y := fun y e => (HO.out.lt y e.symm).1
        have hB2 : Below s w w2 := (((HBE.out.alloc (by omega) (.cells #[.int .i64 s1, .int .i64 e1, .string t1] 25)).alloc (by simp; omega) (.cells #[.int .i64 s1, .int .i64 e1, .string t1] 25))).grown HG2.out (by simp; omega) (fun j e => hvb j e.symm)
        have HB2 := hid hB2
        clear hvb hB2
        go_wp2_with fail
        go_roundw
        case rel => exact ⟨k + 1, by omega, by go_num, by rw [HT2.out, List.length_append, List.flatMap_append]; exact HO2.out, HB2.out⟩
        case measure => simp [intOf] <;> omega
      · have HT2 := hid (show (X.take (k + 1)).filter (fun x => decide (x.1 = st)) = (X.take k).filter (fun x => decide (x.1 = st)) by rw [HTK.out]; simp [hst])
        have hsb : (s1 == st) = false := by simpa using hst
        clear hst
        go_wp2_with fail
        go_roundw
        case rel =>
          have hba := bw_a (Below.refl _ wr) (.cells #[.int .i64 s1, .int .i64 e1, .string t1] 25)
          exact ⟨k + 1, by omega, by go_num, by rw [HT2.out]; exact own_below HO.out hba, HBE.out.trans (hba.mono (by omega))⟩
        case measure => simp [intOf] <;> omega
    · obtain rfl : k = n := by omega
      rw [List.take_of_length_le (by have := HN.out; omega)] at HO
      go_wp2_with fail
      go_ret
      exact ⟨_, rfl, HO.out, HBE.out⟩
end Go.Proofs.YtdbbapedimnjhaaDoor
