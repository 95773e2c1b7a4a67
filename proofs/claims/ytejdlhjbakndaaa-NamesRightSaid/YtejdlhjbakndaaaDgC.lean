/- diag: a list, each once: a walk. -/
import Derived.Test.YtejdlhjbakndaaaDgK
import Derived.Test.YtejdlhjbakndaaaM6
import Derived.Maps.OwnSet
set_option linter.unusedVariables false
namespace Go.Proofs.Ytejdlhjbakndaaa
open Go.RowKit
set_option maxRecDepth 100000 in
set_option maxHeartbeats 8000000 in
theorem donce_any (X : List Dg.D) (n : Nat) (A : Option Addr) (c : Nat) (w : World) (hn : X.length = n) (hl : n ≤ 1000000) (hok : ∀ x ∈ X, DOk x) (hs : SlN w A n c 3 (X.flatMap dC)) :
    Calls Try.prog 49 #[.slice A n c] w fun e w' => ∃ v, e = .returned v ∧ w'.ownsRow w.heap.size 53 3 v (Dg.once X).length ((Dg.once X).flatMap dC) ∧ Below w.heap.size w w' := by
  obtain ⟨i0, hi0, hz0, hz1, hz2⟩ := info_parts Try.infoDg
  obtain ⟨s, hws⟩ : ∃ s, w.heap.size = s := ⟨_, rfl⟩
  have hmm := @run_makeMap Try.prog
  have hb0 := bw_a (Below.refl _ w) (.map #[] 0)
  have hm0 := World.ownsMap_made w Try.prog 53 (unitElem (H := Unit))
  rw [hws] at hb0 hm0
  rw [hws]
  have HN := hid hn
  have HOK := hid hok
  have HS := hid hs
  have HWS := hid hws
  have HB0 := hid hb0
  have HM0 := hid hm0
  have hsz0 : s + 1 ≤ (w.alloc (.map #[] 0)).heap.size := by rw [World.size_alloc]; omega
  have HZ0 := hid hsz0
  clear hn hok hs hb0 hm0 hsz0
  go_enter Try.func49, Try.ntmps49
  go_wp2_with fail
  clear hmm
  go_loopw [3, 12] (fun ov i wr => ∃ (k : Nat) (D : DataW Unit), k ≤ n ∧ i = .int .i64 (k : Int) ∧ wr.ownsRow (s + 1) 53 3 ov (Dg.once (X.take k)).length ((Dg.once (X.take k)).flatMap dC) ∧ wr.ownsMap Try.prog 53 (unitElem (H := Unit)) s k D ∧ (∀ x kl, keyOf Try.prog 53 (.agg (dC x).toArray) = some kl → Maps.has D kl = Dg.isIn x (Dg.once (X.take k))) ∧ Below s w wr ∧ s + 1 ≤ wr.heap.size) (fun _ i _ => n - (intOf i).toNat)
  case atStart => exact ⟨0, _, by omega, rfl, World.ownsRow_nil _ _ _ _, HM0.out, fun x kl h => rfl, HB0.out, HZ0.out⟩
  case round =>
    obtain ⟨k, D, hk, rfl, how, hmp, hhs, hbe, hsz⟩ := hrel
    have HO := hid how
    have HM := hid hmp
    have HH := hid hhs
    have HBE := hid hbe
    clear how hmp hhs hbe
    by_cases hlt : k < n
    · have hkl : k < X.length := by have := HN.out; omega
      obtain ⟨g, o, rfl, hg, c0, c1, c2⟩ := dRow_at (HS.out.below (w' := wr) (by rw [HWS.out]; exact HBE.out)) k hkl
      have htk : Dg.once (X.take (k + 1)) = Dg.add (Dg.once (X.take k)) X[k] := by rw [List.take_succ_eq_append_getElem hkl, Dg.once_snoc]
      have hol : (Dg.once (X.take k)).length ≤ k := Nat.le_trans (Dg.once_len _) (by rw [List.length_take]; omega)
      have hxk := HOK.out _ (List.getElem_mem hkl)
      obtain ⟨kl, hkl2⟩ := dgKey X[k] hxk
      have hhas := HH.out X[k] kl hkl2
      generalize X[k] = x at *
      obtain ⟨s1, e1, t1⟩ := x
      simp only [dC] at hkl2
      have hki : (k : Int) < (n : Int) := by omega
      have hk0 : (0 : Int) ≤ (k : Int) := by omega
      have HTK := hid htk
      clear htk hkl hxk
      by_cases hin : Dg.isIn (s1, e1, t1) (Dg.once (X.take k)) = true
      · have HT2 := hid (show Dg.once (X.take (k + 1)) = Dg.once (X.take k) by rw [HTK.out, Dg.add, if_pos hin])
        have HIN := hid hin
        rw [hin] at hhas
        clear hin
        go_wp2_with (at_lookup; refine wpList_lookup_own_unit _ rfl _ _ 84 rfl 53 77 dgLaw Try.underlying84 (dgZero _) s k D rfl (HM.out.alloc _) _ _ rfl hkl2 ?_; rw [hhas])
        go_roundw
        case rel =>
          have hba := bw_a (bw_a (Below.refl _ wr) (.cells #[.int .i64 s1, .int .i64 e1, .string t1] 53)) (.cells #[] 77)
          refine ⟨k + 1, D, by omega, by go_num, ?_, (((HM.out.alloc _).alloc _).mono (by omega)), ?_, HBE.out.trans (hba.mono (by omega)), by simp; omega⟩
          · rw [HT2.out]; exact own_below HO.out hba
          · rw [HT2.out]; exact HH.out
        case measure => simp [intOf] <;> omega
      · have hin' : Dg.isIn (s1, e1, t1) (Dg.once (X.take k)) = false := by simpa using hin
        have HT2 := hid (show Dg.once (X.take (k + 1)) = Dg.once (X.take k) ++ [(s1, e1, t1)] by rw [HTK.out, Dg.add, if_neg hin])
        have HIN := hid hin'
        rw [hin'] at hhas
        clear hin hin'
        go_wp2_with (first
          | (at_lookup; refine wpList_lookup_own_unit _ rfl _ _ 84 rfl 53 77 dgLaw Try.underlying84 (dgZero _) s k D rfl (HM.out.alloc _) _ _ rfl hkl2 ?_; rw [hhas])
          | (at_mapUpdate; refine wpList_mapUpdate_own _ rfl _ _ _ 84 rfl 53 77 dgLaw Try.underlying84 _ s k D rfl ((HM.out.alloc _).alloc _) (by unfold maxLen; omega) _ _ kl rfl rfl hkl2 (.agg []) [] unitElem_mk ?_; intro w1 hown1 hgrow1; have hk1 := (hgrow1.block wr.heap.size (by simp; omega) (by simp; omega)).trans ((Blk.new wr 53 #[.int .i64 s1, .int .i64 e1, .string t1]).alloc (.cells #[] 77)); have d0 := Blk.cell (t := 53) hk1 0; have d1 := Blk.cell (t := 53) hk1 1; have d2 := Blk.cell (t := 53) hk1 2; simp only [List.getElem?_toArray, List.getElem?_cons_zero, List.getElem?_cons_succ] at d0 d1 d2; have hs1 : s + 1 ≤ w1.heap.size := (by have h := hgrow1.size; simp only [World.size_alloc] at h; omega); have HOM := hid hown1; have HG1 := hid hgrow1; have HO1 := hid (own_chgS (own_below HO.out (bw_a (bw_a (Below.refl _ wr) (.cells #[.int .i64 s1, .int .i64 e1, .string t1] 53)) (.cells #[] 77))) (Chg.of_grown (S := fun q => q = s) hgrow1 (fun g e => by injection e with e; exact e.symm)) (fun g hg h => by have := (HO.out.lt g hg).1; omega)); clear hown1 hgrow1 hk1)
          | (at_builtin; refine wpList_append_rd rfl (.tmp 26) (.tmp 28) 28 rfl (s + 1) 53 i0 (.agg #[.int .i64 0, .int .i64 0, .string ⟨#[]⟩]) 3 32 Try.underlying28 hi0 hz0 hz1 hz2 rfl (by decide) _ _ _ rfl (own_below HO1.out (bw_a (Below.refl _ w1) (.cells #[.int .i64 s1, .int .i64 e1, .string t1] 53))) (some ⟨w1.heap.size, 0, none⟩) 1 1 [.int .i64 s1, .int .i64 e1, .string t1] rfl rfl (Rd.new w1 53 #[.int .i64 s1, .int .i64 e1, .string t1]) (fun h => by cases h) (by simp [Value.oneCell']) (by simp only [maxLen]; omega) (by omega) (by simp; omega) ?_; intro v2 w2 hown2 hgrow2; have HO2 := hid hown2; have HG2 := hid hgrow2; clear hown2 hgrow2))
        have hvb : ∀ y, some y = u3.ownBlock → s + 1 ≤ y := fun y e => (HO.out.lt y e.symm).1
        have hba := bw_a (bw_a (Below.refl _ wr) (.cells #[.int .i64 s1, .int .i64 e1, .string t1] 53)) (.cells #[] 77)
        have hB1 : Below s w w1 := (HBE.out.trans (hba.mono (by omega))).grown HG1.out (by simp; omega) (fun j e => by injection e with e; omega)
        have hB2 : Below s w w2 := ((hB1.alloc (by omega) (.cells #[.int .i64 s1, .int .i64 e1, .string t1] 53))).grown HG2.out (by simp; omega) (fun j e => by have := hvb j e.symm; omega)
        have hM2 := ((HOM.out.alloc (.cells #[.int .i64 s1, .int .i64 e1, .string t1] 53)).kept HG2.out (fun e => by have := hvb s e; omega))
        have HRES := hid (And.intro hB2 hM2)
        clear hB1 hB2 hM2 hvb hba d0 d1 d2
        go_wp2_with fail
        go_roundw
        case rel =>
          have hsz2 := HG2.out.size
          rw [World.size_alloc] at hsz2
          refine ⟨k + 1, _, by omega, by go_num, ?_, HRES.out.2, ?_, HRES.out.1, by omega⟩
          · rw [HT2.out, List.length_append, List.flatMap_append]; exact HO2.out
          · intro x' kl' hk'
            rw [HT2.out]
            by_cases he : kl' = kl
            · subst he
              have hx := dgLaw.inj hk' hkl2
              have hx' : x' = (s1, e1, t1) := by
                obtain ⟨a, b, d⟩ := x'
                simp [dC] at hx
                obtain ⟨r1, r2, r3⟩ := hx
                rw [r1, r2, r3]
              rw [Maps.has_put_same HM.out.isMap (dgLaw.key hkl2), hx']
              simp [Dg.isIn]
            · rw [Maps.has_put_other he, HH.out x' kl' hk']
              have hne : ¬ (s1, e1, t1) = x' := fun e => he (by rw [← e] at hk'; simp only [dC] at hk'; exact Option.some.inj (hk'.symm.trans hkl2))
              simp [Dg.isIn, hne]
        case measure => simp [intOf] <;> omega
    · obtain rfl : k = n := by omega
      rw [List.take_of_length_le (by have := HN.out; omega)] at HO
      go_wp2_with fail
      go_ret
      exact ⟨_, rfl, own_mono HO.out (by omega), HBE.out⟩
end Go.Proofs.Ytejdlhjbakndaaa
