/- Names: by its name, the first step that has it: a walk. -/
import Derived.Test.YtejdlhjbakndaaaNmA
import Derived.Test.YtejdlhjbakndaaaM6
import Derived.Maps.OwnSet
import Derived.StringKeys
set_option linter.unusedVariables false
namespace Go.Proofs.Ytejdlhjbakndaaa
open Go.RowKit
namespace Nm
theorem ix_app (N : List ByteArray) (x y : ByteArray) : ix (N ++ [x]) y = if ix N y < N.length then ix N y else if x = y then N.length else N.length + 1 := by
  unfold ix
  rw [List.findIdx_append]
  by_cases h : N.findIdx (fun z => decide (z = y)) < N.length
  · rw [if_pos h, if_pos h]
  · rw [if_neg h, if_neg h]
    by_cases e : x = y <;> simp [List.findIdx_cons, e] <;> omega
theorem inB_app (N : List ByteArray) (x y : ByteArray) : inB (N ++ [x]) y = (inB N y || decide (x = y)) := by simp [inB]
end Nm
theorem plZero (w : World) : (zeroValue 3).run Try.prog w = .ok (.int .i64 0) w := by kernel_rfl
/-- What a map of names tells. -/
def PlF (N : List ByteArray) (D : DataW Unit) : Prop := ∀ (x : ByteArray) (kl : Lit), keyOf Try.prog 9 (.string x) = some kl → Maps.has D kl = Nm.inB N x ∧ (Nm.inB N x = true → D.atKey kl (.lit (.int .i64 0)) = .lit (.int .i64 (Nm.ix N x : Int)))
theorem plKeyed : Maps.Keyed Try.prog 9 := Maps.string_keyed Try.underlying9
theorem plKey (x : ByteArray) (h : x.size ≤ maxLen) : keyOf Try.prog 9 (.string x) = some (.string x.data.toList) := WideMaps.keyOf_string_mk Try.underlying9 h
theorem PlF.nil : PlF [] (.map []) := fun x kl h => ⟨rfl, fun h => by simp [Nm.inB] at h⟩
theorem PlF.same {N : List ByteArray} {D : DataW Unit} (h : PlF N D) (x : ByteArray) (hx : Nm.inB N x = true) : PlF (N ++ [x]) D := fun y kl hk => by
  obtain ⟨h1, h2⟩ := h y kl hk
  have hlt : ∀ z, Nm.inB N z = true → Nm.ix N z < N.length := fun z hz => Nm.ix_lt.2 (Nm.inB_iff.1 hz)
  have e : Nm.inB (N ++ [x]) y = Nm.inB N y := by
    rw [Nm.inB_app]
    by_cases hxy : x = y
    · subst hxy; rw [hx]; rfl
    · simp [hxy]
  refine ⟨by rw [e]; exact h1, fun hy => ?_⟩
  rw [e] at hy
  rw [h2 hy, Nm.ix_app, if_pos (hlt y hy)]
theorem PlF.put {N : List ByteArray} {D : DataW Unit} (h : PlF N D) (x : ByteArray) (hx : Nm.inB N x = false) (kl : Lit) (hk : keyOf Try.prog 9 (.string x) = some kl) (hM : Maps.IsMap D) : PlF (N ++ [x]) (D.put kl (.lit (.int .i64 (N.length : Int)))) := fun y kl' hk' => by
  have hnl : ∀ z, Nm.inB N z = true → Nm.ix N z < N.length := fun z hz => Nm.ix_lt.2 (Nm.inB_iff.1 hz)
  have hno : ∀ z, Nm.inB N z = false → ¬ Nm.ix N z < N.length := fun z hz hl => by rw [Nm.inB_yes (Nm.ix_lt.1 hl)] at hz; cases hz
  by_cases he : kl' = kl
  · subst he
    have hv := plKeyed.inj hk' hk
    have hyx : y = x := by injection hv
    subst hyx
    refine ⟨by rw [Maps.has_put_same hM (plKeyed.key hk), Nm.inB_app]; simp, fun _ => ?_⟩
    rw [Maps.atKey_put_same hM (plKeyed.key hk), Nm.ix_app, if_neg (hno y hx), if_pos rfl]
  · have hne : ¬ x = y := fun e => he (by rw [← e] at hk'; exact Option.some.inj (hk'.symm.trans hk))
    obtain ⟨h1, h2⟩ := h y kl' hk'
    have e : Nm.inB (N ++ [x]) y = Nm.inB N y := by rw [Nm.inB_app]; simp [hne]
    refine ⟨by rw [Maps.has_put_other he, e]; exact h1, fun hy => ?_⟩
    rw [e] at hy
    rw [Maps.atKey_put_other he, h2 hy, Nm.ix_app, if_pos (hnl y hy)]
set_option maxRecDepth 100000 in
set_option maxHeartbeats 8000000 in
theorem places_any (D : DfV) (w : World) (hst : StRow w D) (hl : D.st.xs.length ≤ 1000) (hsz : ∀ x ∈ D.st.xs, x.nm.size ≤ maxLen) :
    Calls Try.prog 31 #[.agg #[.string D.nm, .string D.tx, .slice D.st.A D.st.xs.length D.st.c]] w fun e w' => ∃ M, e = .returned (.map (some (w.heap.size + 1))) ∧ w'.ownsMap Try.prog 9 (plainElem Try.prog 3) (w.heap.size + 1) D.st.xs.length M ∧ PlF (nms D.st.xs) M ∧ Below w.heap.size w w' ∧ w.heap.size + 2 ≤ w'.heap.size := by
  obtain ⟨s, hws⟩ : ∃ s, w.heap.size = s := ⟨_, rfl⟩
  have hb1 := bw_a (Below.refl _ w) (.cells #[.string D.nm, .string D.tx, .slice D.st.A D.st.xs.length D.st.c] 24)
  have hk1 := Blk.new w 24 #[.string D.nm, .string D.tx, .slice D.st.A D.st.xs.length D.st.c]
  rw [hws] at hk1
  obtain ⟨n, hn⟩ : ∃ n, D.st.xs.length = n := ⟨_, rfl⟩
  obtain ⟨SA, hSA⟩ : ∃ SA, D.st.A = SA := ⟨_, rfl⟩
  have HN := hid hn
  have HZ := hid hsz
  unfold StRow at hst
  rw [hn, hSA] at hb1 hk1 hst ⊢
  rw [hn] at hl
  rw [hws]
  obtain ⟨w1, hw1⟩ : ∃ w1, w.alloc (.cells #[.string D.nm, .string D.tx, .slice SA n D.st.c] 24) = w1 := ⟨_, rfl⟩
  have hz1 : w1.heap.size = s + 1 := by rw [← hw1, World.size_alloc, hws]
  have hm0 := World.ownsMap_made w1 Try.prog 9 (plainElem (H := Unit) Try.prog 3)
  have hb2 := bw_a (Below.refl _ w1) (.map #[] 0)
  have hz2 : (w1.alloc (.map #[] 0)).heap.size = s + 2 := by rw [World.size_alloc, hz1]
  rw [hz1] at hm0 hb2
  rw [hw1] at hb1 hk1
  have HB1 := hid hb1
  have HK1 := hid hk1
  have HS1 := hid (hst.below hb1)
  have HM0 := hid hm0
  have HB2 := hid hb2
  have HW1 := hid hw1
  have HZ1 := hid hz1
  have HZ2 := hid hz2
  have HWS := hid hws
  have hmm := @run_makeMap Try.prog
  clear hn hSA hb1 hk1 hst hm0 hb2 hz1 hz2 hsz hw1
  go_enter Try.func31, Try.ntmps31
  go_wp2_with fail
  rw [HW1.out]
  clear hmm
  go_loopw [12] (fun i wr => ∃ (k : Nat) (M : DataW Unit), k ≤ n ∧ i = .int .i64 (k : Int) ∧ wr.ownsMap Try.prog 9 (plainElem Try.prog 3) (s + 1) k M ∧ PlF ((nms D.st.xs).take k) M ∧ Below (s + 1) w1 wr ∧ s + 2 ≤ wr.heap.size) (fun i _ => n - (intOf i).toNat)
  case atStart => exact ⟨0, _, by omega, rfl, HM0.out, PlF.nil, HB2.out, by rw [HZ2.out]; omega⟩
  case round =>
    obtain ⟨k, M, hk, rfl, hmp, hpl, hbe, hsz⟩ := hrel
    have HM := hid hmp
    have HPL := hid hpl
    have HBE := hid hbe
    clear hmp hpl hbe
    by_cases hlt : k < n
    · have hkl : k < D.st.xs.length := by have := HN.out; omega
      obtain ⟨g, o, rfl, hg, e0, e1, e2, e3, e4, e5, e6, e7, e8, e9, e10, e11, e12⟩ := st_at (X := D.st.xs) (by have := HS1.out.below (w' := wr) (by rw [HZ1.out]; exact HBE.out); exact this) k hkl
      have hzx := HZ.out _ (List.getElem_mem hkl)
      have htk : (nms D.st.xs).take (k + 1) = (nms D.st.xs).take k ++ [D.st.xs[k].nm] := by rw [List.take_succ_eq_append_getElem (by rw [nms_len]; exact hkl), nms_at D.st.xs k hkl]
      have hlen : ((nms D.st.xs).take k).length = k := by rw [List.length_take, nms_len]; omega
      generalize (nms D.st.xs).take k = N at *
      generalize D.st.xs[k] = x at *
      have HTK := hid htk
      have HLE := hid hlen
      have hkey := plKey x.nm hzx
      obtain ⟨kl, hkl2⟩ : ∃ kl, Lit.string x.nm.data.toList = kl := ⟨_, rfl⟩
      rw [hkl2] at hkey
      obtain ⟨hhas, hat⟩ := HPL.out x.nm kl hkey
      have HAT := hid hat
      have hwk : (Lit.int .i64 (k : Int)).wf = true := WalkArith.wf_i64 (by omega)
      clear htk hlen hkl2 hat hkl
      have hki : (k : Int) < (n : Int) := by omega
      have hk0 : (0 : Int) ≤ (k : Int) := by omega
      cases hin : Nm.inB N x.nm with
      | true =>
        rw [hin] at hhas
        have HS := hid (HPL.out.same x.nm hin)
        clear hin
        go_wp2_with (at_lookup; refine wpList_lookup_own_ok_int _ rfl _ _ 55 rfl 9 3 .i64 plKeyed Try.underlying55 Try.underlying3 (plZero _) (s + 1) k M rfl (HM.out.alloc _) _ _ rfl hkey ?_; rw [hhas]; intro cc _ _)
        go_roundw
        case rel => exact ⟨k + 1, M, by omega, by go_num, (HM.out.alloc _).mono (by omega), by rw [HTK.out]; exact HS.out, HBE.out.alloc (by omega) _, by simp; omega⟩
        case measure => simp [intOf] <;> omega
      | false =>
        rw [hin] at hhas
        have HS := hid (HPL.out.put x.nm hin kl hkey HM.out.isMap)
        clear hin
        go_wp2_with (first
          | (at_lookup; refine wpList_lookup_own_ok_int _ rfl _ _ 55 rfl 9 3 .i64 plKeyed Try.underlying55 Try.underlying3 (plZero _) (s + 1) k M rfl (HM.out.alloc _) _ _ rfl hkey ?_; rw [hhas]; intro cc _ _)
          | (at_mapUpdate; refine wpList_mapUpdate_own _ rfl _ _ _ 55 rfl 9 3 plKeyed Try.underlying55 _ (s + 1) k M rfl (HM.out.alloc _) (by unfold maxLen; omega) _ _ kl rfl rfl hkey (.lit (.int .i64 (k : Int))) [] (plainElem_int Try.underlying3 hwk) ?_; intro w2 hown2 hgrow2; have HOW2 := hid hown2; have HG2 := hid hgrow2; clear hown2 hgrow2))
        have hsz2 := HG2.out.size
        rw [World.size_alloc] at hsz2
        have HB3 := hid ((HBE.out.alloc (by omega) (.cells #[.string x.nm, .string x.ac, .string x.un, .slice x.af.A x.af.xs.length x.af.c, .int .i64 x.r1, .int .i64 x.r2, .int .i64 x.r3, .int .i64 x.lim, .int .u8 x.nd.kd, .string x.nd.tx, .slice x.nd.ks.A x.nd.ks.xs.length x.nd.ks.c, .slice x.nd.cA x.nd.cn x.nd.cc, .int .i64 x.nd.ln] 44)).grown HG2.out (by rw [World.size_alloc]; omega) (fun j e => by injection e with e; omega))
        go_roundw
        case rel => exact ⟨k + 1, _, by omega, by go_num, HOW2.out, by rw [HTK.out, ← HLE.out] at *; have h := HS.out; rw [HLE.out] at h; exact h, HB3.out, by omega⟩
        case measure => simp [intOf] <;> omega
    · obtain rfl : k = n := by omega
      have hnk : ¬ (k : Int) < (k : Int) := by omega
      rw [List.take_of_length_le (by rw [nms_len, HN.out]; omega)] at HPL
      go_wp2_with fail
      go_ret
      refine ⟨rfl, M, HM.out, HPL.out, ?_, hsz⟩
      have h := bw_t HB1.out (show Below w1.heap.size w1 wr by rw [HZ1.out]; exact HBE.out)
      rw [HWS.out] at h
      exact h
end Go.Proofs.Ytejdlhjbakndaaa
