/- Names: the document's list of the names that stand for nothing: a walk. -/
import Derived.Test.YtejdlhjbakndaaaNmA
import Derived.Test.YtejdlhjbakndaaaM6
import Derived.Deep.RegionHeld3
set_option linter.unusedVariables false
namespace Go.Proofs.Ytejdlhjbakndaaa
open Go.RowKit
theorem Try.infoSt25 : (Try.prog.info? 9).map (fun i => (i.zero, i.size, i.bytes)) = some (some (.string ⟨#[]⟩), 1, 16) := by kernel_rfl
namespace Nm
def msAdd (N acc : List ByteArray) (s : ByteArray) : List ByteArray := if ixI N s < 0 ∧ ¬ inB acc s = true then acc ++ [s] else acc
def msRow (N acc l : List ByteArray) : List ByteArray := l.foldl (msAdd N) acc
def msAll (N : List ByteArray) (X : List StV) : List ByteArray := X.foldl (fun a x => msRow N a x.af.xs) []
theorem msAdd_len (N acc : List ByteArray) (s : ByteArray) : (msAdd N acc s).length ≤ acc.length + 1 := by unfold msAdd; split <;> simp
theorem msRow_snoc (N acc l : List ByteArray) (p : Nat) (hp : p < l.length) : msRow N acc (l.take (p + 1)) = msAdd N (msRow N acc (l.take p)) l[p] := by
  rw [List.take_succ_eq_append_getElem hp, msRow, List.foldl_append]; rfl
theorem msAll_snoc (N : List ByteArray) (X : List StV) (k : Nat) (hk : k < X.length) : msAll N (X.take (k + 1)) = msRow N (msAll N (X.take k)) X[k].af.xs := by
  rw [List.take_succ_eq_append_getElem hk, msAll, List.foldl_append]; rfl
theorem msRow_len (N : List ByteArray) : ∀ (l acc : List ByteArray), (msRow N acc l).length ≤ acc.length + l.length
  | [], acc => by simp [msRow]
  | x :: l, acc => by
    have h := msRow_len N l (msAdd N acc x)
    have h2 := msAdd_len N acc x
    simp only [msRow, List.foldl_cons, List.length_cons] at *
    omega
end Nm
set_option maxRecDepth 100000 in
set_option maxHeartbeats 16000000 in
theorem rmiss25_any (D : DfV) (w : World) (hst : StRow w D) (hX : ∀ x ∈ D.st.xs, TxOk w x.af ∧ x.af.xs.length ≤ 70) (hl : D.st.xs.length ≤ 30) :
    Calls Try.prog 20 #[.agg #[.string D.nm, .string D.tx, .slice D.st.A D.st.xs.length D.st.c]] w fun e w' => ∃ v, e = .returned v ∧ w'.ownsRow w.heap.size 9 1 v (Nm.msAll (nms D.st.xs) D.st.xs).length ((Nm.msAll (nms D.st.xs) D.st.xs).flatMap svC) ∧ Below w.heap.size w w' := by
  obtain ⟨i0, hi0, hz0, hz1, hz2⟩ := info_parts Try.infoSt25
  obtain ⟨s, hws⟩ : ∃ s, w.heap.size = s := ⟨_, rfl⟩
  have HWS := hid hws
  have hb1 := bw_a (Below.refl _ w) (.cells #[.string D.nm, .string D.tx, .slice D.st.A D.st.xs.length D.st.c] 24)
  have hk1 := Blk.new w 24 #[.string D.nm, .string D.tx, .slice D.st.A D.st.xs.length D.st.c]
  rw [hws] at hk1
  have hsr := StRow.below hst hb1
  have HC1 := hid (fun (y : ByteArray) (W : World) (h : Below w.heap.size w W) => index25_any D y W (StRow.below hst h) (by omega))
  have HTX := hid (fun x (h : x ∈ D.st.xs) => hX x h)
  obtain ⟨N, hN⟩ : ∃ N, nms D.st.xs = N := ⟨_, rfl⟩
  rw [hN] at HC1 ⊢
  obtain ⟨n, hn⟩ : ∃ n, D.st.xs.length = n := ⟨_, rfl⟩
  obtain ⟨SA, hSA⟩ : ∃ SA, D.st.A = SA := ⟨_, rfl⟩
  have HN := hid hn
  unfold StRow at hsr
  rw [hn, hSA] at hb1 hk1 hsr HC1 ⊢
  rw [hn] at hl
  have HB1 := hid hb1
  have HK1 := hid hk1
  have HS1 := hid hsr
  rw [hws]
  clear hn hSA hb1 hk1 hst hN hX hsr
  go_enter Try.func20, Try.ntmps20
  go_wp2_with fail
  obtain ⟨w1, hw1⟩ : ∃ w1, w.alloc (.cells #[.string D.nm, .string D.tx, .slice SA n D.st.c] 24) = w1 := ⟨_, rfl⟩
  rw [hw1] at HB1 HK1 HS1 ⊢
  have hz1s : w1.heap.size = s + 1 := by rw [← hw1, World.size_alloc, hws]
  have HZ1 := hid hz1s
  clear hw1 hz1s
  have HR := hid (Below.refl (s + 1) w1)
  go_loopw [3, 4] (fun ov i wr => ∃ k : Nat, k ≤ n ∧ i = .int .i64 (k : Int) ∧ (Nm.msAll N (D.st.xs.take k)).length ≤ 70 * k ∧ wr.ownsRow (s + 1) 9 1 ov (Nm.msAll N (D.st.xs.take k)).length ((Nm.msAll N (D.st.xs.take k)).flatMap svC) ∧ Below (s + 1) w1 wr) (fun _ i _ => n - (intOf i).toNat)
  case atStart => exact ⟨0, by omega, rfl, by simp [Nm.msAll], World.ownsRow_nil _ _ _ _, HR.out⟩
  case round =>
    obtain ⟨k, hk, rfl, hlen, how, hbe⟩ := hrel
    have HO := hid how
    have HBE := hid hbe
    have hk1 := HK1.out.below (HBE.out.mono (by omega) : Below (s + 1) w1 wr) (by omega)
    have d0 := hk1.cell 0
    have d1 := hk1.cell 1
    have d2 := hk1.cell 2
    simp only [List.getElem?_toArray, List.getElem?_cons_zero, List.getElem?_cons_succ] at d0 d1 d2
    have HK2 := hid hk1
    clear hk1 how hbe
    by_cases hlt : k < n
    · have hkl : k < D.st.xs.length := by have := HN.out; omega
      have HBW := hid (show Below w1.heap.size w1 wr by rw [HZ1.out]; exact HBE.out)
      have HBV := hid (show Below w.heap.size w wr from bw_t HB1.out HBW.out)
      obtain ⟨g, o, hA, hg, e0, e1, e2, e3, -⟩ := st_at (X := D.st.xs) (by have := HS1.out.below HBW.out; exact this) k hkl
      have hms := Nm.msAll_snoc N D.st.xs k hkl
      obtain ⟨htx, h70⟩ := HTX.out _ (List.getElem_mem hkl)
      generalize D.st.xs[k] = x at *
      obtain ⟨M, hM⟩ : ∃ M, Nm.msAll N (D.st.xs.take k) = M := ⟨_, rfl⟩
      rw [hM] at HO hlen hms
      clear hM e0 e1 e2 hkl
      have HMS := hid hms
      have HTX2 := hid htx
      obtain ⟨m, hm⟩ : ∃ m, x.af.xs.length = m := ⟨_, rfl⟩
      obtain ⟨fA, hfA⟩ : ∃ fA, x.af.A = fA := ⟨_, rfl⟩
      have HM := hid hm
      have HFA := hid hfA
      rw [hm, hfA] at e3
      rw [hm] at h70
      clear hms htx hm hfA
      subst hA
      have hki : (k : Int) < (n : Int) := by omega
      have hk0 : (0 : Int) ≤ (k : Int) := by omega
      go_wp2_with fail
      clear d0 d1 d2 e3
      obtain ⟨wo, rfl⟩ : ∃ z, z = wr := ⟨_, rfl⟩
      go_loopw [3, 6] (fun ov2 i wr => ∃ p : Nat, p ≤ m ∧ i = .int .i64 (p : Int) ∧ wr.ownsRow (s + 1) 9 1 ov2 (Nm.msRow N M (x.af.xs.take p)).length ((Nm.msRow N M (x.af.xs.take p)).flatMap svC) ∧ Below (s + 1) w1 wr) (fun _ i _ => m - (intOf i).toNat)
      case atStart => exact ⟨0, by omega, rfl, HO.out, HBE.out⟩
      case round =>
        obtain ⟨p, hp, rfl, how2, hbe2⟩ := hrel
        have HO2 := hid how2
        have HBE2 := hid hbe2
        clear how2 hbe2
        have hk3 := HK1.out.below (HBE2.out : Below (s + 1) w1 wr) (by omega)
        have d0 := hk3.cell 0
        have d1 := hk3.cell 1
        have d2 := hk3.cell 2
        simp only [List.getElem?_toArray, List.getElem?_cons_zero, List.getElem?_cons_succ] at d0 d1 d2
        clear hk3
        by_cases hlp : p < m
        · have hpl : p < x.af.xs.length := by have := HM.out; omega
          have HBR := hid (show Below w.heap.size w wr from bw_t HB1.out (by rw [HZ1.out]; exact HBE2.out))
          obtain ⟨g2, o2, hA2, hg2, t0⟩ := tx_at (TxOk.below (W' := wr) HTX2.out HBR.out) p hpl
          have hsn := Nm.msRow_snoc N M x.af.xs p hpl
          have hlp2 := Nm.msRow_len N (x.af.xs.take p) M
          rw [List.length_take] at hlp2
          generalize x.af.xs[p] = y at *
          obtain ⟨Z, hZ⟩ : ∃ Z, Nm.msRow N M (x.af.xs.take p) = Z := ⟨_, rfl⟩
          rw [hZ] at HO2 hsn hlp2
          have HSN := hid hsn
          clear hZ hsn
          rw [HFA.out] at hA2
          subst hA2
          have hpi : (p : Int) < (m : Int) := by omega
          have hp0 : (0 : Int) ≤ (p : Int) := by omega
          obtain ⟨R, hR⟩ : ∃ R, Nm.ixI N y = R := ⟨_, rfl⟩
          have HD0 := hid (show Below wr.heap.size wr wr.drew from bw_d (Below.refl _ wr) 1)
          have C1' : ∀ W, Below wr.heap.size wr W → Calls Try.prog 34 #[.agg #[.string D.nm, .string D.tx, .slice (some ⟨g, o, none⟩) n D.st.c], .string y] W fun e w' => e = .returned (.int .i64 R) ∧ Below wr.heap.size wr w' := fun W hb => by
            with_reducible refine (HC1.out y W (HBR.out.trans (hb.mono HBR.out.size))).mono ?_
            rintro e w' ⟨rfl, hb'⟩
            exact ⟨by rw [hR], bw_t hb hb'⟩
          have C1 := hid C1'
          clear C1'
          obtain ⟨va, ca, hv, hsl⟩ := SlN.of_own (by omega) HO2.out
          subst hv
          have C2 := hid (fun (W : World) (hb : Below wr.heap.size wr W) => among25_any Z Z.length va ca y W rfl (by omega) (hsl.below hb))
          clear hsl
          obtain ⟨bb, hbb⟩ : ∃ bb, Nm.inB Z y = bb := ⟨_, rfl⟩
          rw [hbb] at C2
          have hs0 : s < wr.heap.size := by have := HBE2.out.size; have := HZ1.out; omega
          have hS : ∀ W', Below wr.heap.size wr W' → W'.cell? ⟨s, 0, none⟩ = some (.string D.nm) ∧ W'.cell? ⟨s, 1, none⟩ = some (.string D.tx) ∧ W'.cell? ⟨s, 2, none⟩ = some (.slice (some ⟨g, o, none⟩) n D.st.c) ∧ W'.cell? ⟨g2, o2 + p, none⟩ = some (.string y) := fun W' hb => ⟨(hb.cell hs0).trans d0, (hb.cell hs0).trans d1, (hb.cell hs0).trans d2, (hb.cell hg2).trans t0⟩
          have HSS := hid hS
          clear hS
          by_cases hr : R < 0
          · have hrd : decide (R < 0) = true := decide_eq_true hr
            go_wp2_with fail
            go_region_held3 (fun w' => w'.cell? ⟨s, 0, none⟩ = some (.string D.nm) ∧ w'.cell? ⟨s, 1, none⟩ = some (.string D.tx) ∧ w'.cell? ⟨s, 2, none⟩ = some (.slice (some ⟨g, o, none⟩) n D.st.c) ∧ w'.cell? ⟨g2, o2 + p, none⟩ = some (.string y)) (first | exact HSS.out _ HD0.out | exact HSS.out _ HDa.out | go_keep) (first
              | (go_at_call 34; (with_reducible refine (C1.out _ HD0.out).mono ?_); rintro e wa ⟨rfl, hbn⟩; have HDa := hid hbn; clear hbn)
              | (go_at_call 35; (with_reducible refine (C2.out _ HDa.out).mono ?_); rintro e wb ⟨rfl, rfl⟩))
            have HBA := hid (show Below (s + 1) w1 wa from HBE2.out.trans (HDa.out.mono (by have := HBE2.out.size; have := HZ1.out; omega)))
            have HZa := hid (show s + 1 ≤ wa.heap.size from by have := HBE2.out.size; have := HBA.out.size; have := HZ1.out; omega)
            have HOA := hid (own_below HO2.out HDa.out)
            have hta := (HDa.out.cell hg2).trans t0
            cases bb with
            | true =>
              have HX := hid (show Nm.msAdd N Z y = Z by unfold Nm.msAdd; rw [hR, hbb]; simp)
              go_wp2_with fail
              go_roundw
              case rel => exact ⟨p + 1, by omega, by go_num, by rw [HSN.out, HX.out]; exact HOA.out, HBA.out⟩
              case measure => simp [intOf] <;> omega
            | false =>
              have HX := hid (show Nm.msAdd N Z y = Z ++ [y] by unfold Nm.msAdd; rw [hR, hbb, if_pos ⟨hr, by simp⟩])
              go_wp2_with (first
                | (at_builtin; refine wpList_append_rd rfl (.tmp 42) (.tmp 47) 35 rfl (s + 1) 9 i0 (.string ⟨#[]⟩) 1 16 Try.underlying35 hi0 hz0 hz1 hz2 rfl (by decide) _ _ _ rfl (own_below HOA.out (bw_a (Below.refl _ wa) (.cells #[.string y] 9))) (some ⟨wa.heap.size, 0, none⟩) 1 1 [.string y] rfl rfl (Rd.new wa 9 #[.string y]) (fun h => by cases h) (by simp [Value.oneCell']) (by simp only [maxLen]; omega) (by omega) (by have := HZa.out; simp; omega) ?_; intro v2 w2 hown2 hgrow2; have HOW2 := hid hown2; have HG2 := hid hgrow2; clear hown2 hgrow2))
              have hvb : ∀ j, Value.ownBlock (.slice va Z.length ca) = some j → s + 1 ≤ j := fun j e => (HOA.out.lt j e).1
              have HB2 := hid ((HBA.out.alloc HZa.out (.cells #[.string y] 9)).grown HG2.out (by have := HZa.out; simp; omega) hvb)
              go_roundw
              case rel => exact ⟨p + 1, by omega, by go_num, by rw [HSN.out, HX.out, List.length_append, List.flatMap_append]; exact HOW2.out, HB2.out⟩
              case measure => simp [intOf] <;> omega
          · have hrd : decide (R < 0) = false := decide_eq_false hr
            go_wp2_with fail
            first | (go_region_with ((go_at_call 34; (with_reducible refine (C1.out _ HD0.out).mono ?_); rintro e wa ⟨rfl, hbn⟩; have HDa := hid hbn; clear hbn))) | fail
            all_goals (
              have HBA := hid (show Below (s + 1) w1 wa from HBE2.out.trans (HDa.out.mono (by have := HBE2.out.size; have := HZ1.out; omega)))
              have HOA := hid (own_below HO2.out HDa.out)
              have HX := hid (show Nm.msAdd N Z y = Z by unfold Nm.msAdd; rw [hR, if_neg (fun h => by have := h.1; omega)])
              go_wp2_with fail
              go_roundw
              case rel => exact ⟨p + 1, by omega, by go_num, by rw [HSN.out, HX.out]; exact HOA.out, HBA.out⟩
              case measure => simp [intOf] <;> omega)
        · obtain rfl : p = m := by omega
          have hnp : ¬ (p : Int) < (p : Int) := by omega
          have hfin := HMS.out
          rw [List.take_of_length_le (by have := HM.out; omega)] at HO2
          have hle := Nm.msRow_len N x.af.xs M
          rw [HM.out] at hle
          go_wp2_with fail
          go_roundw
          case rel => exact ⟨k + 1, by omega, by go_num, by rw [hfin]; omega, by rw [hfin]; exact HO2.out, HBE2.out⟩
          case measure => simp [intOf] <;> omega
    · obtain rfl : k = n := by omega
      have hnk : ¬ (k : Int) < (k : Int) := by omega
      rw [List.take_of_length_le (by have := HN.out; omega)] at HO
      go_wp2_with fail
      go_ret
      exact ⟨_, rfl, own_mono HO.out (by omega), by have h := bw_t HB1.out (show Below w1.heap.size w1 wr by rw [HZ1.out]; exact HBE.out); rw [HWS.out] at h; exact h⟩
end Go.Proofs.Ytejdlhjbakndaaa
