/- Frames, if one is too long; the document's Join of frames of up to 8192 bytes. -/
import Derived.Test.YtabklpgimjmdlaaStmFr
set_option linter.unusedVariables false
namespace Go.Proofs.Ytabklpgimjmdlaa
open Go.RowKit
theorem rows_take_len2 (l : List FrV) (j : Nat) (h : ∀ (i : Nat) (hi : i < l.length), i < j → l[i].s.xs.length ≤ 8192) : (Rs.rows ((l.take j).map FrV.p)).length ≤ 8201 * j := by
  induction j with
  | zero => simp [Rs.rows]
  | succ j ih =>
    have ih := ih (fun i hi hij => h i hi (by omega))
    by_cases hj : j < l.length
    · rw [rows_take_snoc l j hj, List.length_append, Fr.put_len]
      have := h j hj (by omega)
      omega
    · rw [List.take_of_length_le (by omega)]
      rw [List.take_of_length_le (by omega)] at ih
      omega
theorem Rs.rows_len8 (l : List (UInt8 × List UInt8)) (h : ∀ f ∈ l, f.2.length ≤ 8192) : (Rs.rows l).length ≤ l.length * 8201 := by
  induction l with
  | nil => simp [Rs.rows]
  | cons f l ih =>
    have h1 := h f (List.mem_cons_self ..)
    have h2 := ih (fun g hg => h g (List.mem_cons_of_mem _ hg))
    simp only [Rs.rows, List.length_append, Fr.put_len, List.length_cons]; omega
set_option maxRecDepth 100000 in
theorem rjoin14_8 (l : List FrV) (n : Nat) (A : Option Addr) (c : Nat) (w : World) (hn : l.length = n) (h12 : l.length ≤ 12) (h8 : ∀ f ∈ l, f.s.xs.length ≤ 8192) (hok : ∀ f ∈ l, FrOk w f) (hs : SlN w A n c 2 (l.flatMap frC)) :
    Calls Try.prog 26 #[.slice A n c] w fun e w' => ∃ A' c', e = .returned (.slice A' (Rs.rows (l.map FrV.p)).length c') ∧ Sl w' A' c' ((Rs.rows (l.map FrV.p)).map bv) ∧ Below w.heap.size w w' := by
  have hfe : l.length ≤ 12 ∧ ∀ f ∈ l, f.s.xs.length ≤ 8192 := ⟨h12, h8⟩
  have HN := hid hn
  have HS := hid hs
  have HF := hid hfe
  have HOK := hid hok
  have hn12 : n ≤ 12 := by omega
  have hcap : n ≤ c := hs.cap
  clear hn hs h12 h8 hfe hok
  go_enter Try.func26, Try.ntmps26
  go_wp2_with fail
  go_loopw [3, 4] (fun v i wr => ∃ (k : Nat) (Ao : Option Addr) (co : Nat), k ≤ n ∧ i = .int .i64 (k : Int) ∧ v = .slice Ao (Rs.rows ((l.take k).map FrV.p)).length co ∧ Sl wr Ao co ((Rs.rows ((l.take k).map FrV.p)).map bv) ∧ Below w.heap.size w wr) (fun _ i _ => n - (intOf i).toNat)
  case atStart => exact ⟨0, none, 0, by omega, rfl, rfl, Sl.nil_ _, Below.refl _ _⟩
  case round =>
    obtain ⟨k, Ao, co, hk, rfl, rfl, hsr, hB⟩ := hrel
    by_cases hlt : k < n
    · have hkl : k < l.length := by have := HN.out; omega
      obtain ⟨b, off, rfl, hb, s0, s1⟩ := frRow_get HN.out (HS.out.below hB) k hkl
      have hki : (k : Int) < (n : Int) := by omega
      have hk0 : (0 : Int) ≤ (k : Int) := by omega
      have htk : l.take (k + 1) = l.take k ++ [l[k]] := List.take_succ_eq_append_getElem hkl
      have hok := HOK.out _ (List.getElem_mem hkl)
      have h300 := HF.out.2 _ (List.getElem_mem hkl)
      have hrl := Rs.rows_len8 ((l.take k).map FrV.p) (by
        intro f hf
        obtain ⟨g, hg, rfl⟩ := List.mem_map.1 hf
        exact HF.out.2 g (List.mem_of_mem_take hg))
      have hrs : Rs.rows ((l.take (k + 1)).map FrV.p) = Rs.rows ((l.take k).map FrV.p) ++ Fr.put (UInt8.ofNat l[k].t) l[k].s.xs := by
        rw [htk, List.map_append, List.map_singleton, Rs.rows_snoc]; rfl
      rw [List.length_map, List.length_take] at hrl
      generalize Rs.rows ((l.take k).map FrV.p) = rs at *
      generalize h2e : Rs.rows ((l.take (k + 1)).map FrV.p) = rs2 at *
      have H2E := hid h2e
      clear h2e
      generalize l[k] = f at *
      obtain ⟨ft, ⟨fA, fc, fxs⟩⟩ := f
      obtain ⟨hft, hfs⟩ := hok
      simp only at s0 s1 hft hfs h300 hrs
      obtain ⟨T, hT⟩ : ∃ T : UInt8, T.toNat = ft := ⟨UInt8.ofNat ft, by rw [UInt8.toNat_ofNat']; omega⟩
      have hT2 : UInt8.ofNat ft = T := by rw [← hT]; simp
      rw [hT2] at hrs
      obtain ⟨pl, hpl⟩ : ∃ p, fxs.length = p := ⟨_, rfl⟩
      obtain ⟨rl, hrl2⟩ : ∃ p, rs.length = p := ⟨_, rfl⟩
      have hput := rfput_any T fxs pl fA fc wr hpl (by omega) (hfs.below hB)
      rw [hT] at hput
      rw [hpl] at s1
      obtain ⟨N1, hN1⟩ : ∃ k, pl + 9 = k := ⟨_, rfl⟩
      rw [hN1] at hput
      have hjn := fun W A1 c1 (hW : Below wr.heap.size wr W) h => rjoin2_any rs (Fr.put T fxs) rl N1 Ao A1 co c1 W hrl2 (by rw [Fr.put_len]; omega) (by omega) (hsr.below hW) h
      rw [hrl2]
      have HP := hid hput
      have HJ := hid hjn
      have HRS := hid hrs
      have HB := hid hB
      have HRL := hid hrl2
      have hrs2 : rs2.length = rl + N1 := by rw [hrs, List.length_append, Fr.put_len]; omega
      have HR2 := hid hrs2
      clear hput hjn hrs hB hsr hfs hT2 hrl hrl2 hpl hrs2 hT htk hkl
      go_wp2_with fail
      refine HP.out.mono ?_
      rintro e w1 ⟨v1, rfl, ho1, hb1⟩
      obtain ⟨A1, c1, rfl⟩ := row_slice_g ho1
      have hs1 := Sl.of_own'' ho1
      go_wp2_with fail
      refine (HJ.out _ _ _ hb1 hs1).mono ?_
      rintro e w2 ⟨A2, c2, rfl, hs2, -, hb2⟩
      have HB2 := hid (bw_t (bw_t HB.out hb1) hb2)
      have HS2 := hid hs2
      clear hb1 hb2 hs1 hs2 ho1
      go_wp2_with fail
      go_roundw
      case rel => exact ⟨k + 1, A2, c2, by omega, by go_num, by rw [H2E.out, HR2.out], by rw [H2E.out, HRS.out]; exact HS2.out, HB2.out⟩
      case measure => simp [intOf]; omega
    · obtain rfl : k = n := by omega
      rw [List.take_of_length_le (by have := HN.out; omega)] at hsr ⊢
      generalize hqe : Rs.rows (l.map FrV.p) = rs at *
      have HQE := hid hqe
      clear hqe
      obtain ⟨rl, hrl2⟩ : ∃ p, rs.length = p := ⟨_, rfl⟩
      rw [hrl2]
      have HS2 := hid hsr
      have HB := hid hB
      have HRL := hid hrl2
      clear hsr hB hrl2
      go_wp2_with fail
      go_ret
      refine ⟨Ao, co, ?_, ?_, HB.out⟩
      · rw [HQE.out, HRL.out]; rfl
      · rw [HQE.out]; exact HS2.out
set_option maxRecDepth 100000 in
set_option maxHeartbeats 4000000 in
theorem stframes_long (l : List FrV) (m : Nat) (A : Option Addr) (c : Nat) (lg : Nat) (w : World) (hm : l.length = m) (hok : ∀ f ∈ l, FrOk w f) (hM : SlN w A m c 2 (l.flatMap frC)) (hlg : lg < m) (h8 : ∀ (i : Nat) (hi : i < l.length), i < lg → l[i].s.xs.length ≤ 8192) (hlong : ∀ (hi : lg < l.length), 8192 < l[lg].s.xs.length) (hml : m ≤ 1000) :
    Calls Try.prog 24 #[.slice A m c] w fun e w' => e = .returned (.tuple #[.slice none 0 0, .agg #[.int .i64 2, .int .i64 (lg : Int)]]) ∧ Below w.heap.size w w' := by
  obtain ⟨i0, ii, iz0, iz1, iz2⟩ := info_parts Try.info5
  obtain ⟨s, hws⟩ : ∃ s, w.heap.size = s := ⟨_, rfl⟩
  have hkf := Blk.new w 50 #[.int .i64 0, .int .i64 0]
  rw [hws] at hkf
  have hb0 := bw_a (Below.refl w.heap.size w) (.cells #[.int .i64 0, .int .i64 0] 50)
  rw [hws] at hb0
  have hcap := hM.cap
  have hsma := hM.small
  obtain ⟨R, hR⟩ : ∃ R : Ending → World → Prop, R = fun e w' => e = .returned (.tuple #[.slice none 0 0, .agg #[.int .i64 2, .int .i64 (lg : Int)]]) ∧ Below s w w' := ⟨_, rfl⟩
  have hz0 : (w.alloc (.cells #[.int .i64 0, .int .i64 0] 50)).heap.size = s + 1 := by simp [hws]
  rw [hws, ← hR]
  have HR := hid hR
  have HKF := hid hkf
  have HB0 := hid hb0
  have HM := hid hM
  have HOK := hid hok
  have H8 := hid h8
  have HML := hid hm
  have HLO := hid hlong
  clear hR hkf hb0 hM hok h8 hm hlong
  go_enter Try.func24, Try.ntmps24
  go_wp2_with fail
  generalize hW0 : (w.alloc (.cells #[.int .i64 0, .int .i64 0] 50)) = W0 at *
  clear hW0
  go_loopw [4, 11] (fun v i wr => ∃ j : Nat, j ≤ lg ∧ i = .int .i64 (j : Int) ∧ wr.ownsRow (s + 1) 5 1 v (Rs.rows ((l.take j).map FrV.p)).length ((Rs.rows ((l.take j).map FrV.p)).map bv) ∧ Blk wr s 50 #[.int .i64 0, .int .i64 0] ∧ Below s w wr ∧ s + 1 ≤ wr.heap.size) (fun _ i _ => m - (intOf i).toNat)
  case atStart => exact ⟨0, by omega, rfl, by simpa [Rs.rows] using World.ownsRow_nil _ _ _ _, HKF.out, HB0.out, by omega⟩
  case round =>
    obtain ⟨j, hj, rfl, ho, hkf, hb, hsz⟩ := hrel
    by_cases hlt : j < lg
    · have hjl : j < l.length := by have := HML.out; omega
      obtain ⟨b, off, rfl, hbl, t0, t1⟩ := frRow_get HML.out HM.out j hjl
      have hok := HOK.out _ (List.getElem_mem hjl)
      have h8 := H8.out j hjl hlt
      have hsn := rows_take_snoc l j hjl
      have hle := rows_take_len2 l j (fun i hi hij => H8.out i hi (by omega))
      generalize l[j] = x at *
      obtain ⟨xt, xA, xc, xs⟩ := x
      obtain ⟨hxt, hxs⟩ := hok
      simp only at t0 t1 h8 hsn hxt hxs
      obtain ⟨pn, hpn⟩ : ∃ pn, xs.length = pn := ⟨_, rfl⟩
      rw [hpn] at t1 h8
      have hbb : b < s := by omega
      have t0 := (hb.cell (p := ⟨b, off + j * 2, none⟩) hbb).trans t0
      have t1 := (hb.cell (p := ⟨b, off + j * 2 + 1, none⟩) hbb).trans t1
      have hx8 : (UInt8.ofNat xt).toNat = xt := by rw [UInt8.toNat_ofNat']; omega
      have hb2 := hb.trans ((bw_a (Below.refl wr.heap.size wr) (.cells #[.int .u8 (xt : Int), .slice xA pn xc] 47)).mono (by omega))
      have hfp := fput_any (UInt8.ofNat xt) xs pn xA xc _ hpn (by omega) (hxs.below (by rw [hws]; exact hb2))
      rw [hx8] at hfp
      have hki : (j : Int) < (m : Int) := by omega
      have hk0 : (0 : Int) ≤ (j : Int) := by omega
      obtain ⟨L, hL⟩ : ∃ L, (Rs.rows ((l.take j).map FrV.p)).length = L := ⟨_, rfl⟩
      rw [hL] at ho hle
      have HFP := hid hfp
      have HO := hid (own_below ho (bw_a (Below.refl wr.heap.size wr) (.cells #[.int .u8 (xt : Int), .slice xA pn xc] 47)))
      have HKF2 := hid (hkf.alloc (.cells #[.int .u8 (xt : Int), .slice xA pn xc] 47))
      have HB2 := hid hb2
      have HSN := hid hsn
      have HLL := hid hL
      have HPN := hid hpn
      clear hfp ho hkf hb hb2 hsn hL hpn hxs hx8
      go_wp2_with fail
      refine HFP.out.mono ?_
      rintro e w5 ⟨v5, rfl, ho5, hb5⟩
      obtain ⟨A5, c5, rfl⟩ := row_slice_g ho5
      have hs5 := hb5.size
      have HS5 := hid (Sl.of_own' ho5)
      have HO5 := hid (own_below HO.out hb5)
      have HKF5 := hid (HKF2.out.below hb5 HKF2.out.lt)
      have HB5 := hid (HB2.out.trans (hb5.mono (by have := HB2.out.size; omega)))
      have hz5 : s + 1 ≤ w5.heap.size := by have := HKF5.out.lt; omega
      have hpl := HPN.out
      clear ho5 hb5
      go_wp2_with (at_builtin; refine wpList_append_rd rfl (.tmp 26) (.tmp 27) 22 rfl (s + 1) 5 i0 (.int .u8 0) 1 1 Try.underlying22 ii iz0 iz1 iz2 rfl (by decide) _ _ _ rfl HO5.out A5 (pn + 9) c5 ((Fr.put (UInt8.ofNat xt) xs).map bv) rfl (by rw [List.length_map, Fr.put_len, HPN.out, Nat.mul_one]) HS5.out.rd HS5.out.nil0 (bv_one _) (by simp only [maxLen]; omega) (by omega) hz5 ?_; intro v6 w6 ho6 hg6; have hc6 := Chg.of_grown (S := fun q => u4.ownBlock = some q) hg6 (fun q e => e); have hu4 := (fun q hq => (HO5.out.lt q hq).1 : ∀ q, u4.ownBlock = some q → s + 1 ≤ q); have HO6 := hid ho6; have HKF6 := hid (hc6.blk HKF5.out (fun h => by have := hu4 _ h; omega)); have HB6 := hid (HB5.out.trans ((hc6.mono (T := fun q => s ≤ q) (fun q _ h => by have := hu4 q h; omega)).below (fun q h => h) (by omega))); clear ho6 hg6 hc6 hu4)
      go_roundw
      case rel =>
        refine ⟨j + 1, by omega, by go_num, ?_, HKF6.out, HB6.out, by have := HKF6.out.lt; omega⟩
        rw [HSN.out, List.map_append, List.length_append, HLL.out, Fr.put_len, HPN.out]
        exact HO6.out
      case measure => simp [intOf]; omega
    · obtain rfl : j = lg := by omega
      have hjl : j < l.length := by have := HML.out; omega
      obtain ⟨b, off, rfl, hbl, t0, t1⟩ := frRow_get HML.out HM.out j hjl
      have h8 := HLO.out hjl
      have hok := HOK.out _ (List.getElem_mem hjl)
      generalize l[j] = x at *
      obtain ⟨xt, xA, xc, xs⟩ := x
      obtain ⟨hxt, hxs⟩ := hok
      have hxm := hxs.cap
      have hxm2 := hxs.small
      rw [List.length_map] at hxm
      simp only at t0 t1 h8 hxt hxm hxm2
      generalize xs.length = pn at *
      have hbb : b < s := by omega
      have t0 := (hb.cell (p := ⟨b, off + j * 2, none⟩) hbb).trans t0
      have t1 := (hb.cell (p := ⟨b, off + j * 2 + 1, none⟩) hbb).trans t1
      have hba := bw_a (Below.refl wr.heap.size wr) (.cells #[.int .u8 (xt : Int), .slice xA pn xc] 47)
      have hb2 := hb.trans (hba.mono (by omega))
      have HFP := hid (fun W => fput_long xt pn xA xc W h8 (by omega))
      have HKF2 := hid (hkf.alloc (.cells #[.int .u8 (xt : Int), .slice xA pn xc] 47))
      have HB2 := hid hb2
      have hki : (j : Int) < (m : Int) := by omega
      have hk0 : (0 : Int) ≤ (j : Int) := by omega
      clear ho hkf hb hb2 hba hxs
      go_wp2_with fail
      refine (HFP.out _).mono ?_
      rintro e w5 ⟨rfl, hb5⟩
      have HKF5 := hid (HKF2.out.below hb5 HKF2.out.lt)
      have HB5 := hid (HB2.out.trans (hb5.mono (by have := HB2.out.size; omega)))
      clear hb5
      have f0 := HKF5.out.frozen 0
      have f1 := HKF5.out.frozen 1
      have c0 := HKF5.out.cell 0
      have c1 := HKF5.out.cell 1
      simp only [List.getElem?_toArray, List.getElem?_cons_zero, List.getElem?_cons_succ] at c0 c1
      go_wp2_with fail
      have hk9 : Blk ((w5.setCell ⟨s, 0, none⟩ (.int .i64 2)).setCell ⟨s, 1, none⟩ (.int .i64 (j : Int))) s 50 #[.int .i64 2, .int .i64 (j : Int)] := by
        have := (HKF5.out.set_ 0 (.int .i64 2)).set_ 1 (.int .i64 (j : Int))
        simpa using this
      have hc9 : Chg (fun q => q = s) w5 ((w5.setCell ⟨s, 0, none⟩ (.int .i64 2)).setCell ⟨s, 1, none⟩ (.int .i64 (j : Int))) := ((Chg.refl (fun q => q = s) w5).set_ (.inl rfl) 0 _).set_ (.inl rfl) 1 _
      generalize hW9 : ((w5.setCell ⟨s, 0, none⟩ (.int .i64 2)).setCell ⟨s, 1, none⟩ (.int .i64 (j : Int))) = W9 at *
      have x0 := hk9.cell 0
      have x1 := hk9.cell 1
      simp only [List.getElem?_toArray, List.getElem?_cons_zero, List.getElem?_cons_succ] at x0 x1
      refine bodyPost_ret (v := .tuple #[.slice none 0 0, .agg #[.int .i64 2, .int .i64 (j : Int)]]) (by simp [results, Try.results24, go_sem, x0, x1]) rfl ?_
      rw [HR.out]
      exact ⟨rfl, HB5.out.trans (hc9.below (fun q h => by omega) (by have := HKF5.out.lt; omega))⟩
end Go.Proofs.Ytabklpgimjmdlaa
