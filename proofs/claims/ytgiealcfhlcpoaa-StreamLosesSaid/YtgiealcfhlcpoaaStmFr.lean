/- Frames' bytes, one behind the other. -/
import Derived.Test.YtgiealcfhlcpoaaLawJu0
import Derived.Test.YtgiealcfhlcpoaaM3
import Derived.Test.YtgiealcfhlcpoaaRsM5
set_option linter.unusedVariables false
namespace Go.Proofs.Ytgiealcfhlcpoaa
open Go.RowKit
theorem bw_dqs {a b : World} {B : Nat} (h : Below B a b) (n : Nat) : Below B a (b.drewN n) := ⟨h.os, h.tape, h.output, h.size, h.block⟩
theorem rows_take_snoc (l : List FrV) (j : Nat) (hj : j < l.length) : Rs.rows ((l.take (j + 1)).map FrV.p) = Rs.rows ((l.take j).map FrV.p) ++ Fr.put (UInt8.ofNat l[j].t) l[j].s.xs := by
  rw [List.take_succ_eq_append_getElem hj, List.map_append, List.map_cons, List.map_nil, Rs.rows_snoc]
  rfl
theorem rows_take_len (l : List FrV) (j : Nat) (h : ∀ f ∈ l, f.s.xs.length ≤ 8192) : (Rs.rows ((l.take j).map FrV.p)).length ≤ 8201 * j := by
  induction j with
  | zero => simp [Rs.rows]
  | succ j ih =>
    by_cases hj : j < l.length
    · rw [rows_take_snoc l j hj, List.length_append, Fr.put_len]
      have := h _ (List.getElem_mem hj)
      omega
    · rw [List.take_of_length_le (by omega)]
      rw [List.take_of_length_le (by omega)] at ih
      omega
set_option maxRecDepth 100000 in
set_option maxHeartbeats 4000000 in
theorem stframes_any (l : List FrV) (m : Nat) (A : Option Addr) (c : Nat) (N : Nat) (w : World) (hm : l.length = m) (hok : ∀ f ∈ l, FrOk w f) (hM : SlN w A m c 2 (l.flatMap frC)) (h8 : ∀ f ∈ l, f.s.xs.length ≤ 8192) (hml : m ≤ 1000) (hN : (Rs.rows (l.map FrV.p)).length = N) :
    Calls Try.prog 12 #[.slice A m c] w fun e w' => ∃ A' c', e = .returned (.tuple #[.slice A' N c', .agg #[.int .i64 0, .int .i64 0]]) ∧ w'.ownsRow w.heap.size 5 1 (.slice A' N c') N ((Rs.rows (l.map FrV.p)).map bv) ∧ Below w.heap.size w w' := by
  obtain ⟨i0, ii, iz0, iz1, iz2⟩ := info_parts Try.info5
  obtain ⟨s, hws⟩ : ∃ s, w.heap.size = s := ⟨_, rfl⟩
  have hkf := Blk.new w 44 #[.int .i64 0, .int .i64 0]
  rw [hws] at hkf
  have hb0 := bw_a (Below.refl w.heap.size w) (.cells #[.int .i64 0, .int .i64 0] 44)
  rw [hws] at hb0
  have hcap := hM.cap
  have hsma := hM.small
  obtain ⟨R, hR⟩ : ∃ R : Ending → World → Prop, R = fun e w' => ∃ A' c', e = .returned (.tuple #[.slice A' N c', .agg #[.int .i64 0, .int .i64 0]]) ∧ w'.ownsRow s 5 1 (.slice A' N c') N ((Rs.rows (l.map FrV.p)).map bv) ∧ Below s w w' := ⟨_, rfl⟩
  have hz0 : (w.alloc (.cells #[.int .i64 0, .int .i64 0] 44)).heap.size = s + 1 := by simp [hws]
  rw [hws, ← hR]
  have HR := hid hR
  have HKF := hid hkf
  have HB0 := hid hb0
  have HM := hid hM
  have HOK := hid hok
  have H8 := hid h8
  have HML := hid hm
  have HNN := hid hN
  clear hR hkf hb0 hM hok h8 hm hN
  go_enter Try.func12, Try.ntmps12
  go_wp2_with fail
  generalize hW0 : (w.alloc (.cells #[.int .i64 0, .int .i64 0] 44)) = W0 at *
  clear hW0
  go_loopw [4, 11] (fun v i wr => ∃ j : Nat, j ≤ m ∧ i = .int .i64 (j : Int) ∧ wr.ownsRow (s + 1) 5 1 v (Rs.rows ((l.take j).map FrV.p)).length ((Rs.rows ((l.take j).map FrV.p)).map bv) ∧ Blk wr s 44 #[.int .i64 0, .int .i64 0] ∧ Below s w wr ∧ s + 1 ≤ wr.heap.size) (fun _ i _ => m - (intOf i).toNat)
  case atStart => exact ⟨0, by omega, rfl, by simpa [Rs.rows] using World.ownsRow_nil _ _ _ _, HKF.out, HB0.out, by omega⟩
  case round =>
    obtain ⟨j, hj, rfl, ho, hkf, hb, hsz⟩ := hrel
    by_cases hlt : j < m
    · have hjl : j < l.length := by have := HML.out; omega
      obtain ⟨b, off, rfl, hbl, t0, t1⟩ := frRow_get HML.out HM.out j hjl
      have hok := HOK.out _ (List.getElem_mem hjl)
      have h8 := H8.out _ (List.getElem_mem hjl)
      have hsn := rows_take_snoc l j hjl
      have hle := rows_take_len l j H8.out
      generalize l[j] = x at *
      obtain ⟨xt, xA, xc, xs⟩ := x
      obtain ⟨hxt, hxs⟩ := hok
      simp only at t0 t1 h8 hsn hxt hxs
      obtain ⟨pn, hpn⟩ : ∃ pn, xs.length = pn := ⟨_, rfl⟩
      rw [hpn] at t1 h8
      have hbb : b < s := by omega
      have t0 := (hb.cell (p := ⟨b, off + j * 2, none⟩) hbb).trans t0
      have t1 := (hb.cell (p := ⟨b, off + j * 2 + 1, none⟩) hbb).trans t1
      have hx8 : (UInt8.ofNat xt).toNat = xt := by rw [UInt8.toNat_ofNat']; omega
      have hb2 := hb.trans ((bw_a (Below.refl wr.heap.size wr) (.cells #[.int .u8 (xt : Int), .slice xA pn xc] 29)).mono (by omega))
      have hfp := fput_any (UInt8.ofNat xt) xs pn xA xc _ hpn (by omega) (hxs.below (by rw [hws]; exact hb2))
      rw [hx8] at hfp
      have hki : (j : Int) < (m : Int) := by omega
      have hk0 : (0 : Int) ≤ (j : Int) := by omega
      obtain ⟨L, hL⟩ : ∃ L, (Rs.rows ((l.take j).map FrV.p)).length = L := ⟨_, rfl⟩
      rw [hL] at ho hle
      have HFP := hid hfp
      have HO := hid (own_below ho (bw_a (Below.refl wr.heap.size wr) (.cells #[.int .u8 (xt : Int), .slice xA pn xc] 29)))
      have HKF2 := hid (hkf.alloc (.cells #[.int .u8 (xt : Int), .slice xA pn xc] 29))
      have HB2 := hid hb2
      have HSN := hid hsn
      have HLL := hid hL
      have HPN := hid hpn
      clear hfp ho hkf hb hb2 hsn hL hpn hxs hx8
      go_wp2_with fail
      refine HFP.out.mono ?_
      rintro e w5 ⟨v5, rfl, ho5, hb5⟩
      obtain ⟨A5, c5, rfl⟩ := row_slice_g ho5
      have hs5 := hb5.size
      have HS5 := hid (Sl.of_own' ho5)
      have HO5 := hid (own_below HO.out hb5)
      have HKF5 := hid (HKF2.out.below hb5 HKF2.out.lt)
      have HB5 := hid (HB2.out.trans (hb5.mono (by have := HB2.out.size; omega)))
      have hz5 : s + 1 ≤ w5.heap.size := by have := HKF5.out.lt; omega
      have hpl := HPN.out
      clear ho5 hb5
      go_wp2_with (at_builtin; refine wpList_append_rd rfl (.tmp 26) (.tmp 27) 25 rfl (s + 1) 5 i0 (.int .u8 0) 1 1 Try.underlying25 ii iz0 iz1 iz2 rfl (by decide) _ _ _ rfl HO5.out A5 (pn + 9) c5 ((Fr.put (UInt8.ofNat xt) xs).map bv) rfl (by rw [List.length_map, Fr.put_len, HPN.out, Nat.mul_one]) HS5.out.rd HS5.out.nil0 (bv_one _) (by simp only [maxLen]; omega) (by omega) hz5 ?_; intro v6 w6 ho6 hg6; have hc6 := Chg.of_grown (S := fun q => u4.ownBlock = some q) hg6 (fun q e => e); have hu4 := (fun q hq => (HO5.out.lt q hq).1 : ∀ q, u4.ownBlock = some q → s + 1 ≤ q); have HO6 := hid ho6; have HKF6 := hid (hc6.blk HKF5.out (fun h => by have := hu4 _ h; omega)); have HB6 := hid (HB5.out.trans ((hc6.mono (T := fun q => s ≤ q) (fun q _ h => by have := hu4 q h; omega)).below (fun q h => h) (by omega))); clear ho6 hg6 hc6 hu4)
      go_roundw
      case rel =>
        refine ⟨j + 1, by omega, by go_num, ?_, HKF6.out, HB6.out, by have := HKF6.out.lt; omega⟩
        rw [HSN.out, List.map_append, List.length_append, HLL.out, Fr.put_len, HPN.out]
        exact HO6.out
      case measure => simp [intOf]; omega
    · obtain rfl : j = m := by omega
      have hki : ¬ (j : Int) < (j : Int) := by omega
      rw [show l.take j = l by rw [← HML.out]; exact List.take_length, HNN.out] at ho
      obtain ⟨A', c', rfl⟩ := row_slice_g ho
      have f0 := hkf.frozen 0
      have f1 := hkf.frozen 1
      have c0 := hkf.cell 0
      have c1 := hkf.cell 1
      simp only [List.getElem?_toArray, List.getElem?_cons_zero, List.getElem?_cons_succ] at c0 c1
      have HO := hid ho
      have HKF3 := hid hkf
      have HB := hid hb
      clear ho hkf hb
      go_wp2_with fail
      have hk9 : Blk ((wr.setCell ⟨s, 0, none⟩ (.int .i64 0)).setCell ⟨s, 1, none⟩ (.int .i64 0)) s 44 #[.int .i64 0, .int .i64 0] := by
        have := (HKF3.out.set_ 0 (.int .i64 0)).set_ 1 (.int .i64 0)
        simpa using this
      have hc9 : Chg (fun q => q = s) wr ((wr.setCell ⟨s, 0, none⟩ (.int .i64 0)).setCell ⟨s, 1, none⟩ (.int .i64 0)) := ((Chg.refl (fun q => q = s) wr).set_ (.inl rfl) 0 _).set_ (.inl rfl) 1 _
      generalize hW9 : ((wr.setCell ⟨s, 0, none⟩ (.int .i64 0)).setCell ⟨s, 1, none⟩ (.int .i64 0)) = W9 at *
      have x0 := hk9.cell 0
      have x1 := hk9.cell 1
      simp only [List.getElem?_toArray, List.getElem?_cons_zero, List.getElem?_cons_succ] at x0 x1
      refine bodyPost_ret (v := .tuple #[.slice A' N c', .agg #[.int .i64 0, .int .i64 0]]) (by simp [results, Try.results12, go_sem, x0, x1]) rfl ?_
      rw [HR.out]
      exact ⟨A', c', rfl, own_mono (own_chgS HO.out hc9 (fun q hq h => by have := (HO.out.lt q hq).1; omega)) (by omega), HB.out.trans (hc9.below (fun q h => by omega) (by omega))⟩
end Go.Proofs.Ytgiealcfhlcpoaa
