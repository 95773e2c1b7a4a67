/- Frames' bytes, one behind the other. · What must come, whatever the arguments are: a stream of two frames, fed in two pieces. · Junk between frames: mathematics. · The walk of WholeJunk. -/
import Derived.Test.YtnfodgjihdoncaaLawJu0
import Derived.Test.YtnfodgjihdoncaaFdFeed
import Derived.Test.YtnfodgjihdoncaaM3
set_option linter.unusedVariables false
namespace Go.Proofs.Ytnfodgjihdoncaa
open Go.RowKit
theorem rows_take_snoc (l : List FrV) (j : Nat) (hj : j < l.length) : Rs.rows ((l.take (j + 1)).map FrV.p) = Rs.rows ((l.take j).map FrV.p) ++ Fr.put (UInt8.ofNat l[j].t) l[j].s.xs := by
  rw [List.take_succ_eq_append_getElem hj, List.map_append, List.map_cons, List.map_nil, Rs.rows_snoc]
  rfl
theorem rows_take_len (l : List FrV) (j : Nat) (h : ∀ f ∈ l, f.s.xs.length ≤ 8192) : (Rs.rows ((l.take j).map FrV.p)).length ≤ 8201 * j := by
  induction j with
  | zero => simp [Rs.rows]
  | succ j ih =>
    by_cases hj : j < l.length
    · rw [rows_take_snoc l j hj, List.length_append, Fr.put_len]
      have := h _ (List.getElem_mem hj)
      omega
    · rw [List.take_of_length_le (by omega)]
      rw [List.take_of_length_le (by omega)] at ih
      omega
set_option maxRecDepth 100000 in
set_option maxHeartbeats 4000000 in
theorem stframes_any (l : List FrV) (m : Nat) (A : Option Addr) (c : Nat) (N : Nat) (w : World) (hm : l.length = m) (hok : ∀ f ∈ l, FrOk w f) (hM : SlN w A m c 2 (l.flatMap frC)) (h8 : ∀ f ∈ l, f.s.xs.length ≤ 8192) (hml : m ≤ 1000) (hN : (Rs.rows (l.map FrV.p)).length = N) :
    Calls Try.prog 37 #[.slice A m c] w fun e w' => ∃ A' c', e = .returned (.tuple #[.slice A' N c', .agg #[.int .i64 0, .int .i64 0]]) ∧ w'.ownsRow w.heap.size 5 1 (.slice A' N c') N ((Rs.rows (l.map FrV.p)).map bv) ∧ Below w.heap.size w w' := by
  obtain ⟨i0, ii, iz0, iz1, iz2⟩ := info_parts Try.info5
  obtain ⟨s, hws⟩ : ∃ s, w.heap.size = s := ⟨_, rfl⟩
  have hkf := Blk.new w 33 #[.int .i64 0, .int .i64 0]
  rw [hws] at hkf
  have hb0 := bw_a (Below.refl w.heap.size w) (.cells #[.int .i64 0, .int .i64 0] 33)
  rw [hws] at hb0
  have hcap := hM.cap
  have hsma := hM.small
  obtain ⟨R, hR⟩ : ∃ R : Ending → World → Prop, R = fun e w' => ∃ A' c', e = .returned (.tuple #[.slice A' N c', .agg #[.int .i64 0, .int .i64 0]]) ∧ w'.ownsRow s 5 1 (.slice A' N c') N ((Rs.rows (l.map FrV.p)).map bv) ∧ Below s w w' := ⟨_, rfl⟩
  have hz0 : (w.alloc (.cells #[.int .i64 0, .int .i64 0] 33)).heap.size = s + 1 := by simp [hws]
  rw [hws, ← hR]
  have HR := hid hR
  have HKF := hid hkf
  have HB0 := hid hb0
  have HM := hid hM
  have HOK := hid hok
  have H8 := hid h8
  have HML := hid hm
  have HNN := hid hN
  clear hR hkf hb0 hM hok h8 hm hN
  go_enter Try.func37, Try.ntmps37
  go_wp2_with fail
  generalize hW0 : (w.alloc (.cells #[.int .i64 0, .int .i64 0] 33)) = W0 at *
  clear hW0
  go_loopw [4, 11] (fun v i wr => ∃ j : Nat, j ≤ m ∧ i = .int .i64 (j : Int) ∧ wr.ownsRow (s + 1) 5 1 v (Rs.rows ((l.take j).map FrV.p)).length ((Rs.rows ((l.take j).map FrV.p)).map bv) ∧ Blk wr s 33 #[.int .i64 0, .int .i64 0] ∧ Below s w wr ∧ s + 1 ≤ wr.heap.size) (fun _ i _ => m - (intOf i).toNat)
  case atStart => exact ⟨0, by omega, rfl, by simpa [Rs.rows] using World.ownsRow_nil _ _ _ _, HKF.out, HB0.out, by omega⟩
  case round =>
    obtain ⟨j, hj, rfl, ho, hkf, hb, hsz⟩ := hrel
    by_cases hlt : j < m
    · have hjl : j < l.length := by have := HML.out; omega
      obtain ⟨b, off, rfl, hbl, t0, t1⟩ := frRow_get HML.out HM.out j hjl
      have hok := HOK.out _ (List.getElem_mem hjl)
      have h8 := H8.out _ (List.getElem_mem hjl)
      have hsn := rows_take_snoc l j hjl
      have hle := rows_take_len l j H8.out
      generalize l[j] = x at *
      obtain ⟨xt, xA, xc, xs⟩ := x
      obtain ⟨hxt, hxs⟩ := hok
      simp only at t0 t1 h8 hsn hxt hxs
      obtain ⟨pn, hpn⟩ : ∃ pn, xs.length = pn := ⟨_, rfl⟩
      rw [hpn] at t1 h8
      have hbb : b < s := by omega
      have t0 := (hb.cell (p := ⟨b, off + j * 2, none⟩) hbb).trans t0
      have t1 := (hb.cell (p := ⟨b, off + j * 2 + 1, none⟩) hbb).trans t1
      have hx8 : (UInt8.ofNat xt).toNat = xt := by rw [UInt8.toNat_ofNat']; omega
      have hb2 := hb.trans ((bw_a (Below.refl wr.heap.size wr) (.cells #[.int .u8 (xt : Int), .slice xA pn xc] 70)).mono (by omega))
      have hfp := fput_any (UInt8.ofNat xt) xs pn xA xc _ hpn (by omega) (hxs.below (by rw [hws]; exact hb2))
      rw [hx8] at hfp
      have hki : (j : Int) < (m : Int) := by omega
      have hk0 : (0 : Int) ≤ (j : Int) := by omega
      obtain ⟨L, hL⟩ : ∃ L, (Rs.rows ((l.take j).map FrV.p)).length = L := ⟨_, rfl⟩
      rw [hL] at ho hle
      have HFP := hid hfp
      have HO := hid (own_below ho (bw_a (Below.refl wr.heap.size wr) (.cells #[.int .u8 (xt : Int), .slice xA pn xc] 70)))
      have HKF2 := hid (hkf.alloc (.cells #[.int .u8 (xt : Int), .slice xA pn xc] 70))
      have HB2 := hid hb2
      have HSN := hid hsn
      have HLL := hid hL
      have HPN := hid hpn
      clear hfp ho hkf hb hb2 hsn hL hpn hxs hx8
      go_wp2_with fail
      refine HFP.out.mono ?_
      rintro e w5 ⟨v5, rfl, ho5, hb5⟩
      obtain ⟨A5, c5, rfl⟩ := row_slice_g ho5
      have hs5 := hb5.size
      have HS5 := hid (Sl.of_own' ho5)
      have HO5 := hid (own_below HO.out hb5)
      have HKF5 := hid (HKF2.out.below hb5 HKF2.out.lt)
      have HB5 := hid (HB2.out.trans (hb5.mono (by have := HB2.out.size; omega)))
      have hz5 : s + 1 ≤ w5.heap.size := by have := HKF5.out.lt; omega
      have hpl := HPN.out
      clear ho5 hb5
      go_wp2_with (at_builtin; refine wpList_append_rd rfl (.tmp 26) (.tmp 27) 30 rfl (s + 1) 5 i0 (.int .u8 0) 1 1 Try.underlying30 ii iz0 iz1 iz2 rfl (by decide) _ _ _ rfl HO5.out A5 (pn + 9) c5 ((Fr.put (UInt8.ofNat xt) xs).map bv) rfl (by rw [List.length_map, Fr.put_len, HPN.out, Nat.mul_one]) HS5.out.rd HS5.out.nil0 (bv_one _) (by simp only [maxLen]; omega) (by omega) hz5 ?_; intro v6 w6 ho6 hg6; have hc6 := Chg.of_grown (S := fun q => u4.ownBlock = some q) hg6 (fun q e => e); have hu4 := (fun q hq => (HO5.out.lt q hq).1 : ∀ q, u4.ownBlock = some q → s + 1 ≤ q); have HO6 := hid ho6; have HKF6 := hid (hc6.blk HKF5.out (fun h => by have := hu4 _ h; omega)); have HB6 := hid (HB5.out.trans ((hc6.mono (T := fun q => s ≤ q) (fun q _ h => by have := hu4 q h; omega)).below (fun q h => h) (by omega))); clear ho6 hg6 hc6 hu4)
      go_roundw
      case rel =>
        refine ⟨j + 1, by omega, by go_num, ?_, HKF6.out, HB6.out, by have := HKF6.out.lt; omega⟩
        rw [HSN.out, List.map_append, List.length_append, HLL.out, Fr.put_len, HPN.out]
        exact HO6.out
      case measure => simp [intOf]; omega
    · obtain rfl : j = m := by omega
      have hki : ¬ (j : Int) < (j : Int) := by omega
      rw [show l.take j = l by rw [← HML.out]; exact List.take_length, HNN.out] at ho
      obtain ⟨A', c', rfl⟩ := row_slice_g ho
      have f0 := hkf.frozen 0
      have f1 := hkf.frozen 1
      have c0 := hkf.cell 0
      have c1 := hkf.cell 1
      simp only [List.getElem?_toArray, List.getElem?_cons_zero, List.getElem?_cons_succ] at c0 c1
      have HO := hid ho
      have HKF3 := hid hkf
      have HB := hid hb
      clear ho hkf hb
      go_wp2_with fail
      have hk9 : Blk ((wr.setCell ⟨s, 0, none⟩ (.int .i64 0)).setCell ⟨s, 1, none⟩ (.int .i64 0)) s 33 #[.int .i64 0, .int .i64 0] := by
        have := (HKF3.out.set_ 0 (.int .i64 0)).set_ 1 (.int .i64 0)
        simpa using this
      have hc9 : Chg (fun q => q = s) wr ((wr.setCell ⟨s, 0, none⟩ (.int .i64 0)).setCell ⟨s, 1, none⟩ (.int .i64 0)) := ((Chg.refl (fun q => q = s) wr).set_ (.inl rfl) 0 _).set_ (.inl rfl) 1 _
      generalize hW9 : ((wr.setCell ⟨s, 0, none⟩ (.int .i64 0)).setCell ⟨s, 1, none⟩ (.int .i64 0)) = W9 at *
      have x0 := hk9.cell 0
      have x1 := hk9.cell 1
      simp only [List.getElem?_toArray, List.getElem?_cons_zero, List.getElem?_cons_succ] at x0 x1
      refine bodyPost_ret (v := .tuple #[.slice A' N c', .agg #[.int .i64 0, .int .i64 0]]) (by simp [results, Try.results37, go_sem, x0, x1]) rfl ?_
      rw [HR.out]
      exact ⟨A', c', rfl, own_mono (own_chgS HO.out hc9 (fun q hq h => by have := (HO.out.lt q hq).1; omega)) (by omega), HB.out.trans (hc9.below (fun q h => by omega) (by omega))⟩
end Go.Proofs.Ytnfodgjihdoncaa
set_option linter.unusedVariables false
namespace Go.Proofs.Ytnfodgjihdoncaa
open Go.RowKit
theorem sl_take8 {w : World} {A : Option Addr} {c : Nat} {bs : List UInt8} (h : Sl w A c (bs.map bv)) (k : Nat) : Sl w A c ((bs.take k).map bv) := by
  have h1 := h.cap
  rw [List.length_map] at h1
  refine ⟨by rw [List.length_map, List.length_take]; omega, h.small, h.nil0, fun j v hj => h.rd j v ?_⟩
  rw [List.map_take, List.getElem?_take] at hj
  by_cases hk : j < k
  · rw [if_pos hk] at hj; exact hj
  · rw [if_neg hk] at hj; cases hj
theorem far_of8 {b o n : Nat} {S : Nat → Prop} (h : ¬ S b) : FarS (some ⟨b, o, none⟩) n S := fun _ b' o' e hs => by injection e with e; injection e with e1; subst e1; exact h hs
def p8 : List UInt8 := Rs.rows [(1, []), (2, [7])]
theorem p8_len : p8.length = 19 := by kernel_rfl
theorem p8_n1 : newsT [] ([] ++ p8.take 10) = [⟨0, 1, []⟩] := by kernel_rfl
theorem p8_n2 : newsT ([] ++ p8.take 10) (([] ++ p8.take 10) ++ p8.drop 10) = [⟨9, 2, [7]⟩] := by kernel_rfl
theorem aw8_fr (W : World) (N : Nat) (hN : W.heap.size = N) : Calls Try.prog 37 #[.slice (some ⟨N + 1, 0, none⟩) 2 2] ((W.alloc (.cells #[.int .u8 7] 5)).alloc (.cells #[.int .u8 1, .slice none 0 0, .int .u8 2, .slice (some ⟨N, 0, none⟩) 1 1] 70)) fun e w' => ∃ A' c', e = .returned (.tuple #[.slice A' 19 c', .agg #[.int .i64 0, .int .i64 0]]) ∧ w'.ownsRow W.heap.size 5 1 (.slice A' 19 c') 19 (p8.map bv) ∧ Below W.heap.size W w' := by
  subst hN
  have hb := bw_a (bw_a (Below.refl _ W) (.cells #[.int .u8 7] 5)) (.cells #[.int .u8 1, .slice none 0 0, .int .u8 2, .slice (some ⟨W.heap.size, 0, none⟩) 1 1] 70)
  have hl := (lit_sl W 5 [7] #[.int .u8 7] 1 rfl (by omega) rfl).below (bw_a (Below.refl _ _) (.cells #[.int .u8 1, .slice none 0 0, .int .u8 2, .slice (some ⟨W.heap.size, 0, none⟩) 1 1] 70))
  have hr := Rd.new (W.alloc (.cells #[.int .u8 7] 5)) 70 #[.int .u8 1, .slice none 0 0, .int .u8 2, .slice (some ⟨W.heap.size, 0, none⟩) 1 1]
  rw [World.size_alloc] at hr
  refine (stframes_any [⟨1, ⟨none, 0, []⟩⟩, ⟨2, ⟨some ⟨W.heap.size, 0, none⟩, 1, [7]⟩⟩] 2 _ 2 19 _ rfl ?_ ⟨rfl, by omega, by omega, (fun h => by cases h), hr⟩ ?_ (by omega) p8_len).mono ?_
  · intro f hf
    simp only [List.mem_cons, List.not_mem_nil, or_false] at hf
    rcases hf with rfl | rfl
    · exact ⟨by show (1 : Nat) ≤ 255; omega, Sl.nil_ _⟩
    · exact ⟨by show (2 : Nat) ≤ 255; omega, hl⟩
  · intro f hf
    simp only [List.mem_cons, List.not_mem_nil, or_false] at hf
    rcases hf with rfl | rfl <;> simp
  · rintro e w' ⟨A', c', rfl, ho, hb2⟩
    exact ⟨A', c', rfl, own_mono ho (by simp; omega), hb.trans (hb2.mono (by simp; omega))⟩
theorem aw8_far {b q : Nat} (h : ¬ b = q + 1) : ¬ (b = q + 1 ∨ (Value.slice none 0 0).ownBlock = some b) := fun hx => hx.elim h (fun hy => by cases hy)
theorem aw8_len : (p8.map bv).length = 19 := by rw [List.length_map, p8_len]
theorem aw8_second {q b o c1 s0 : Nat} {w w3 W0 w4 : World} {vb4 : Value} (hf : FdS (q + 2) (q + 1) (hldT ([] ++ p8.take 10)) ([] ++ p8.take 10).length false vb4 w4) (hs : Sl w4 (some ⟨b, o, none⟩) c1 (p8.map bv)) (hbq : ¬ b = q + 1) (hv : vb4.ownBlock = (Value.slice none 0 0).ownBlock ∨ ∀ z, vb4.ownBlock = some z → W0.heap.size ≤ z) (hbl : b < q) (hq : s0 ≤ q) (i2 : ¬ c1 = 10) (hb : Below s0 w w3) (hz : q + 2 ≤ W0.heap.size) (hz3 : q + 2 ≤ w3.heap.size) (hc : Chg (fun z => z = q + 1 ∨ (Value.slice none 0 0).ownBlock = some z) W0 w4) (h3 : Chg (fun _ => False) w3 W0 := by first | exact Chg.drewN (Chg.refl _ _) _ | exact Chg.drew (Chg.refl _ _)) :
    True ∧ True ∧ Calls Try.prog 23 #[.pointer (some ⟨q + 1, 0, none⟩), .slice (some ⟨b, o + 10, none⟩) 9 (c1 - 10)] w4 fun e w' => ∃ g5 o5 c5, e = .returned (.slice (some ⟨g5, o5, none⟩) 1 c5) ∧ 1 ≤ c5 ∧ c5 ≤ 9223372036854775807 ∧ g5 < w'.heap.size ∧ w'.cell? ⟨g5, o5, none⟩ = some (.int .i64 9) ∧ w'.cell? ⟨g5, o5 + 1, none⟩ = some (.int .u8 2) ∧ Below s0 w w' := by
  refine ⟨trivial, trivial, ?_⟩
  have hs4 := hc.size
  have hvz : ∀ z, vb4.ownBlock = some z → q + 2 ≤ z := fun z h => by
    rcases hv with h1 | h1
    · rw [h1] at h; cases h
    · have := h1 z h; omega
  have h2 := ffeed_any (q + 2) (q + 1) ([] ++ p8.take 10) vb4 (p8.drop 10) 9 (some ⟨b, o + 10, none⟩) (c1 - 10) w4 hf (by omega) (by omega) (by rw [List.length_drop, p8_len]) (by
    have h := hs.cut 10 (by rw [p8_len]; omega)
    unfold cutA at h
    rw [if_neg i2] at h
    simpa [addr_add] using h) (far_of8 (fun h => by rcases h with h | h; (exact hbq h); (have := hvz b h; omega))) (by rw [List.length_append, List.length_take, p8_len]; simp) (by omega)
  rw [p8_n2] at h2
  refine h2.mono ?_
  rintro e w5 ⟨A5, c5, vb5, rfl, ho5, -, hch5, -⟩
  obtain ⟨b5, o5, Ap5, cp5, rfl, hbl5, t0, t1, -, -, hc5, hm5⟩ := (ho5.row).get rfl 0 (by decide)
  simp only [List.length_cons, List.length_nil, Nat.zero_add, Nat.zero_mul, Nat.add_zero, List.getElem_cons_zero] at hc5 t0 t1
  refine ⟨b5, o5, c5, rfl, by omega, hm5, hbl5, t0, t1, ?_⟩
  have hb3 := hb.size
  refine hb.trans (((((h3.mono (T := fun z => s0 ≤ z) (fun z _ h => h.elim)).trans (hc.mono (fun z _ h => by rcases h with h | h; omega; cases h))).trans (hch5.mono (fun z _ h => by rcases h with h | h; omega; have := hvz z h; omega)))).below (fun z h => h) ?_)
  omega
set_option maxRecDepth 100000 in
set_option maxHeartbeats 4000000 in
theorem awake8_any (w : World) : Calls Try.prog 44 #[] w fun e w' => e = .returned (.bool true) ∧ Below w.heap.size w w' := by
  obtain ⟨s0, hs0⟩ : ∃ s0, w.heap.size = s0 := ⟨_, rfl⟩
  have HFR := hid (aw8_fr w s0 hs0)
  rw [hs0] at HFR ⊢
  go_enter Try.func44, Try.ntmps44
  go_wp2_with fail
  refine HFR.out.mono ?_
  rintro e w1 ⟨A1, c1, rfl, ho1, hb1⟩
  have hs1 := Sl.of_own' ho1
  obtain ⟨b, o, rfl, hbl, -⟩ := BRd.at_ hs1.rd (k := 0) (by rw [p8_len]; omega)
  have hc1 := hs1.cap
  have hm1 := hs1.small
  rw [List.length_map, p8_len] at hc1
  have HB1 := hid hb1
  have HS1 := hid hs1
  clear hb1 hs1 ho1
  have hbf := Blk.new w1 33 #[.int .i64 0, .int .i64 0]
  have hB2 := HB1.out.trans ((bw_a (Below.refl w1.heap.size w1) (.cells #[.int .i64 0, .int .i64 0] 33)).mono (by have := HB1.out.size; omega))
  have hS2 := HS1.out.below (bw_a (Below.refl _ w1) (.cells #[.int .i64 0, .int .i64 0] 33))
  have hsz2 : (w1.alloc (.cells #[.int .i64 0, .int .i64 0] 33)).heap.size = w1.heap.size + 1 := by simp
  have hsz1 : s0 ≤ w1.heap.size := by have := HB1.out.size; omega
  go_wp2_with fail
  obtain ⟨q, hq⟩ : ∃ q, w1.heap.size = q := ⟨_, rfl⟩
  rw [hq] at hbf hsz2 hsz1 hbl
  rw [hq]
  generalize (w1.alloc (.cells #[.int .i64 0, .int .i64 0] 33)) = w2 at *
  refine (fnew_any w2).mono ?_
  rintro e w3 ⟨rfl, rfl⟩
  have hst := fnew_st w2 (q + 2)
  have hk2 := hbf.alloc (.cells #[.slice none 0 0, .int .i64 0, .bool false] 105)
  have c0 := hk2.cell 0
  simp only [List.getElem?_toArray, List.getElem?_cons_zero] at c0
  rw [hsz2] at hst ⊢
  have hsz3 : (w2.alloc (.cells #[.slice none 0 0, .int .i64 0, .bool false] 105)).heap.size = q + 2 := by simp [hsz2]
  have hB3 := hB2.trans ((bw_a (Below.refl w2.heap.size w2) (.cells #[.slice none 0 0, .int .i64 0, .bool false] 105)).mono (by have := hB2.size; omega))
  have hS3 := hS2.below (bw_a (Below.refl _ w2) (.cells #[.slice none 0 0, .int .i64 0, .bool false] 105))
  generalize (w2.alloc (.cells #[.slice none 0 0, .int .i64 0, .bool false] 105)) = w3 at *
  have hbq : ¬ b = q + 1 := by omega
  have hf1 := fun k => ffeed_any (q + 2) (q + 1) [] (.slice none 0 0) (p8.take 10) 10 (some ⟨b, o, none⟩) c1 (w3.drewN k) (by
    have h := hst.chg (Chg.drewN (Chg.refl (fun _ => False) w3) k) (fun h => h) (fun _ _ h => h)
    simpa [hldT] using h) (by omega) (by show q + 2 ≤ w3.heap.size; omega) (by rw [List.length_take, p8_len]; rfl) ((sl_take8 hS3 10).drewN k) (far_of8 (fun h => h.elim hbq (fun h => by cases h))) (by simp) (by omega)
  rw [p8_n1] at hf1
  have HF1 := hid hf1
  have HS3 := hid hS3
  have HB3 := hid hB3
  have i1 : (10 : Int) ≤ (c1 : Int) := by omega
  have i2 : ¬ c1 = 10 := by omega
  have i3 : ¬ c1 = 0 := by omega
  have i4 : 10 ≤ c1 := by omega
  clear hst hk2 hf1 hS3 hB3 hbf hB2 hS2 HS1 HB1 HFR
  go_wp2_with fail
  go_region_held3 (fun w' => True) (trivial) (first | (go_at_call 23; first | (refine HF2.out.2.2.mono ?_; rintro e w5 ⟨g5, o5, c5, rfl, hc5, hm5, hg5, t5, t6, hb5⟩; have HB5 := hid hb5; clear hb5) | (refine (HF1.out _).mono ?_; rintro e w4 ⟨A4, c4, vb4, rfl, -, hf4, hch4, hv4⟩; have HF2 := hid (aw8_second hf4 (hch4.sl (HS3.out.drewN _) (far_of8 (n := 19) (aw8_far hbq)) (aw8_len)) hbq hv4 hbl hsz1 i2 HB3.out (Nat.le_of_eq hsz3.symm) (Nat.le_of_eq hsz3.symm) hch4); clear hf4 hch4 hv4)))
  go_wp2_with fail
  go_ret
  exact ⟨by simp, HB5.out⟩
end Go.Proofs.Ytnfodgjihdoncaa
set_option linter.unusedVariables false
namespace Go.Proofs.Ytnfodgjihdoncaa
open Go.RowKit
/-- Frames, each with junk ahead. -/
def Jn.rows : List (List UInt8 × UInt8 × List UInt8) → List UInt8
  | [] => []
  | f :: l => f.1 ++ (Fr.put f.2.1 f.2.2 ++ Jn.rows l)
def Jn.at_ : Nat → List (List UInt8 × UInt8 × List UInt8) → List Fnd
  | _, [] => []
  | p, f :: l => ⟨p + f.1.length, f.2.1, f.2.2⟩ :: Jn.at_ (p + f.1.length + (f.2.2.length + 9)) l
theorem Jn.rows_snoc (l : List (List UInt8 × UInt8 × List UInt8)) (f : List UInt8 × UInt8 × List UInt8) : Jn.rows (l ++ [f]) = Jn.rows l ++ (f.1 ++ Fr.put f.2.1 f.2.2) := by
  induction l with
  | nil => simp [Jn.rows]
  | cons x l ih => simp only [List.cons_append, Jn.rows, ih, List.append_assoc]
theorem Jn.at_len (l : List (List UInt8 × UInt8 × List UInt8)) : ∀ p, (Jn.at_ p l).length = l.length := by
  induction l with
  | nil => intro p; rfl
  | cons f l ih => intro p; simp [Jn.at_, ih]
theorem Jn.at_get (l : List (List UInt8 × UInt8 × List UInt8)) : ∀ (p j : Nat) (hj : j < l.length), ((Jn.at_ p l)[j]'(by rw [Jn.at_len]; exact hj)).ty = l[j].2.1 ∧ ((Jn.at_ p l)[j]'(by rw [Jn.at_len]; exact hj)).pl = l[j].2.2 := by
  induction l with
  | nil => intro p j hj; simp at hj
  | cons f l ih =>
    intro p j hj
    cases j with
    | zero => exact ⟨rfl, rfl⟩
    | succ j => exact ih _ j (by simpa using hj)
/-- No byte of junk begins a frame. -/
def Jn.clean (xs : List UInt8) : Prop := ∀ x ∈ xs, x ≠ 197
theorem Jn.skip (xs js bs : List UInt8) (hc : Jn.clean js) : Rs.wk false (xs ++ (js ++ bs)) xs.length = Rs.wk false (xs ++ (js ++ bs)) (xs ++ js).length := by
  rw [← List.append_assoc]
  refine Rs.junk (xs ++ js) bs xs.length (by rw [List.length_append]; omega) (fun i h1 h2 => ?_)
  have hi : i < ((xs ++ js) ++ bs).length := by rw [List.length_append]; omega
  have hx : ((xs ++ js) ++ bs)[i] ≠ 197 := by
    rw [List.getElem_append_left h2, List.getElem_append_right h1]
    exact hc _ (List.getElem_mem _)
  rw [List.drop_eq_getElem_cons hi, Fr.rE_first _ _ hx]
  decide
theorem Jn.wk (l : List (List UInt8 × UInt8 × List UInt8)) (J : List UInt8) (hJ : Jn.clean J) : ∀ xs : List UInt8, (∀ f ∈ l, f.2.2.length ≤ 8192 ∧ Jn.clean f.1) → Rs.wk false (xs ++ (Jn.rows l ++ J)) xs.length = (Jn.at_ xs.length l, (xs ++ (Jn.rows l ++ J)).length) := by
  induction l with
  | nil =>
    intro xs _
    have h := Jn.skip xs J [] hJ
    rw [List.append_nil] at h
    show Rs.wk false (xs ++ ([] ++ J)) xs.length = _
    rw [List.nil_append, h, Rs.wk_end _ _ _ (Nat.le_refl _)]
    simp [Jn.rows, Jn.at_]
  | cons f l ih =>
    intro xs hl
    obtain ⟨h8, hc⟩ := hl f (List.mem_cons_self ..)
    have e0 : xs ++ (Jn.rows (f :: l) ++ J) = xs ++ (f.1 ++ (Fr.put f.2.1 f.2.2 ++ (Jn.rows l ++ J))) := by simp [Jn.rows]
    rw [e0, Jn.skip xs f.1 _ hc]
    have e1 : xs ++ (f.1 ++ (Fr.put f.2.1 f.2.2 ++ (Jn.rows l ++ J))) = (xs ++ f.1) ++ (Fr.put f.2.1 f.2.2 ++ (Jn.rows l ++ J)) := by simp
    rw [e1]
    have hd : ((xs ++ f.1) ++ (Fr.put f.2.1 f.2.2 ++ (Jn.rows l ++ J))).drop (xs ++ f.1).length = Fr.put f.2.1 f.2.2 ++ (Jn.rows l ++ J) := by rw [List.drop_append]; simp
    obtain ⟨h0, ht, hpl, hln⟩ := Fr.rE_put f.2.1 f.2.2 (Jn.rows l ++ J) h8
    have hpn := Fr.put_len f.2.1 f.2.2
    have hi := ih ((xs ++ f.1) ++ Fr.put f.2.1 f.2.2) (fun g hg => hl g (List.mem_cons_of_mem _ hg))
    have he : (xs ++ f.1) ++ (Fr.put f.2.1 f.2.2 ++ (Jn.rows l ++ J)) = ((xs ++ f.1) ++ Fr.put f.2.1 f.2.2) ++ (Jn.rows l ++ J) := by simp
    have hlen : ((xs ++ f.1) ++ Fr.put f.2.1 f.2.2).length = (xs ++ f.1).length + (f.2.2.length + 9) := by rw [List.length_append, hpn]
    have hlt : (xs ++ f.1).length < ((xs ++ f.1) ++ (Fr.put f.2.1 f.2.2 ++ (Jn.rows l ++ J))).length := by
      simp only [List.length_append, hpn]
      omega
    rw [Rs.wk_ok hlt (by rw [hd]; exact h0), hd, ht, hpl, hln, he, ← hlen, hi, hlen]
    show (_ :: Jn.at_ ((xs ++ f.1).length + _) l, _) = _
    have hx : (xs ++ f.1).length = xs.length + f.1.length := List.length_append
    rw [hx]
    rfl
theorem Jn.tot (l : List (List UInt8 × UInt8 × List UInt8)) : ∀ p, Rs.tot (Jn.at_ p l) + (l.map fun f => f.1.length).sum = (Jn.rows l).length := by
  induction l with
  | nil => intro p; simp [Jn.at_, Jn.rows, Rs.tot]
  | cons f l ih =>
    intro p
    have h := ih (p + f.1.length + (f.2.2.length + 9))
    have hpn := Fr.put_len f.2.1 f.2.2
    unfold Rs.tot at h ⊢
    simp only [Jn.at_, Jn.rows, List.map_cons, List.sum_cons, List.length_append, Fnd.size, hpn] at h ⊢
    omega
/-- What is passed over is the junk. -/
theorem Jn.passed (l : List (List UInt8 × UInt8 × List UInt8)) (J : List UInt8) (hJ : Jn.clean J) (hl : ∀ f ∈ l, f.2.2.length ≤ 8192 ∧ Jn.clean f.1) : Rs.psum (Rs.gaps (Rs.wk false (Jn.rows l ++ J) 0).1 (Rs.wk false (Jn.rows l ++ J) 0).2) = (l.map fun f => f.1.length).sum + J.length := by
  have h1 := Rs.psum_tot false (Jn.rows l ++ J)
  have h2 := Jn.wk l J hJ [] hl
  simp only [List.nil_append, List.length_nil] at h2
  rw [h2] at h1 ⊢
  simp only at h1 ⊢
  have h3 := Jn.tot l 0
  rw [List.length_append] at h1
  rw [List.length_append]
  omega
end Go.Proofs.Ytnfodgjihdoncaa
set_option linter.unusedVariables false
namespace Go.Proofs.Ytnfodgjihdoncaa
open Go.ChangeShapes Go.WideShapes Go.ChangeAt Go.RowKit
/-- A row of bytes as a cell. -/
def pcJ (x : SlV UInt8) : Value := .slice x.A x.xs.length x.c
/-- Junk k, if there is one. -/
def jk (js : List (SlV UInt8)) (k : Nat) : List UInt8 := match js[k]? with | some s => s.xs | none => []
def frk (l : List FrV) (k : Nat) : UInt8 × List UInt8 := match l[k]? with | some f => f.p | none => (0, [])
def sgs (l : List FrV) (js : List (SlV UInt8)) : Nat → List (List UInt8 × UInt8 × List UInt8)
  | 0 => []
  | k + 1 => sgs l js k ++ [(jk js k, frk l k)]
theorem sgs_len (l : List FrV) (js : List (SlV UInt8)) (k : Nat) : (sgs l js k).length = k := by
  induction k with
  | zero => rfl
  | succ k ih => rw [sgs, List.length_append, ih]; rfl
theorem sgs_get (l : List FrV) (js : List (SlV UInt8)) (k j : Nat) (hj : j < k) : (sgs l js k)[j]'(by rw [sgs_len]; exact hj) = (jk js j, frk l j) := by
  induction k with
  | zero => omega
  | succ k ih =>
    by_cases h : j < k
    · have := ih h
      simp only [sgs]
      rw [List.getElem_append_left (by rw [sgs_len]; exact h)]
      exact this
    · obtain rfl : j = k := by omega
      simp only [sgs]
      rw [List.getElem_append_right (by rw [sgs_len]; exact Nat.le_refl _)]
      simp [sgs_len]
theorem frk_at {l : List FrV} {k : Nat} (h : k < l.length) : frk l k = FrV.p l[k] := by unfold frk; rw [List.getElem?_eq_getElem h]
theorem jk_at {js : List (SlV UInt8)} {k : Nat} (h : k < js.length) : jk js k = js[k].xs := by unfold jk; rw [List.getElem?_eq_getElem h]
theorem jk_no {js : List (SlV UInt8)} {k : Nat} (h : js.length ≤ k) : jk js k = [] := by unfold jk; rw [List.getElem?_eq_none h]
/-- Junk that may be: clean, and short. -/
def jkOk (js : List (SlV UInt8)) (k : Nat) : Prop := Jn.clean (jk js k) ∧ (jk js k).length ≤ 300
def jsum (js : List (SlV UInt8)) : Nat → Nat
  | 0 => 0
  | k + 1 => jsum js k + (jk js k).length
theorem sgs_sum (l : List FrV) (js : List (SlV UInt8)) (k : Nat) : ((sgs l js k).map fun f => f.1.length).sum = jsum js k := by
  induction k with
  | zero => rfl
  | succ k ih => rw [sgs, List.map_append, List.sum_append, ih]; simp [jsum]
theorem sgs_ok {l : List FrV} {js : List (SlV UInt8)} {k : Nat} (h : ∀ i, i < k → jkOk js i) (hf : ∀ f ∈ l, f.s.xs.length ≤ 300) : ∀ f ∈ sgs l js k, f.2.2.length ≤ 8192 ∧ Jn.clean f.1 := by
  intro f hfm
  obtain ⟨j, hj, rfl⟩ := List.getElem_of_mem hfm
  rw [sgs_len] at hj
  rw [sgs_get l js k j hj]
  refine ⟨?_, (h j hj).1⟩
  unfold frk
  by_cases hl : j < l.length
  · rw [List.getElem?_eq_getElem hl]
    have := hf _ (List.getElem_mem hl)
    show l[j].s.xs.length ≤ 8192
    omega
  · rw [List.getElem?_eq_none (by omega)]
    simp
theorem sgs_bd {l : List FrV} {js : List (SlV UInt8)} {k : Nat} (h : ∀ i, i < k → jkOk js i) (hf : ∀ f ∈ l, f.s.xs.length ≤ 300) : (Jn.rows (sgs l js k)).length ≤ 700 * k ∧ jsum js k ≤ 300 * k := by
  induction k with
  | zero => exact ⟨by simp [sgs, Jn.rows], by simp [jsum]⟩
  | succ k ih =>
    obtain ⟨h1, h2⟩ := ih (fun i hi => h i (by omega))
    have h3 := (h k (by omega)).2
    have h4 : (frk l k).2.length ≤ 300 := by
      unfold frk
      by_cases hl : k < l.length
      · rw [List.getElem?_eq_getElem hl]; exact hf _ (List.getElem_mem hl)
      · rw [List.getElem?_eq_none (by omega)]; simp
    refine ⟨?_, by rw [jsum]; omega⟩
    rw [sgs, Jn.rows_snoc, List.length_append, List.length_append, Fr.put_len]
    show _ + ((jk js k).length + ((frk l k).2.length + 9)) ≤ _
    omega
/-- All bytes behind k rounds of m + 1. -/
def bK (l : List FrV) (js : List (SlV UInt8)) (m k : Nat) : List UInt8 := if k ≤ m then Jn.rows (sgs l js k) else Jn.rows (sgs l js m) ++ jk js m
theorem bK_next (l : List FrV) (js : List (SlV UInt8)) {m k : Nat} (h : k < m) (hm : l.length = m) : bK l js m (k + 1) = (bK l js m k ++ jk js k) ++ Fr.put (FrV.p (l[k]'(by omega))).1 (FrV.p (l[k]'(by omega))).2 := by
  unfold bK
  rw [if_pos (by omega), if_pos (by omega), sgs, Jn.rows_snoc, List.append_assoc, frk_at (by omega)]
theorem bK_last (l : List FrV) (js : List (SlV UInt8)) (m : Nat) : bK l js m (m + 1) = bK l js m m ++ jk js m := by
  unfold bK
  rw [if_neg (by omega), if_pos (Nat.le_refl _)]
theorem sl_of_one {w : World} {A : Option Addr} {n c : Nat} {xs : List (SlV UInt8)} (hn : xs.length = n) (h : SlN w A n c 1 (xs.flatMap fun s => [.slice s.A s.xs.length s.c])) : Sl w A c (xs.map pcJ) := by
  have e : (xs.flatMap fun s => [(.slice s.A s.xs.length s.c : Value)]) = xs.map pcJ := by
    clear h hn
    induction xs with
    | nil => rfl
    | cons x xs ih => rw [List.flatMap_cons, List.map_cons, ih]; rfl
  rw [e] at h
  exact ⟨by rw [List.length_map, hn]; exact h.cap, h.small, h.nil0, h.rd⟩
set_option maxRecDepth 100000 in
set_option maxHeartbeats 8000000 in
theorem wholeJunk_any (l : List FrV) (m : Nat) (A : Option Addr) (c : Nat) (js : List (SlV UInt8)) (n : Nat) (B : Option Addr) (d : Nat) (w : World) (hm : l.length = m) (hok : ∀ f ∈ l, FrOk w f) (hM : SlN w A m c 2 (l.flatMap frC)) (hn : js.length = n) (hx : ∀ x ∈ js, Sl w x.A x.c (x.xs.map bv)) (hS : Sl w B d (js.map pcJ)) :
    Calls Try.prog 13 #[.slice A m c, .slice B n d] w fun e w' => e = .returned (.bool true) ∧ Below w.heap.size w w' := by
  obtain ⟨i0, ii, iz0, iz1, iz2⟩ := info_parts Try.info5
  have hcapm : m ≤ 9223372036854775807 := by have h1 := hM.cap; have h2 := hM.small; omega
  have hcapn : n ≤ 9223372036854775807 := by have h1 := hS.cap; have h2 := hS.small; rw [List.length_map] at h1; omega
  have HL := hid (awake8_any w)
  have hfw := fun W (hW : Below w.heap.size w W) => rfew_any l m A c W hm hcapm (hM.below hW)
  by_cases hfew : frFew l = true
  rotate_left
  · have hfe : frFew l = false := by simpa using hfew
    rw [hfe] at hfw
    have HFW := hid hfw
    clear hn hS hm hok hM hx hfw hfew hfe
    go_enter Try.func13, Try.ntmps13
    go_wp2_with fail
    refine HL.out.mono ?_
    rintro e w1 ⟨rfl, hb1⟩
    go_wp2_with fail
    refine (HFW.out _ hb1).mono ?_
    rintro e w2 ⟨rfl, hb2⟩
    go_wp2_with fail
    go_ret
    exact ⟨rfl, bw_t hb1 hb2⟩
  rw [hfew] at hfw
  by_cases hbig : 20 < n
  · have HFW := hid hfw
    clear hn hS hm hok hM hx hfw hfew
    go_enter Try.func13, Try.ntmps13
    go_wp2_with fail
    refine HL.out.mono ?_
    rintro e w1 ⟨rfl, hb1⟩
    go_wp2_with fail
    refine (HFW.out _ hb1).mono ?_
    rintro e w2 ⟨rfl, hb2⟩
    go_wp2_with fail
    go_ret
    exact ⟨rfl, bw_t hb1 hb2⟩
  have hf2 : l.length ≤ 12 ∧ ∀ f ∈ l, f.s.xs.length ≤ 300 := by
    unfold frFew at hfew
    simpa using hfew
  have hm12 : m ≤ 12 := by omega
  have hn20 : ¬ (20 : Int) < (n : Int) := by omega
  have hd1 : decide ((20 : Int) < (n : Int)) = false := by simp; omega
  have hd2 : decide (20 < n) = false := by simp; omega
  obtain ⟨s0, hs0⟩ : ∃ s0, w.heap.size = s0 := ⟨_, rfl⟩
  have hfin := fun (h : ∀ i, i < m + 1 → jkOk js i) => (show Rs.wk false (bK l js m (m + 1)) 0 = (Jn.at_ 0 (sgs l js m), (bK l js m (m + 1)).length) ∧ Rs.psum (Rs.gaps (Rs.wk false (bK l js m (m + 1)) 0).1 (Rs.wk false (bK l js m (m + 1)) 0).2) = jsum js (m + 1) from by
    have h1 := sgs_ok (l := l) (k := m) (fun i hi => h i (by omega)) hf2.2
    have h2 := Jn.wk (sgs l js m) (jk js m) (h m (by omega)).1 [] h1
    have h3 := Jn.passed (sgs l js m) (jk js m) (h m (by omega)).1 h1
    simp only [List.nil_append, List.length_nil] at h2
    have e : bK l js m (m + 1) = Jn.rows (sgs l js m) ++ jk js m := by unfold bK; rw [if_neg (by omega)]
    rw [e]
    refine ⟨h2, ?_⟩
    rw [h3, sgs_sum]
    rfl)
  have HFIN := hid hfin
  have HFW := hid hfw
  have HM := hid hM
  have HOK := hid hok
  have HML := hid hm
  have HS := hid hS
  have HX := hid hx
  have HNL := hid hn
  have HF2 := hid hf2
  clear hfin hfw hM hok hm hS hx hn hf2 hfew hbig
  rw [hs0] at HL HFW ⊢
  go_enter Try.func13, Try.ntmps13
  go_wp2_with fail
  refine HL.out.mono ?_
  rintro e w1 ⟨rfl, hb1⟩
  go_wp2_with fail
  refine (HFW.out _ hb1).mono ?_
  rintro e w2 ⟨rfl, hb2⟩
  obtain ⟨s2, hs2⟩ : ∃ s2, w2.heap.size = s2 := ⟨_, rfl⟩
  have HB2 := hid (hb1.trans (hb2.mono (by have := hb1.size; omega)))
  have hs02 : s0 ≤ s2 := by have := HB2.out.size; omega
  clear hb1 hb2
  go_wp2_with fail
  go_loopw [5, 6, 7] (fun v p i wr => ∃ k : Nat, k ≤ m + 1 ∧ i = .int .i64 (k : Int) ∧ p = .int .i64 (jsum js k : Nat) ∧ wr.ownsRow s2 5 1 v (bK l js m k).length ((bK l js m k).map bv) ∧ (∀ i, i < k → jkOk js i) ∧ Below s0 w wr ∧ s2 ≤ wr.heap.size) (fun _ _ i _ => m + 1 - (intOf i).toNat)
  case atStart => exact ⟨0, by omega, rfl, rfl, by simpa [bK, sgs, Jn.rows] using World.ownsRow_nil _ _ _ _, fun i hi => absurd hi (Nat.not_lt_zero _), HB2.out, by omega⟩
  case round =>
    obtain ⟨k, hk, rfl, rfl, ho, hjo, hB, hsz⟩ := hrel
    by_cases hlt : k < m + 1
    · have hki : (k : Int) ≤ (m : Int) := by omega
      have hk0 : (0 : Int) ≤ (k : Int) := by omega
      have hbd := sgs_bd hjo HF2.out.2
      have hbl : (bK l js m k).length ≤ 9100 := by unfold bK; rw [if_pos (by omega)]; omega
      have hjs : jsum js k ≤ 3900 := by omega
      have HO := hid ho
      have HJ0 := hid hjo
      have HB := hid hB
      clear ho hjo hB hbd
      by_cases hkn : k < n
      · have hkni : (k : Int) < (n : Int) := by omega
        have hkj : k < js.length := by rw [HNL.out]; exact hkn
        have hget : (js.map pcJ)[k]? = some (pcJ js[k]) := by rw [List.getElem?_map, List.getElem?_eq_getElem hkj]; rfl
        obtain ⟨bj, oj, rfl, hbj, t0⟩ := HS.out.rd _ _ hget
        unfold pcJ at t0
        have hbjs : bj < s0 := by omega
        have hxs := (HX.out js[k] (List.getElem_mem hkj)).below (by rw [hs0]; exact HB.out)
        have hjk := jk_at hkj
        generalize js[k] = x at *
        obtain ⟨xA, xc, xs⟩ := x
        simp only at t0 hxs hjk
        obtain ⟨xn, hxn⟩ : ∃ n, xs.length = n := ⟨_, rfl⟩
        rw [hxn] at t0
        have t0w := t0
        have t0 := (HB.out.cell (p := ⟨bj, oj + k, none⟩) hbjs).trans t0w
        have HXS := hid hxs
        have HXN := hid hxn
        have HJK := hid hjk
        have hxc := hxs.cap
        have hxm := hxs.small
        rw [List.length_map, hxn] at hxc
        clear hget hxs hxn hjk
        by_cases h3 : 300 < xn
        · have h3i : (300 : Int) < (xn : Int) := by omega
          go_wp2_with fail
          go_ret
          exact ⟨rfl, HB.out⟩
        have h3i : ¬ (300 : Int) < (xn : Int) := by omega
        obtain ⟨wo, rfl⟩ : ∃ x, x = wr := ⟨_, rfl⟩
        go_wp2_with fail
        go_loopw [8] (fun q wq => wq = wo ∧ ∃ j : Nat, j ≤ xn ∧ q = .int .i64 (j : Int) ∧ ∀ y ∈ xs.take j, y ≠ 197) (fun q _ => xn - (intOf q).toNat)
        case atStart => exact ⟨rfl, 0, by omega, rfl, by simp⟩
        case round =>
          obtain ⟨rfl, j, hj, rfl, hcl⟩ := hrel
          by_cases hjx : j < xn
          · obtain ⟨bx, ox, rfl, hbx, t1⟩ := BRd.at_ HXS.out.rd (k := j) (by rw [HXN.out]; exact hjx)
            have hjxs : j < xs.length := by rw [HXN.out]; exact hjx
            have htk : xs.take (j + 1) = xs.take j ++ [xs[j]] := List.take_succ_eq_append_getElem hjxs
            have hyi : xs[j] = 197 ↔ (xs[j]).toNat = 197 := ⟨fun h => by rw [h]; rfl, fun h => UInt8.toNat_inj.1 h⟩
            generalize xs[j] = y at *
            have hji : (j : Int) < (xn : Int) := by omega
            have hj0 : (0 : Int) ≤ (j : Int) := by omega
            by_cases hy : y.toNat = 197
            · have hyI : (y.toNat : Int) = 197 := by omega
              rw [hy] at t1
              clear htk hyi
              go_wp2_with fail
              go_ret
              exact ⟨rfl, HB.out⟩
            · have hyb : ((y.toNat : Int) == 197) = false := by simp; omega
              have HTK := hid htk
              have HYI := hid hyi
              have HCL := hid hcl
              clear htk hyi hcl
              generalize hyn : y.toNat = yn at *
              go_wp2_with fail
              go_roundw
              case rel => exact ⟨trivial, j + 1, by omega, by go_num, fun z hz => by
                rw [HTK.out] at hz
                rcases List.mem_append.1 hz with hz | hz
                · exact HCL.out z hz
                · obtain rfl := List.mem_singleton.1 hz
                  exact fun h => hy ((HYI.out.1 h).trans (by omega))⟩
              case measure => simp [intOf]; omega
          · obtain rfl : j = xn := by omega
            have hji : ¬ (j : Int) < (j : Int) := by omega
            have hcl2 : Jn.clean xs := fun y hy => hcl y (by rw [List.take_of_length_le (by rw [HXN.out]; exact Nat.le_refl _)]; exact hy)
            have hjk2 : jkOk js k := ⟨by rw [HJK.out]; exact hcl2, by rw [HJK.out, HXN.out]; omega⟩
            have HJO := hid (fun i hi => by
              rcases Nat.lt_or_ge i k with h | h
              · exact HJ0.out i h
              · obtain rfl : i = k := by omega
                exact hjk2 : ∀ i, i < k + 1 → jkOk js i)
            have hjs1 : jsum js (k + 1) = jsum js k + j := by rw [jsum, HJK.out, HXN.out]
            have hw1 : IntKind.i64.wrap ((jsum js k : Nat) + (j : Nat) : Int) = ((jsum js k : Nat) : Int) + (j : Int) := IntWalk.i64_in _ (by omega)
            have HJS1 := hid hjs1
            clear hcl hcl2 hjk2 hjs1
            generalize jsum js k = S at *
            by_cases hkm : k < m
            · have hkmi : (k : Int) < (m : Int) := by omega
              have hkl : k < l.length := by have := HML.out; omega
              obtain ⟨bf, of_, rfl, hbf, f0w, f1w⟩ := frRow_get HML.out HM.out k hkl
              have hok := HOK.out _ (List.getElem_mem hkl)
              have h300 := HF2.out.2 _ (List.getElem_mem hkl)
              have hnx := bK_next l js hkm HML.out
              generalize l[k] = f at *
              obtain ⟨ft, ⟨fA, fc, fxs⟩⟩ := f
              obtain ⟨hft, hfs⟩ := hok
              simp only [FrV.p] at f0w f1w hft hfs h300 hnx
              obtain ⟨T, hT⟩ : ∃ T : UInt8, T.toNat = ft := ⟨UInt8.ofNat ft, by rw [UInt8.toNat_ofNat']; omega⟩
              have hT2 : UInt8.ofNat ft = T := by rw [← hT]; simp
              obtain ⟨pl, hpl⟩ : ∃ p, fxs.length = p := ⟨_, rfl⟩
              rw [hT2] at hnx
              rw [hpl] at f1w h300
              have hput := fun W (hW : Below s0 w W) => rfput_any T fxs pl fA fc W hpl (by omega) (hfs.below (by rw [hs0]; exact hW))
              rw [hT] at hput
              have hbfs : bf < s0 := by omega
              have HPUT := hid hput
              have HNX := hid hnx
              have HPN := hid hpl
              clear hput hnx hT hT2 hpl hfs
              go_wp2_with (at_builtin; refine wpList_append_rd rfl (.tmp 55) (.tmp 59) 30 rfl s2 5 i0 (.int .u8 0) 1 1 Try.underlying30 ii iz0 iz1 iz2 rfl (by decide) _ _ _ rfl HO.out xA j xc (xs.map bv) rfl (by rw [List.length_map, HXN.out, Nat.mul_one]) HXS.out.rd HXS.out.nil0 (bv_one _) (by simp only [maxLen]; omega) (by omega) hsz ?_; intro v6 w6 ho6 hg6; have hu5 := (fun q hq => (HO.out.lt q hq).1 : ∀ q, u5.ownBlock = some q → s2 ≤ q); have hc6 := Chg.of_grown (S := fun q => u5.ownBlock = some q) hg6 (fun q e => e); have HY := hid (show w6.ownsRow s2 5 1 v6 (bK l js m k ++ jk js k).length ((bK l js m k ++ jk js k).map bv) from by rw [HJK.out, List.length_append, HXN.out, List.map_append]; exact ho6); have HBW := hid (HB.out.trans ((hc6.mono (T := fun q => s0 ≤ q) (fun q _ h => by have := hu5 q h; omega)).below (fun q h => h) (by omega))); have t6 := (HBW.out.cell (p := ⟨bj, oj + k, none⟩) hbjs).trans t0w; have hszW := Nat.le_trans hsz hc6.size; have HYL := hid (show (bK l js m k ++ jk js k).length ≤ 9400 from by rw [HJK.out, List.length_append, HXN.out]; omega); clear ho6 hg6 hc6 hu5; have f0 := (HBW.out.cell (p := ⟨bf, of_ + k * 2, none⟩) hbfs).trans f0w; have f1 := (HBW.out.cell (p := ⟨bf, of_ + k * 2 + 1, none⟩) hbfs).trans f1w)
              refine (HPUT.out _ HBW.out).mono ?_
              rintro e w7 ⟨v7, rfl, ho7, hb7⟩
              obtain ⟨A7, c7, rfl⟩ := row_slice_g ho7
              have HS7 := hid (Sl.of_own' ho7)
              have HY7 := hid (own_below HY.out hb7)
              have HBW7 := hid (HBW.out.trans (hb7.mono (by have := HBW.out.size; omega)))
              have hsz7 := Nat.le_trans hszW hb7.size
              have hyl := HYL.out
              clear ho7 hb7
              go_wp2_with (at_builtin; refine wpList_append_rd rfl (.tmp 72) (.tmp 77) 30 rfl s2 5 i0 (.int .u8 0) 1 1 Try.underlying30 ii iz0 iz1 iz2 rfl (by decide) _ _ _ rfl HY7.out A7 (pl + 9) c7 ((Fr.put T fxs).map bv) rfl (by rw [List.length_map, Fr.put_len, HPN.out, Nat.mul_one]) HS7.out.rd HS7.out.nil0 (bv_one _) (by simp only [maxLen]; omega) (by omega) hsz7 ?_; intro v8 w8 ho8 hg8; have hv7 := (fun q hq => (HY7.out.lt q hq).1 : ∀ q, (v6).ownBlock = some q → s2 ≤ q); have hc8 := Chg.of_grown (S := fun q => (v6).ownBlock = some q) hg8 (fun q e => e); have HO8 := hid ho8; have HB8 := hid (HBW7.out.trans ((hc8.mono (T := fun q => s0 ≤ q) (fun q _ h => by have := hv7 q h; omega)).below (fun q h => h) (by omega))); have hsz8 := Nat.le_trans hsz7 hc8.size; clear ho8 hg8 hc8 hv7)
              go_roundw
              case rel =>
                refine ⟨k + 1, by omega, by go_num, by rw [HJS1.out]; go_num, ?_, HJO.out, HB8.out, hsz8⟩
                rw [HNX.out, List.length_append, Fr.put_len, HPN.out, List.map_append (l₁ := bK l js m k ++ jk js k)]
                exact HO8.out
              case measure => simp [intOf]; omega
            · have hkmi : ¬ (k : Int) < (m : Int) := by omega
              have hke : k = m := by omega
              have HLA := hid (show bK l js m (k + 1) = bK l js m k ++ jk js k from by rw [hke]; exact bK_last l js m)
              clear hke
              go_wp2_with (at_builtin; refine wpList_append_rd rfl (.tmp 55) (.tmp 59) 30 rfl s2 5 i0 (.int .u8 0) 1 1 Try.underlying30 ii iz0 iz1 iz2 rfl (by decide) _ _ _ rfl HO.out xA j xc (xs.map bv) rfl (by rw [List.length_map, HXN.out, Nat.mul_one]) HXS.out.rd HXS.out.nil0 (bv_one _) (by simp only [maxLen]; omega) (by omega) hsz ?_; intro v6 w6 ho6 hg6; have hu5 := (fun q hq => (HO.out.lt q hq).1 : ∀ q, u5.ownBlock = some q → s2 ≤ q); have hc6 := Chg.of_grown (S := fun q => u5.ownBlock = some q) hg6 (fun q e => e); have HY := hid (show w6.ownsRow s2 5 1 v6 (bK l js m k ++ jk js k).length ((bK l js m k ++ jk js k).map bv) from by rw [HJK.out, List.length_append, HXN.out, List.map_append]; exact ho6); have HBW := hid (HB.out.trans ((hc6.mono (T := fun q => s0 ≤ q) (fun q _ h => by have := hu5 q h; omega)).below (fun q h => h) (by omega))); have t6 := (HBW.out.cell (p := ⟨bj, oj + k, none⟩) hbjs).trans t0w; have hszW := Nat.le_trans hsz hc6.size; have HYL := hid (show (bK l js m k ++ jk js k).length ≤ 9400 from by rw [HJK.out, List.length_append, HXN.out]; omega); clear ho6 hg6 hc6 hu5)
              go_roundw
              case rel =>
                refine ⟨k + 1, by omega, by go_num, by rw [HJS1.out]; go_num, ?_, HJO.out, HBW.out, hszW⟩
                rw [HLA.out]
                exact HY.out
              case measure => simp [intOf]; omega
      · have hkni : ¬ (k : Int) < (n : Int) := by omega
        have hjn := jk_no (js := js) (k := k) (by rw [HNL.out]; omega)
        have HJO := hid (fun i hi => by
          rcases Nat.lt_or_ge i k with h | h
          · exact HJ0.out i h
          · obtain rfl : i = k := by omega
            exact ⟨by rw [hjn]; exact fun y hy => by simp at hy, by rw [hjn]; simp⟩ : ∀ i, i < k + 1 → jkOk js i)
        have HJS1 := hid (show jsum js (k + 1) = jsum js k from by rw [jsum, hjn]; rfl)
        have HY := hid (show wr.ownsRow s2 5 1 u5 (bK l js m k ++ jk js k).length ((bK l js m k ++ jk js k).map bv) from by rw [hjn, List.append_nil]; exact HO.out)
        have HYL := hid (show (bK l js m k ++ jk js k).length ≤ 9400 from by rw [hjn, List.append_nil]; omega)
        have HBW := hid HB.out
        have hszW := hsz
        clear hjn
        generalize jsum js k = S at *
        by_cases hkm : k < m
        · have hkmi : (k : Int) < (m : Int) := by omega
          have hkl : k < l.length := by have := HML.out; omega
          obtain ⟨bf, of_, rfl, hbf, f0w, f1w⟩ := frRow_get HML.out HM.out k hkl
          have hok := HOK.out _ (List.getElem_mem hkl)
          have h300 := HF2.out.2 _ (List.getElem_mem hkl)
          have hnx := bK_next l js hkm HML.out
          generalize l[k] = f at *
          obtain ⟨ft, ⟨fA, fc, fxs⟩⟩ := f
          obtain ⟨hft, hfs⟩ := hok
          simp only [FrV.p] at f0w f1w hft hfs h300 hnx
          obtain ⟨T, hT⟩ : ∃ T : UInt8, T.toNat = ft := ⟨UInt8.ofNat ft, by rw [UInt8.toNat_ofNat']; omega⟩
          have hT2 : UInt8.ofNat ft = T := by rw [← hT]; simp
          obtain ⟨pl, hpl⟩ : ∃ p, fxs.length = p := ⟨_, rfl⟩
          rw [hT2] at hnx
          rw [hpl] at f1w h300
          have hput := fun W (hW : Below s0 w W) => rfput_any T fxs pl fA fc W hpl (by omega) (hfs.below (by rw [hs0]; exact hW))
          rw [hT] at hput
          have hbfs : bf < s0 := by omega
          have HPUT := hid hput
          have HNX := hid hnx
          have HPN := hid hpl
          clear hput hnx hT hT2 hpl hfs
          have f0 := (HBW.out.cell (p := ⟨bf, of_ + k * 2, none⟩) hbfs).trans f0w
          have f1 := (HBW.out.cell (p := ⟨bf, of_ + k * 2 + 1, none⟩) hbfs).trans f1w
          go_wp2_with fail
          refine (HPUT.out _ HBW.out).mono ?_
          rintro e w7 ⟨v7, rfl, ho7, hb7⟩
          obtain ⟨A7, c7, rfl⟩ := row_slice_g ho7
          have HS7 := hid (Sl.of_own' ho7)
          have HY7 := hid (own_below HY.out hb7)
          have HBW7 := hid (HBW.out.trans (hb7.mono (by have := HBW.out.size; omega)))
          have hsz7 := Nat.le_trans hszW hb7.size
          have hyl := HYL.out
          clear ho7 hb7
          go_wp2_with (at_builtin; refine wpList_append_rd rfl (.tmp 72) (.tmp 77) 30 rfl s2 5 i0 (.int .u8 0) 1 1 Try.underlying30 ii iz0 iz1 iz2 rfl (by decide) _ _ _ rfl HY7.out A7 (pl + 9) c7 ((Fr.put T fxs).map bv) rfl (by rw [List.length_map, Fr.put_len, HPN.out, Nat.mul_one]) HS7.out.rd HS7.out.nil0 (bv_one _) (by simp only [maxLen]; omega) (by omega) hsz7 ?_; intro v8 w8 ho8 hg8; have hv7 := (fun q hq => (HY7.out.lt q hq).1 : ∀ q, (u5).ownBlock = some q → s2 ≤ q); have hc8 := Chg.of_grown (S := fun q => (u5).ownBlock = some q) hg8 (fun q e => e); have HO8 := hid ho8; have HB8 := hid (HBW7.out.trans ((hc8.mono (T := fun q => s0 ≤ q) (fun q _ h => by have := hv7 q h; omega)).below (fun q h => h) (by omega))); have hsz8 := Nat.le_trans hsz7 hc8.size; clear ho8 hg8 hc8 hv7)
          go_roundw
          case rel =>
            refine ⟨k + 1, by omega, by go_num, by rw [HJS1.out], ?_, HJO.out, HB8.out, hsz8⟩
            rw [HNX.out, List.length_append, Fr.put_len, HPN.out, List.map_append (l₁ := bK l js m k ++ jk js k)]
            exact HO8.out
          case measure => simp [intOf]; omega
        · have hkmi : ¬ (k : Int) < (m : Int) := by omega
          have hke : k = m := by omega
          have HLA := hid (show bK l js m (k + 1) = bK l js m k ++ jk js k from by rw [hke]; exact bK_last l js m)
          clear hke
          go_wp2_with fail
          go_roundw
          case rel =>
            refine ⟨k + 1, by omega, by go_num, by rw [HJS1.out], ?_, HJO.out, HBW.out, hszW⟩
            rw [HLA.out]
            exact HY.out
          case measure => simp [intOf]; omega
    · obtain rfl : k = m + 1 := by omega
      have hki : ¬ ((m + 1 : Nat) : Int) ≤ (m : Int) := by omega
      obtain ⟨hwk, hps⟩ := HFIN.out hjo
      have hbd := sgs_bd hjo HF2.out.2
      have hjm := (hjo m (by omega)).2
      have hbd2 := sgs_bd (k := m) (fun i hi => hjo i (by omega)) HF2.out.2
      have hbl : (bK l js m (m + 1)).length ≤ 9500 := by unfold bK; rw [if_neg (by omega), List.length_append]; omega
      obtain ⟨Ab, cb, rfl⟩ := row_slice_g ho
      obtain ⟨N, hN⟩ : ∃ N, (bK l js m (m + 1)).length = N := ⟨_, rfl⟩
      rw [hN] at ho hbl hwk ⊢
      have hal := fun W (h : Sl W Ab cb ((bK l js m (m + 1)).map bv)) => (sall_any (bK l js m (m + 1)) N Ab cb W hN (by omega) h).mono (fun e w' h => AllR.go h (l := Jn.at_ 0 (sgs l js m)) (k := N) (n := m) hwk (by rw [Jn.at_len, sgs_len]))
      have hpa := fun W (h : Sl W Ab cb ((bK l js m (m + 1)).map bv)) => spassed_any (bK l js m (m + 1)) N Ab cb W hN (by omega) h
      rw [hps] at hpa
      have HAL := hid hal
      have HPA := hid hpa
      have HSB := hid (Sl.of_own' ho)
      have HB := hid hB
      generalize jsum js (m + 1) = S at *
      clear hwk hps hbd hbd2 hjm ho hal hpa hN hB hjo
      go_wp2_with fail
      refine (HAL.out _ HSB.out).mono ?_
      rintro e w6 ⟨A6, c6, rfl, hrow6, hb6⟩
      have HR6 := hid hrow6
      have HB6 := hid (HB.out.trans (hb6.mono (by have := HB.out.size; omega)))
      have HSB6 := hid (HSB.out.below hb6)
      clear hrow6 hb6
      go_wp2_with fail
      refine (HPA.out _ HSB6.out).mono ?_
      rintro e w7 ⟨rfl, hb7⟩
      have HR7 := hid (HR6.out.below hb7)
      have HB7 := hid (HB6.out.trans (hb7.mono (by have := HB6.out.size; omega)))
      clear hb7
      go_wp2_with fail
      go_loopw [11] (fun i wr => ∃ j : Nat, j ≤ m ∧ i = .int .i64 (j : Int) ∧ Below w7.heap.size w7 wr) (fun i _ => m - (intOf i).toNat)
      case atStart => exact ⟨0, by omega, rfl, Below.refl _ _⟩
      case round =>
        obtain ⟨j, hj, rfl, hB⟩ := hrel
        by_cases hlt2 : j < m
        · have hjl : j < l.length := by have := HML.out; omega
          have hbel : Below s0 w wr := HB7.out.trans (hB.mono (by have := HB7.out.size; omega))
          obtain ⟨b, off, rfl, hb, t0, t1⟩ := frRow_get HML.out (HM.out.below (by rw [hs0]; exact hbel)) j hjl
          obtain ⟨b6, o6, P6, q6, rfl, hb6, s0', s1, s2', hp6, -, -⟩ := (HR7.out.below hB).get (by rw [Jn.at_len, sgs_len]) j (by rw [Jn.at_len, sgs_len]; exact hlt2)
          obtain ⟨g1, g2⟩ := Jn.at_get (sgs l js m) 0 j (by rw [sgs_len]; exact hlt2)
          rw [sgs_get l js m j hlt2] at g1 g2
          simp only at g1 g2
          rw [frk_at hjl] at g1 g2
          have hbb := (Rs.wk_facts false [] 0)
          rw [g1] at s1
          rw [g2] at s2' hp6
          generalize ((Jn.at_ 0 (sgs l js m))[j]'(by rw [Jn.at_len, sgs_len]; exact hlt2)).at_ = P at *
          have hok := HOK.out _ (List.getElem_mem hjl)
          have h300 := HF2.out.2 _ (List.getElem_mem hjl)
          clear g1 g2 hbb
          generalize l[j] = f at *
          obtain ⟨ft, ⟨fA, fc, fxs⟩⟩ := f
          obtain ⟨hft, hfs⟩ := hok
          simp only [FrV.p] at s1 s2' t0 t1 hft hfs h300 hp6
          obtain ⟨T, hT⟩ : ∃ T : UInt8, T.toNat = ft := ⟨UInt8.ofNat ft, by rw [UInt8.toNat_ofNat']; omega⟩
          have hT2 : UInt8.ofNat ft = T := by rw [← hT]; simp
          obtain ⟨pl, hpl⟩ : ∃ p, fxs.length = p := ⟨_, rfl⟩
          rw [hT2, hT] at s1
          rw [hpl] at s2' t1 h300
          have hsame := fun W (hW : Below wr.heap.size wr W) => (fsame_any T T fxs fxs pl pl P6 fA q6 fc W hpl hpl (hp6.sl.below hW) ((hfs.below (by rw [hs0]; exact hbel)).below hW)).mono (fun e w' h => (show e = .returned (.bool true) ∧ Below W.heap.size W w' from ⟨by rw [h.1]; simp, h.2⟩))
          rw [hT] at hsame
          have HSM := hid hsame
          have HBX := hid hB
          have HBR := hid (Below.refl wr.heap.size wr)
          have hki : (j : Int) < (m : Int) := by omega
          have hk0 : (0 : Int) ≤ (j : Int) := by omega
          clear hsame hB hp6 hfs hbel hpl hT hT2
          go_wp2_with fail
          go_region_held3 (fun w' => w'.cell? ⟨b6, o6 + j * 3, none⟩ = some (.int .i64 (P : Int)) ∧ w'.cell? ⟨b6, o6 + j * 3 + 1, none⟩ = some (.int .u8 (ft : Int)) ∧ w'.cell? ⟨b6, o6 + j * 3 + 2, none⟩ = some (.slice P6 pl q6) ∧ w'.cell? ⟨b, off + j * 2, none⟩ = some (.int .u8 (ft : Int)) ∧ w'.cell? ⟨b, off + j * 2 + 1, none⟩ = some (.slice fA pl fc)) (first | exact ⟨s0', s1, s2', t0, t1⟩ | exact ⟨x0, x1, x2, y0, y1⟩ | go_keep) (first | (go_at_call 47; (with_reducible refine (HSM.out _ (below_drew' HBR.out)).mono ?_); rintro e w8 ⟨rfl, hb8⟩; have hbq := (below_drew' (Below.refl _ wr)).trans hb8; have x0 := (hbq.cell (p := ⟨b6, o6 + j * 3, none⟩) hb6).trans s0'; have x1 := (hbq.cell (p := ⟨b6, o6 + j * 3 + 1, none⟩) hb6).trans s1; have x2 := (hbq.cell (p := ⟨b6, o6 + j * 3 + 2, none⟩) hb6).trans s2'; have y0 := (hbq.cell (p := ⟨b, off + j * 2, none⟩) hb).trans t0; have y1 := (hbq.cell (p := ⟨b, off + j * 2 + 1, none⟩) hb).trans t1; have HB8 := hid hbq; clear hb8 hbq))
          go_wp2_with fail
          go_roundw
          case rel => exact ⟨j + 1, by omega, by go_num, bw_t HBX.out HB8.out⟩
          case measure => simp [intOf]; omega
        · obtain rfl : j = m := by omega
          have hki : ¬ (j : Int) < (j : Int) := by omega
          have HBX := hid hB
          clear hB
          go_wp2_with fail
          go_ret
          exact ⟨rfl, HB7.out.trans (HBX.out.mono (by have := HB7.out.size; omega))⟩
end Go.Proofs.Ytnfodgjihdoncaa
