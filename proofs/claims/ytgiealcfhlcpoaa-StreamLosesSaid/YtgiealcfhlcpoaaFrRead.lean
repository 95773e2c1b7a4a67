/- frame.Read, Same; bytes.Equal. -/
import Derived.Test.YtgiealcfhlcpoaaFrRd
import Derived.Test.YtgiealcfhlcpoaaM4
set_option linter.unusedVariables false
namespace Go.Proofs.Ytgiealcfhlcpoaa
open Go.RowKit
/-- A row of bytes in memory that was made behind B. -/
structure Pay (B : Nat) (w : World) (A : Option Addr) (c : Nat) (xs : List UInt8) : Prop where
  sl : Sl w A c (xs.map bv)
  own : A = none ∨ ∃ b o cs k, A = some ⟨b, o, none⟩ ∧ B ≤ b ∧ w.heap[b]? = some (.cells cs 5 k)
theorem Pay.chg {B : Nat} {w w' : World} {A : Option Addr} {c : Nat} {xs : List UInt8} {S : Nat → Prop} (h : Pay B w A c xs) (hc : Chg S w w') (hS : ∀ b cs k, B ≤ b → w.heap[b]? = some (.cells cs 5 k) → ¬ S b) : Pay B w' A c xs := by
  rcases h.own with rfl | ⟨b, o, cs, k, rfl, hb, hk⟩
  · exact ⟨hc.sl h.sl (n := xs.length) (fun _ b' o' e => by cases e) (by simp), .inl rfl⟩
  · have hn := hS b cs k hb hk
    have hlt := (Array.getElem?_eq_some_iff.1 hk).1
    exact ⟨hc.sl h.sl (n := xs.length) (fun _ b' o' e => by injection e with e; injection e with e1 e2; subst e1; exact hn) (by simp), .inr ⟨b, o, cs, k, rfl, hb, (hc.block b hlt hn).trans hk⟩⟩
theorem Pay.below {B : Nat} {w w' : World} {A : Option Addr} {c : Nat} {xs : List UInt8} (h : Pay B w A c xs) (hb : Below w.heap.size w w') : Pay B w' A c xs := by
  refine h.chg (Chg.of_new hb) (S := fun _ => False) (fun _ _ _ _ _ h => h)
theorem Pay.mono {B B' : Nat} {w : World} {A : Option Addr} {c : Nat} {xs : List UInt8} (h : Pay B w A c xs) (hb : B' ≤ B) : Pay B' w A c xs :=
  ⟨h.sl, h.own.imp_right fun ⟨b, o, cs, k, e, h1, h2⟩ => ⟨b, o, cs, k, e, Nat.le_trans hb h1, h2⟩⟩
theorem Pay.of_own {B n : Nat} {w : World} {v : Value} {xs : List UInt8} (h : w.ownsRow B 5 1 v n (xs.map bv)) : ∃ A c, v = .slice A n c ∧ Pay B w A c xs := by
  obtain ⟨A, c, rfl, hnn, hs⟩ := Sl.of_own h
  refine ⟨A, c, rfl, hs, ?_⟩
  rcases h.2 with ⟨e, _⟩ | ⟨g, cap, cur, e, hb, hg, _⟩
  · injection e with e1 e2 e3
    exact .inl e1
  · injection e with e1 e2 e3
    exact .inr ⟨g, 0, cur, _, e1, hb, hg⟩
theorem conv_bs12 {P : Program} {w : World} {src dst e : TypeId} {A : Option Addr} {n c : Nat} {vs : List UInt8} (hsl : Sl w A c (vs.map bv)) (hn : vs.length = n) (hs : P.underlying src = some (.slice e)) (he : P.underlying e = some (.int .u8)) (hd : P.underlying dst = some .string) :
    (convert src dst (.slice A n c)).run P w = .ok (.string ⟨vs.toArray⟩) w := by
  subst hn
  cases A with
  | none =>
    obtain hnil := hsl.rd.none_nil
    obtain rfl : vs = [] := by simpa using hnil
    obtain rfl := hsl.nil0 rfl
    exact run_convert_bytes_nil w src e hs he 0 0 dst hd
  | some a =>
    exact run_convert_bytes_back _ src dst e _ _ vs hs he hd fun j hj => by
      have := hsl.rd.addr j (bv vs[j]) (by simp [hj])
      simpa [bv] using this
/-- What reading comes to. -/
def RdR (w : World) (bs : List UInt8) (e : Ending) (w' : World) : Prop :=
  ((Fr.rE bs = 0 ∧ ∃ A c, e = .returned (.tuple #[.agg #[.int .u8 ((Fr.ty bs).toNat : Int), .slice A (Fr.ln bs) c], .int .i64 ((Fr.ln bs + 9 : Nat) : Int), .int .i64 0]) ∧ Pay w.heap.size w' A c (Fr.pl bs)) ∨
   (Fr.rE bs ≠ 0 ∧ e = .returned (.tuple #[.agg #[.int .u8 0, .slice none 0 0], .int .i64 0, .int .i64 (Fr.rE bs : Nat)]))) ∧ Below w.heap.size w w'
set_option maxRecDepth 100000 in
set_option maxHeartbeats 4000000 in
theorem fread_any (bs : List UInt8) (n : Nat) (A : Option Addr) (c : Nat) (w : World) (hn : bs.length = n) (hS : Sl w A c (bs.map bv)) :
    Calls Try.prog 28 #[.slice A n c] w (RdR w bs) := by
  have hcap := hS.cap
  have hsm := hS.small
  rw [List.length_map, hn] at hcap
  have hme := fun W (hW : Below w.heap.size w W) => fmeasure_any bs n A c W hn (by omega) (hS.below hW).rd
  have hR : RdR w bs = fun e w' => ((Fr.rE bs = 0 ∧ ∃ A c, e = .returned (.tuple #[.agg #[.int .u8 ((Fr.ty bs).toNat : Int), .slice A (Fr.ln bs) c], .int .i64 ((Fr.ln bs + 9 : Nat) : Int), .int .i64 0]) ∧ Pay w.heap.size w' A c (Fr.pl bs)) ∨
   (Fr.rE bs ≠ 0 ∧ e = .returned (.tuple #[.agg #[.int .u8 0, .slice none 0 0], .int .i64 0, .int .i64 (Fr.rE bs : Nat)]))) ∧ Below w.heap.size w w' := rfl
  generalize RdR w bs = R at *
  by_cases h0 : Fr.hE bs = 0
  · have hmS : Fr.mS bs = Fr.ln bs + 9 := by unfold Fr.mS; rw [if_pos h0]
    rw [hmS, h0] at hme
    obtain ⟨t', a', b', r', -, hlnr, hle⟩ := Fr.hE0 h0
    have hL8 : Fr.ln bs ≤ 8192 := by omega
    clear hlnr hle r'
    by_cases hs : n < Fr.ln bs + 9
    · have hrE : Fr.rE bs = 4 := by unfold Fr.rE; rw [h0, if_neg (by simp), if_pos (by omega)]
      rw [hrE] at hR
      generalize Fr.ln bs = L at *
      have HR := hid hR
      have HME := hid hme
      have hbb : decide ((n : Int) < ((L + 9 : Nat) : Int)) = true := by simp; omega
      clear hR hme hS hn hmS hrE
      go_enter Try.func28, Try.ntmps28
      go_wp2_with fail
      refine (HME.out _ (bw_a (Below.refl _ _) _)).mono ?_
      rintro e w1 ⟨rfl, rfl⟩
      go_wp2_with fail
      refine bodyPost_ret (v := .tuple #[.agg #[.int .u8 0, .slice none 0 0], .int .i64 0, .int .i64 4]) (by simp [results, Try.results28, go_sem]) rfl ?_
      rw [HR.out]
      exact ⟨.inr ⟨by omega, rfl⟩, by first | exact bw_a (Below.refl _ _) _ | exact (bw_a (Below.refl _ _) _).setCell (Nat.le_refl _) _⟩
    · have hopen := Fr.open_ h0 (by omega)
      obtain ⟨hx1, hx2, hx3⟩ := hopen
      have hsz : Fr.ln bs + 9 ≤ c := by omega
      obtain ⟨b, off, rfl, hbl, -⟩ := BRd.at_ (k := 0) hS.rd (by omega)
      have hcut : Sl w (some ⟨b, off + 2, none⟩) (c - 2) (((bs.take (Fr.ln bs + 9)).drop 2).map bv) := by
        have h1 : Sl w (some ⟨b, off, none⟩) c ((bs.take (Fr.ln bs + 9)).map bv) := ⟨by rw [List.length_map, List.length_take]; omega, hsm, hS.nil0, by have := hS.rd.take (Fr.ln bs + 9); rwa [← List.map_take] at this⟩
        have h2 := h1.cut 2 (by rw [List.length_take]; omega)
        have h3 : cutA (some ⟨b, off, none⟩) c 2 = some ⟨b, off + 2, none⟩ := by unfold cutA; rw [if_neg (by omega)]; simp [addr_add]
        rwa [h3] at h2
      have hop := fun W (hW : Below w.heap.size w W) => copen_any ((bs.take (Fr.ln bs + 9)).drop 2) (Fr.ln bs + 7) (some ⟨b, off + 2, none⟩) (c - 2) W hx1 (by omega) (hcut.below hW)
      rw [hx2, show Fr.ln bs + 7 - 4 = Fr.ln bs + 3 from by omega, hx3] at hop
      have hple : (Fr.pl bs).length = Fr.ln bs := by
        unfold Fr.pl; rw [List.length_take, List.length_drop]; omega
      have hgd3 : bs.getD 3 0 = bs.getD 3 0 := rfl
      generalize bs.getD 3 0 = x3 at *
      generalize bs.getD 4 0 = x4 at *
      by_cases hz : Fr.rE bs = 0
      · simp only [hz, true_and, ne_eq, not_true_eq_false, false_and, or_false] at hop hR
        generalize Fr.ln bs = L at *
        generalize Fr.pl bs = p at *
        generalize Fr.ty bs = ty at *
        generalize ((bs.take (L + 9)).drop 2) = X at *
        have HR := hid hR
        have HME := hid hme
        have HOP := hid hop
        have HP := hid hple
        have hbb : decide ((n : Int) < ((L + 9 : Nat) : Int)) = false := by simp; omega
        clear hR hme hS hn hmS hop hx1 hx2 hx3 hz hple hcut hgd3 h0
        go_enter Try.func28, Try.ntmps28
        go_wp2_with fail
        refine (HME.out _ (bw_a (Below.refl _ _) _)).mono ?_
        rintro e w1 ⟨rfl, rfl⟩
        go_wp2_with fail
        refine (HOP.out _ (bw_a (Below.refl _ _) _)).mono ?_
        rintro e w2 ⟨⟨v, rfl, ho⟩, hb2⟩
        obtain ⟨g, c2, cur, rfl, hgB, hc2, hcm, hln3, hrow⟩ := RowB.of_own ho (by omega)
        rw [World.size_alloc] at hgB
        have hres := (Blk.new w 29 #[.int .u8 0, .slice none 0 0]).below hb2 (by simp)
        have hB2 := bw_t (bw_a (Below.refl _ w) _) hb2
        have hsl3 := hrow.sl (c := c2) (by omega) hcm
        have hg0 := hrow.blk.cell 0
        have h00 := hrow.get 0 (by simp)
        simp only [List.getElem_cons_zero] at h00
        rw [h00] at hg0
        simp only [bv] at hg0
        have hgl := hrow.blk.lt
        have hrc0 := hres.cell 0
        have hrc1 := hres.cell 1
        simp only [List.getElem?_toArray, List.getElem?_cons_zero, List.getElem?_cons_succ] at hrc0 hrc1
        have hrf := fun i => hres.frozen i
        have hmx : Try.prog.follows .mixedOrders = true := by kernel_rfl
        have hcut3 := hsl3.cut 3 (by simp)
        simp only [List.drop_succ_cons, List.drop_zero] at hcut3
        have hgne : ¬ g = w.heap.size := by omega
        have HROW := hid hrow
        have HRES := hid hres
        have HB := hid hB2
        have HC3 := hid hcut3
        clear ho hb2 hrow hres hB2 hsl3 hcut3 h00
        go_wp2_with fail
        by_cases hc3 : c2 = 3
        · subst hc3
          obtain rfl : L = 0 := by omega
          have hpay : Pay w.heap.size w2 (some ⟨g, 0, none⟩) 0 p := ⟨by have := HC3.out; simp only [cutA, if_true, Nat.sub_self] at this; exact this, .inr ⟨g, 0, _, _, rfl, by omega, HROW.out.blk⟩⟩
          have hchg := ((((Chg.refl (fun q => q = w.heap.size) w2).set_ (.inl rfl) 0 (Value.int .u8 (ty.toNat : Int))).set_ (.inl rfl) 1 (Value.slice (some ⟨g, 0, none⟩) 0 0))).drew
          have hpay2 := hpay.chg hchg (fun b' cs k h1 h2 e => by
            subst e
            rw [show w2.heap[w.heap.size]? = _ from HRES.out] at h2
            injection h2 with h2
            injection h2 with _ h2
            exact absurd h2 (by decide))
          have HPAY := hid hpay2
          have HBE := hid (HB.out.trans (hchg.below (B := w.heap.size) (fun k hk => by omega) HB.out.size))
          clear hpay hpay2 hchg
          go_region
          go_wp2_with fail
          refine bodyPost_ret (v := .tuple #[.agg #[.int .u8 (ty.toNat : Int), .slice (some ⟨g, 0, none⟩) 0 0], .int .i64 ((0 + 9 : Nat) : Int), .int .i64 0]) (by simp [results, Try.results28, go_sem, hrc0, hrc1]) rfl ?_
          rw [HR.out]
          exact ⟨⟨_, _, rfl, HPAY.out⟩, HBE.out⟩
        · have hpay : Pay w.heap.size w2 (some ⟨g, 3, none⟩) (c2 - 3) p := ⟨by have := HC3.out; unfold cutA at this; rw [if_neg hc3] at this; simpa [addr_add] using this, .inr ⟨g, 3, _, _, rfl, by omega, HROW.out.blk⟩⟩
          have hchg := ((((Chg.refl (fun q => q = w.heap.size) w2).set_ (.inl rfl) 0 (Value.int .u8 (ty.toNat : Int))).set_ (.inl rfl) 1 (Value.slice (some ⟨g, 3, none⟩) L (c2 - 3)))).drew
          have hpay2 := hpay.chg hchg (fun b' cs k h1 h2 e => by
            subst e
            rw [show w2.heap[w.heap.size]? = _ from HRES.out] at h2
            injection h2 with h2
            injection h2 with _ h2
            exact absurd h2 (by decide))
          have HPAY := hid hpay2
          have HBE := hid (HB.out.trans (hchg.below (B := w.heap.size) (fun k hk => by omega) HB.out.size))
          clear hpay hpay2 hchg
          go_region
          go_wp2_with fail
          refine bodyPost_ret (v := .tuple #[.agg #[.int .u8 (ty.toNat : Int), .slice (some ⟨g, 3, none⟩) L (c2 - 3)], .int .i64 ((L + 9 : Nat) : Int), .int .i64 0]) (by simp [results, Try.results28, go_sem, hrc0, hrc1]) rfl ?_
          rw [HR.out]
          exact ⟨⟨_, _, rfl, HPAY.out⟩, HBE.out⟩
      · have h12 : Fr.rE bs = 12 := by
          rcases Fr.rE_cases bs with h | h | h | h | h
          · unfold Fr.rE at h; rw [h0, if_neg (by simp), if_neg (by omega)] at h; split at h <;> simp at h
          · unfold Fr.rE at h; rw [h0, if_neg (by simp), if_neg (by omega)] at h; split at h <;> simp at h
          · unfold Fr.rE at h; rw [h0, if_neg (by simp), if_neg (by omega)] at h; split at h <;> simp at h
          · exact h
          · exact absurd h hz
        rw [h12] at hop hR
        simp only [show ¬ (12 : Nat) = 0 from by omega, false_and, false_or, ne_eq, not_false_eq_true, true_and] at hop hR
        generalize Fr.ln bs = L at *
        generalize ((bs.take (L + 9)).drop 2) = X at *
        have HR := hid hR
        have HME := hid hme
        have HOP := hid hop
        have hbb : decide ((n : Int) < ((L + 9 : Nat) : Int)) = false := by simp; omega
        clear hR hme hS hn hmS hop hx1 hx2 hx3 hz hple hcut hgd3 h0 h12
        go_enter Try.func28, Try.ntmps28
        go_wp2_with fail
        refine (HME.out _ (bw_a (Below.refl _ _) _)).mono ?_
        rintro e w1 ⟨rfl, rfl⟩
        go_wp2_with fail
        refine (HOP.out _ (bw_a (Below.refl _ _) _)).mono ?_
        rintro e w2 ⟨rfl, hb2⟩
        have hres := (Blk.new w 29 #[.int .u8 0, .slice none 0 0]).below hb2 (by simp)
        have HB := hid (bw_t (bw_a (Below.refl _ w) _) hb2)
        have hrc0 := hres.cell 0
        have hrc1 := hres.cell 1
        simp only [List.getElem?_toArray, List.getElem?_cons_zero, List.getElem?_cons_succ] at hrc0 hrc1
        have hrf := fun i => hres.frozen i
        have hlt := hres.lt
        clear hres hb2
        go_wp2_with fail
        refine bodyPost_ret (v := .tuple #[.agg #[.int .u8 0, .slice none 0 0], .int .i64 0, .int .i64 12]) (by simp [results, Try.results28, go_sem, hrc0, hrc1]) rfl ?_
        rw [HR.out]
        exact ⟨rfl, by first | exact HB.out | exact (HB.out.setCell (Nat.le_refl _) _) | exact ((HB.out.setCell (Nat.le_refl _) _).setCell (Nat.le_refl _) _)⟩
  · have hrE : Fr.rE bs = Fr.hE bs := by unfold Fr.rE; rw [if_pos h0]
    have hmS : Fr.mS bs = 0 := by unfold Fr.mS; rw [if_neg h0]
    rw [hmS] at hme
    rw [hrE] at hR
    obtain ⟨E, hE⟩ : ∃ E, Fr.hE bs = E := ⟨_, rfl⟩
    rw [hE] at hme h0 hR
    have HR := hid hR
    have HME := hid hme
    have hbb : ((E : Int) != 0) = true := by simp; omega
    clear hR hme hS hn hmS hrE hE
    go_enter Try.func28, Try.ntmps28
    go_wp2_with fail
    refine (HME.out _ (bw_a (Below.refl _ _) _)).mono ?_
    rintro e w1 ⟨rfl, rfl⟩
    go_wp2_with fail
    refine bodyPost_ret (v := .tuple #[.agg #[.int .u8 0, .slice none 0 0], .int .i64 0, .int .i64 (E : Int)]) (by simp [results, Try.results28, go_sem]) rfl ?_
    rw [HR.out]
    exact ⟨.inr ⟨h0, rfl⟩, by first | exact bw_a (Below.refl _ _) _ | exact (bw_a (Below.refl _ _) _).setCell (Nat.le_refl _) _⟩
end Go.Proofs.Ytgiealcfhlcpoaa
