/- The walk of WholeSealed. -/
import Derived.Test.YtefoccpgnijamaaLawS
import Derived.Test.YtefoccpgnijamaaLaw7B
import Derived.Deep.RegionHeld3
set_option linter.unusedVariables false
namespace Go.Proofs.Ytefoccpgnijamaa
open Go.RowKit
theorem RowB.below {W W' : World} {g : Nat} {cur : Array Value} {bs : List UInt8} (h : RowB W g cur bs) (hb : Below W.heap.size W W') : RowB W' g cur bs := ⟨h.blk.below hb h.blk.lt, h.len, h.get⟩
set_option maxRecDepth 100000 in
set_option maxHeartbeats 8000000 in
theorem wholeSealed_any (l : List FV) (m : Nat) (A : Option Addr) (c : Nat) (at_ : Int) (bits : Nat) (w : World) (hm : l.length = m) (hl : SlN w A m c 5 (l.flatMap fvC)) (hok : ∀ f ∈ l, FvOk w f) (ha1 : -9223372036854775808 ≤ at_) (ha2 : at_ ≤ 9223372036854775807) (hbits : bits ≤ 4294967295) :
    Calls Try.prog 6 #[.slice A m c, .int .i64 at_, .int .u32 (bits : Int)] w fun e w' => e = .returned (.bool true) ∧ Below w.heap.size w w' := by
  have hcm : m ≤ 9223372036854775807 := by have g1 := hl.cap; have g2 := hl.small; omega
  have HM := hid hm
  have HL := hid hl
  have HOK := hid hok
  clear hm hl hok
  by_cases hbig : 20 < m
  · go_enter Try.func6, Try.ntmps6
    go_wp2_with fail
    refine (awakeSeal_any _).mono ?_
    rintro e w1 ⟨rfl, hb1⟩
    go_wp2_with fail
    go_ret
    exact ⟨rfl, hb1⟩
  go_enter Try.func6, Try.ntmps6
  go_wp2_with fail
  refine (awakeSeal_any _).mono ?_
  rintro e w1 ⟨rfl, hb1⟩
  have HB1 := hid hb1
  clear hb1
  go_wp2_with fail
  go_loopw [7] (fun i wr => ∃ j : Nat, j ≤ m ∧ i = .int .i64 (j : Int) ∧ (∀ k (h : k < l.length), k < j → l[k].s.xs.length ≤ 100) ∧ Below w.heap.size w wr) (fun i _ => m - (intOf i).toNat)
  case atStart => exact ⟨0, by omega, rfl, fun k _ h => by omega, HB1.out⟩
  case round =>
    obtain ⟨j, hj, rfl, hsm, hB⟩ := hrel
    by_cases hlt : j < m
    · have hjl : j < l.length := by have := HM.out; omega
      have hn3 : (l.flatMap fvC)[j * 5 + 3]? = _ := flatMap_get fvC 5 l j 3 hjl (fun _ _ => rfl) (by omega)
      have hn0 : (l.flatMap fvC)[j * 5 + 0]? = _ := flatMap_get fvC 5 l j 0 hjl (fun _ _ => rfl) (by omega)
      obtain ⟨b, off, hA, hbw, t0⟩ := HL.out.rd _ _ hn0
      subst hA
      have t3 := HL.out.rd.addr _ _ hn3
      rw [addr_add] at t3
      simp only [Nat.add_zero, ← Nat.add_assoc] at t0 t3
      have t3 := (hB.cell (p := ⟨b, off + j * 5 + 3, none⟩) hbw).trans t3
      have hji : (j : Int) < (m : Int) := by omega
      have hj0 : (0 : Int) ≤ (j : Int) := by omega
      have hnext : l[j].s.xs.length ≤ 100 → ∀ k (h : k < l.length), k < j + 1 → l[k].s.xs.length ≤ 100 := by
        intro h1 k h hk
        by_cases e : k = j
        · subst e; exact h1
        · exact hsm k h (by omega)
      have hlc : l[j].s.xs.length ≤ 9223372036854775807 := by have h0 := (HOK.out l[j] (List.getElem_mem hjl)).s; have h1 := h0.cap; have h2 := h0.small; rw [List.length_map] at h1; omega
      clear hn0 hn3 hsm t0
      generalize l[j] = x at *
      obtain ⟨num, wi, n, ⟨xA, xc, xs⟩, at2⟩ := x
      simp only at t3 hnext hlc
      generalize xs.length = len at *
      have HNX := hid hnext
      have HB := hid hB
      clear hnext hB
      by_cases hlen : 100 < len
      · go_wp2_with fail
        go_ret
        exact ⟨rfl, HB.out⟩
      · go_wp2_with fail
        exact ⟨⟨j + 1, by omega, by go_num, HNX.out (by omega), HB.out⟩, by simp [intOf] <;> omega⟩
    · obtain rfl : j = m := by omega
      have hx : ∀ f ∈ l, f.s.xs.length ≤ 100 := by
        intro f hf
        obtain ⟨k, hk, rfl⟩ := List.getElem_of_mem hf
        exact hsm k hk (by have := HM.out; omega)
      have hput := sputs_any l j A c wr HM.out (by omega) (HL.out.below hB) (fun f hf => (HOK.out f hf).below hB) (fun f hf => by have := hx f hf; omega)
      have HB := hid hB
      have HX := hid hx
      clear hB hx hsm
      by_cases hpz : (putsE l 0).1 = 0
      · have hp0 := putsE_all l 0 hpz
        have hpe : putsE l 0 = (0, 0) := putsE_zero l hp0 0
        have hlen := pBF_all l (fun f hf => pBF_len f (HOK.out f hf).n (HOK.out f hf).w0 (HOK.out f hf).w1 (by have := HX.out f hf; omega))
        have hlm := HM.out
        have hfl := flds_put l (l.flatMap pBF) [] 0 (l.flatMap pBF).length (fun f hf => ⟨hp0 f hf, (HOK.out f hf).n, (HOK.out f hf).w0, (HOK.out f hf).w1⟩) rfl rfl (by omega)
        rw [hpe] at hput
        rw [hlm] at hlen
        have hfd := fun W X d hX => (callsIn_wide (n := 4)).1 (fields_in 4 (by omega) (l.flatMap pBF) (l.flatMap pBF).length X d W rfl (by omega) hX)
        rw [hfl] at hfd
        generalize l.flatMap pBF = bs at *
        obtain ⟨lb, hlb⟩ : ∃ k, bs.length = k := ⟨_, rfl⟩
        rw [hlb] at hput hfd hlen
        have HPUT := hid hput
        have HFD := hid hfd
        have HBL := hid hlb
        clear hput hfd hlb hfl hpe hp0 hpz hlm
        go_wp2_with fail
        refine HPUT.out.mono ?_
        rintro e w3 ⟨(⟨-, v3, rfl, ho3⟩ | ⟨h, -⟩), hb3⟩
        rotate_left
        · exact (h (by first | trivial | rfl)).elim
        obtain ⟨A3, c3, rfl, -, hs3⟩ := Sl.of_own ho3
        have hb3a := bw_a (Below.refl w3.heap.size w3) (.cells #[.int .i64 0, .int .i64 0] 51)
        have hk3 := Blk.new w3 51 #[.int .i64 0, .int .i64 0]
        have HB3 := hid (HB.out.trans ((bw_t hb3 hb3a).mono HB.out.size))
        have HS3 := hid (hs3.below hb3a)
        have HK3 := hid hk3
        clear hb3 hb3a hs3 ho3 hk3
        go_wp2_with fail
        refine (cseal_any bs lb A3 c3 _ HBL.out (by omega) HS3.out).mono ?_
        rintro e w4 ⟨v4, rfl, ho4, hb4⟩
        obtain ⟨g, c4, cur, rfl, hgB, hc4, hcm4, hsl, hrow⟩ := RowB.of_own ho4 (by omega)
        replace hgB : w.heap.size ≤ g := Nat.le_trans HB3.out.size hgB
        have HB4 := hid (HB3.out.trans (hb4.mono HB3.out.size))
        have HS4 := hid (HS3.out.below hb4)
        have HK4 := hid (HK3.out.below hb4 HK3.out.lt)
        clear hb4 ho4
        go_wp2_with fail
        refine (copen_ok bs lb (lb + 4) (some ⟨g, 0, none⟩) c4 w4 HBL.out rfl (by omega) (hrow.sl (by omega) hcm4)).mono ?_
        rintro e w5 ⟨A5, c5, rfl, hs5, hb5⟩
        have hrow5 := hrow.below hb5
        have HB5 := hid (HB4.out.trans (hb5.mono HB4.out.size))
        have hk5 := HK4.out.below hb5 HK4.out.lt
        have d0 := hk5.cell 0
        have d1 := hk5.cell 1
        simp only [List.getElem?_toArray, List.getElem?_cons_zero, List.getElem?_cons_succ] at d0 d1
        have hsm := same_at bs bs lb lb A5 A3 c5 c3 w5 HBL.out HBL.out (by omega) hs5.rd (HS4.out.below hb5).rd
        rw [decide_eq_true (rfl : bs = bs)] at hsm
        have HSM := hid hsm
        have HS5 := hid hs5
        have HR5 := hid hrow5
        clear hb5 hrow hrow5 hs5 hk5 hsm
        go_wp2_with fail
        refine HSM.out.mono ?_
        rintro e w6 ⟨rfl, k6, rfl⟩
        have HS6 := hid (HS5.out.below (bw_d (Below.refl _ w5) k6))
        have HR6 := hid (HR5.out.below (bw_d (Below.refl _ w5) k6))
        have HB6 := hid (bw_d HB5.out k6)
        clear d0 d1
        go_wp2_with fail
        refine (HFD.out _ _ _ HS6.out).mono ?_
        rintro e w7 ⟨(⟨-, v7, b7, pre, rfl, hb7l, ho7, hfa, hsl7⟩ | ⟨h, -⟩), hb7⟩
        rotate_left
        · exact (h (by first | trivial | rfl)).elim
        have hpl := (put_like hfa).1
        obtain ⟨A7, c7, rfl, hs7⟩ := sln_own (by omega) ho7
        have hpj : pre.length = j := by rw [hpl]; exact HM.out
        rw [hpj]
        have hb7a := bw_t hb7 (bw_a (Below.refl w7.heap.size w7) (.cells #[.int .i64 0, .int .i64 0] 51))
        have HR7 := hid (HR6.out.below hb7a)
        have HB7 := hid (HB6.out.trans (hb7a.mono HB6.out.size))
        clear hb7 hb7a hpj hpl hfa hsl7 hs7 ho7 hb7l
        by_cases hneg : at_ < 0
        · go_wp2_with fail
          go_ret
          exact ⟨rfl, HB7.out⟩
        by_cases hgt : 8 * ((lb : Int) + 4) - 32 < at_
        · go_wp2_with fail
          go_ret
          exact ⟨rfl, HB7.out⟩
        by_cases hz : bits = 0
        · have hzb : ((bits : Int) == 0) = true := by simp [hz]
          clear hz
          go_wp2_with fail
          go_ret
          exact ⟨rfl, HB7.out⟩
        have hzb : ((bits : Int) == 0) = false := by simp; omega
        obtain ⟨a, rfl⟩ : ∃ a : Nat, at_ = (a : Int) := ⟨at_.toNat, by omega⟩
        have ha8 : a + 32 ≤ 8 * (lb + 4) := by omega
        have ha0 : (0 : Int) ≤ (a : Int) := by omega
        go_wp2_with fail
        generalize w7.alloc (.cells #[.int .i64 0, .int .i64 0] 51) = w8 at *
        go_loopw [15] (fun i wr => ∃ (q : Nat) (cur : Array Value), q ≤ 32 ∧ i = .int .i64 (q : Int) ∧ RowB wr g cur (C.burst (C.sealB bs) a bits q) ∧ Below w.heap.size w wr) (fun i _ => 32 - (intOf i).toNat)
        case atStart => exact ⟨0, cur, by omega, rfl, HR7.out, HB7.out⟩
        case round =>
          obtain ⟨q, cur, hj, rfl, hr, hB⟩ := hrel
          by_cases hlt : q < 32
          · have hbl : (C.burst (C.sealB bs) a bits q).length = lb + 4 := by rw [C.burst_length, hsl]
            have hnext : C.burst (C.sealB bs) a bits (q + 1) = if bits / 2 ^ q % 2 = 1 then C.flip1 (C.burst (C.sealB bs) a bits q) (a + q) else C.burst (C.sealB bs) a bits q := rfl
            generalize C.burst (C.sealB bs) a bits q = L at *
            by_cases hb : bits / 2 ^ q % 2 = 1
            · rw [if_pos hb] at hnext
              have hbb := bit_tmod bits q
              rw [decide_eq_true hb] at hbb
              have hk8 : (a + q) / 8 < L.length := by omega
              have hcell := hr.blk.cell ((a + q) / 8)
              rw [hr.get _ hk8] at hcell
              have hfr := hr.blk.frozen ((a + q) / 8)
              have hgd : L.getD ((a + q) / 8) 0 = L[(a + q) / 8] := by simp [List.getD, hk8]
              unfold C.flip1 at hnext
              rw [hgd] at hnext
              have hx := L[(a + q) / 8].toNat_lt
              generalize L[(a + q) / 8] = x0 at *
              simp only [bv] at hcell
              have hgl := hr.blk.lt
              have HR := hid hr
              have HB := hid hB
              have HNX := hid hnext
              have HGD := hid hgd
              clear hr hB hnext hgd hb
              have hj0 : (0 : Int) ≤ (q : Int) := by omega
              have hj32 : (q : Int) < 32 := by omega
              have haj : (a : Int) + (q : Int) < 8 * ((lb : Int) + 4) := by omega
              have hmx : Try.prog.follows .mixedOrders = true := by kernel_rfl
              go_wp2_with fail
              go_region
              all_goals go_wp2_with fail
              all_goals
                have hv : Value.int .u8 (Go.bits .xor .u8 (x0.toNat : Int) (2 ^ ((a + q) % 8) % 256)) = bv (UInt8.ofNat (x0.toNat ^^^ 2 ^ ((a + q) % 8))) := bits_flip x0 ((a + q) % 8) (by omega)
                rw [hv]
                have hrow2 := HR.out.set_ ((a + q) / 8) (UInt8.ofNat (x0.toNat ^^^ 2 ^ ((a + q) % 8)))
                have hrow3 : RowB (wr.setCell ⟨g, (a + q) / 8, none⟩ (bv (UInt8.ofNat (x0.toNat ^^^ 2 ^ ((a + q) % 8))))).drew g (cur.setIfInBounds ((a + q) / 8) (bv (UInt8.ofNat (x0.toNat ^^^ 2 ^ ((a + q) % 8))))) (C.burst (C.sealB bs) a bits (q + 1)) := by
                  rw [HNX.out]
                  exact ⟨hrow2.blk, hrow2.len, hrow2.get⟩
                exact ⟨⟨q + 1, _, by omega, by go_num, hrow3, below_drew' (HB.out.setCell (p := ⟨g, (a + q) / 8, none⟩) hgB _)⟩, by simp [intOf]; omega⟩
            · have hbb := bit_tmod bits q
              rw [decide_eq_false hb] at hbb
              rw [if_neg hb] at hnext
              have HR := hid hr
              have HB := hid hB
              have HNX := hid hnext
              clear hr hB hnext hb
              have hj0 : (0 : Int) ≤ (q : Int) := by omega
              have hj32 : (q : Int) < 32 := by omega
              go_wp2_with fail
              exact ⟨⟨q + 1, cur, by omega, by go_num, by rw [HNX.out]; exact HR.out, HB.out⟩, by simp [intOf]; omega⟩
          · obtain rfl : q = 32 := by omega
            have hbl : (C.burst (C.sealB bs) a bits 32).length = lb + 4 := by rw [C.burst_length, hsl]
            have hsl2 := hr.sl (c := c4) (by omega) hcm4
            have hE : C.openE (C.burst (C.sealB bs) a bits 32) = 12 := by
              have h4 : ((C.burst (C.sealB bs) a bits 32).drop lb).length = 4 := by rw [List.length_drop]; omega
              obtain ⟨v, hv, he⟩ := C.le4_of _ h4
              have hsp : C.burst (C.sealB bs) a bits 32 = (C.burst (C.sealB bs) a bits 32).take lb ++ C.le4 v := by rw [← he, List.take_append_drop]
              have hne := C.burst_sum bs a bits hz (by omega) (by rw [HBL.out]; exact ha8) _ v hv hsp
              unfold C.openE
              rw [if_neg (by omega), hbl, Nat.add_sub_cancel, if_neg]
              intro h5
              apply hne
              have h6 : C.sealB ((C.burst (C.sealB bs) a bits 32).take lb) = (C.burst (C.sealB bs) a bits 32).take lb ++ C.le4 v := by rw [h5]; exact hsp
              have h7 : C.le4 (C.sum ((C.burst (C.sealB bs) a bits 32).take lb)) = C.le4 v := List.append_cancel_left h6
              have h8 := congrArg unfixN h7
              rw [← C.le4_fix, ← C.le4_fix, unfix_fix 4 _ (by have := C.sum_lt ((C.burst (C.sealB bs) a bits 32).take lb); omega), unfix_fix 4 v (by omega)] at h8
              exact h8.symm
            have hop := copen_no (C.burst (C.sealB bs) a bits 32) 12 (lb + 4) (some ⟨g, 0, none⟩) c4 wr hE (by omega) hbl (by omega) hsl2
            have HOP := hid hop
            have HB := hid hB
            clear hop hE hsl2 hbl hB hr
            go_wp2_with fail
            refine HOP.out.mono ?_
            rintro e w9 ⟨rfl, hb9⟩
            go_wp2_with fail
            go_ret
            exact ⟨rfl, bw_t HB.out hb9⟩
      · generalize hE : (putsE l 0).1 = E at *
        generalize (putsE l 0).2 = E2 at *
        have heb : ((E : Int) == 0) = false := by simp; omega
        have HPUT := hid hput
        clear hput hE
        go_wp2_with fail
        refine HPUT.out.mono ?_
        rintro e w3 ⟨(⟨h, -⟩ | ⟨-, rfl⟩), hb3⟩
        · exact (hpz h).elim
        have hb3a := bw_a (Below.refl w3.heap.size w3) (.cells #[.int .i64 (E : Int), .int .i64 (E2 : Int)] 51)
        have hk3 := Blk.new w3 51 #[.int .i64 (E : Int), .int .i64 (E2 : Int)]
        have HB3 := hid (HB.out.trans ((bw_t hb3 hb3a).mono HB.out.size))
        have HK3 := hid hk3
        clear hb3 hb3a hk3
        go_wp2_with fail
        refine (cseal_sl [] 0 4 none 0 _ rfl rfl (by omega) (Sl.nil_ _)).mono ?_
        rintro e w4 ⟨A4, c4, rfl, hs4, hb4⟩
        have HB4 := hid (HB3.out.trans (hb4.mono HB3.out.size))
        have HK4 := hid (HK3.out.below hb4 HK3.out.lt)
        clear hb4
        go_wp2_with fail
        refine (copen_ok [] 0 4 A4 c4 w4 rfl rfl (by omega) hs4).mono ?_
        rintro e w5 ⟨A5, c5, rfl, hs5, hb5⟩
        have HB5 := hid (HB4.out.trans (hb5.mono HB4.out.size))
        have hk5 := HK4.out.below hb5 HK4.out.lt
        have d0 := hk5.cell 0
        have d1 := hk5.cell 1
        simp only [List.getElem?_toArray, List.getElem?_cons_zero, List.getElem?_cons_succ] at d0 d1
        clear hb5 hk5 hs5 hs4
        go_wp2_with fail
        go_ret
        refine ⟨?_, HB5.out⟩
        show Ending.returned (.bool ((E : Int) != 0)) = _
        rw [bne, heb]
        rfl
end Go.Proofs.Ytefoccpgnijamaa
