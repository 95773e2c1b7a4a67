/- The walk of ResyncJunk. -/
import Derived.Test.YtgpkjlaplmdnaaaLawJu0
set_option linter.unusedVariables false
namespace Go.Proofs.Ytgpkjlaplmdnaaa
open Go.RowKit
def Ju.one (bs b : List UInt8) (j : Nat) : Bool := !(((bs.getD j 0).toNat : Int) == 197) || !decide (Fr.rE (b.drop j) = 0 ∨ Fr.rE (b.drop j) = 4)
def Ju.cl (bs b : List UInt8) (k : Nat) : Bool := (List.range k).all (Ju.one bs b)
theorem Ju.cl_succ (bs b : List UInt8) (k : Nat) : Ju.cl bs b (k + 1) = (Ju.cl bs b k && Ju.one bs b k) := by unfold Ju.cl; rw [List.range_succ, List.all_append]; simp
theorem Ju.clean {bs R : List UInt8} (h : Ju.cl bs (bs ++ R) bs.length = true) (i : Nat) (hi : i < bs.length) : Fr.rE ((bs ++ R).drop i) ≠ 0 ∧ Fr.rE ((bs ++ R).drop i) ≠ 4 := by
  unfold Ju.cl at h
  rw [List.all_eq_true] at h
  have h1 := h i (by simpa using hi)
  unfold Ju.one at h1
  by_cases h2 : ((bs.getD i 0).toNat : Int) = 197
  · have h3 : (((bs.getD i 0).toNat : Int) == 197) = true := by simpa using h2
    rw [h3] at h1
    simp only [Bool.not_true, Bool.false_or, Bool.not_eq_true', decide_eq_false_iff_not, not_or] at h1
    exact h1
  · have hd : (bs ++ R).drop i = bs[i] :: (bs ++ R).drop (i + 1) := by
      rw [List.drop_eq_getElem_cons (by rw [List.length_append]; omega), List.getElem_append_left hi]
    have hne : bs[i] ≠ 197 := by
      intro h
      apply h2
      rw [List.getD_eq_getElem?_getD, List.getElem?_eq_getElem hi, Option.getD_some, h]; rfl
    rw [hd, Fr.rE_first _ _ hne]
    decide
set_option maxRecDepth 100000 in
set_option maxHeartbeats 4000000 in
theorem resyncJunk_any (bs : List UInt8) (n : Nat) (A : Option Addr) (c : Nat) (l : List FrV) (m : Nat) (B : Option Addr) (d : Nat) (w : World) (hn : bs.length = n) (hS : Sl w A c (bs.map bv)) (hm : l.length = m) (hok : ∀ f ∈ l, FrOk w f) (hM : SlN w B m d 2 (l.flatMap frC)) :
    Calls Try.prog 10 #[.slice A n c, .slice B m d] w fun e w' => e = .returned (.bool true) ∧ Below w.heap.size w w' := by
  have hcap : n ≤ 9223372036854775807 := by have h1 := hS.cap; have h2 := hS.small; rw [List.length_map] at h1; omega
  have hcapm : m ≤ 9223372036854775807 := by have h1 := hM.cap; have h2 := hM.small; omega
  have HL := hid (live14_any w)
  by_cases hbig : 1000 < n
  · clear hn hS hm hok hM
    go_enter Try.func10, Try.ntmps10
    go_wp2_with fail
    refine HL.out.mono ?_
    rintro e w1 ⟨rfl, hb1⟩
    go_wp2_with fail
    go_ret
    exact ⟨rfl, hb1⟩
  have hfw := fun W (hW : Below w.heap.size w W) => rfew_any l m B d W hm hcapm (hM.below hW)
  by_cases hfew : frFew l = true
  rotate_left
  · have hfe : frFew l = false := by simpa using hfew
    rw [hfe] at hfw
    have HFW := hid hfw
    clear hn hS hm hok hM hfw hfew hfe
    go_enter Try.func10, Try.ntmps10
    go_wp2_with fail
    refine HL.out.mono ?_
    rintro e w1 ⟨rfl, hb1⟩
    go_wp2_with fail
    refine (HFW.out _ hb1).mono ?_
    rintro e w2 ⟨rfl, hb2⟩
    go_wp2_with fail
    go_ret
    exact ⟨rfl, bw_t hb1 hb2⟩
  have hf2 : l.length ≤ 12 ∧ ∀ f ∈ l, f.s.xs.length ≤ 300 := by
    unfold frFew at hfew
    simpa using hfew
  have hjo := fun W (hW : Below w.heap.size w W) => rjoin14_any l m B d W hm hfew (fun f hf => ⟨(hok f hf).1, (hok f hf).2.below hW⟩) (hM.below hW)
  have hrl := Rs.rows_len (l.map FrV.p) (by
    intro f hf
    obtain ⟨g, hg, rfl⟩ := List.mem_map.1 hf
    exact hf2.2 g hg)
  rw [List.length_map] at hrl
  have hrw := Rs.rows_wk (l.map FrV.p) bs (by
    intro f hf
    obtain ⟨g, hg, rfl⟩ := List.mem_map.1 hf
    have := hf2.2 g hg
    show g.s.xs.length ≤ 8192
    omega)
  have hju := fun (hc : Ju.cl bs (bs ++ Rs.rows (l.map FrV.p)) bs.length = true) => (Rs.junk bs (Rs.rows (l.map FrV.p)) 0 (Nat.zero_le _) (fun i _ hi => Ju.clean hc i hi)).trans hrw
  have hat := fun j hj => Rs.at_get (l.map FrV.p) n j hj
  have hatl := Rs.at_len (l.map FrV.p) n
  rw [List.length_map] at hatl
  rw [hn] at hju
  rw [hfew] at hfw
  generalize hRe : Rs.rows (l.map FrV.p) = R at *
  obtain ⟨rl, hrl2⟩ : ∃ k, R.length = k := ⟨_, rfl⟩
  obtain ⟨N, hN⟩ : ∃ k, n + rl = k := ⟨_, rfl⟩
  have hbl : (bs ++ R).length = N := by rw [List.length_append]; omega
  rw [hrl2] at hjo hrl
  rw [hbl] at hju
  have hjn := fun W A1 c1 (hW : Below w.heap.size w W) h => rjoin2_any bs R n rl A A1 c c1 W hn hrl2 (by omega) (hS.below hW) h
  rw [hN] at hjn
  have hal := fun (hc : Ju.cl bs (bs ++ R) n = true) W A1 c1 h => (sall_any (bs ++ R) N A1 c1 W hbl (by omega) h).mono (fun e w' h => AllR.go h (l := Rs.at_ n (l.map FrV.p)) (k := N) (n := m) (hju hc) (by rw [hatl, hm]))
  have hcd := fun W g (o c1 j : Nat) (hj : j < N) (h : Sl W (some ⟨g, o, none⟩) c1 ((bs ++ R).map bv)) => (scould_any ((bs ++ R).drop j) (N - j) (some ⟨g, o + j, none⟩) (c1 - j) W (by rw [List.length_drop, hbl]) (by
    have h1 := h.cut j (by rw [hbl]; omega)
    have hcA : cutA (some ⟨g, o, none⟩) c1 j = some ⟨g, o + j, none⟩ := by
      have h1 := h.cap
      rw [List.length_map, hbl] at h1
      unfold cutA; rw [if_neg (by omega)]; simp [addr_add]
    rw [hcA] at h1
    exact h1))
  have hNb : N ≤ 10000 := by omega
  have hnN : n ≤ N := by omega
  have HFW := hid hfw
  have HJO := hid hjo
  have HJN := hid hjn
  have HAL := hid hal
  have HCD := hid hcd
  have HAT := hid hat
  have HATL := hid hatl
  have HF2 := hid hf2
  have HS := hid hS
  have HN := hid hn
  have HM := hid hM
  have HOK := hid hok
  have HML := hid hm
  have HBL := hid hbl
  clear hfw hjo hjn hal hcd hat hatl hf2 hS hn hM hok hm hfew hrw hju hRe hrl2 hN hbl hrl
  go_enter Try.func10, Try.ntmps10
  go_wp2_with fail
  refine HL.out.mono ?_
  rintro e w1 ⟨rfl, hb1⟩
  go_wp2_with fail
  refine (HFW.out _ hb1).mono ?_
  rintro e w2 ⟨rfl, hb2⟩
  have B2 := bw_t hb1 hb2
  clear hb1 hb2
  go_wp2_with fail
  refine (HJO.out _ B2).mono ?_
  rintro e w3 ⟨A3, c3, rfl, hs3, hb3⟩
  have B3 := bw_t B2 hb3
  clear B2 hb3
  go_wp2_with fail
  refine (HJN.out _ _ _ B3 hs3).mono ?_
  rintro e w4 ⟨A4, c4, rfl, hs4, -, hb4⟩
  have HB4 := hid (bw_t B3 hb4)
  have HS4 := hid hs4
  have hc4 := hs4.cap
  have hm4 := hs4.small
  rw [List.length_map, HBL.out] at hc4
  clear B3 hb4 hs3 hs4
  go_wp2_with fail
  go_loopw [7, 8] (fun cl i wr => ∃ k : Nat, k ≤ n ∧ i = .int .i64 (k : Int) ∧ cl = .bool (Ju.cl bs (bs ++ R) k) ∧ Below w4.heap.size w4 wr) (fun _ i _ => n - (intOf i).toNat)
  case atStart => exact ⟨0, by omega, rfl, rfl, Below.refl _ _⟩
  case round =>
    obtain ⟨k, hk, rfl, rfl, hB⟩ := hrel
    by_cases hlt : k < n
    · have hbel := bw_t HB4.out hB
      obtain ⟨b, off, rfl, hbl, t0⟩ := BRd.at_ (HS.out.below hbel).rd (k := k) (by rw [HN.out]; exact hlt)
      have hs4 := HS4.out.below hB
      obtain ⟨g, o, rfl, hgl, -⟩ := BRd.at_ hs4.rd (k := k) (by rw [List.length_append, HN.out]; omega)
      have hcd := HCD.out wr g o c4 k (by omega) hs4
      have hcs := Ju.cl_succ bs (bs ++ R) k
      have hck : (bs.getD k 0).toNat = (bs[k]'(by rw [HN.out]; exact hlt)).toNat := by rw [List.getD_eq_getElem?_getD, List.getElem?_eq_getElem (by rw [HN.out]; exact hlt), Option.getD_some]
      have hcapA := (HS.out.below hbel).cap
      rw [List.length_map, HN.out] at hcapA
      have hone : Ju.one bs (bs ++ R) k = (!((((bs[k]'(by rw [HN.out]; exact hlt)).toNat : Int) == 197)) || !decide (Fr.rE ((bs ++ R).drop k) = 0 ∨ Fr.rE ((bs ++ R).drop k) = 4)) := by unfold Ju.one; rw [hck]
      rw [hone] at hcs
      generalize h2e : Ju.cl bs (bs ++ R) (k + 1) = c2 at *
      have H2E := hid h2e
      clear h2e
      generalize Ju.cl bs (bs ++ R) k = c1 at *
      generalize decide (Fr.rE ((bs ++ R).drop k) = 0 ∨ Fr.rE ((bs ++ R).drop k) = 4) = qd at *
      generalize (bs[k]'(by rw [HN.out]; exact hlt)).toNat = x at *
      have hki : (k : Int) < (n : Int) := by omega
      have hk0 : (0 : Int) ≤ (k : Int) := by omega
      have hkN : (k : Int) ≤ (N : Int) := by omega
      have hkc : (k : Int) ≤ (c4 : Int) := by omega
      have hkc2 : ¬ c4 = k := by omega
      have HCD2 := hid hcd
      have HCS := hid hcs
      have HB := hid hB
      clear hcd hcs hs4 hB hck hone hbel
      cases c1
      · go_wp2_with fail
        go_roundw
        case rel => exact ⟨k + 1, by omega, by go_num, by rw [H2E.out, HCS.out]; rfl, HB.out⟩
        case measure => simp [intOf]; omega
      · by_cases hx : x = 197
        · subst hx
          cases qd
          all_goals go_wp2_with fail
          all_goals refine HCD2.out.mono ?_
          all_goals rintro e w5 ⟨rfl, hb5⟩
          all_goals have HB5 := hid (bw_t HB.out hb5)
          all_goals clear hb5
          all_goals go_wp2_with fail
          all_goals go_roundw
          all_goals try (simp [intOf]; omega)
          all_goals exact ⟨k + 1, by omega, by go_num, by rw [H2E.out, HCS.out]; rfl, HB5.out⟩
        · have hx1 : ((x : Int) == 197) = false := by simp; omega
          go_wp2_with fail
          go_roundw
          case rel => exact ⟨k + 1, by omega, by go_num, by rw [H2E.out, HCS.out, hx1]; rfl, HB.out⟩
          case measure => simp [intOf]; omega
    · obtain rfl : k = n := by omega
      have HB5 := hid (bw_t HB4.out hB)
      have HS5 := hid (HS4.out.below hB)
      have HALc := HAL.out
      obtain ⟨cl, hcl⟩ : ∃ cl, Ju.cl bs (bs ++ R) k = cl := ⟨_, rfl⟩
      rw [hcl] at HALc ⊢
      have HAL2 := hid HALc
      clear HALc hB hcl
      cases cl
      · go_wp2_with fail
        go_ret
        exact ⟨rfl, HB5.out⟩
      · have HAL3 := hid (HAL2.out rfl)
        clear HAL2
        have hNN : ((N : Int) == (N : Int)) = true := by simp
        go_wp2_with fail
        refine (HAL3.out _ _ _ HS5.out).mono ?_
        rintro e w6 ⟨A6, c6, rfl, hrow6, hb6⟩
        have HR6 := hid hrow6
        have HB6 := hid (bw_t HB5.out hb6)
        clear hrow6 hb6
        go_wp2_with fail
        go_loopw [11, 12] (fun p i wr => ∃ j : Nat, j ≤ m ∧ i = .int .i64 (j : Int) ∧ p = .int .i64 ((k + (Rs.rows ((l.map FrV.p).take j)).length : Nat) : Int) ∧ Below w6.heap.size w6 wr) (fun _ i _ => m - (intOf i).toNat)
        case atStart => exact ⟨0, by omega, rfl, rfl, Below.refl _ _⟩
        case round =>
          obtain ⟨j, hj, rfl, rfl, hB⟩ := hrel
          by_cases hlt2 : j < m
          · have hjl : j < l.length := by have := HML.out; omega
            have hbel := bw_t HB6.out hB
            obtain ⟨b, off, rfl, hb, t0, t1⟩ := frRow_get HML.out (HM.out.below hbel) j hjl
            obtain ⟨b6, o6, P6, q6, rfl, hb6, s0, s1, s2, hp6, -, -⟩ := (HR6.out.below hB).get (by rw [HATL.out, HML.out]) j (by rw [HATL.out]; exact hjl)
            have hga := HAT.out j (by rw [List.length_map]; exact hjl)
            rw [hga] at s0 s1 s2 hp6
            rw [List.getElem_map] at s1 s2 hp6
            have hok := HOK.out _ (List.getElem_mem hjl)
            have h300 := HF2.out.2 _ (List.getElem_mem hjl)
            have hrl := Rs.rows_len ((l.map FrV.p).take j) (by
              intro f hf
              obtain ⟨g, hg, rfl⟩ := List.mem_map.1 (List.mem_of_mem_take hf)
              exact HF2.out.2 g hg)
            rw [List.length_take, List.length_map] at hrl
            have hl12 := HF2.out.1
            have hrs : (Rs.rows ((l.map FrV.p).take (j + 1))).length = (Rs.rows ((l.map FrV.p).take j)).length + (l[j].s.xs.length + 9) := by
              have htk : (l.map FrV.p).take (j + 1) = (l.map FrV.p).take j ++ [FrV.p l[j]] := by
                rw [List.take_succ_eq_append_getElem (by rw [List.length_map]; exact hjl), List.getElem_map]
              rw [htk, Rs.rows_snoc, List.length_append, Fr.put_len]; rfl
            generalize h2e : (Rs.rows ((l.map FrV.p).take (j + 1))).length = r2 at *
            generalize (Rs.rows ((l.map FrV.p).take j)).length = r1 at *
            generalize l[j] = f at *
            obtain ⟨ft, ⟨fA, fc, fxs⟩⟩ := f
            obtain ⟨hft, hfs⟩ := hok
            simp only [FrV.p] at s0 s1 s2 t0 t1 hft hfs h300 hrs hp6
            obtain ⟨T, hT⟩ : ∃ T : UInt8, T.toNat = ft := ⟨UInt8.ofNat ft, by rw [UInt8.toNat_ofNat']; omega⟩
            have hT2 : UInt8.ofNat ft = T := by rw [← hT]; simp
            obtain ⟨pl, hpl⟩ : ∃ p, fxs.length = p := ⟨_, rfl⟩
            rw [hT2, hT] at s1
            rw [hpl] at s2 t1 hrs h300
            obtain ⟨P, hP⟩ : ∃ p, k + r1 = p := ⟨_, rfl⟩
            rw [hP] at s0 ⊢
            have hsame := fun W (hW : Below wr.heap.size wr W) => (fsame_any T T fxs fxs pl pl P6 fA q6 fc W hpl hpl (hp6.sl.below hW) ((hfs.below hbel).below hW)).mono (fun e w' h => (show e = .returned (.bool true) ∧ Below W.heap.size W w' from ⟨by rw [h.1]; simp, h.2⟩))
            rw [hT] at hsame
            have hsz := fun W => fsize_any (pl : Int) W (by omega) (by omega)
            have hze : Fr.size (pl : Int) = (pl : Int) + 9 := by unfold Fr.size; rw [if_neg (by omega)]
            rw [hze] at hsz
            have HSM := hid hsame
            have HSZ := hid hsz
            have HB := hid hB
            have H2E := hid h2e
            have hr2 : k + r2 = P + (pl + 9) := by omega
            have hPb : P ≤ 10000 := by omega
            have HR2 := hid hr2
            have HBR := hid (Below.refl wr.heap.size wr)
            have hki : (j : Int) < (m : Int) := by omega
            have hk0 : (0 : Int) ≤ (j : Int) := by omega
            clear hsame hsz hze hrl hga hrs h2e hB hp6 hfs hbel hpl hT hT2 hr2
            go_wp2_with fail
            go_region_held3 (fun w' => w'.cell? ⟨b6, o6 + j * 3, none⟩ = some (.int .i64 (P : Int)) ∧ w'.cell? ⟨b6, o6 + j * 3 + 1, none⟩ = some (.int .u8 (ft : Int)) ∧ w'.cell? ⟨b6, o6 + j * 3 + 2, none⟩ = some (.slice P6 pl q6) ∧ w'.cell? ⟨b, off + j * 2, none⟩ = some (.int .u8 (ft : Int)) ∧ w'.cell? ⟨b, off + j * 2 + 1, none⟩ = some (.slice fA pl fc)) (first | exact ⟨s0, s1, s2, t0, t1⟩ | exact ⟨x0, x1, x2, y0, y1⟩ | go_keep) (first | (go_at_call 20; (with_reducible refine (HSM.out _ (below_drew' HBR.out)).mono ?_); rintro e w7 ⟨rfl, hb7⟩; have hbq := (below_drew' (Below.refl _ wr)).trans hb7; have x0 := (hbq.cell (p := ⟨b6, o6 + j * 3, none⟩) hb6).trans s0; have x1 := (hbq.cell (p := ⟨b6, o6 + j * 3 + 1, none⟩) hb6).trans s1; have x2 := (hbq.cell (p := ⟨b6, o6 + j * 3 + 2, none⟩) hb6).trans s2; have y0 := (hbq.cell (p := ⟨b, off + j * 2, none⟩) hb).trans t0; have y1 := (hbq.cell (p := ⟨b, off + j * 2 + 1, none⟩) hb).trans t1; have hbw := Nat.lt_of_lt_of_le hb hbq.size; have HB7 := hid hbq; clear hb7 hbq))
            go_wp2_with (go_at_call 16; refine (HSZ.out _).mono ?_; rintro e w' ⟨rfl, rfl⟩)
            go_roundw
            case rel => exact ⟨j + 1, by omega, by go_num, by rw [H2E.out, HR2.out]; go_num, bw_t HB.out HB7.out⟩
            case measure => simp [intOf]; omega
          · obtain rfl : j = m := by omega
            have HB := hid hB
            clear hB
            go_wp2_with fail
            go_ret
            exact ⟨rfl, bw_t HB6.out HB.out⟩
end Go.Proofs.Ytgpkjlaplmdnaaa
