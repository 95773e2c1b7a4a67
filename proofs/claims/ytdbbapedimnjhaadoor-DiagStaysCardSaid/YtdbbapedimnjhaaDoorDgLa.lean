/- DiagSorts: a walk. -/
import Derived.Test.YtdbbapedimnjhaaDoorDgL
import Derived.Test.YtdbbapedimnjhaaDoorDgT
set_option linter.unusedVariables false
namespace Go.Proofs.YtdbbapedimnjhaaDoor
open Go.RowKit
theorem smD_iff {X : List Dg.D} : smD X = true ↔ X.length ≤ 60 ∧ ∀ x ∈ X, x.2.2.size ≤ 500 := by
  unfold smD; simp
set_option maxRecDepth 100000 in
set_option maxHeartbeats 16000000 in
theorem diagSorts_any (X : List Dg.D) (n : Nat) (A : Option Addr) (c : Nat) (st : Int) (x y : Dg.D) (w : World) (hn : X.length = n) (hl : n ≤ 9223372036854775807) (hok : ∀ x ∈ X, DOk x) (hx : DOk x) (hy : DOk y) (hs : SlN w A n c 3 (X.flatMap dC)) (hT : PowT w) :
    Calls Tryd.prog 3 #[.slice A n c, .int .i64 st, .agg #[.int .i64 x.1, .int .i64 x.2.1, .string x.2.2], .agg #[.int .i64 y.1, .int .i64 y.2.1, .string y.2.2]] w fun e w' => e = .returned (.bool true) ∧ Below w.heap.size w w' := by
  obtain ⟨i0, hi0, hz0, hz1, hz2⟩ := info_parts Tryd.infoDg
  obtain ⟨s, hws⟩ : ∃ s, w.heap.size = s := ⟨_, rfl⟩
  have hbx := (Blk.new w 25 #[.int .i64 x.1, .int .i64 x.2.1, .string x.2.2]).alloc (.cells #[.int .i64 y.1, .int .i64 y.2.1, .string y.2.2] 25)
  have hby := Blk.new (w.alloc (.cells #[.int .i64 x.1, .int .i64 x.2.1, .string x.2.2] 25)) 25 #[.int .i64 y.1, .int .i64 y.2.1, .string y.2.2]
  have hb1 := bw_a (bw_a (Below.refl _ w) (.cells #[.int .i64 x.1, .int .i64 x.2.1, .string x.2.2] 25)) (.cells #[.int .i64 y.1, .int .i64 y.2.1, .string y.2.2] 25)
  have hsz1 : ((w.alloc (.cells #[.int .i64 x.1, .int .i64 x.2.1, .string x.2.2] 25)).alloc (.cells #[.int .i64 y.1, .int .i64 y.2.1, .string y.2.2] 25)).heap.size = s + 1 + 1 := by rw [World.size_alloc, World.size_alloc, hws]
  rw [World.size_alloc] at hby
  rw [hws] at hbx hby
  have HN := hid hn
  have HOK := hid hok
  have HS := hid hs
  have HWS := hid hws
  have HT := hid hT
  have HXY := hid (And.intro hx hy)
  have HBX := hid hbx
  have HBY := hid hby
  have HB1 := hid hb1
  have HZ1 := hid hsz1
  clear hn hok hs hT hx hy hbx hby hb1 hsz1
  go_enter Tryd.func3, Tryd.ntmps3
  go_wp2_with fail
  obtain ⟨w1, hw1⟩ : ∃ w1, (w.alloc (.cells #[.int .i64 x.1, .int .i64 x.2.1, .string x.2.2] 25)).alloc (.cells #[.int .i64 y.1, .int .i64 y.2.1, .string y.2.2] 25) = w1 := ⟨_, rfl⟩
  rw [hw1] at HBX HBY HB1 HZ1 ⊢
  clear hw1
  refine (live24_any w1 (HT.out.below HB1.out)).mono ?_
  rintro e w2 ⟨rfl, hb2⟩
  have HB2 := hid (bw_t HB1.out hb2)
  have hbx := HBX.out.below hb2 (by rw [HZ1.out]; omega)
  have hby := HBY.out.below hb2 (by rw [HZ1.out]; omega)
  have HBX2 := hid hbx
  have HBY2 := hid hby
  have HZ2 := hid (by have := hb2.size; rw [HZ1.out] at this; exact this : s + 1 + 1 ≤ w2.heap.size)
  have x2 := hbx.cell 2
  have y2 := hby.cell 2
  simp only [List.getElem?_toArray, List.getElem?_cons_zero, List.getElem?_cons_succ] at x2 y2
  have hsm := small24_any X n A c w2 HN.out hl (HS.out.below HB2.out)
  clear hb2 hbx hby
  by_cases hsb : smD X = true
  case neg =>
    have hsb : smD X = false := by simpa using hsb
    rw [hsb] at hsm
    have HSM := hid hsm
    clear hsm hsb
    go_wp2_with (go_at_call 7; refine HSM.out.mono ?_; rintro e w3 ⟨rfl, rfl⟩)
    go_ret
    exact ⟨rfl, HB2.out⟩
  rw [hsb] at hsm
  have HSM := hid hsm
  have HFW := hid (smD_iff.1 hsb)
  clear hsm hsb
  have hn60 : n ≤ 60 := by rw [← HN.out]; exact HFW.out.1
  by_cases hx5 : 500 < x.2.2.size
  · have hx5i : (500 : Int) < (x.2.2.size : Int) := by omega
    go_wp2_with (go_at_call 7; refine HSM.out.mono ?_; rintro e w3 ⟨rfl, rfl⟩)
    go_ret
    exact ⟨rfl, HB2.out⟩
  have hx5i : ¬ (500 : Int) < (x.2.2.size : Int) := by omega
  by_cases hy5 : 500 < y.2.2.size
  · have hy5i : (500 : Int) < (y.2.2.size : Int) := by omega
    go_wp2_with (go_at_call 7; refine HSM.out.mono ?_; rintro e w3 ⟨rfl, rfl⟩)
    go_ret
    exact ⟨rfl, HB2.out⟩
  have hy5i : ¬ (500 : Int) < (y.2.2.size : Int) := by omega
  go_wp2_with (go_at_call 7; refine HSM.out.mono ?_; rintro e w3 ⟨rfl, rfl⟩)
  obtain ⟨wz, rfl⟩ : ∃ z, z = w3 := ⟨_, rfl⟩
  have hb0 := Below.refl wz.heap.size wz
  have HB0 := hid hb0
  clear hb0 x2 y2
  go_loopw [9, 10] (fun ov i wr => ∃ (k : Nat), k ≤ n ∧ i = .int .i64 (k : Int) ∧ wr.ownsRow wz.heap.size 25 3 ov ((X.take k).filter fun x => decide (x.1 = st)).length (((X.take k).filter fun x => decide (x.1 = st)).flatMap dC) ∧ Below wz.heap.size wz wr) (fun _ i _ => n - (intOf i).toNat)
  case atStart => exact ⟨0, by omega, rfl, World.ownsRow_nil _ _ _ _, HB0.out⟩
  case round =>
    obtain ⟨k, hk, rfl, how, hbe⟩ := hrel
    have hsz : wz.heap.size ≤ wr.heap.size := hbe.size
    have HO := hid how
    have HBE := hid hbe
    clear how hbe
    by_cases hlt : k < n
    · have hkl : k < X.length := by have := HN.out; omega
      obtain ⟨g, o, rfl, hg, c0, c1, c2⟩ := dRow_at ((HS.out.below HB2.out).below HBE.out) k hkl
      have htk : (X.take (k + 1)).filter (fun x => decide (x.1 = st)) = (X.take k).filter (fun x => decide (x.1 = st)) ++ [X[k]].filter (fun x => decide (x.1 = st)) := by rw [List.take_succ_eq_append_getElem hkl, List.filter_append]
      have hol : ((X.take k).filter fun x => decide (x.1 = st)).length ≤ k := Nat.le_trans (List.length_filter_le _ _) (by rw [List.length_take]; omega)
      generalize X[k] = z at *
      have hki : (k : Int) < (n : Int) := by omega
      have hk0 : (0 : Int) ≤ (k : Int) := by omega
      have HTK := hid htk
      clear htk hkl
      by_cases hst : z.1 = st
      · have HT2 := hid (show (X.take (k + 1)).filter (fun x => decide (x.1 = st)) = (X.take k).filter (fun x => decide (x.1 = st)) ++ [z] by rw [HTK.out]; simp [hst])
        have hsb : (z.1 == st) = true := by simpa using hst
        clear hst
        go_wp2_with (at_builtin; refine wpList_append_rd rfl (.tmp 41) (.tmp 46) 22 rfl wz.heap.size 25 i0 (.agg #[.int .i64 0, .int .i64 0, .string ⟨#[]⟩]) 3 32 Tryd.underlying22 hi0 hz0 hz1 hz2 rfl (by decide) _ _ _ rfl (own_below HO.out (bw_a (Below.refl _ wr) (.cells #[.int .i64 z.1, .int .i64 z.2.1, .string z.2.2] 25))) (some ⟨wr.heap.size, 0, none⟩) 1 1 [.int .i64 z.1, .int .i64 z.2.1, .string z.2.2] rfl rfl (Rd.new wr 25 #[.int .i64 z.1, .int .i64 z.2.1, .string z.2.2]) (fun h => by cases h) (by simp [Value.oneCell']) (by simp only [maxLen]; omega) (by omega) (by simp; omega) ?_; intro v2 w8 hown2 hgrow2; have HO8 := hid hown2; have HG8 := hid hgrow2; clear hown2 hgrow2)
        have hvb : ∀ q, some q = u9.ownBlock → wz.heap.size ≤ q := fun q e => (HO.out.lt q e.symm).1
        have hB2 : Below wz.heap.size wz w8 := (HBE.out.alloc hsz (.cells #[.int .i64 z.1, .int .i64 z.2.1, .string z.2.2] 25)).grown HG8.out (by simp; omega) (fun j e => hvb j e.symm)
        have HB8 := hid hB2
        clear hvb hB2
        go_wp2_with fail
        go_roundw
        case rel => exact ⟨k + 1, by omega, by go_num, by rw [HT2.out, List.length_append, List.flatMap_append]; exact HO8.out, HB8.out⟩
        case measure => simp [intOf] <;> omega
      · have HT2 := hid (show (X.take (k + 1)).filter (fun x => decide (x.1 = st)) = (X.take k).filter (fun x => decide (x.1 = st)) by rw [HTK.out]; simp [hst])
        have hsb : (z.1 == st) = false := by simpa using hst
        clear hst
        go_wp2_with fail
        go_roundw
        case rel => exact ⟨k + 1, by omega, by go_num, by rw [HT2.out]; exact HO.out, HBE.out⟩
        case measure => simp [intOf] <;> omega
    · obtain rfl : k = n := by omega
      rw [List.take_of_length_le (by have := HN.out; omega)] at HO
      have hol : (X.filter fun x => decide (x.1 = st)).length ≤ k := Nat.le_trans (List.length_filter_le _ _) (by rw [HN.out]; omega)
      obtain ⟨F, hF⟩ : ∃ F, X.filter (fun x => decide (x.1 = st)) = F := ⟨_, rfl⟩
      rw [hF] at HO hol
      have HF := hid hF
      obtain ⟨m, hm⟩ : ∃ m, F.length = m := ⟨_, rfl⟩
      rw [hm] at HO hol
      have HM := hid hm
      obtain ⟨wq, rfl⟩ : ∃ z, z = wr := ⟨_, rfl⟩
      obtain ⟨Ao, co, hov, hso⟩ := SlN.of_own (by omega) HO.out
      subst hov
      have HSO := hid hso
      have HSQ := hid ((HS.out.below HB2.out).below HBE.out)
      have HBQ := hid (bw_t HB2.out HBE.out)
      have hS : ∀ W', Below wq.heap.size wq W' → (fun w' => w'.cell? ⟨s, 0, none⟩ = some (.int .i64 x.1) ∧ w'.cell? ⟨s, 1, none⟩ = some (.int .i64 x.2.1) ∧ w'.cell? ⟨s, 2, none⟩ = some (.string x.2.2) ∧ w'.cell? ⟨s + 1, 0, none⟩ = some (.int .i64 y.1) ∧ w'.cell? ⟨s + 1, 1, none⟩ = some (.int .i64 y.2.1) ∧ w'.cell? ⟨s + 1, 2, none⟩ = some (.string y.2.2)) W' := fun W' hW => by
        have hb := bw_t HBE.out hW
        have ka := HBX2.out.below hb (by have := HZ2.out; omega)
        have kb := HBY2.out.below hb (by have := HZ2.out; omega)
        exact ⟨ka.cell 0, ka.cell 1, ka.cell 2, kb.cell 0, kb.cell 1, kb.cell 2⟩
      have HSS := hid hS
      have HD0 := hid (show Below wq.heap.size wq wq.drew from bw_d (Below.refl _ wq) 1)
      have hsr : (Dg.srt X).length ≤ 60 := by have := Dg.srt_len X; have := HN.out; omega
      have C1 := hid (fun W (h : Below wq.heap.size wq W) => (dsort_any X k A c W HN.out (by omega) HOK.out (HSQ.out.below h)).mono (R' := fun e w' => ∃ A' m c', e = .returned (.slice A' m c') ∧ (Dg.srt X).length = m ∧ SlN w' A' m c' 3 ((Dg.srt X).flatMap dC) ∧ Below wq.heap.size wq w') (fun e w' h2 => by obtain ⟨A', m, c', h3, h4, h5, h6⟩ := h2; exact ⟨A', m, c', h3, h4, h5, bw_t h h6⟩))
      have C2 := hid (fun W (h : Below wq.heap.size wq W) (A1 : Option Addr) m1 c1 (hs1 : SlN W A1 m1 c1 3 ((Dg.srt X).flatMap dC)) => (rsort_any X k A c W HN.out (by omega) (HSQ.out.below h)).mono (R' := fun e w' => ∃ A' m c', e = .returned (.slice A' m c') ∧ (Dg.srt X).length = m ∧ SlN w' A' m c' 3 ((Dg.srt X).flatMap dC) ∧ SlN w' A1 m1 c1 3 ((Dg.srt X).flatMap dC) ∧ Below wq.heap.size wq w') (fun e w' h2 => by obtain ⟨v, h3, h4, h5⟩ := h2; obtain ⟨A', c', h6, h7⟩ := SlN.of_own (by omega) h4; exact ⟨A', _, c', by rw [h3, h6], rfl, h7, hs1.below h5, bw_t h h5⟩))
      have C3 := hid (fun W (h : Below wq.heap.size wq W) (L : List Dg.D) (hL : L.length ≤ 60) (A1 A2 : Option Addr) m1 m2 c1 c2 (h1 : L.length = m1) (h2 : L.length = m2) (hs1 : SlN W A1 m1 c1 3 (L.flatMap dC)) (hs2 : SlN W A2 m2 c2 3 (L.flatMap dC)) => (same24_any L L m1 m2 A1 A2 c1 c2 W h1 h2 (by omega) (by omega) hs1 hs2).mono (R' := fun e w' => e = .returned (.bool true) ∧ Below wq.heap.size wq w') (fun e w' h3 => ⟨by rw [h3.1]; simp, bw_t h h3.2⟩))
      have C4 := hid (fun W (h : Below wq.heap.size wq W) => (dof_any X k A c st W HN.out (by omega) (HSQ.out.below h)).mono (R' := fun e w' => ∃ A' c', e = .returned (.slice A' m c') ∧ SlN w' A' m c' 3 (F.flatMap dC) ∧ Below wq.heap.size wq w') (fun e w' h2 => by obtain ⟨v, h3, h4, h5⟩ := h2; rw [HF.out, HM.out] at h4; obtain ⟨A', c', h6, h7⟩ := SlN.of_own (by omega) h4; exact ⟨A', c', by rw [h3, h6], h7, bw_t h h5⟩))
      have C5' : ∀ W, Below wq.heap.size wq W → Calls Tryd.prog 12 #[.agg #[.int .i64 x.1, .int .i64 x.2.1, .string x.2.2], .agg #[.int .i64 y.1, .int .i64 y.2.1, .string y.2.2]] W fun e w' => e = .returned (.bool (Dg.ltb x y)) ∧ Below wq.heap.size wq w' := fun W h => (dless_any x y W).mono (fun e w' h2 => ⟨h2.1, bw_t h h2.2⟩)
      have C6' : ∀ W, Below wq.heap.size wq W → Calls Tryd.prog 13 #[.agg #[.int .i64 x.1, .int .i64 x.2.1, .string x.2.2], .agg #[.int .i64 y.1, .int .i64 y.2.1, .string y.2.2]] W fun e w' => e = .returned (.bool (Dg.ltb x y)) ∧ Below wq.heap.size wq w' := fun W h => (rless_any x y W).mono (fun e w' h2 => ⟨h2.1, bw_t h h2.2⟩)
      generalize Dg.ltb x y = lt at C5' C6'
      have C5 := hid C5'
      have C6 := hid C6'
      clear hS C5' C6' hso hF hm
      go_wp2_with fail
      go_region_held3 (fun w' => w'.cell? ⟨s, 0, none⟩ = some (.int .i64 x.1) ∧ w'.cell? ⟨s, 1, none⟩ = some (.int .i64 x.2.1) ∧ w'.cell? ⟨s, 2, none⟩ = some (.string x.2.2) ∧ w'.cell? ⟨s + 1, 0, none⟩ = some (.int .i64 y.1) ∧ w'.cell? ⟨s + 1, 1, none⟩ = some (.int .i64 y.2.1) ∧ w'.cell? ⟨s + 1, 2, none⟩ = some (.string y.2.2)) (first | exact HSS.out _ HD0.out | exact HSS.out _ HDa.out | exact HSS.out _ HDb.out | exact HSS.out _ HDc.out | exact HSS.out _ HDd.out | exact HSS.out _ HDe.out | exact HSS.out _ HDf.out | exact HSS.out _ HDg.out | go_keep) (first
        | (go_at_call 9; (with_reducible refine (C1.out _ HD0.out).mono ?_); rintro e wa ⟨Aa, ma, ca, rfl, hma, hsa, hbn⟩; have HDa := hid hbn; have HMa := hid hma; have HSa := hid hsa; clear hbn hma hsa)
        | (go_at_call 10; (with_reducible refine (C2.out _ HDa.out _ _ _ HSa.out).mono ?_); rintro e wb ⟨Ab, mb, cb, rfl, hmb, hsb, hsa, hbn⟩; have HDb := hid hbn; have HMb := hid hmb; have HSb := hid hsb; have HSa2 := hid hsa; clear hbn hmb hsb hsa)
        | (go_at_call 8; (with_reducible refine (C3.out _ HDb.out _ hsr _ _ _ _ _ _ HMa.out HMb.out HSa2.out HSb.out).mono ?_); rintro e wc ⟨rfl, hbn⟩; have HDc := hid hbn; clear hbn)
        | (go_at_call 11; (with_reducible refine (C4.out _ HDc.out).mono ?_); rintro e wd ⟨Ad, cd, rfl, hsd, hbn⟩; have HDd := hid hbn; have HSd := hid hsd; clear hbn hsd)
        | (go_at_call 8; (with_reducible refine (C3.out _ HDd.out F (by rw [HM.out]; omega) _ _ _ _ _ _ HM.out HM.out HSd.out (HSO.out.below HDd.out)).mono ?_); rintro e we ⟨rfl, hbn⟩; have HDe := hid hbn; clear hbn)
        | (go_at_call 12; (with_reducible refine (C5.out _ HDe.out).mono ?_); rintro e wf ⟨rfl, hbn⟩; have HDf := hid hbn; clear hbn)
        | (go_at_call 13; (with_reducible refine (C6.out _ HDf.out).mono ?_); rintro e wg ⟨rfl, hbn⟩; have HDg := hid hbn; clear hbn))
      go_wp2_with fail
      go_ret
      exact ⟨by simp, bw_t HBQ.out HDg.out⟩
end Go.Proofs.YtdbbapedimnjhaaDoor
