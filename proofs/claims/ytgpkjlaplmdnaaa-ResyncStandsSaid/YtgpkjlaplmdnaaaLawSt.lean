/- The walk of ResyncStands. -/
import Derived.Test.YtgpkjlaplmdnaaaRsLive
import Derived.Test.YtgpkjlaplmdnaaaRsM5
set_option linter.unusedVariables false
namespace Go.Proofs.Ytgpkjlaplmdnaaa
open Go.RowKit
set_option maxRecDepth 100000 in
set_option maxHeartbeats 4000000 in
theorem resyncStands_any (bs : List UInt8) (n : Nat) (A : Option Addr) (c : Nat) (w : World) (hn : bs.length = n) (hS : Sl w A c (bs.map bv)) :
    Calls Try.prog 7 #[.slice A n c] w fun e w' => e = .returned (.bool true) ∧ Below w.heap.size w w' := by
  have hcap : n ≤ 9223372036854775807 := by have h1 := hS.cap; have h2 := hS.small; rw [List.length_map] at h1; omega
  have HL := hid (live14_any w)
  by_cases hbig : 12000 < n
  · clear hn hS
    go_enter Try.func7, Try.ntmps7
    go_wp2_with fail
    refine HL.out.mono ?_
    rintro e w1 ⟨rfl, hb1⟩
    go_wp2_with fail
    go_ret
    exact ⟨rfl, hb1⟩
  have hall := fun W (hW : Below w.heap.size w W) => (sall_any bs n A c W hn (by omega) (hS.below hW)).mono (fun e w' h => AllR.go h (l := (Rs.wk false bs 0).1) (k := (Rs.wk false bs 0).2) rfl rfl)
  have hord := Rs.wk_ord false bs 0
  have hkn := Rs.wk_known bs 0 (Nat.zero_le _)
  have hok := fun f (h : f ∈ (Rs.wk false bs 0).1) => Rs.ok_put ((Rs.wk_facts false bs 0).1 f h).2.1
  have hlen := Rs.wk_len false bs 0
  have hE := (Rs.wk_facts false bs 0).2.2 (Nat.zero_le _)
  rw [hn] at hE hlen hkn
  generalize (Rs.wk false bs 0).1 = l at *
  generalize (Rs.wk false bs 0).2 = E at *
  obtain ⟨nl, hnl⟩ : ∃ k, l.length = k := ⟨_, rfl⟩
  rw [hnl] at hall hlen
  have HALL := hid hall
  have HORD := hid hord
  have HKN := hid hkn
  have HOK := hid hok
  have HNL := hid hnl
  have HN := hid hn
  have HS := hid hS
  clear hall hord hkn hok hnl hn hS
  have hsz := fun W => fsize_any (8192 : Int) W (by omega) (by omega)
  have hze : Fr.size (8192 : Int) = 8201 := by decide
  rw [hze] at hsz
  have HSZ := hid hsz
  clear hsz hze
  go_enter Try.func7, Try.ntmps7
  go_wp2_with fail
  refine HL.out.mono ?_
  rintro e w1 ⟨rfl, hb1⟩
  go_wp2_with fail
  refine (HALL.out _ hb1).mono ?_
  rintro e w2 ⟨A2, c2, rfl, hrow2, hb2⟩
  have HR2 := hid hrow2
  have HB2 := hid (bw_t hb1 hb2)
  clear hb1 hb2 hrow2
  go_wp2_with fail
  go_loopw [5, 6, 7, 8] (fun en i _ _ wr => ∃ (k e : Nat), k ≤ nl ∧ i = .int .i64 (k : Int) ∧ en = .int .i64 (e : Int) ∧ Rs.ord e (l.drop k) E ∧ Below w2.heap.size w2 wr) (fun _ i _ _ _ => nl - (intOf i).toNat)
  case atStart => exact ⟨0, 0, by omega, rfl, rfl, HORD.out, Below.refl _ _⟩
  case round =>
    obtain ⟨k, en, hk, rfl, rfl, hor, hB⟩ := hrel
    have heE := Rs.ord_le _ _ hor
    by_cases hlt : k < nl
    · have hkl : k < l.length := by have := HNL.out; omega
      obtain ⟨b2, o2, P2, q2, rfl, hb2, s0, s1, s2, hp2, hnc2, hm2⟩ := (HR2.out.below hB).get HNL.out k hkl
      rw [List.drop_eq_getElem_cons hkl] at hor
      obtain ⟨hor1, hor2⟩ := hor
      obtain ⟨hput, h8, hle⟩ := HOK.out _ (List.getElem_mem hkl)
      rw [HN.out] at hle
      generalize l[k] = f at *
      obtain ⟨fa, fty, fpl⟩ := f
      simp only [Fnd.size] at s0 s1 s2 hp2 hor1 hor2 hput h8 hle
      obtain ⟨pl, hpl⟩ : ∃ m, fpl.length = m := ⟨_, rfl⟩
      have hfp := fput_any fty fpl pl P2 q2 wr hpl (by omega) hp2.sl
      rw [hpl] at s2 h8 hle hput hor2
      have hsl := HS.out.below (bw_t HB2.out hB)
      obtain ⟨b, off, rfl, hbl, -⟩ := BRd.at_ hsl.rd (k := fa) (by rw [HN.out]; omega)
      have hcut := hsl.cut fa (by rw [HN.out]; omega)
      have hcA : cutA (some ⟨b, off, none⟩) c fa = some ⟨b, off + fa, none⟩ := by
        have h1 := hsl.cap
        rw [List.length_map, HN.out] at h1
        unfold cutA; rw [if_neg (by omega)]; simp [addr_add]
      rw [hcA] at hcut
      have hcp := hsl.cap
      rw [List.length_map, HN.out] at hcp
      have hty := hput
      have HFP := hid hfp
      have HCUT := hid hcut
      have HPUT := hid hput
      have HPL := hid hpl
      have HOR := hid hor2
      have HBE := hid hB
      have hki : (k : Int) < (nl : Int) := by omega
      have hk0 : (0 : Int) ≤ (k : Int) := by omega
      clear hfp hcut hput hor2 hB hp2 hpl hty hsl
      go_wp2_with fail
      refine HFP.out.mono ?_
      rintro e w3 ⟨v, rfl, hown, hb3⟩
      obtain ⟨A3, c3, rfl⟩ := row_slice_g hown
      have hs3 := Sl.of_own'' hown
      have x0 := (hb3.cell (p := ⟨b2, o2 + k * 3, none⟩) hb2).trans s0
      have hb2' : b2 < w3.heap.size := Nat.lt_of_lt_of_le hb2 hb3.size
      have HB3 := hid hb3
      have hcut3 := HCUT.out.below hb3
      clear hb3 hown s0
      have hsm := fun W (hW : Below w3.heap.size w3 W) => (same_at (Fr.put fty fpl) (Fr.put fty fpl) (pl + 9) (pl + 9) (some ⟨b, off + fa, none⟩) A3 (c - fa) c3 W (by rw [Fr.put_len, HPL.out]) (by rw [Fr.put_len, HPL.out]) (by omega) (by
        have h1 := (hcut3.below hW).rd
        have h2 := Rd.take h1 (pl + 9)
        rw [← List.map_take, HPUT.out] at h2
        exact h2) (hs3.below hW).rd).mono (fun e w' h => (show e = .returned (.bool true) ∧ Below W.heap.size W w' from ⟨by rw [h.1]; simp, by obtain ⟨q, rfl⟩ := h.2; exact bw_d (Below.refl _ _) q⟩))
      have HSM := hid hsm
      have HBR := hid (Below.refl w3.heap.size w3)
      have hpe : ((pl + 9 : Nat) : Int) = (pl : Int) + 9 := by omega
      have f1 : decide (fa < en) = false := by simp; omega
      have f2 : decide ((n : Int) < (fa : Int) + ((pl : Int) + 9)) = false := by simp; omega
      have f3 : IntKind.i64.wrap ((fa : Int) + ((pl : Int) + 9)) = (fa : Int) + ((pl : Int) + 9) := IntWalk.i64_in _ (by omega)
      have g1 : (0 : Int) ≤ (fa : Int) := by omega
      have g2 : (fa : Int) ≤ (fa : Int) + ((pl : Int) + 9) := by omega
      have g3 : (fa : Int) + ((pl : Int) + 9) ≤ (c : Int) := by omega
      have hce : ¬ c = fa := by omega
      have hto : ((fa : Int) + ((pl : Int) + 9)).toNat - fa = pl + 9 := by omega
      clear hsm hcut3 hs3
      go_wp2_with fail
      go_region_held3 (fun w' => w'.cell? ⟨b2, o2 + k * 3, none⟩ = some (.int .i64 (fa : Int))) (first | exact x0 | exact y0 | go_keep) (first | (go_at_call 17; (with_reducible refine (HSM.out _ (below_drew' HBR.out)).mono ?_); rintro e w5 ⟨rfl, hb5'⟩; have hbq := (below_drew' (Below.refl _ w3)).trans hb5'; have y0 := (hbq.cell (p := ⟨b2, o2 + k * 3, none⟩) hb2').trans x0; have hb2q := Nat.lt_of_lt_of_le hb2' hbq.size; have HB5' := hid hbq; clear hb5' hbq))
      go_wp2_with fail
      go_roundw
      case rel => exact ⟨k + 1, fa + (pl + 9), by omega, by go_num, by go_num, HOR.out, bw_t HBE.out (bw_t HB3.out HB5'.out)⟩
      case measure => simp [intOf]; omega
    · obtain rfl : k = nl := by omega
      rw [List.drop_eq_nil_of_le (by have := HNL.out; omega)] at hor
      have hor' : en ≤ E := hor
      have HBE := hid hB
      have g1 : decide ((en : Int) ≤ (E : Int)) = true := by simp; omega
      have g1' : decide (en ≤ E) = true := by simp; omega
      have g2 : decide ((E : Int) ≤ (n : Int)) = true := by simp; omega
      have g2' : decide (E ≤ n) = true := by simp; omega
      rcases HKN.out with he | ⟨he1, he2⟩
      · subst he
        clear hB hor
        go_wp2_with (go_at_call 16; refine (HSZ.out _).mono ?_; rintro e w' ⟨rfl, rfl⟩)
        go_ret
        exact ⟨rfl, bw_t HB2.out HBE.out⟩
      · have hsh := Fr.rE_short he2
        rw [List.length_drop, HN.out] at hsh
        have hsl := HS.out.below (bw_t HB2.out hB)
        obtain ⟨b, off, rfl, hbl, -⟩ := BRd.at_ hsl.rd (k := E) (by rw [HN.out]; omega)
        have hcut := hsl.cut E (by rw [HN.out]; omega)
        have hcA : cutA (some ⟨b, off, none⟩) c E = some ⟨b, off + E, none⟩ := by
          have h1 := hsl.cap
          rw [List.length_map, HN.out] at h1
          unfold cutA; rw [if_neg (by omega)]; simp [addr_add]
        rw [hcA] at hcut
        have hcp := hsl.cap
        rw [List.length_map, HN.out] at hcp
        have hcd := (scould_any (bs.drop E) (n - E) (some ⟨b, off + E, none⟩) (c - E) wr (by rw [List.length_drop, HN.out]) hcut).mono (fun e w' h => (show e = .returned (.bool true) ∧ Below wr.heap.size wr w' from ⟨by rw [h.1, he2]; rfl, h.2⟩))
        have HCD := hid hcd
        have h0 : (0 : Int) ≤ (E : Int) := by omega
        have h1 : (E : Int) ≤ (n : Int) := by omega
        have h2 : (E : Int) ≤ (c : Int) := by omega
        have h3 : ¬ c = E := by omega
        have f1 : ((E : Int) == (n : Int)) = false := by simp; omega
        have f2 : IntKind.i64.wrap ((n : Int) - (E : Int)) = (n : Int) - (E : Int) := IntWalk.i64_in _ (by omega)
        have f3 : decide ((n : Int) - (E : Int) < 8201) = true := by simp; omega
        clear hB hor hsl hcut hcA hcd
        go_wp2_with (first | (go_at_call 16; refine (HSZ.out _).mono ?_; rintro e w' ⟨rfl, rfl⟩) | (go_at_call 31; refine HCD.out.mono ?_; rintro e w6 ⟨rfl, hb6⟩))
        go_ret
        exact ⟨rfl, bw_t (bw_t HB2.out HBE.out) hb6⟩
end Go.Proofs.Ytgpkjlaplmdnaaa
