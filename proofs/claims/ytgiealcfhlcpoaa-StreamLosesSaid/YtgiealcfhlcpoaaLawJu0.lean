/- Frames that came in a row: the document's Few and Join. -/
import Derived.Test.YtgiealcfhlcpoaaRsLive
import Derived.Test.YtgiealcfhlcpoaaRsM5
import Derived.Test.YtgiealcfhlcpoaaOpen13
set_option linter.unusedVariables false
namespace Go.Proofs.Ytgiealcfhlcpoaa
open Go.RowKit
def FrV.p (f : FrV) : UInt8 × List UInt8 := (UInt8.ofNat f.t, f.s.xs)
theorem frRow_get {w : World} {A : Option Addr} {n c : Nat} {l : List FrV} (hn : l.length = n) (h : SlN w A n c 2 (l.flatMap frC)) (j : Nat) (hj : j < l.length) :
    ∃ b off, A = some ⟨b, off, none⟩ ∧ b < w.heap.size ∧ w.cell? ⟨b, off + j * 2, none⟩ = some (.int .u8 (l[j].t : Int)) ∧ w.cell? ⟨b, off + j * 2 + 1, none⟩ = some (.slice l[j].s.A l[j].s.xs.length l[j].s.c) := by
  have hn0 : (l.flatMap frC)[j * 2 + 0]? = _ := flatMap_get frC 2 l j 0 hj (fun _ _ => rfl) (by omega)
  have hn1 : (l.flatMap frC)[j * 2 + 1]? = _ := flatMap_get frC 2 l j 1 hj (fun _ _ => rfl) (by omega)
  obtain ⟨b, off, rfl, hb, t0⟩ := h.rd (j * 2) (.int .u8 (l[j].t : Int)) (by simpa [frC] using hn0)
  obtain ⟨b', off', he, -, t1⟩ := h.rd (j * 2 + 1) (.slice l[j].s.A l[j].s.xs.length l[j].s.c) (by simpa [frC] using hn1)
  injection he with he
  injection he with h1 h2
  subst h1; subst h2
  exact ⟨b, off, rfl, hb, t0, by rw [Nat.add_assoc]; exact t1⟩
def frFew (l : List FrV) : Bool := decide (l.length ≤ 12) && l.all fun f => decide (f.s.xs.length ≤ 300)
set_option maxRecDepth 100000 in
theorem rfew_any (l : List FrV) (n : Nat) (A : Option Addr) (c : Nat) (w : World) (hn : l.length = n) (hl : n ≤ 9223372036854775807) (hs : SlN w A n c 2 (l.flatMap frC)) :
    Calls Try.prog 5 #[.slice A n c] w fun e w' => e = .returned (.bool (frFew l)) ∧ Below w.heap.size w w' := by
  have HN := hid hn
  have HS := hid hs
  by_cases hbig : 12 < n
  · have hf : frFew l = false := by unfold frFew; rw [hn]; simp; omega
    rw [hf]
    clear hn hs
    go_enter Try.func5, Try.ntmps5
    go_wp2_with fail
    go_ret
    exact ⟨rfl, Below.refl _ _⟩
  have hf : frFew l = l.all fun f => decide (f.s.xs.length ≤ 300) := by unfold frFew; rw [hn]; simp; omega
  rw [hf]
  have hcap : n ≤ c := hs.cap
  obtain ⟨fb, hfb⟩ : ∃ fb : Bool, (l.all fun f => decide (f.s.xs.length ≤ 300)) = fb := ⟨_, rfl⟩
  rw [hfb]
  have HFB := hid hfb
  clear hn hs hf hfb
  go_enter Try.func5, Try.ntmps5
  go_wp2_with fail
  go_loop [3] (fun i => ∃ k : Nat, k ≤ n ∧ i = .int .i64 (k : Int) ∧ ∀ f ∈ l.take k, f.s.xs.length ≤ 300) (fun i => n - (intOf i).toNat)
  case atStart => exact ⟨0, by omega, rfl, by simp⟩
  case round =>
    obtain ⟨k, hk, rfl, hall⟩ := hrel
    by_cases hlt : k < n
    · have hkl : k < l.length := by have := HN.out; omega
      obtain ⟨b, off, rfl, hb, s0, s1⟩ := frRow_get HN.out HS.out k hkl
      have hki : (k : Int) < (n : Int) := by omega
      have hk0 : (0 : Int) ≤ (k : Int) := by omega
      have hmem := List.getElem_mem hkl
      have htk : l.take (k + 1) = l.take k ++ [l[k]] := List.take_succ_eq_append_getElem hkl
      by_cases hbg : 300 < l[k].s.xs.length
      · have hfa : (l.all fun f => decide (f.s.xs.length ≤ 300)) = false := by
          rw [List.all_eq_false]
          exact ⟨l[k], hmem, by simp; omega⟩
        have hfx : fb = false := by rw [← HFB.out]; exact hfa
        subst hfx
        generalize l[k].s.xs.length = p at *
        clear hall htk hmem hfa
        go_wp2_with fail
        go_ret
        exact ⟨rfl, Below.refl _ _⟩
      · have hall2 : ∀ f ∈ l.take (k + 1), f.s.xs.length ≤ 300 := by
          rw [htk]; intro f hf
          rcases List.mem_append.1 hf with hf | hf
          · exact hall f hf
          · obtain rfl := List.mem_singleton.1 hf; omega
        have HALL := hid hall2
        generalize l[k].s.xs.length = p at *
        clear hall htk hmem hall2
        go_wp2_with fail
        go_round
        case rel => exact ⟨k + 1, by omega, by go_num, HALL.out⟩
        case measure => simp [intOf]; omega
    · obtain rfl : k = n := by omega
      have hfa : (l.all fun f => decide (f.s.xs.length ≤ 300)) = true := by
        rw [List.all_eq_true]
        intro f hf
        rw [List.take_of_length_le (by have := HN.out; omega)] at hall
        simpa using hall f hf
      have hfx : fb = true := by rw [← HFB.out]; exact hfa
      subst hfx
      clear hall hfa
      go_wp2_with fail
      go_ret
      exact ⟨rfl, Below.refl _ _⟩
theorem Rs.rows_len (l : List (UInt8 × List UInt8)) (h : ∀ f ∈ l, f.2.length ≤ 300) : (Rs.rows l).length ≤ l.length * 309 := by
  induction l with
  | nil => simp [Rs.rows]
  | cons f l ih =>
    have h1 := h f (List.mem_cons_self ..)
    have h2 := ih (fun g hg => h g (List.mem_cons_of_mem _ hg))
    simp only [Rs.rows, List.length_append, Fr.put_len, List.length_cons]; omega
set_option maxRecDepth 100000 in
theorem rjoin14_any (l : List FrV) (n : Nat) (A : Option Addr) (c : Nat) (w : World) (hn : l.length = n) (hf : frFew l = true) (hok : ∀ f ∈ l, FrOk w f) (hs : SlN w A n c 2 (l.flatMap frC)) :
    Calls Try.prog 6 #[.slice A n c] w fun e w' => ∃ A' c', e = .returned (.slice A' (Rs.rows (l.map FrV.p)).length c') ∧ Sl w' A' c' ((Rs.rows (l.map FrV.p)).map bv) ∧ Below w.heap.size w w' := by
  have hfe : l.length ≤ 12 ∧ ∀ f ∈ l, f.s.xs.length ≤ 300 := by
    unfold frFew at hf
    simpa using hf
  have HN := hid hn
  have HS := hid hs
  have HF := hid hfe
  have HOK := hid hok
  have hn12 : n ≤ 12 := by omega
  have hcap : n ≤ c := hs.cap
  clear hn hs hf hfe hok
  go_enter Try.func6, Try.ntmps6
  go_wp2_with fail
  go_loopw [3, 4] (fun v i wr => ∃ (k : Nat) (Ao : Option Addr) (co : Nat), k ≤ n ∧ i = .int .i64 (k : Int) ∧ v = .slice Ao (Rs.rows ((l.take k).map FrV.p)).length co ∧ Sl wr Ao co ((Rs.rows ((l.take k).map FrV.p)).map bv) ∧ Below w.heap.size w wr) (fun _ i _ => n - (intOf i).toNat)
  case atStart => exact ⟨0, none, 0, by omega, rfl, rfl, Sl.nil_ _, Below.refl _ _⟩
  case round =>
    obtain ⟨k, Ao, co, hk, rfl, rfl, hsr, hB⟩ := hrel
    by_cases hlt : k < n
    · have hkl : k < l.length := by have := HN.out; omega
      obtain ⟨b, off, rfl, hb, s0, s1⟩ := frRow_get HN.out (HS.out.below hB) k hkl
      have hki : (k : Int) < (n : Int) := by omega
      have hk0 : (0 : Int) ≤ (k : Int) := by omega
      have htk : l.take (k + 1) = l.take k ++ [l[k]] := List.take_succ_eq_append_getElem hkl
      have hok := HOK.out _ (List.getElem_mem hkl)
      have h300 := HF.out.2 _ (List.getElem_mem hkl)
      have hrl := Rs.rows_len ((l.take k).map FrV.p) (by
        intro f hf
        obtain ⟨g, hg, rfl⟩ := List.mem_map.1 hf
        exact HF.out.2 g (List.mem_of_mem_take hg))
      have hrs : Rs.rows ((l.take (k + 1)).map FrV.p) = Rs.rows ((l.take k).map FrV.p) ++ Fr.put (UInt8.ofNat l[k].t) l[k].s.xs := by
        rw [htk, List.map_append, List.map_singleton, Rs.rows_snoc]; rfl
      rw [List.length_map, List.length_take] at hrl
      generalize Rs.rows ((l.take k).map FrV.p) = rs at *
      generalize h2e : Rs.rows ((l.take (k + 1)).map FrV.p) = rs2 at *
      have H2E := hid h2e
      clear h2e
      generalize l[k] = f at *
      obtain ⟨ft, ⟨fA, fc, fxs⟩⟩ := f
      obtain ⟨hft, hfs⟩ := hok
      simp only at s0 s1 hft hfs h300 hrs
      obtain ⟨T, hT⟩ : ∃ T : UInt8, T.toNat = ft := ⟨UInt8.ofNat ft, by rw [UInt8.toNat_ofNat']; omega⟩
      have hT2 : UInt8.ofNat ft = T := by rw [← hT]; simp
      rw [hT2] at hrs
      obtain ⟨pl, hpl⟩ : ∃ p, fxs.length = p := ⟨_, rfl⟩
      obtain ⟨rl, hrl2⟩ : ∃ p, rs.length = p := ⟨_, rfl⟩
      have hput := rfput_any T fxs pl fA fc wr hpl (by omega) (hfs.below hB)
      rw [hT] at hput
      rw [hpl] at s1
      obtain ⟨N1, hN1⟩ : ∃ k, pl + 9 = k := ⟨_, rfl⟩
      rw [hN1] at hput
      have hjn := fun W A1 c1 (hW : Below wr.heap.size wr W) h => rjoin2_any rs (Fr.put T fxs) rl N1 Ao A1 co c1 W hrl2 (by rw [Fr.put_len]; omega) (by omega) (hsr.below hW) h
      rw [hrl2]
      have HP := hid hput
      have HJ := hid hjn
      have HRS := hid hrs
      have HB := hid hB
      have HRL := hid hrl2
      have hrs2 : rs2.length = rl + N1 := by rw [hrs, List.length_append, Fr.put_len]; omega
      have HR2 := hid hrs2
      clear hput hjn hrs hB hsr hfs hT2 hrl hrl2 hpl hrs2 hT htk hkl
      go_wp2_with fail
      refine HP.out.mono ?_
      rintro e w1 ⟨v1, rfl, ho1, hb1⟩
      obtain ⟨A1, c1, rfl⟩ := row_slice_g ho1
      have hs1 := Sl.of_own'' ho1
      go_wp2_with fail
      refine (HJ.out _ _ _ hb1 hs1).mono ?_
      rintro e w2 ⟨A2, c2, rfl, hs2, -, hb2⟩
      have HB2 := hid (bw_t (bw_t HB.out hb1) hb2)
      have HS2 := hid hs2
      clear hb1 hb2 hs1 hs2 ho1
      go_wp2_with fail
      go_roundw
      case rel => exact ⟨k + 1, A2, c2, by omega, by go_num, by rw [H2E.out, HR2.out], by rw [H2E.out, HRS.out]; exact HS2.out, HB2.out⟩
      case measure => simp [intOf]; omega
    · obtain rfl : k = n := by omega
      rw [List.take_of_length_le (by have := HN.out; omega)] at hsr ⊢
      generalize hqe : Rs.rows (l.map FrV.p) = rs at *
      have HQE := hid hqe
      clear hqe
      obtain ⟨rl, hrl2⟩ : ∃ p, rs.length = p := ⟨_, rfl⟩
      rw [hrl2]
      have HS2 := hid hsr
      have HB := hid hB
      have HRL := hid hrl2
      clear hsr hB hrl2
      go_wp2_with fail
      go_ret
      refine ⟨Ao, co, ?_, ?_, HB.out⟩
      · rw [HQE.out, HRL.out]; rfl
      · rw [HQE.out]; exact HS2.out
end Go.Proofs.Ytgiealcfhlcpoaa
