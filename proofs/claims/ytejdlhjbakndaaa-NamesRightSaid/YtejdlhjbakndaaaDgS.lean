/- diag.Sort: a walk (over the library's contract of slices.SortFunc). -/
import Derived.Test.YtejdlhjbakndaaaDgC
import Derived.Test.YtejdlhjbakndaaaDgShS
set_option linter.unusedVariables false
namespace Go.Proofs.Ytejdlhjbakndaaa
open Go.RowKit
open Go.Sort (HoldsK flatK putRowK SWO)
theorem cD_swo : SWO (ltOf cD) := by
  have e : ltOf cD = Dg.ltb := by funext x y; exact cD_lt x y
  rw [e]; exact Dg.swo
theorem flatK_at (X : List Dg.D) (t : Nat) (ht : t < X.length * 3) : (X.flatMap dC)[t]? = some (flatK dC 3 X.toArray)[t]! := by
  have hd : t / 3 < X.length := by omega
  have h := flatN dC 3 (fun _ => rfl) X (t / 3) hd (t % 3) (by omega)
  rw [show t / 3 * 3 + t % 3 = t by omega] at h
  rw [h, Go.Sort.get_flatK dC 3 X.toArray t (by simpa using ht)]
  have h3 : t % 3 < (dC X[t / 3]).length := by rw [dC_len]; omega
  rw [List.getElem?_eq_getElem h3]
  congr 1
  rw [getElem!_pos X.toArray (t / 3) (by simpa using hd), List.getElem_toArray, getElem!_pos (dC X[t / 3]) (t % 3) h3]
theorem own_holdsK {w : World} {B T g m c : Nat} {X : List Dg.D} (h : w.ownsRow B T 3 (.slice (some ⟨g, 0, none⟩) m c) m (X.flatMap dC)) (hm : X.length = m) : HoldsK dC 3 w g 0 X.toArray := by
  intro t ht
  rw [Go.Sort.size_flatK] at ht
  simp only [List.size_toArray] at ht
  have ht2 : t < m * 3 := by rw [← hm]; exact ht
  exact ⟨by rw [Nat.zero_add, h.cellAt t ht2, flatK_at X t ht]; rfl, by rw [Nat.zero_add]; exact h.frozenAt t⟩
theorem rd_holdsK {w : World} {g : Nat} {X : List Dg.D} (h : HoldsK dC 3 w g 0 X.toArray) (hg : g < w.heap.size) : Rd w (some ⟨g, 0, none⟩) (X.flatMap dC) := by
  intro k u hk
  have hl : k < X.length * 3 := by
    rw [← dflat_len]
    rcases Nat.lt_or_ge k (X.flatMap dC).length with h | h
    · exact h
    · rw [List.getElem?_eq_none h] at hk; cases hk
  refine ⟨g, 0, rfl, hg, ?_⟩
  rw [flatK_at X k hl] at hk
  rw [(h k (by rw [Go.Sort.size_flatK]; simpa using hl)).1, ← hk]
  rfl
theorem sortK_chg (w : World) (g n : Nat) (X : List Dg.D) (os : Array Obj) : Chg (fun q => q = g) w (sortWorldK dC 3 w g 0 n X.toArray os) := by
  refine ⟨rfl, rfl, rfl, ?_, ?_⟩
  · show w.heap.size ≤ ((w.heap.modify g _) ++ os).size
    simp
  · intro q hq hne
    show ((w.heap.modify g _) ++ os)[q]? = w.heap[q]?
    rw [Array.getElem?_append_left (by simpa using hq), Array.getElem?_modify, if_neg (fun e => hne e.symm)]
set_option maxRecDepth 100000 in
set_option maxHeartbeats 8000000 in
theorem dsort_any (X : List Dg.D) (n : Nat) (A : Option Addr) (c : Nat) (w : World) (hn : X.length = n) (hl : n ≤ 1000000) (hok : ∀ x ∈ X, DOk x) (hs : SlN w A n c 3 (X.flatMap dC)) :
    Calls Try.prog 33 #[.slice A n c] w fun e w' => ∃ A' m c', e = .returned (.slice A' m c') ∧ (Dg.srt X).length = m ∧ SlN w' A' m c' 3 ((Dg.srt X).flatMap dC) ∧ Below w.heap.size w w' := by
  have hon := donce_any X n A c w hn hl hok hs
  have HL := hid (Nat.le_trans (Dg.once_len X) (by omega : X.length ≤ 1000000))
  have eg : ∀ args w, (callFunc 51 args).run Try.prog w = .ok (.enter 51 args) w := enters_of Try.func51 (by kernel_rfl) rfl
  have hsn := fun p cap W => AnyF.slices_SortFunc_none Try.sortD p cap (.func (.func 51) #[] #[]) W
  have hss := fun blk cap (d : Array Dg.D) W hH hblk hsz => AnyQ.slices_SortFunc Try.sortD 3 Try.isAgg53 Try.sizeOf53 dC (fun _ => rfl) dC_one cD cD_swo 51 #[] blk 0 cap d W eg (fun _ _ _ _ x y => dcompare_any x y _) hH hblk hsz
  change ∀ p cap W, Calls Try.prog 50 _ _ _ at hsn
  change ∀ blk cap (d : Array Dg.D) W, _ → _ → _ → Calls Try.prog 50 _ _ _ at hss
  have HON := hid hon
  have HSN := hid hsn
  have HSS := hid hss
  clear hon hsn hss hs hok hn eg
  go_enter Try.func33, Try.ntmps33
  go_wp2_with fail
  refine HON.out.mono ?_
  rintro e w1 ⟨v, rfl, how, hb1⟩
  have HB1 := hid hb1
  have hu := Dg.sorted_once (l := X) (m := Dg.srt X)
  rcases how.2 with ⟨rfl, h0⟩ | ⟨g, cap, cur, rfl, hg, hcur, hle, hmax, -⟩
  · have hsr : Dg.srt X = [] := by
      have h1 : Dg.once X = [] := List.eq_nil_of_length_eq_zero h0
      rcases hS : Dg.srt X with _ | ⟨y, r⟩
      · rfl
      · have hy : y ∈ Dg.srt X := by rw [hS]; simp
        rw [Dg.srt_mem, ← Dg.once_mem, h1] at hy
        cases hy
    have HSR := hid hsr
    clear hu how h0 hsr hb1
    go_wp2_with (go_at_call 50; refine (HSN.out _ _ _).mono ?_; rintro e w2 ⟨rfl, rfl⟩)
    go_ret
    refine ⟨none, 0, 0, rfl, by rw [HSR.out]; rfl, ?_, HB1.out⟩
    rw [HSR.out]
    exact ⟨rfl, by omega, by omega, fun _ => rfl, Rd.nil_ _ _⟩
  · have hgl : g < w1.heap.size := (Array.getElem?_eq_some_iff.1 hcur).1
    have hH := own_holdsK how rfl
    have hsz : (Dg.once X).toArray.size < 4611686018427387904 := by simp only [List.size_toArray]; have := HL.out; omega
    have hcall := HSS.out g cap (Dg.once X).toArray w1 hH hgl hsz
    rw [List.size_toArray] at hcall
    obtain ⟨m, hm⟩ : ∃ m, (Dg.once X).length = m := ⟨_, rfl⟩
    have HG := hid (And.intro hg (And.intro hgl (And.intro hle hmax)))
    have HM := hid hm
    have HH := hid hH
    have HC := hid hcall
    rw [hm]
    rw [hm] at HC
    clear hu how hcur hH hcall hb1 hm hg hgl hle hmax hsz
    go_wp2_with (go_at_call 50; refine HC.out.mono ?_; rintro e w2 ⟨rfl, d', nq, os, hp, hso, hw2⟩; have HP := hid hp; have HSO := hid hso; have HW := hid hw2; clear hp hso hw2)
    go_ret
    have hsize : d'.size = m := by rw [HP.out.1, List.size_toArray]; exact HM.out
    have hperm : d'.toList.Perm (Dg.once X) := by
      have h := HP.out.2.2
      rw [← hsize, Array.extract_size] at h
      have e2 : (Dg.once X).toArray.extract 0 d'.size = (Dg.once X).toArray := by
        rw [show d'.size = (Dg.once X).toArray.size by rw [hsize, List.size_toArray, HM.out], Array.extract_size]
      rw [e2] at h
      simpa using h
    have hsl : d'.toList = Dg.srt X := Dg.sorted_once hperm fun i j hi hj hij => by
      have h := HSO.out i j (Nat.zero_le _) hij (by rw [← hsize]; simpa using hj)
      rw [getElem!_pos d' j (by simpa using hj), getElem!_pos d' i (by simpa using hi)] at h
      rw [← cD_lt]
      simpa [ltOf] using h
    have hdl : d' = (Dg.srt X).toArray := by rw [← hsl]
    have hW := HW.out
    rw [hdl] at hW
    have hch := sortK_chg w1 g nq (Dg.srt X) os
    rw [← hW] at hch
    have hlen : (Dg.srt X).length = m := by rw [← hsl]; simpa using hsize
    have hH2 : HoldsK dC 3 w2 g 0 (Dg.srt X).toArray := by
      rw [hW]
      have h1 := Go.Sort.holdsK_putRowK dC 3 (Go.Sort.ahead w1 nq) g 0 _ (Dg.srt X).toArray HH.out (by simp only [List.size_toArray]; rw [hlen]; exact HM.out.symm)
      exact Go.Sort.holdsK_grow dC 3 _ os g 0 _ (by rw [putRowK, Go.Sort.size_putRow]; exact HG.out.2.1) h1
    refine ⟨_, _, _, rfl, hlen, ⟨by rw [dflat_len, hlen], by have := HG.out.2.2.1; have := HM.out; omega, HG.out.2.2.2, (fun h => by cases h), rd_holdsK hH2 (Nat.lt_of_lt_of_le HG.out.2.1 hch.size)⟩, HB1.out.trans ?_⟩
    exact hch.below (fun q e => by rw [e]; exact HG.out.1) HB1.out.size
end Go.Proofs.Ytejdlhjbakndaaa
