/- diag: a finding's text: walks. -/
import Derived.Test.YtdbbapedimnjhaaDoorDgX
import Derived.Test.YtdbbapedimnjhaaDoorSrD
import Derived.Test.YtdbbapedimnjhaaDoorSrT
set_option linter.unusedVariables false
namespace Go.Proofs.YtdbbapedimnjhaaDoor
open Go.RowKit
theorem pw_below {P : Program} {W W' : World} {v : String} {cs : Array Value} (h : W.var? P v = some cs) (hb : Below W.heap.size W W') : W'.var? P v = some cs := by
  unfold World.var? at *
  cases hg : P.globalNamed v with
  | none => rw [hg] at h; simp at h
  | some g =>
    rw [hg] at h
    simp only [Option.bind_some] at h ⊢
    have hlt : g < W.heap.size := by
      cases hh : W.heap[g]? with
      | none => rw [hh] at h; simp at h
      | some o => exact (Array.getElem?_eq_some_iff.1 hh).1
    rw [hb.block g hlt]; exact h
theorem PowT.below {W W' : World} (h : PowT W) (hb : Below W.heap.size W W') : PowT W' := pw_below h hb
theorem pu24_le (bs : List UInt8) : (puL bs).length ≤ 4 * bs.length + 2 := by
  unfold puL; split
  · omega
  · rw [quB_len]
    have key : ∀ bs : List UInt8, (bs.flatMap qB).length ≤ 4 * bs.length := by
      intro bs
      induction bs with
      | nil => simp
      | cons c r ih =>
        rw [List.flatMap_cons, List.length_append, List.length_cons]
        have : (qB c).length ≤ 4 := by unfold qB; repeat' split
                                       all_goals simp
        omega
    have := key bs
    omega
/-- A finding's text. -/
def txL (x : Dg.D) : List UInt8 := (if 0 ≤ x.1 then dg24 x.1 else [45]) ++ [32] ++ (wdB x.2.1).data.toList ++ (if x.2.2.size = 0 then [] else [32] ++ puL x.2.2.data.toList)
theorem bz {s : ByteArray} (h : s.size = 0) : s = ⟨#[]⟩ := Dg.bext (by rw [Lib.size_eq] at h; rw [List.eq_nil_of_length_eq_zero h])
set_option maxRecDepth 100000 in
set_option maxHeartbeats 8000000 in
theorem dtext_any (x : Dg.D) (w : World) (hok : DOk x) (hl : x.2.2.size ≤ 5000) (hT : PowT w) :
    Calls Tryd.prog 14 #[.agg (dC x).toArray] w fun e w' => ∃ t : ByteArray, e = .returned (.string t) ∧ t.data.toList = txL x ∧ Below w.heap.size w w' := by
  obtain ⟨s1, e1, t1⟩ := x
  obtain ⟨⟨h1, h2⟩, ⟨h3, h4⟩, h5⟩ := hok
  simp only at h1 h2 h3 h4 h5 hl
  have htx : txL (s1, e1, t1) = (if 0 ≤ s1 then dg24 s1 else [45]) ++ [32] ++ (wdB e1).data.toList ++ (if t1.size = 0 then [] else [32] ++ puL t1.data.toList) := rfl
  show Calls _ _ #[.agg #[.int .i64 s1, .int .i64 e1, .string t1]] w _
  have HB0 := hid (bw_a (Below.refl _ w) (.cells #[.int .i64 s1, .int .i64 e1, .string t1] 25))
  have HK := hid (Blk.new w 25 #[.int .i64 s1, .int .i64 e1, .string t1])
  have HWD := hid (fun W => dword_any e1 W h3 h4)
  have HDG := hid (fun W hT => digits24_any s1 W h1 h2 hT)
  have hwz := wdB_size e1
  have HPU := hid (fun W => sPut_any t1 _ W rfl (by rw [← Lib.size_eq]; omega))
  have HPL := hid (show (puL t1.data.toList).length ≤ 20002 by have := pu24_le t1.data.toList; rw [← Lib.size_eq] at this; omega)
  have hDz : (dg24 s1).length ≤ 9 := dg24_len
  obtain ⟨D, hD⟩ : ∃ D : ByteArray, D = ⟨(dg24 s1).toArray⟩ := ⟨_, rfl⟩
  have hDD : D.data.toList = dg24 s1 := by rw [hD]
  have hDs : D.size ≤ 9 := by rw [Lib.size_eq, hDD]; exact hDz
  rw [← hD] at HDG
  generalize wdB e1 = W0 at *
  have HDD := hid hDD
  clear hD hDz hDD
  by_cases hs : s1 < 0
  · rw [if_neg (by omega)] at htx
    by_cases ht : t1.size = 0
    · obtain rfl := bz ht
      rw [if_pos (by rfl)] at htx
      have HTX := hid htx
      clear htx ht
      go_enter Tryd.func14, Tryd.ntmps14
      go_wp2_with fail
      refine (HDG.out _ (hT.below HB0.out)).mono ?_
      rintro e w2 ⟨rfl, hb2⟩
      have HB2 := hid (bw_t HB0.out hb2)
      have hk := HK.out.below hb2 (by rw [World.size_alloc]; omega)
      have d0 := hk.cell 0
      have d1 := hk.cell 1
      have d2 := hk.cell 2
      simp only [List.getElem?_toArray, List.getElem?_cons_zero, List.getElem?_cons_succ] at d0 d1 d2
      clear hk
      have HK2 := hid (HK.out.below hb2 (by rw [World.size_alloc]; omega))
      have hlt2 : w.heap.size < w2.heap.size := by have := hb2.size; rw [World.size_alloc] at this; omega
      clear hb2
      go_wp2_with fail
      refine (HWD.out _).mono ?_
      rintro e w3 ⟨rfl, hb3⟩
      have HB3 := hid (bw_t HB2.out hb3)
      have hk := HK2.out.below hb3 hlt2
      have HK3 := hid hk
      have hlt3 : w.heap.size < w3.heap.size := Nat.lt_of_lt_of_le hlt2 hb3.size
      have g0 := hk.cell 0
      have g1 := hk.cell 1
      have g2 := hk.cell 2
      simp only [List.getElem?_toArray, List.getElem?_cons_zero, List.getElem?_cons_succ] at g0 g1 g2
      clear hk hb3 d0 d1 d2
      have f1 : ¬ 9223372036854775807 < 1 + W0.size := by omega
      have f2 : ((⟨#[32]⟩ : ByteArray) ++ W0).size = 1 + W0.size := by rw [ByteArray.size_append]; rfl
      have f3 : ¬ 9223372036854775807 < 1 + (1 + W0.size) := by omega
      have f6 : ((⟨#[45]⟩ : ByteArray) ++ (⟨#[32]⟩ ++ W0)).size = 1 + (1 + W0.size) := by rw [ByteArray.size_append, ByteArray.size_append]; rfl
      go_wp2_with fail
      go_ret
      exact ⟨_, rfl, by rw [HTX.out]; simp [], HB3.out⟩
    · have hte : (t1.toList == []) = false := by
        simp only [beq_eq_false_iff_ne, ne_eq]; intro e; rw [Lib.toList_data] at e; rw [Lib.size_eq, e] at ht; exact ht rfl
      rw [if_neg ht] at htx
      have HTX := hid htx
      clear htx ht
      go_enter Tryd.func14, Tryd.ntmps14
      go_wp2_with fail
      refine (HDG.out _ (hT.below HB0.out)).mono ?_
      rintro e w2 ⟨rfl, hb2⟩
      have HB2 := hid (bw_t HB0.out hb2)
      have hk := HK.out.below hb2 (by rw [World.size_alloc]; omega)
      have d0 := hk.cell 0
      have d1 := hk.cell 1
      have d2 := hk.cell 2
      simp only [List.getElem?_toArray, List.getElem?_cons_zero, List.getElem?_cons_succ] at d0 d1 d2
      clear hk
      have HK2 := hid (HK.out.below hb2 (by rw [World.size_alloc]; omega))
      have hlt2 : w.heap.size < w2.heap.size := by have := hb2.size; rw [World.size_alloc] at this; omega
      clear hb2
      go_wp2_with fail
      refine (HWD.out _).mono ?_
      rintro e w3 ⟨rfl, hb3⟩
      have HB3 := hid (bw_t HB2.out hb3)
      have hk := HK2.out.below hb3 hlt2
      have HK3 := hid hk
      have hlt3 : w.heap.size < w3.heap.size := Nat.lt_of_lt_of_le hlt2 hb3.size
      have g0 := hk.cell 0
      have g1 := hk.cell 1
      have g2 := hk.cell 2
      simp only [List.getElem?_toArray, List.getElem?_cons_zero, List.getElem?_cons_succ] at g0 g1 g2
      clear hk hb3 d0 d1 d2
      have f1 : ¬ 9223372036854775807 < 1 + W0.size := by omega
      have f2 : ((⟨#[32]⟩ : ByteArray) ++ W0).size = 1 + W0.size := by rw [ByteArray.size_append]; rfl
      have f3 : ¬ 9223372036854775807 < 1 + (1 + W0.size) := by omega
      have f6 : ((⟨#[45]⟩ : ByteArray) ++ (⟨#[32]⟩ ++ W0)).size = 1 + (1 + W0.size) := by rw [ByteArray.size_append, ByteArray.size_append]; rfl
      go_wp2_with fail
      refine (HPU.out _).mono ?_
      rintro e w4 ⟨t2, rfl, ht2, hb4⟩
      have HB4 := hid (bw_t HB3.out hb4)
      have ht2s : t2.size ≤ 20002 := by rw [Lib.size_eq, ht2]; exact HPL.out
      have HT2 := hid ht2
      have f4 : ¬ 9223372036854775807 < 1 + t2.size := by omega
      have f5 : ((⟨#[32]⟩ : ByteArray) ++ t2).size = 1 + t2.size := by rw [ByteArray.size_append]; rfl
      have f7 : ¬ 9223372036854775807 < 1 + (1 + W0.size) + (1 + t2.size) := by omega
      clear hb4 ht2
      go_wp2_with fail
      go_ret
      exact ⟨_, rfl, by rw [HTX.out]; simp [HT2.out], HB4.out⟩
  · rw [if_pos (by omega)] at htx
    by_cases ht : t1.size = 0
    · obtain rfl := bz ht
      rw [if_pos (by rfl)] at htx
      have HTX := hid htx
      clear htx ht
      go_enter Tryd.func14, Tryd.ntmps14
      go_wp2_with fail
      refine (HDG.out _ (hT.below HB0.out)).mono ?_
      rintro e w2 ⟨rfl, hb2⟩
      have HB2 := hid (bw_t HB0.out hb2)
      have hk := HK.out.below hb2 (by rw [World.size_alloc]; omega)
      have d0 := hk.cell 0
      have d1 := hk.cell 1
      have d2 := hk.cell 2
      simp only [List.getElem?_toArray, List.getElem?_cons_zero, List.getElem?_cons_succ] at d0 d1 d2
      clear hk
      have HK2 := hid (HK.out.below hb2 (by rw [World.size_alloc]; omega))
      have hlt2 : w.heap.size < w2.heap.size := by have := hb2.size; rw [World.size_alloc] at this; omega
      clear hb2
      go_wp2_with fail
      refine (HWD.out _).mono ?_
      rintro e w3 ⟨rfl, hb3⟩
      have HB3 := hid (bw_t HB2.out hb3)
      have hk := HK2.out.below hb3 hlt2
      have HK3 := hid hk
      have hlt3 : w.heap.size < w3.heap.size := Nat.lt_of_lt_of_le hlt2 hb3.size
      have g0 := hk.cell 0
      have g1 := hk.cell 1
      have g2 := hk.cell 2
      simp only [List.getElem?_toArray, List.getElem?_cons_zero, List.getElem?_cons_succ] at g0 g1 g2
      clear hk hb3 d0 d1 d2
      have f1 : ¬ 9223372036854775807 < 1 + W0.size := by omega
      have f2 : ((⟨#[32]⟩ : ByteArray) ++ W0).size = 1 + W0.size := by rw [ByteArray.size_append]; rfl
      have f3 : ¬ 9223372036854775807 < D.size + (1 + W0.size) := by omega
      have f6 : ((D : ByteArray) ++ (⟨#[32]⟩ ++ W0)).size = D.size + (1 + W0.size) := by rw [ByteArray.size_append, ByteArray.size_append]; rfl
      go_wp2_with fail
      go_ret
      exact ⟨_, rfl, by rw [HTX.out]; simp [HDD.out, ], HB3.out⟩
    · have hte : (t1.toList == []) = false := by
        simp only [beq_eq_false_iff_ne, ne_eq]; intro e; rw [Lib.toList_data] at e; rw [Lib.size_eq, e] at ht; exact ht rfl
      rw [if_neg ht] at htx
      have HTX := hid htx
      clear htx ht
      go_enter Tryd.func14, Tryd.ntmps14
      go_wp2_with fail
      refine (HDG.out _ (hT.below HB0.out)).mono ?_
      rintro e w2 ⟨rfl, hb2⟩
      have HB2 := hid (bw_t HB0.out hb2)
      have hk := HK.out.below hb2 (by rw [World.size_alloc]; omega)
      have d0 := hk.cell 0
      have d1 := hk.cell 1
      have d2 := hk.cell 2
      simp only [List.getElem?_toArray, List.getElem?_cons_zero, List.getElem?_cons_succ] at d0 d1 d2
      clear hk
      have HK2 := hid (HK.out.below hb2 (by rw [World.size_alloc]; omega))
      have hlt2 : w.heap.size < w2.heap.size := by have := hb2.size; rw [World.size_alloc] at this; omega
      clear hb2
      go_wp2_with fail
      refine (HWD.out _).mono ?_
      rintro e w3 ⟨rfl, hb3⟩
      have HB3 := hid (bw_t HB2.out hb3)
      have hk := HK2.out.below hb3 hlt2
      have HK3 := hid hk
      have hlt3 : w.heap.size < w3.heap.size := Nat.lt_of_lt_of_le hlt2 hb3.size
      have g0 := hk.cell 0
      have g1 := hk.cell 1
      have g2 := hk.cell 2
      simp only [List.getElem?_toArray, List.getElem?_cons_zero, List.getElem?_cons_succ] at g0 g1 g2
      clear hk hb3 d0 d1 d2
      have f1 : ¬ 9223372036854775807 < 1 + W0.size := by omega
      have f2 : ((⟨#[32]⟩ : ByteArray) ++ W0).size = 1 + W0.size := by rw [ByteArray.size_append]; rfl
      have f3 : ¬ 9223372036854775807 < D.size + (1 + W0.size) := by omega
      have f6 : ((D : ByteArray) ++ (⟨#[32]⟩ ++ W0)).size = D.size + (1 + W0.size) := by rw [ByteArray.size_append, ByteArray.size_append]; rfl
      go_wp2_with fail
      refine (HPU.out _).mono ?_
      rintro e w4 ⟨t2, rfl, ht2, hb4⟩
      have HB4 := hid (bw_t HB3.out hb4)
      have ht2s : t2.size ≤ 20002 := by rw [Lib.size_eq, ht2]; exact HPL.out
      have HT2 := hid ht2
      have f4 : ¬ 9223372036854775807 < 1 + t2.size := by omega
      have f5 : ((⟨#[32]⟩ : ByteArray) ++ t2).size = 1 + t2.size := by rw [ByteArray.size_append]; rfl
      have f7 : ¬ 9223372036854775807 < D.size + (1 + W0.size) + (1 + t2.size) := by omega
      clear hb4 ht2
      go_wp2_with fail
      go_ret
      exact ⟨_, rfl, by rw [HTX.out]; simp [HDD.out, HT2.out], HB4.out⟩
end Go.Proofs.YtdbbapedimnjhaaDoor
