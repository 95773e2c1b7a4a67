/- The mathematics of ValueGrows: what a later version says of a message, and what is said of a cleaned one. -/
import Derived.Test.YtnfodgjihdoncaaV3
import Derived.Test.YtnfodgjihdoncaaSc2
set_option linter.unusedVariables false
namespace Go.Proofs.Ytnfodgjihdoncaa
open Go.RowKit
/-- Do two fields lie in the same place? -/
def plcR (a b : SRow) : Bool := decide (a.typ ≤ 6 ∧ b.typ ≤ 6 ∧ a.slot = b.slot) || decide ((7 ≤ a.typ ∧ a.typ ≤ 9) ∧ (7 ≤ b.typ ∧ b.typ ≤ 9) ∧ a.slot = b.slot) || decide (a.typ = 10 ∧ b.typ = 10)
theorem plc_rows : (ROWS.all fun a => ROWS.all fun b => !(decide (a.kind = b.kind) && plcR a b) || decide (a.since = b.since)) = true := by decide +kernel
theorem plc_since {a b : SRow} (ha : a ∈ ROWS) (hb : b ∈ ROWS) (hk : a.kind = b.kind) (h : plcR a b = true) : a.since = b.since := by
  have h1 := List.all_eq_true.1 (List.all_eq_true.1 plc_rows a ha) b hb
  rw [decide_eq_true hk, h] at h1
  simpa using h1
theorem ofL_iff (k v : Int) (r : SRow) : r ∈ ofL k v ↔ v ≤ 3 ∧ r ∈ ROWS ∧ (r.since : Int) ≤ v ∧ (r.kind : Int) = k := by
  unfold ofL kn
  rw [List.mem_filter]
  by_cases h : 3 < v
  · rw [if_pos h]
    constructor
    · rintro ⟨h1, -⟩; simp at h1
    · rintro ⟨h1, -⟩; omega
  · rw [if_neg h, List.mem_filter]
    simp only [decide_eq_true_eq]
    constructor
    · rintro ⟨⟨h1, h2⟩, h3⟩; exact ⟨by omega, h1, h2, h3⟩
    · rintro ⟨-, h1, h2, h3⟩; exact ⟨⟨h1, h2⟩, h3⟩
theorem kept_num (L : List SRow) (m : MV) (i : Nat) (h : i ≤ 5) : (keptM L m).num (i : Int) = if mkN L i then m.num (i : Int) else 0 := by
  have hi : i = 0 ∨ i = 1 ∨ i = 2 ∨ i = 3 ∨ i = 4 ∨ i = 5 := by omega
  rcases hi with rfl | rfl | rfl | rfl | rfl | rfl <;> rfl
theorem kept_text (L : List SRow) (m : MV) (i : Nat) (h : i ≤ 1) : (keptM L m).text (i : Int) = if mkS L i then m.text (i : Int) else ⟨#[]⟩ := by
  have hi : i = 0 ∨ i = 1 := by omega
  rcases hi with rfl | rfl <;> rfl
theorem kept_l (L : List SRow) (m : MV) : (keptM L m).l = if mkL L then m.l else [] := rfl
theorem fldE_dep {m m' : MV} {r : SRow} (hr : 1 ≤ r.typ ∧ r.typ ≤ 10) (h1 : r.typ ≤ 6 → m.num (r.slot : Nat) = m'.num (r.slot : Nat)) (h2 : 7 ≤ r.typ → r.typ ≤ 9 → m.text (r.slot : Nat) = m'.text (r.slot : Nat)) (h3 : r.typ = 10 → m.l = m'.l) : fldE m r = fldE m' r := by
  have hd : dflB m (r.typ : Nat) (r.slot : Nat) = dflB m' (r.typ : Nat) (r.slot : Nat) := by
    by_cases c1 : r.typ ≤ 6
    · rw [dfl_num _ _ _ ⟨by omega, by omega⟩, dfl_num _ _ _ ⟨by omega, by omega⟩, h1 c1]
    by_cases c2 : r.typ ≤ 9
    · rw [dfl_text _ _ _ ⟨by omega, by omega⟩, dfl_text _ _ _ ⟨by omega, by omega⟩, h2 (by omega) c2]
    · have c3 : r.typ = 10 := by omega
      have c4 : ((r.typ : Nat) : Int) = 10 := by omega
      rw [c4, dfl_list, dfl_list, h3 c3]
  have hw : wrongE m (r.typ : Nat) (r.slot : Nat) = wrongE m' (r.typ : Nat) (r.slot : Nat) := by
    by_cases c1 : r.typ ≤ 6
    · by_cases c5 : r.typ = 1 ∨ r.typ = 5
      · rw [wr_num _ _ _ (by omega), wr_num _ _ _ (by omega), h1 c1]
      by_cases c4 : r.typ = 4
      · have c6 : ((r.typ : Nat) : Int) = 4 := by omega
        rw [c6, wr_bool, wr_bool, h1 c1]
      · rw [wr_out _ _ _ (by omega), wr_out _ _ _ (by omega)]
    by_cases c2 : r.typ ≤ 9
    · rw [wr_text _ _ _ ⟨by omega, by omega⟩, wr_text _ _ _ ⟨by omega, by omega⟩, h2 (by omega) c2]
    · have c3 : r.typ = 10 := by omega
      have c4 : ((r.typ : Nat) : Int) = 10 := by omega
      rw [c4, wr_list, wr_list, h3 c3]
  unfold fldE
  rw [hd, hw]
theorem chkL_dep {m m' : MV} : ∀ (L : List SRow), (∀ r ∈ L, fldE m r = fldE m' r) → chkL m L = chkL m' L
  | [], _ => rfl
  | r :: rs, h => by
    rw [chkL, chkL, h r (List.mem_cons_self ..), chkL_dep rs fun q hq => h q (List.mem_cons_of_mem _ hq)]
theorem chkL_all {m : MV} : ∀ (L : List SRow), (chkL m L).1 = 0 → ∀ r ∈ L, fldE m r = 0
  | [], _ => fun r hr => by simp at hr
  | r :: rs, h => by
    rw [chkL] at h
    by_cases c : fldE m r = 0
    · rw [if_pos c] at h
      intro q hq
      rcases List.mem_cons.1 hq with rfl | hq
      · exact c
      · exact chkL_all rs h q hq
    · rw [if_neg c] at h
      exact absurd h c
theorem chkL_none {m : MV} : ∀ (L : List SRow), (∀ r ∈ L, fldE m r = 0) → chkL m L = (0, 0)
  | [], _ => rfl
  | r :: rs, h => by rw [chkL, if_pos (h r (List.mem_cons_self ..)), chkL_none rs fun q hq => h q (List.mem_cons_of_mem _ hq)]
theorem ka_iff (b : Bool) (i n : Nat) (hi : i < 6) : n = ka b 6 i n ↔ (b = false → n = 0) := by
  unfold ka
  rw [if_pos hi]
  cases b <;> simp
theorem kb_iff (b : Bool) (i : Nat) (s : ByteArray) (hi : i < 2) : s = kb b 2 i s ↔ (b = false → s = ⟨#[]⟩) := by
  unfold kb
  rw [if_pos hi]
  cases b <;> simp
theorem sameB_iff (a b : MV) : sameB a b = true ↔ a.k = b.k ∧ sameN a b ∧ sameT a b ∧ a.l = b.l := by
  unfold sameB
  simp only [Bool.and_eq_true, decide_eq_true_eq, and_assoc]
theorem same_kept {L : List SRow} {m : MV} (h : sameB m (keptM L m) = true) : (∀ i : Nat, i ≤ 5 → mkN L i = false → m.num (i : Int) = 0) ∧ (∀ i : Nat, i ≤ 1 → mkS L i = false → m.text (i : Int) = ⟨#[]⟩) ∧ (mkL L = false → m.l = []) := by
  obtain ⟨-, ⟨a0, a1, a2, a3, a4, a5⟩, ⟨b0, b1⟩, hl⟩ := (sameB_iff _ _).1 h
  refine ⟨fun i hi => ?_, fun i hi => ?_, fun hm => ?_⟩
  · have hi : i = 0 ∨ i = 1 ∨ i = 2 ∨ i = 3 ∨ i = 4 ∨ i = 5 := by omega
    rcases hi with rfl | rfl | rfl | rfl | rfl | rfl
    · exact (ka_iff _ 0 _ (by omega)).1 a0
    · exact (ka_iff _ 1 _ (by omega)).1 a1
    · exact (ka_iff _ 2 _ (by omega)).1 a2
    · exact (ka_iff _ 3 _ (by omega)).1 a3
    · exact (ka_iff _ 4 _ (by omega)).1 a4
    · exact (ka_iff _ 5 _ (by omega)).1 a5
  · have hi : i = 0 ∨ i = 1 := by omega
    rcases hi with rfl | rfl
    · exact (kb_iff _ 0 _ (by omega)).1 b0
    · exact (kb_iff _ 1 _ (by omega)).1 b1
  · rw [kept_l, hm] at hl; exact hl
theorem kept_same {L : List SRow} {m : MV} (h1 : ∀ i : Nat, i ≤ 5 → mkN L i = false → m.num (i : Int) = 0) (h2 : ∀ i : Nat, i ≤ 1 → mkS L i = false → m.text (i : Int) = ⟨#[]⟩) (h3 : mkL L = false → m.l = []) : sameB m (keptM L m) = true := by
  refine (sameB_iff _ _).2 ⟨rfl, ⟨(ka_iff _ 0 _ (by omega)).2 (h1 0 (by omega)), (ka_iff _ 1 _ (by omega)).2 (h1 1 (by omega)), (ka_iff _ 2 _ (by omega)).2 (h1 2 (by omega)), (ka_iff _ 3 _ (by omega)).2 (h1 3 (by omega)), (ka_iff _ 4 _ (by omega)).2 (h1 4 (by omega)), (ka_iff _ 5 _ (by omega)).2 (h1 5 (by omega))⟩, ⟨(kb_iff _ 0 _ (by omega)).2 (h2 0 (by omega)), (kb_iff _ 1 _ (by omega)).2 (h2 1 (by omega))⟩, ?_⟩
  rw [kept_l]
  cases hm : mkL L with
  | true => rfl
  | false => exact h3 hm
theorem any_mono {p : SRow → Bool} {L L' : List SRow} (hs : ∀ r ∈ L, r ∈ L') (h : L'.any p = false) : L.any p = false := by
  cases c : L.any p with
  | false => rfl
  | true =>
    obtain ⟨r, hr, hp⟩ := List.any_eq_true.1 c
    rw [List.any_eq_true.2 ⟨r, hs r hr, hp⟩] at h
    exact absurd h (by decide)
theorem chkV_zero {m : MV} {L : List SRow} (h : (chkV m L).1 = 0) : chkV m L = (0, 0) ∧ L.length ≠ 0 ∧ (chkL m L).1 = 0 ∧ sameB m (keptM L m) = true := by
  unfold chkV at h ⊢
  by_cases c1 : L.length = 0
  · rw [if_pos c1] at h; exact absurd h (by decide)
  rw [if_neg c1] at h ⊢
  by_cases c2 : (chkL m L).1 = 0
  · rw [if_neg (fun h => h c2)] at h ⊢
    by_cases c3 : sameB m (keptM L m) = true
    · rw [if_pos c3]; exact ⟨rfl, c1, c2, c3⟩
    · rw [if_neg c3] at h; exact absurd h (by decide)
  · rw [if_pos c2] at h; exact absurd h c2
theorem grow_ok (m : MV) (k v l : Int) (hv : v ≤ l) (h3 : l ≤ 3) (h : (chkV m (ofL k v)).1 = 0) : chkV m (ofL k l) = (0, 0) := by
  obtain ⟨-, hne, hall, hsame⟩ := chkV_zero h
  have hsub : ∀ r ∈ ofL k v, r ∈ ofL k l := fun r hr => by
    obtain ⟨-, h1, h2, h4⟩ := (ofL_iff _ _ _).1 hr
    exact (ofL_iff _ _ _).2 ⟨h3, h1, by omega, h4⟩
  have hin : ∀ r ∈ ofL k l, ∀ r0 ∈ ofL k v, plcR r r0 = true → r ∈ ofL k v := fun r hr r0 hr0 hp => by
    obtain ⟨-, h1, -, h4⟩ := (ofL_iff _ _ _).1 hr
    obtain ⟨h5, h6, h7, h8⟩ := (ofL_iff _ _ _).1 hr0
    have := plc_since h1 h6 (by omega) hp
    exact (ofL_iff _ _ _).2 ⟨h5, h1, by omega, h4⟩
  obtain ⟨s1, s2, s3⟩ := same_kept hsame
  have hall0 := chkL_all _ hall
  generalize ofL k v = L at *
  have hz : ∀ r ∈ ofL k l, fldE m r = 0 := fun r hr => by
    by_cases hrL : r ∈ L
    · exact hall0 r hrL
    have hro := row_ok2 (ofL_mem _ _ hr)
    have hdf : dflB m (r.typ : Nat) (r.slot : Nat) = true := by
      by_cases c1 : r.typ ≤ 6
      · have hm : mkN L r.slot = false := by
          cases c : mkN L r.slot with
          | false => rfl
          | true =>
            obtain ⟨r0, hr0, hp⟩ := List.any_eq_true.1 c
            have hp := of_decide_eq_true hp
            exact absurd (hin r hr r0 hr0 (by unfold plcR; rw [decide_eq_true (show r.typ ≤ 6 ∧ r0.typ ≤ 6 ∧ r.slot = r0.slot from ⟨c1, hp.1, hp.2.symm⟩)]; rfl)) hrL
        rw [dfl_num _ _ _ ⟨by omega, by omega⟩, s1 r.slot hro.2.2.1 hm]; rfl
      by_cases c2 : r.typ ≤ 9
      · have hm : mkS L r.slot = false := by
          cases c : mkS L r.slot with
          | false => rfl
          | true =>
            obtain ⟨r0, hr0, hp⟩ := List.any_eq_true.1 c
            have hp := of_decide_eq_true hp
            exact absurd (hin r hr r0 hr0 (by unfold plcR; rw [decide_eq_true (show (7 ≤ r.typ ∧ r.typ ≤ 9) ∧ (7 ≤ r0.typ ∧ r0.typ ≤ 9) ∧ r.slot = r0.slot from ⟨⟨by omega, c2⟩, hp.1, hp.2.symm⟩)]; simp)) hrL
        rw [dfl_text _ _ _ ⟨by omega, by omega⟩, s2 r.slot (hro.2.2.2 (by omega) c2) hm]; simp
      · have c3 : r.typ = 10 := by omega
        have hm : mkL L = false := by
          cases c : mkL L with
          | false => rfl
          | true =>
            obtain ⟨r0, hr0, hp⟩ := List.any_eq_true.1 c
            have hp := of_decide_eq_true hp
            exact absurd (hin r hr r0 hr0 (by unfold plcR; rw [decide_eq_true (show r.typ = 10 ∧ r0.typ = 10 from ⟨c3, hp⟩)]; simp)) hrL
        have c4 : ((r.typ : Nat) : Int) = 10 := by omega
        rw [c4, dfl_list, s3 hm]; rfl
    unfold fldE
    rw [hdf]; rfl
  unfold chkV
  have hne2 : (ofL k l).length ≠ 0 := by
    obtain ⟨r, hr⟩ := List.exists_mem_of_length_pos (Nat.pos_of_ne_zero hne)
    have := List.length_pos_of_mem (hsub r hr)
    omega
  rw [if_neg hne2, chkL_none _ hz, if_neg (by simp), if_pos (kept_same (fun i hi hm => s1 i hi (any_mono hsub hm)) (fun i hi hm => s2 i hi (any_mono hsub hm)) (fun hm => s3 (any_mono hsub hm)))]
theorem same_symm {a b : MV} (h : sameB a b = true) : sameB b a = true := by
  obtain ⟨h1, ⟨a0, a1, a2, a3, a4, a5⟩, ⟨b0, b1⟩, hl⟩ := (sameB_iff _ _).1 h
  exact (sameB_iff _ _).2 ⟨h1.symm, ⟨a0.symm, a1.symm, a2.symm, a3.symm, a4.symm, a5.symm⟩, ⟨b0.symm, b1.symm⟩, hl.symm⟩
theorem kept_fld {L : List SRow} {m : MV} {r : SRow} (hr : r ∈ L) (hR : r ∈ ROWS) : fldE (keptM L m) r = fldE m r := by
  have hro := row_ok2 hR
  refine fldE_dep ⟨hro.1, hro.2.1⟩ (fun c => ?_) (fun c1 c2 => ?_) (fun c => ?_)
  · rw [kept_num _ _ _ hro.2.2.1, if_pos (show mkN L r.slot = true from List.any_eq_true.2 ⟨r, hr, decide_eq_true ⟨c, rfl⟩⟩)]
  · rw [kept_text _ _ _ (hro.2.2.2 c1 c2), if_pos (show mkS L r.slot = true from List.any_eq_true.2 ⟨r, hr, decide_eq_true ⟨⟨c1, c2⟩, rfl⟩⟩)]
  · rw [kept_l, if_pos (show mkL L = true from List.any_eq_true.2 ⟨r, hr, decide_eq_true c⟩)]
theorem kept_kept {L : List SRow} {m : MV} : sameB (keptM L m) (keptM L (keptM L m)) = true := by
  refine kept_same (fun i hi hm => ?_) (fun i hi hm => ?_) (fun hm => ?_)
  · rw [kept_num _ _ _ hi, hm]; rfl
  · rw [kept_text _ _ _ hi, hm]; rfl
  · rw [kept_l, hm]; rfl
theorem chk_ne {s : ByteArray} {most : Int} : chk s most ≠ 20 := by
  unfold chk checkI
  split
  · decide
  · split <;> decide
theorem txt_ne {most : Int} : ∀ l : List ByteArray, txtE most l ≠ 20
  | [] => by rw [txtE]; decide
  | s :: r => by
    rw [txtE]
    split
    · exact txt_ne r
    · exact chk_ne
theorem fldE_ne {m : MV} {r : SRow} : fldE m r ≠ 20 := by
  unfold fldE
  split
  · decide
  unfold wrongE
  split
  · split <;> decide
  split
  · split <;> decide
  split
  · exact chk_ne
  split
  · unfold lstE
    split
    · decide
    · exact txt_ne _
  · decide
theorem chkL_ne {m : MV} : ∀ L : List SRow, (chkL m L).1 ≠ 20
  | [] => by rw [chkL]; decide
  | r :: rs => by
    rw [chkL]
    split
    · exact chkL_ne rs
    · exact fldE_ne
theorem chkV_ac (M : MV) (A : Option Addr) (c : Nat) (L : List SRow) : chkV { M with A := A, c := c } L = chkV M L := by
  have h : chkL { M with A := A, c := c } L = chkL M L := chkL_dep L fun r _ => rfl
  unfold chkV
  rw [h]
  rfl
theorem clean_chk (m : MV) (L : List SRow) (hR : ∀ r ∈ L, r ∈ ROWS) : chkV (keptM L m) L = if (chkV m L).1 = 20 then (0, 0) else chkV m L := by
  have h : chkL (keptM L m) L = chkL m L := chkL_dep L fun r hr => kept_fld hr (hR r hr)
  have hn := chkL_ne (m := m) L
  unfold chkV
  rw [h]
  by_cases c1 : L.length = 0
  · rw [if_pos c1, if_pos c1]; rfl
  rw [if_neg c1, if_neg c1]
  by_cases c2 : (chkL m L).1 = 0
  · have c3 : ¬ (chkL m L).1 ≠ 0 := fun h => h c2
    rw [if_neg c3, if_neg c3, if_pos kept_kept]
    cases sameB m (keptM L m) <;> rfl
  · rw [if_pos c2, if_pos c2, if_neg hn]
theorem kept_ok {w : World} {m : MV} (L : List SRow) (h : MvOk w m) (A : Option Addr) (c : Nat) (hs : Sl w A c ((keptM L m).l.map sv)) : MvOk w { keptM L m with A := A, c := c } := by
  refine ⟨h.k, fun i => ?_, fun i => ?_, fun x hx => ?_, hs⟩
  · show (keptM L m).num i ≤ _
    by_cases c : i < 0 ∨ 6 ≤ i
    · rw [num_out _ _ c]; omega
    · obtain ⟨j, rfl⟩ : ∃ j : Nat, i = (j : Int) := ⟨i.toNat, by omega⟩
      rw [kept_num _ _ _ (by omega)]
      split
      · exact h.n _
      · omega
  · show ((keptM L m).text i).size ≤ _
    by_cases c : i < 0 ∨ 2 ≤ i
    · rw [text_out _ _ c]; decide
    · obtain ⟨j, rfl⟩ : ∃ j : Nat, i = (j : Int) := ⟨i.toNat, by omega⟩
      rw [kept_text _ _ _ (by omega)]
      split
      · exact h.s _
      · decide
  · have hx : x ∈ (keptM L m).l := hx
    rw [kept_l] at hx
    split at hx
    · exact h.e x hx
    · simp at hx
end Go.Proofs.Ytnfodgjihdoncaa
