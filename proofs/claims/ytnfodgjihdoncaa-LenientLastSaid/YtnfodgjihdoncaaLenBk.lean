/- A message behind the parts of another one; a message read may be: mathematics. -/
import Derived.Test.YtnfodgjihdoncaaLenM
import Derived.Test.YtnfodgjihdoncaaWoMath
set_option linter.unusedVariables false
namespace Go.Proofs.Ytnfodgjihdoncaa
open Go.RowKit
/-- What of a field counts. -/
def keyF (f : RF × Nat) : Int × Int × Nat × List UInt8 := (f.1.num, f.1.w, f.1.n, f.1.xs)
theorem decF_app {L : List SRow} : ∀ (l1 : List (RF × Nat)) (M : MV) (l2 : List (RF × Nat)), (decF L M l1).2.2.1 = 0 → decF L M (l1 ++ l2) = ((decF L (decF L M l1).1 l2).1, (decF L M l1).2.1 ++ (decF L (decF L M l1).1 l2).2.1, (decF L (decF L M l1).1 l2).2.2)
  | [], M, l2, _ => by simp [decF]
  | f :: l1, M, l2, h => by
    rw [List.cons_append]
    cases ho : ownR L f.1.num f.1.w with
    | none =>
      rw [decF_none ho] at h ⊢
      rw [decF_none ho, decF_app l1 M l2 h]
      simp
    | some r =>
      by_cases he : setE M (r.typ : Int) (r.slot : Int) (rfS f) = 0
      · rw [decF_ok ho he] at h ⊢
        rw [decF_ok ho he]
        exact decF_app l1 _ l2 h
      · rw [decF_bad ho he] at h
        exact absurd h he
theorem decF_app_bad {L : List SRow} : ∀ (l1 : List (RF × Nat)) (M : MV) (l2 : List (RF × Nat)), (decF L M l1).2.2.1 ≠ 0 → (decF L M (l1 ++ l2)).2.2 = (decF L M l1).2.2
  | [], M, l2, h => by simp [decF] at h
  | f :: l1, M, l2, h => by
    rw [List.cons_append]
    cases ho : ownR L f.1.num f.1.w with
    | none =>
      rw [decF_none ho] at h ⊢
      rw [decF_none ho]
      exact decF_app_bad l1 M l2 h
    | some r =>
      by_cases he : setE M (r.typ : Int) (r.slot : Int) (rfS f) = 0
      · rw [decF_ok ho he] at h ⊢
        rw [decF_ok ho he]
        exact decF_app_bad l1 _ l2 h
      · rw [decF_bad ho he, decF_bad ho he]
theorem find_uni {α : Type} {p : α → Bool} {r : α} : ∀ (L : List α), r ∈ L → p r = true → (∀ a ∈ L, p a = true → a = r) → L.find? p = some r
  | [], h, _, _ => by simp at h
  | x :: L, h, hp, hu => by
    rw [List.find?_cons]
    cases hx : p x with
    | true => rw [hu x (List.mem_cons_self ..) hx]
    | false =>
      rcases List.mem_cons.1 h with rfl | h
      · rw [hp] at hx; exact absurd hx (by simp)
      · exact find_uni L h hp fun a ha => hu a (List.mem_cons_of_mem _ ha)
theorem ofL_kindN {k v : Int} {r : SRow} (h : r ∈ ofL k v) : (r.kind : Int) = k := ((ofL_iff k v r).1 h).2.2.2
theorem own_in {k v : Int} {r : SRow} (h : r ∈ ofL k v) : ownR (ofL k v) (r.num : Int) ((wireN (r.typ : Int) : Nat) : Int) = some r := by
  unfold ownR
  refine find_uni _ h (by simp) fun a ha hp => ?_
  simp only [Bool.and_eq_true, decide_eq_true_eq] at hp
  have h1 := ofL_kindN ha
  have h2 := ofL_kindN h
  exact rows_uni a (ofL_mem _ _ ha) r (ofL_mem _ _ h) (by omega) (by omega)
theorem own_out {k v w : Int} {r : SRow} (hr : r ∈ ROWS) (hk : (r.kind : Int) = k) (h : r ∉ ofL k v) : ownR (ofL k v) (r.num : Int) w = none := by
  unfold ownR
  rw [List.find?_eq_none]
  intro a ha hp
  simp only [Bool.and_eq_true, decide_eq_true_eq] at hp
  have h1 := ofL_kindN ha
  have := rows_uni a (ofL_mem _ _ ha) r hr (by omega) (by omega)
  subst this
  exact h ha
theorem own_big {k v w num : Int} (h : num < 1 ∨ 7 < num) : ownR (ofL k v) num w = none := by
  unfold ownR
  rw [List.find?_eq_none]
  intro a ha hp
  simp only [Bool.and_eq_true, decide_eq_true_eq] at hp
  have := row_num (ofL_mem _ _ ha)
  omega
theorem own_mem {k v num w : Int} {r : SRow} (h : ownR (ofL k v) num w = some r) : r ∈ ofL k v ∧ (r.num : Int) = num ∧ ((wireN (r.typ : Int) : Nat) : Int) = w := by
  unfold ownR at h
  have h1 := List.mem_of_find?_eq_some h
  have h2 := List.find?_some h
  simp only [Bool.and_eq_true, decide_eq_true_eq] at h2
  exact ⟨h1, h2.1, h2.2⟩
/-- Fields that belong to none are passed over. -/
theorem decF_pass {L : List SRow} (M : MV) : ∀ (l : List (RF × Nat)), (∀ f ∈ l, ownR L f.1.num f.1.w = none) → decF L M l = (M, l, 0, 0)
  | [], _ => rfl
  | f :: l, h => by
    rw [decF_none (h f (List.mem_cons_self ..)), decF_pass M l fun g hg => h g (List.mem_cons_of_mem _ hg)]
def up (c : Bool) (x y : Nat) : Nat := if c = true ∧ x ≠ 0 then x else y
def us (c : Bool) (x y : ByteArray) : ByteArray := if c = true ∧ x ≠ ⟨#[]⟩ then x else y
/-- A message behind another one's rows. -/
def updM (P : List SRow) (S b : MV) : MV := { S with n0 := up (mkN P 0) b.n0 S.n0, n1 := up (mkN P 1) b.n1 S.n1, n2 := up (mkN P 2) b.n2 S.n2, n3 := up (mkN P 3) b.n3 S.n3, n4 := up (mkN P 4) b.n4 S.n4, n5 := up (mkN P 5) b.n5 S.n5, s0 := us (mkS P 0) b.s0 S.s0, s1 := us (mkS P 1) b.s1 S.s1, l := if mkL P then S.l ++ b.l else S.l }
theorem up_false (x y : Nat) : up false x y = y := by unfold up; simp
theorem us_false (x y : ByteArray) : us false x y = y := by unfold us; simp
theorem up_set {x : Nat} (h : x ≠ 0) (y : Nat) : up true x y = x := by unfold up; simp [h]
theorem us_set {x : ByteArray} (h : x ≠ ⟨#[]⟩) (y : ByteArray) : us true x y = x := by unfold us; simp [h]
theorem up_zero (c : Bool) (y : Nat) : up c 0 y = y := by unfold up; simp
theorem us_zero (c : Bool) (y : ByteArray) : us c ⟨#[]⟩ y = y := by unfold us; simp
theorem mkN_ap (P Q : List SRow) (i : Nat) : mkN (P ++ Q) i = (mkN P i || mkN Q i) := by unfold mkN; rw [List.any_append]
theorem mkS_ap (P Q : List SRow) (i : Nat) : mkS (P ++ Q) i = (mkS P i || mkS Q i) := by unfold mkS; rw [List.any_append]
theorem mkL_ap (P Q : List SRow) : mkL (P ++ Q) = (mkL P || mkL Q) := by unfold mkL; rw [List.any_append]
theorem mkN_one (r : SRow) (i : Nat) : mkN [r] i = decide (r.typ ≤ 6 ∧ r.slot = i) := by unfold mkN; simp
theorem mkS_one (r : SRow) (i : Nat) : mkS [r] i = decide ((7 ≤ r.typ ∧ r.typ ≤ 9) ∧ r.slot = i) := by unfold mkS; simp
theorem mkL_one (r : SRow) : mkL [r] = decide (r.typ = 10) := by unfold mkL; simp
theorem up_same (c d : Bool) (x y : Nat) (h : d = true → x = 0) : up (c || d) x y = up c x y := by
  cases d with
  | false => simp
  | true => rw [h rfl, up_zero, up_zero]
theorem us_same (c d : Bool) (x y : ByteArray) (h : d = true → x = ⟨#[]⟩) : us (c || d) x y = us c x y := by
  cases d with
  | false => simp
  | true => rw [h rfl, us_zero, us_zero]
/-- A row of which the other message has nothing changes nothing. -/
theorem upd_dfl (P : List SRow) (S b : MV) {r : SRow} (hr : r ∈ ROWS) (h : dflB b (r.typ : Nat) (r.slot : Nat) = true) : updM (P ++ [r]) S b = updM P S b := by
  have hk := row_num hr
  obtain ⟨rk, si, nu, ty, sl⟩ := r
  simp only at hk h
  unfold dflB at h
  have h1 : ∀ i : Nat, mkN [⟨rk, si, nu, ty, sl⟩] i = true → b.num (i : Int) = 0 := fun i hi => by
    rw [mkN_one] at hi
    simp only [decide_eq_true_eq] at hi
    rw [if_pos (by omega)] at h
    rw [← hi.2]; simpa using h
  have h2 : ∀ i : Nat, mkS [⟨rk, si, nu, ty, sl⟩] i = true → b.text (i : Int) = ⟨#[]⟩ := fun i hi => by
    rw [mkS_one] at hi
    simp only [decide_eq_true_eq] at hi
    rw [if_neg (by omega), if_pos (by omega)] at h
    rw [← hi.2]; simpa using h
  have h3 : mkL [⟨rk, si, nu, ty, sl⟩] = true → b.l = [] := fun hi => by
    rw [mkL_one] at hi
    simp only [decide_eq_true_eq] at hi
    rw [if_neg (by omega), if_neg (by omega), if_pos (by omega)] at h
    simpa using h
  unfold updM
  rw [mkN_ap, mkN_ap, mkN_ap, mkN_ap, mkN_ap, mkN_ap, mkS_ap, mkS_ap, mkL_ap]
  rw [up_same _ _ b.n0 _ (h1 0), up_same _ _ b.n1 _ (h1 1), up_same _ _ b.n2 _ (h1 2), up_same _ _ b.n3 _ (h1 3), up_same _ _ b.n4 _ (h1 4), up_same _ _ b.n5 _ (h1 5), us_same _ _ b.s0 _ (h2 0), us_same _ _ b.s1 _ (h2 1)]
  congr 1
  cases hm : mkL [⟨rk, si, nu, ty, sl⟩] with
  | false => simp
  | true => rw [h3 hm]; simp
theorem upd_n (P : List SRow) (S b : MV) {r : SRow} (h6 : r.typ ≤ 6) (hs : r.slot ≤ 5) (hd : b.num (r.slot : Int) ≠ 0) : (updM P S b).setN (r.slot : Int) (b.num (r.slot : Int)) = updM (P ++ [r]) S b := by
  obtain ⟨rk, si, nu, ty, sl⟩ := r
  simp only at h6 hs hd ⊢
  unfold updM MV.setN
  rw [mkN_ap, mkN_ap, mkN_ap, mkN_ap, mkN_ap, mkN_ap, mkS_ap, mkS_ap, mkL_ap]
  rw [mkN_one, mkN_one, mkN_one, mkN_one, mkN_one, mkN_one, mkS_one, mkS_one, mkL_one]
  simp only [h6, true_and, show ¬ (7 ≤ ty ∧ ty ≤ 9) by omega, show ¬ ty = 10 by omega, false_and, decide_false, Bool.or_false]
  have hcs : sl = 0 ∨ sl = 1 ∨ sl = 2 ∨ sl = 3 ∨ sl = 4 ∨ sl = 5 := by omega
  rcases hcs with rfl | rfl | rfl | rfl | rfl | rfl
  all_goals
    first
      | (have hd' : b.n0 ≠ 0 := hd; simp [up, hd', MV.num])
      | (have hd' : b.n1 ≠ 0 := hd; simp [up, hd', MV.num])
      | (have hd' : b.n2 ≠ 0 := hd; simp [up, hd', MV.num])
      | (have hd' : b.n3 ≠ 0 := hd; simp [up, hd', MV.num])
      | (have hd' : b.n4 ≠ 0 := hd; simp [up, hd', MV.num])
      | (have hd' : b.n5 ≠ 0 := hd; simp [up, hd', MV.num])
theorem upd_s (P : List SRow) (S b : MV) {r : SRow} (h7 : 7 ≤ r.typ) (h9 : r.typ ≤ 9) (hs : r.slot ≤ 1) (hd : b.text (r.slot : Int) ≠ ⟨#[]⟩) : (updM P S b).setS (r.slot : Int) (b.text (r.slot : Int)) = updM (P ++ [r]) S b := by
  obtain ⟨rk, si, nu, ty, sl⟩ := r
  simp only at h7 h9 hs hd ⊢
  unfold updM MV.setS
  rw [mkN_ap, mkN_ap, mkN_ap, mkN_ap, mkN_ap, mkN_ap, mkS_ap, mkS_ap, mkL_ap]
  rw [mkN_one, mkN_one, mkN_one, mkN_one, mkN_one, mkN_one, mkS_one, mkS_one, mkL_one]
  simp only [show ¬ ty ≤ 6 by omega, show (7 ≤ ty ∧ ty ≤ 9) by omega, show ¬ ty = 10 by omega, false_and, true_and, decide_false, Bool.or_false]
  have hcs : sl = 0 ∨ sl = 1 := by omega
  rcases hcs with rfl | rfl
  all_goals
    first
      | (have hd' : b.s0 ≠ ⟨#[]⟩ := hd; simp [us, hd', MV.text])
      | (have hd' : b.s1 ≠ ⟨#[]⟩ := hd; simp [us, hd', MV.text])
theorem zagU_zig {n : Nat} (h : n ≤ 18446744073709551615) : zagU (zig (wrap64 (n : Int))).toNat = n := by
  unfold zagU zig wrap64
  split <;> split <;> omega
theorem numV_part {b : MV} {t i : Int} {n : Nat} (ht : 1 ≤ t ∧ t ≤ 6) (hn : b.num i ≤ 18446744073709551615) (hw : wrongE b t i = 0) (h : n = if t = 3 then (zig (wrap64 (b.num i : Nat))).toNat else b.num i) : numV t n = b.num i := by
  unfold wrongE at hw
  unfold numV
  subst h
  by_cases h1 : t = 1
  · subst h1
    rw [if_pos (by omega)] at hw
    have : b.num i ≤ 4294967295 := by
      by_cases c : 4294967295 < b.num i
      · rw [if_pos c] at hw; simp at hw
      · omega
    simp only [if_true]
    rw [if_neg (by decide)]
    omega
  · rw [if_neg h1]
    by_cases h4 : t = 4
    · subst h4
      rw [if_neg (by omega), if_pos rfl] at hw
      have : b.num i ≤ 1 := by
        by_cases c : 1 < b.num i
        · rw [if_pos c] at hw; simp at hw
        · omega
      simp only [if_true]
      rw [if_neg (show ¬ (4 : Int) = 3 by decide)]
      split <;> omega
    · rw [if_neg h4]
      by_cases h3 : t = 3
      · rw [if_pos h3, if_pos h3]; exact zagU_zig hn
      · rw [if_neg h3, if_neg h3]
theorem rfS_of {f : RF × Nat} {s : ByteArray} (h : f.1.xs = s.data.toList) : rfS f = s := ba_inj (by unfold rfS; rw [h])
theorem plB_num {t i : Nat} (h1 : 1 ≤ t) (h6 : t ≤ 6) (hi : i ≤ 5) : plB (t : Int) (i : Int) = true := by
  unfold plB; rw [decide_eq_true (by omega)]; rfl
theorem plB_text {t i : Nat} (h7 : 7 ≤ t) (h9 : t ≤ 9) (hi : i ≤ 1) : plB (t : Int) (i : Int) = true := by
  unfold plB; rw [decide_eq_true (p := ((7 ≤ (t : Int) ∧ (t : Int) ≤ 9) ∧ 0 ≤ (i : Int) ∧ (i : Int) < 2)) (by omega)]; simp
theorem plB_list (i : Int) : plB 10 i = true := by unfold plB; simp
/-- Texts of a list, one behind the other. -/
theorem up_list {L : List SRow} {r : SRow} (ht : r.typ = 10) (ho : ownR L (r.num : Int) 2 = some r) (X : MV) : ∀ (bl : List ByteArray) (pre : List ByteArray) (l : List (RF × Nat)), l.map keyF = bl.map (fun s => ((r.num : Int), (2 : Int), 0, s.data.toList)) → (∀ s ∈ bl, chk s 64 = 0) → X.l.length + pre.length + bl.length ≤ 64 → decF L { X with l := X.l ++ pre } l = ({ X with l := X.l ++ (pre ++ bl) }, [], 0, 0)
  | [], pre, l, hl, _, _ => by
    have : l = [] := by simpa using hl
    subst this
    simp [decF]
  | s :: bl, pre, [], hl, _, _ => by simp at hl
  | s :: bl, pre, f :: l, hl, hc, hn => by
    simp only [List.map_cons, List.cons.injEq] at hl
    obtain ⟨hf, hl⟩ := hl
    unfold keyF at hf
    simp only [Prod.mk.injEq] at hf
    have hs := rfS_of hf.2.2.2
    have ho' : ownR L f.1.num f.1.w = some r := by rw [hf.1, hf.2.1]; exact ho
    have hlen : (X.l ++ pre).length < 64 := by simp only [List.length_cons, List.length_append] at hn ⊢; omega
    have he : setE { X with l := X.l ++ pre } (r.typ : Int) (r.slot : Int) (rfS f) = 0 := by
      unfold setE
      rw [ht, hs, if_neg (by rw [show ((10 : Nat) : Int) = 10 from rfl, plB_list]; simp), if_neg (by decide), if_neg (by decide), if_neg (by simp only; omega)]
      exact hc s (List.mem_cons_self ..)
    rw [decF_ok ho' he]
    have hm : setM { X with l := X.l ++ pre } (r.typ : Int) (r.slot : Int) f.1.n (rfS f) = { X with l := X.l ++ (pre ++ [s]) } := by
      unfold setM
      rw [he, if_neg (by simp), ht, if_neg (by decide), if_neg (by decide), hs]
      simp
    rw [hm, up_list ht ho X bl (pre ++ [s]) l hl (fun x hx => hc x (List.mem_cons_of_mem _ hx)) (by simp only [List.length_cons, List.length_append, List.length_nil] at hn ⊢; omega)]
    simp
/-- Texts of a list beyond 64. -/
theorem up_list_long {L : List SRow} {r : SRow} (ht : r.typ = 10) (ho : ownR L (r.num : Int) 2 = some r) (X : MV) : ∀ (bl : List ByteArray) (pre : List ByteArray) (l : List (RF × Nat)), l.map keyF = bl.map (fun s => ((r.num : Int), (2 : Int), 0, s.data.toList)) → (∀ s ∈ bl, chk s 64 = 0) → X.l.length + pre.length ≤ 64 → 64 < X.l.length + pre.length + bl.length → (decF L { X with l := X.l ++ pre } l).2.2.1 = 2
  | [], pre, l, hl, _, h1, h2 => by simp only [List.length_nil] at h2; omega
  | s :: bl, pre, [], hl, _, _, _ => by simp at hl
  | s :: bl, pre, f :: l, hl, hc, h1, h2 => by
    simp only [List.map_cons, List.cons.injEq] at hl
    obtain ⟨hf, hl⟩ := hl
    unfold keyF at hf
    simp only [Prod.mk.injEq] at hf
    have hs := rfS_of hf.2.2.2
    have ho' : ownR L f.1.num f.1.w = some r := by rw [hf.1, hf.2.1]; exact ho
    by_cases hlen : (X.l ++ pre).length < 64
    · have he : setE { X with l := X.l ++ pre } (r.typ : Int) (r.slot : Int) (rfS f) = 0 := by
        unfold setE
        rw [ht, hs, if_neg (by rw [show ((10 : Nat) : Int) = 10 from rfl, plB_list]; simp), if_neg (by decide), if_neg (by decide), if_neg (by simp only; omega)]
        exact hc s (List.mem_cons_self ..)
      rw [decF_ok ho' he]
      have hm : setM { X with l := X.l ++ pre } (r.typ : Int) (r.slot : Int) f.1.n (rfS f) = { X with l := X.l ++ (pre ++ [s]) } := by
        unfold setM
        rw [he, if_neg (by simp), ht, if_neg (by decide), if_neg (by decide), hs]
        simp
      rw [hm]
      exact up_list_long ht ho X bl (pre ++ [s]) l hl (fun x hx => hc x (List.mem_cons_of_mem _ hx)) (by simp only [List.length_cons, List.length_append, List.length_nil] at hlen ⊢; omega) (by simp only [List.length_cons, List.length_append, List.length_nil] at h2 ⊢; omega)
    · have he : setE { X with l := X.l ++ pre } (r.typ : Int) (r.slot : Int) (rfS f) = 2 := by
        unfold setE
        rw [ht, if_neg (by rw [show ((10 : Nat) : Int) = 10 from rfl, plB_list]; simp), if_neg (by decide), if_neg (by decide), if_pos (by simp only; omega)]
      rw [decF_bad ho' (by rw [he]; decide), he]
theorem fldE_wrong {b : MV} {r : SRow} (h : fldE b r = 0) (hd : dflB b (r.typ : Nat) (r.slot : Nat) = false) : wrongE b (r.typ : Nat) (r.slot : Nat) = 0 := by
  unfold fldE at h
  rw [hd] at h
  simpa using h
/-- A row's list texts may be. -/
theorem fldE_list {b : MV} {r : SRow} (ht : r.typ = 10) (h : fldE b r = 0) : b.l.length ≤ 64 ∧ ∀ s ∈ b.l, chk s 64 = 0 := by
  cases hd : dflB b (r.typ : Nat) (r.slot : Nat) with
  | true =>
    unfold dflB at hd
    rw [ht, if_neg (by omega), if_neg (by omega), if_pos (by omega)] at hd
    have : b.l = [] := by simpa using hd
    rw [this]; simp
  | false =>
    have hw := fldE_wrong h hd
    unfold wrongE at hw
    rw [ht, if_neg (by omega), if_neg (by omega), if_neg (by omega), if_pos (by omega)] at hw
    exact lstE_each hw
/-- A message behind one row of another one. -/
theorem up_row {k o : Int} {b S : MV} {P : List SRow} {r : SRow} (hr : r ∈ ofL k o) (hP : r.typ = 10 → mkL P = false) (hf : fldE b r = 0) (hn : ∀ i, b.num i ≤ 18446744073709551615) (hlen : r.typ = 10 → S.l.length + b.l.length ≤ 64) {l : List (RF × Nat)} (hl : l.map keyF = rowP b r) :
    decF (ofL k o) (updM P S b) l = (updM (P ++ [r]) S b, [], 0, 0) := by
  have hR := ofL_mem _ _ hr
  have hk := row_num hR
  have hs := row_slot hR
  have ho := own_in hr
  cases hd : dflB b (r.typ : Nat) (r.slot : Nat) with
  | true =>
    unfold rowP at hl
    rw [hd] at hl
    have : l = [] := by simpa using hl
    subst this
    rw [upd_dfl P S b hR hd]
    rfl
  | false =>
    have hw := fldE_wrong hf hd
    unfold rowP at hl
    rw [hd] at hl
    simp only [Bool.false_eq_true, if_false] at hl
    unfold partW at hl
    unfold dflB at hd
    by_cases h6 : r.typ ≤ 6
    · rw [if_neg (by omega), if_neg (by omega)] at hl
      rw [if_pos (by omega)] at hd
      have hd' : b.num (r.slot : Int) ≠ 0 := by simpa using hd
      have key : ∃ f, l = [f] ∧ f.1.num = (r.num : Int) ∧ f.1.w = ((wireN (r.typ : Int) : Nat) : Int) ∧ f.1.n = if ((r.typ : Nat) : Int) = 3 then (zig (wrap64 (b.num (r.slot : Int) : Nat))).toNat else b.num (r.slot : Int) := by
        by_cases h3 : ((r.typ : Nat) : Int) = 3
        · rw [if_pos h3] at hl
          cases l with
          | nil => simp at hl
          | cons f l =>
            simp only [List.map_cons, List.cons.injEq, List.map_eq_nil_iff] at hl
            obtain ⟨hf, rfl⟩ := hl
            unfold keyF at hf
            simp only [Prod.mk.injEq] at hf
            refine ⟨f, rfl, hf.1, ?_, by rw [if_pos h3]; exact hf.2.2.1⟩
            rw [hf.2.1, h3]; rfl
        · rw [if_neg h3] at hl
          cases l with
          | nil => simp at hl
          | cons f l =>
            simp only [List.map_cons, List.cons.injEq, List.map_eq_nil_iff] at hl
            obtain ⟨hf, rfl⟩ := hl
            unfold keyF at hf
            simp only [Prod.mk.injEq] at hf
            exact ⟨f, rfl, hf.1, hf.2.1, by rw [if_neg h3]; exact hf.2.2.1⟩
      obtain ⟨f, rfl, a1, a2, a3⟩ := key
      have ho' : ownR (ofL k o) f.1.num f.1.w = some r := by rw [a1, a2]; exact ho
      have he : setE (updM P S b) (r.typ : Int) (r.slot : Int) (rfS f) = 0 := by
        unfold setE
        rw [plB_num hk.2.2.1 h6 hs.1, if_neg (by simp), if_pos (by omega)]
      have hm : setM (updM P S b) (r.typ : Int) (r.slot : Int) f.1.n (rfS f) = updM (P ++ [r]) S b := by
        unfold setM
        rw [he, if_neg (by simp), if_pos (by omega), numV_part (by omega) (hn _) hw a3]
        exact upd_n P S b h6 hs.1 hd'
      rw [decF_ok ho' he, hm]
      rfl
    · by_cases h9 : r.typ ≤ 9
      · rw [if_neg (by omega), if_pos (by omega)] at hl
        rw [if_neg (by omega), if_pos (by omega)] at hd
        have hd' : b.text (r.slot : Int) ≠ ⟨#[]⟩ := by simpa using hd
        cases l with
        | nil => simp at hl
        | cons f l =>
          simp only [List.map_cons, List.cons.injEq, List.map_eq_nil_iff] at hl
          obtain ⟨hkf, rfl⟩ := hl
          unfold keyF at hkf
          simp only [Prod.mk.injEq] at hkf
          have hwn : ((wireN (r.typ : Int) : Nat) : Int) = 2 := by unfold wireN; rw [if_neg (by omega), if_neg (by omega), if_pos (by omega)]; rfl
          have ho' : ownR (ofL k o) f.1.num f.1.w = some r := by rw [hkf.1, hkf.2.1, ← hwn]; exact ho
          have hsx := rfS_of hkf.2.2.2
          unfold wrongE at hw
          rw [if_neg (by omega), if_neg (by omega), if_pos (by omega)] at hw
          have he : setE (updM P S b) (r.typ : Int) (r.slot : Int) (rfS f) = 0 := by
            unfold setE
            rw [plB_text (by omega) h9 (hs.2 (by omega) h9), if_neg (by simp), if_neg (by omega), if_pos (by omega), hsx]
            exact hw
          have hm : setM (updM P S b) (r.typ : Int) (r.slot : Int) f.1.n (rfS f) = updM (P ++ [r]) S b := by
            unfold setM
            rw [he, if_neg (by simp), if_neg (by omega), if_pos (by omega), hsx]
            exact upd_s P S b (by omega) h9 (hs.2 (by omega) h9) hd'
          rw [decF_ok ho' he, hm]
          rfl
      · have h10 : r.typ = 10 := by omega
        rw [if_pos (by omega)] at hl
        have hx := fldE_list h10 hf
        have hwn : ((wireN (r.typ : Int) : Nat) : Int) = 2 := by unfold wireN; rw [if_neg (by omega), if_neg (by omega), if_pos (by omega)]; rfl
        rw [hwn] at ho
        have hmp := hP h10
        have e1 : updM P S b = { updM P S b with l := (updM P S b).l ++ [] } := by simp
        have e2 : (updM P S b).l = S.l := by unfold updM; simp [hmp]
        rw [e1, up_list h10 ho (updM P S b) b.l [] l hl hx.2 (by rw [e2]; simpa using hlen h10), e2]
        have e3 : updM (P ++ [r]) S b = { updM P S b with l := S.l ++ ([] ++ b.l) } := by
          unfold updM
          rw [mkN_ap, mkN_ap, mkN_ap, mkN_ap, mkN_ap, mkN_ap, mkS_ap, mkS_ap, mkL_ap]
          rw [mkN_one, mkN_one, mkN_one, mkN_one, mkN_one, mkN_one, mkS_one, mkS_one, mkL_one]
          simp [h10]
        rw [e3]
theorem keys_app {l : List (RF × Nat)} {a b : List (Int × Int × Nat × List UInt8)} (h : l.map keyF = a ++ b) : ∃ l1 l2, l = l1 ++ l2 ∧ l1.map keyF = a ∧ l2.map keyF = b := by
  obtain ⟨l1, l2, h1, h2, h3⟩ := List.map_eq_append_iff.1 h
  exact ⟨l1, l2, h1, h2, h3⟩
theorem lists_uni {a b : SRow} (ha : a ∈ ROWS) (hb : b ∈ ROWS) (hk : a.kind = b.kind) (h1 : a.typ = 10) (h2 : b.typ = 10) : a = b := by
  have h := List.all_eq_true.1 (List.all_eq_true.1 (show (ROWS.all fun a => ROWS.all fun b => !(decide (a.kind = b.kind) && decide (a.typ = 10) && decide (b.typ = 10)) || decide (a = b)) = true by decide +kernel) a ha) b hb
  rw [decide_eq_true hk, decide_eq_true h1, decide_eq_true h2] at h
  simpa using h
theorem mkL_no {k v : Int} {P : List SRow} {r : SRow} (hP : ∀ p ∈ P, p ∈ ofL k v) (hr : r ∈ ofL k v) (hn : r ∉ P) (h10 : r.typ = 10) : mkL P = false := by
  unfold mkL
  rw [List.any_eq_false]
  intro p hp h
  simp only [decide_eq_true_eq] at h
  have h1 := ofL_kindN (hP p hp)
  have h2 := ofL_kindN hr
  have := lists_uni (ofL_mem _ _ (hP p hp)) (ofL_mem _ _ hr) (by omega) h h10
  subst this
  exact hn hp
theorem rowP_key {b : MV} {r : SRow} (hR : r ∈ ROWS) {x : Int × Int × Nat × List UInt8} (hx : x ∈ rowP b r) : x.1 = (r.num : Int) := by
  unfold rowP at hx
  split at hx
  · simp at hx
  · unfold partW at hx
    split at hx
    · obtain ⟨s, -, rfl⟩ := List.mem_map.1 hx; rfl
    · split at hx
      · rw [List.mem_singleton] at hx; rw [hx]
      · split at hx
        · rw [List.mem_singleton] at hx; rw [hx]
        · rw [List.mem_singleton] at hx; rw [hx]
/-- A message behind the rows of another one, of which some are known. -/
theorem up_gen {k o : Int} {b S : MV} (hn : ∀ i, b.num i ≤ 18446744073709551615) (hlen : S.l.length + b.l.length ≤ 64) : ∀ (R P : List SRow), (∀ r ∈ R, r ∈ ROWS ∧ (r.kind : Int) = k ∧ fldE b r = 0) → (∀ p ∈ P, p ∈ ofL k o) → (P ++ R).Nodup → ∀ (l : List (RF × Nat)), l.map keyF = allP b R →
    ∃ oth : List (RF × Nat), decF (ofL k o) (updM P S b) l = (updM (P ++ R.filter fun r => decide (r ∈ ofL k o)) S b, oth, 0, 0) ∧ oth.map keyF = allP b (R.filter fun r => decide (r ∉ ofL k o))
  | [], P, _, _, _, l, hl => by
    have : l = [] := by simpa [allP] using hl
    subst this
    exact ⟨[], by simp [decF], by simp [allP]⟩
  | r :: R, P, hR, hP, hnd, l, hl => by
    have hr := hR r (List.mem_cons_self ..)
    have hl' : l.map keyF = rowP b r ++ allP b R := by rw [hl]; rfl
    obtain ⟨l1, l2, rfl, h1, h2⟩ := keys_app hl'
    by_cases hin : r ∈ ofL k o
    · have hnP : r ∉ P := fun h => by
        have := (List.nodup_append.1 hnd).2.2 r h r (List.mem_cons_self ..)
        exact this rfl
      have e1 := up_row (S := S) (P := P) hin (fun h10 => mkL_no hP hin hnP h10) hr.2.2 hn (fun _ => hlen) h1
      obtain ⟨oth, e2, e3⟩ := up_gen (S := S) hn hlen R (P ++ [r]) (fun q hq => hR q (List.mem_cons_of_mem _ hq)) (fun p hp => by rcases List.mem_append.1 hp with h | h; exact hP p h; rw [List.mem_singleton] at h; rw [h]; exact hin) (by rw [List.append_assoc]; exact hnd) l2 h2
      refine ⟨oth, ?_, ?_⟩
      · rw [decF_app l1 _ l2 (by rw [e1]), e1]
        simp only
        rw [e2, List.filter_cons_of_pos (by simpa using hin)]
        simp
      · rw [List.filter_cons_of_neg (by simpa using hin)]
        exact e3
    · have hall : ∀ f ∈ l1, ownR (ofL k o) f.1.num f.1.w = none := fun f hf => by
        have hx : keyF f ∈ rowP b r := by rw [← h1]; exact List.mem_map_of_mem hf
        have := rowP_key hr.1 hx
        unfold keyF at this
        simp only at this
        rw [this]
        exact own_out hr.1 hr.2.1 hin
      have e1 := decF_pass (updM P S b) l1 hall
      obtain ⟨oth, e2, e3⟩ := up_gen (S := S) hn hlen R P (fun q hq => hR q (List.mem_cons_of_mem _ hq)) hP (by rw [List.nodup_append] at hnd ⊢; exact ⟨hnd.1, (List.nodup_cons.1 hnd.2.1).2, fun a ha c hc => hnd.2.2 a ha c (List.mem_cons_of_mem _ hc)⟩) l2 h2
      refine ⟨l1 ++ oth, ?_, ?_⟩
      · rw [decF_app l1 _ l2 (by rw [e1]), e1]
        simp only
        rw [e2, List.filter_cons_of_neg (by simpa using hin)]
      · rw [List.map_append, h1, e3, List.filter_cons_of_pos (by simpa using hin)]
        rfl
theorem up_nil (S b : MV) : updM [] S b = S := by
  unfold updM mkN mkS mkL
  simp [up_false, us_false]
end Go.Proofs.Ytnfodgjihdoncaa
