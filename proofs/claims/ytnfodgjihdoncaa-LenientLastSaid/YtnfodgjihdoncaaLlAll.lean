/- A message behind another one: mathematics. · The walk of LenientLast. -/
import Derived.Test.YtnfodgjihdoncaaFixMath
import Derived.Test.YtnfodgjihdoncaaLive11
import Derived.Test.YtnfodgjihdoncaaStrDec
import Derived.Test.YtnfodgjihdoncaaV3
import Derived.Test.YtnfodgjihdoncaaRegInvB
import Derived.Test.YtnfodgjihdoncaaM5
set_option linter.unusedVariables false
namespace Go.Proofs.Ytnfodgjihdoncaa
open Go.RowKit
theorem rowP_nol {b : MV} {r : SRow} (hr : r ∈ ROWS) (h : r.typ ≠ 10) : rowP { b with l := [] } r = rowP b r := rowP_keep hr (fun _ => rfl) (fun _ _ => rfl) (fun h10 => absurd h10 h)
theorem fldE_nol {b : MV} {r : SRow} (h : r.typ ≠ 10) (hf : fldE b r = 0) : fldE { b with l := [] } r = 0 := by
  unfold fldE at hf ⊢
  have e1 : dflB { b with l := [] } (r.typ : Nat) (r.slot : Nat) = dflB b (r.typ : Nat) (r.slot : Nat) := by
    unfold dflB
    rw [if_neg (show ¬ ((r.typ : Nat) : Int) = 10 by omega), if_neg (show ¬ ((r.typ : Nat) : Int) = 10 by omega)]
    rfl
  have e2 : wrongE { b with l := [] } (r.typ : Nat) (r.slot : Nat) = wrongE b (r.typ : Nat) (r.slot : Nat) := by
    unfold wrongE
    rw [if_neg (show ¬ ((r.typ : Nat) : Int) = 10 by omega), if_neg (show ¬ ((r.typ : Nat) : Int) = 10 by omega)]
    rfl
  rw [e1, e2]; exact hf
theorem allP_nol {b : MV} : ∀ (L : List SRow), (∀ r ∈ L, r ∈ ROWS ∧ r.typ ≠ 10) → allP { b with l := [] } L = allP b L
  | [], _ => rfl
  | r :: L, h => by
    have ih := allP_nol (b := b) L fun q hq => h q (List.mem_cons_of_mem _ hq)
    unfold allP at ih ⊢
    rw [List.flatMap_cons, List.flatMap_cons, ih, rowP_nol (h r (List.mem_cons_self ..)).1 (h r (List.mem_cons_self ..)).2]
/-- Two messages' lists, one behind the other, may be too long. -/
theorem up_long {k v : Int} {b S : MV} (hn : ∀ i, b.num i ≤ 18446744073709551615) (hS : S.l.length ≤ 64) (hlen : 64 < S.l.length + b.l.length) (hE : ∀ r ∈ ofL k v, fldE b r = 0) (hnd : (ofL k v).Nodup) (hm : mkL (ofL k v) = true) (l : List (RF × Nat)) (hl : l.map keyF = allP b (ofL k v)) : (decF (ofL k v) S l).2.2.1 = 2 := by
  unfold mkL at hm
  obtain ⟨r, hr, h10⟩ := List.any_eq_true.1 hm
  simp only [decide_eq_true_eq] at h10
  obtain ⟨P, Q, hPQ⟩ := List.append_of_mem hr
  have hmem : ∀ p, p ∈ P ∨ p ∈ r :: Q → p ∈ ofL k v := fun p hp => by rw [hPQ]; exact List.mem_append.2 hp
  have hnp : ∀ p ∈ P, p.typ ≠ 10 := fun p hp h => by
    have := lists_uni (ofL_mem _ _ (hmem p (.inl hp))) (ofL_mem _ _ hr) (by have h1 := ofL_kindN (hmem p (.inl hp)); have h2 := ofL_kindN hr; omega) h h10
    subst this
    rw [hPQ] at hnd
    exact (List.nodup_append.1 hnd).2.2 p hp p (List.mem_cons_self ..) rfl
  have e0 : allP b (ofL k v) = allP b P ++ (rowP b r ++ allP b Q) := by rw [hPQ]; unfold allP; simp
  rw [e0] at hl
  obtain ⟨l1, l23, rfl, h1, h23⟩ := keys_app hl
  obtain ⟨l2, l3, rfl, h2, h3⟩ := keys_app h23
  have hn0 : ∀ i, ({ b with l := [] } : MV).num i ≤ 18446744073709551615 := hn
  obtain ⟨oth, d1, d2⟩ := up_gen (k := k) (o := v) (b := { b with l := [] }) (S := S) hn0 (by simpa using hS) P [] (fun p hp => ⟨ofL_mem _ _ (hmem p (.inl hp)), ofL_kindN (hmem p (.inl hp)), fldE_nol (hnp p hp) (hE p (hmem p (.inl hp)))⟩) (fun p hp => by simp at hp) (by rw [hPQ] at hnd; simpa using (List.nodup_append.1 hnd).1) l1 (by rw [h1, allP_nol P fun p hp => ⟨ofL_mem _ _ (hmem p (.inl hp)), hnp p hp⟩])
  rw [up_nil, List.nil_append] at d1
  rw [decF_app l1 S (l2 ++ l3) (by rw [d1]), d1]
  simp only
  obtain ⟨X, hX⟩ : ∃ X, updM (P.filter fun r => decide (r ∈ ofL k v)) S { b with l := [] } = X := ⟨_, rfl⟩
  have hXl : X.l = S.l := by
    rw [← hX]; unfold updM
    show (if mkL _ then S.l ++ ([] : List ByteArray) else S.l) = S.l
    split <;> simp
  rw [hX]
  have ho := own_in hr
  rw [wireN_text (by omega) (by omega)] at ho
  have hc := (fldE_list h10 (hE r hr)).2
  have hlong := up_list_long h10 ho X b.l [] l2 (by rw [h2, rowP_list h10]) hc (by rw [hXl]; simpa using hS) (by rw [hXl]; simpa using hlen)
  rw [List.append_nil] at hlong
  have := decF_app_bad l2 { X with l := X.l } l3 (by rw [hlong]; decide)
  rw [show ({ X with l := X.l } : MV) = X from rfl] at this hlong
  rw [this, hlong]
theorem two_keys {a b : MV} (k : Nat) (v : Int) (hna : ∀ i, a.num i ≤ 18446744073709551615) (hnb : ∀ i, b.num i ≤ 18446744073709551615) (hsa : MvSm a) (hsb : MvSm b) (ca : (chkV a (ofL (k : Int) v)).1 = 0) (cb : (chkV b (ofL (k : Int) v)).1 = 0) :
    ∃ l1 l2, flds (encB a (ofL (k : Int) v) ++ encB b (ofL (k : Int) v)) (encB a (ofL (k : Int) v) ++ encB b (ofL (k : Int) v)).length 0 = (l1 ++ l2, 0, 0) ∧ l1.map keyF = allP a (ofL (k : Int) v) ∧ l2.map keyF = allP b (ofL (k : Int) v) := by
  have hL : ∀ r ∈ ofL (k : Int) v, r ∈ ROWS := fun r hr => ofL_mem _ _ hr
  rw [encB_allP hsa hL ca, encB_allP hsb hL cb, ← List.flatMap_append]
  have hok : ∀ x ∈ allP a (ofL (k : Int) v) ++ allP b (ofL (k : Int) v), pErrF (ptF x) = 0 ∧ (ptF x).n ≤ 18446744073709551615 ∧ 0 ≤ (ptF x).w ∧ (ptF x).w ≤ 255 := fun x hx => by
    rcases List.mem_append.1 hx with hx | hx
    · obtain ⟨r, hr, hp⟩ := allP_ok hna hsa hL hx
      exact hp.put (hL r hr)
    · obtain ⟨r, hr, hp⟩ := allP_ok hnb hsb hL hx
      exact hp.put (hL r hr)
  have hf := flat_flds _ hok
  have h := putL_map (allP a (ofL (k : Int) v) ++ allP b (ofL (k : Int) v)) 0
  rw [List.map_append (f := bareP), allP_bare hL ca, allP_bare hL cb] at h
  obtain ⟨l1, l2, e0, k1, k2⟩ := keys_app h
  exact ⟨l1, l2, by rw [hf, e0], k1, k2⟩
/-- What counts of two numbers, and of two texts. -/
def lastN (x y : Nat) : Nat := if y ≠ 0 then y else x
def lastS (x y : ByteArray) : ByteArray := if y ≠ ⟨#[]⟩ then y else x
/-- Two messages that may be, one behind the other, are read as the last one's numbers and texts, and both lists; or these are too long. -/
theorem read_two {a b : MV} (v : Int) (hna : ∀ i, a.num i ≤ 18446744073709551615) (hnb : ∀ i, b.num i ≤ 18446744073709551615) (hsa : MvSm a) (hsb : MvSm b) (hk : a.k = b.k) (ca : (chkV a (ofL (a.k : Int) v)).1 = 0) (cb : (chkV b (ofL (a.k : Int) v)).1 = 0) (hlen : (encB a (ofL (a.k : Int) v)).length + (encB b (ofL (a.k : Int) v)).length ≤ 8192) :
    (64 < a.l.length + b.l.length ∧ ∃ P, readR a.k v (encB a (ofL (a.k : Int) v) ++ encB b (ofL (a.k : Int) v)) = (ZM, [], 2, P)) ∨
    (a.l.length + b.l.length ≤ 64 ∧ ∃ m, readR a.k v (encB a (ofL (a.k : Int) v) ++ encB b (ofL (a.k : Int) v)) = (m, [], 0, 0) ∧ m.l = a.l ++ b.l ∧ (∀ i : Nat, i ≤ 5 → m.num (i : Int) = lastN (a.num (i : Int)) (b.num (i : Int))) ∧ (∀ i : Nat, i ≤ 1 → m.text (i : Int) = lastS (a.text (i : Int)) (b.text (i : Int)))) := by
  obtain ⟨l1, l2, hf, k1, k2⟩ := two_keys a.k v hna hnb hsa hsb ca cb
  have za := chkV_zero ca
  have zb := chkV_zero cb
  have Ea := chkL_all _ za.2.2.1
  have Eb := chkL_all _ zb.2.2.1
  obtain ⟨aN, aS, aL⟩ := same_kept za.2.2.2
  obtain ⟨bN, bS, bL⟩ := same_kept zb.2.2.2
  have hnd := nodup_ofL a.k v
  have lim : ∀ m : MV, (∀ r ∈ ofL (a.k : Int) v, fldE m r = 0) → (mkL (ofL (a.k : Int) v) = false → m.l = []) → m.l.length ≤ 64 := fun m hE hL => by
    cases hm : mkL (ofL (a.k : Int) v) with
    | false => rw [hL hm]; simp
    | true =>
      unfold mkL at hm
      obtain ⟨r, hr, h10⟩ := List.any_eq_true.1 hm
      simp only [decide_eq_true_eq] at h10
      exact (fldE_list h10 (hE r hr)).1
  have la := lim a Ea aL
  have lb := lim b Eb bL
  have hfil : (ofL (a.k : Int) v).filter (fun r => decide (r ∈ ofL (a.k : Int) v)) = ofL (a.k : Int) v := List.filter_eq_self.2 fun r hr => by simpa using hr
  have hfil2 : (ofL (a.k : Int) v).filter (fun r => decide (r ∉ ofL (a.k : Int) v)) = [] := List.filter_eq_nil_iff.2 fun r hr => by simpa using hr
  obtain ⟨o1, d1, d2⟩ := up_gen (k := (a.k : Int)) (o := v) (b := a) (S := { ZM with k := a.k }) hna (by simpa [ZM] using la) (ofL (a.k : Int) v) [] (fun r hr => ⟨ofL_mem _ _ hr, ofL_kindN hr, Ea r hr⟩) (fun p hp => by simp at hp) (by simpa using hnd) l1 k1
  rw [hfil, up_nil, List.nil_append] at d1
  rw [hfil2] at d2
  have ho1 : o1 = [] := by simpa [allP] using d2
  subst ho1
  obtain ⟨S, hS⟩ : ∃ S, updM (ofL (a.k : Int) v) { ZM with k := a.k } a = S := ⟨_, rfl⟩
  rw [hS] at d1
  have hSl : S.l = a.l := by
    rw [← hS]; unfold updM
    show (if mkL (ofL (a.k : Int) v) then ([] : List ByteArray) ++ a.l else []) = a.l
    cases hm : mkL (ofL (a.k : Int) v) with
    | true => simp
    | false => rw [aL hm]; simp
  have hcap : ¬ 8192 < (encB a (ofL (a.k : Int) v) ++ encB b (ofL (a.k : Int) v)).length := by rw [List.length_append]; omega
  by_cases h64 : a.l.length + b.l.length ≤ 64
  · refine .inr ⟨h64, ?_⟩
    obtain ⟨o2, d3, d4⟩ := up_gen (k := (a.k : Int)) (o := v) (b := b) (S := S) hnb (by rw [hSl]; exact h64) (ofL (a.k : Int) v) [] (fun r hr => ⟨ofL_mem _ _ hr, ofL_kindN hr, Eb r hr⟩) (fun p hp => by simp at hp) (by simpa using hnd) l2 k2
    rw [hfil, up_nil, List.nil_append] at d3
    rw [hfil2] at d4
    have ho2 : o2 = [] := by simpa [allP] using d4
    subst ho2
    refine ⟨updM (ofL (a.k : Int) v) S b, ?_, ?_, fun i hi => ?_, fun i hi => ?_⟩
    · unfold readR
      rw [if_neg za.2.1, if_neg hcap, hf]
      simp only
      rw [if_neg (by simp), decF_app l1 _ l2 (by rw [d1]), d1]
      simp only
      rw [d3, if_neg (by simp)]
      rfl
    · show (if mkL (ofL (a.k : Int) v) then S.l ++ b.l else S.l) = a.l ++ b.l
      cases hm : mkL (ofL (a.k : Int) v) with
      | true => simp [hSl]
      | false => rw [bL hm, hSl]; simp
    · have key : ∀ x y : Nat, (mkN (ofL (a.k : Int) v) i = false → x = 0 ∧ y = 0) → up (mkN (ofL (a.k : Int) v) i) y (up (mkN (ofL (a.k : Int) v) i) x 0) = lastN x y := fun x y h => by
        unfold up lastN
        cases hm : mkN (ofL (a.k : Int) v) i with
        | true => by_cases c : y = 0 <;> by_cases d : x = 0 <;> simp [c, d]
        | false => obtain ⟨rfl, rfl⟩ := h hm; simp
      have h := key (a.num (i : Int)) (b.num (i : Int)) (fun hm => ⟨aN i hi hm, bN i hi hm⟩)
      rw [← hS]
      have hc : i = 0 ∨ i = 1 ∨ i = 2 ∨ i = 3 ∨ i = 4 ∨ i = 5 := by omega
      rcases hc with rfl | rfl | rfl | rfl | rfl | rfl <;> exact h
    · have key : ∀ x y : ByteArray, (mkS (ofL (a.k : Int) v) i = false → x = ⟨#[]⟩ ∧ y = ⟨#[]⟩) → us (mkS (ofL (a.k : Int) v) i) y (us (mkS (ofL (a.k : Int) v) i) x ⟨#[]⟩) = lastS x y := fun x y h => by
        unfold us lastS
        cases hm : mkS (ofL (a.k : Int) v) i with
        | true => by_cases c : y = ⟨#[]⟩ <;> by_cases d : x = ⟨#[]⟩ <;> simp [c, d]
        | false => obtain ⟨rfl, rfl⟩ := h hm; simp
      have h := key (a.text (i : Int)) (b.text (i : Int)) (fun hm => ⟨aS i hi hm, bS i hi hm⟩)
      rw [← hS]
      have hc : i = 0 ∨ i = 1 := by omega
      rcases hc with rfl | rfl <;> exact h
  · refine .inl ⟨by omega, ?_⟩
    have hm : mkL (ofL (a.k : Int) v) = true := by
      cases hm : mkL (ofL (a.k : Int) v) with
      | true => rfl
      | false => rw [aL hm, bL hm] at h64; simp at h64
    have hlong := up_long (k := (a.k : Int)) (v := v) (b := b) (S := S) hnb (by rw [hSl]; exact la) (by rw [hSl]; omega) Eb hnd hm l2 k2
    refine ⟨(decF (ofL (a.k : Int) v) S l2).2.2.2, ?_⟩
    unfold readR
    rw [if_neg za.2.1, if_neg hcap, hf]
    simp only
    rw [if_neg (by simp), decF_app l1 _ l2 (by rw [d1]), d1]
    simp only
    rw [if_pos (by rw [hlong]; decide), ← hlong]
end Go.Proofs.Ytnfodgjihdoncaa
set_option linter.unusedVariables false
namespace Go.Proofs.Ytnfodgjihdoncaa
open Go.RowKit
theorem blk_ty {w : World} {g : Nat} {t t' : TypeId} {cs cs' : Array Value} (h : Blk w g t cs) (h' : Blk w g t' cs') : t = t' := by
  unfold Blk at h h'
  rw [h] at h'
  injection h' with h'
  injection h' with _ h2
theorem ll_read {a b : MV} (v : Int) (hna : ∀ i, a.num i ≤ 18446744073709551615) (hnb : ∀ i, b.num i ≤ 18446744073709551615) (hsa : MvSm a) (hsb : MvSm b) (hk : a.k = b.k) (ca : (chkV a (ofL (a.k : Int) v)).1 = 0) (cb : (chkV b (ofL (b.k : Int) v)).1 = 0) (hlen : (encB a (ofL (a.k : Int) v)).length + (encB b (ofL (b.k : Int) v)).length ≤ 8192) :
    ∃ R E P, readR a.k v (encB a (ofL (a.k : Int) v) ++ encB b (ofL (b.k : Int) v)) = (R, [], E, P) ∧ ((64 < a.l.length + b.l.length ∧ E = 2 ∧ R = ZM) ∨ (a.l.length + b.l.length ≤ 64 ∧ E = 0 ∧ R.l = a.l ++ b.l ∧ (∀ i : Nat, i ≤ 5 → R.num (i : Int) = lastN (a.num (i : Int)) (b.num (i : Int))) ∧ (∀ i : Nat, i ≤ 1 → R.text (i : Int) = lastS (a.text (i : Int)) (b.text (i : Int))))) := by
  rw [← hk] at cb hlen ⊢
  rcases read_two v hna hnb hsa hsb hk ca cb hlen with ⟨h1, P, h2⟩ | ⟨h1, m, h2, h3, h4, h5⟩
  · exact ⟨ZM, 2, P, h2, .inl ⟨h1, rfl, rfl⟩⟩
  · exact ⟨m, 0, 0, h2, .inr ⟨h1, rfl, h3, h4, h5⟩⟩
theorem mc_num (M : MV) (A : Option Addr) (c ln j : Nat) (hj : j ≤ 5) : (#[.int .u8 (M.k : Int), .int .u64 (M.n0 : Int), .int .u64 (M.n1 : Int), .int .u64 (M.n2 : Int), .int .u64 (M.n3 : Int), .int .u64 (M.n4 : Int), .int .u64 (M.n5 : Int), .string M.s0, .string M.s1, .slice A ln c] : Array Value)[1 + j]? = some (.int .u64 (M.num (j : Int) : Nat)) := by
  have : j = 0 ∨ j = 1 ∨ j = 2 ∨ j = 3 ∨ j = 4 ∨ j = 5 := by omega
  rcases this with rfl | rfl | rfl | rfl | rfl | rfl <;> rfl
theorem mc_text (M : MV) (A : Option Addr) (c ln j : Nat) (hj : j ≤ 1) : (#[.int .u8 (M.k : Int), .int .u64 (M.n0 : Int), .int .u64 (M.n1 : Int), .int .u64 (M.n2 : Int), .int .u64 (M.n3 : Int), .int .u64 (M.n4 : Int), .int .u64 (M.n5 : Int), .string M.s0, .string M.s1, .slice A ln c] : Array Value)[7 + j]? = some (.string (M.text (j : Int))) := by
  have : j = 0 ∨ j = 1 := by omega
  rcases this with rfl | rfl <;> rfl
theorem mc_textk (k : Nat) (M : MV) (A : Option Addr) (c ln j : Nat) (hj : j ≤ 1) : (#[.int .u8 (k : Int), .int .u64 (M.n0 : Int), .int .u64 (M.n1 : Int), .int .u64 (M.n2 : Int), .int .u64 (M.n3 : Int), .int .u64 (M.n4 : Int), .int .u64 (M.n5 : Int), .string M.s0, .string M.s1, .slice A ln c] : Array Value)[7 + j]? = some (.string (M.text (j : Int))) := by
  have : j = 0 ∨ j = 1 := by omega
  rcases this with rfl | rfl <;> rfl
theorem mc_numk (k : Nat) (M : MV) (A : Option Addr) (c ln j : Nat) (hj : j ≤ 5) : (#[.int .u8 (k : Int), .int .u64 (M.n0 : Int), .int .u64 (M.n1 : Int), .int .u64 (M.n2 : Int), .int .u64 (M.n3 : Int), .int .u64 (M.n4 : Int), .int .u64 (M.n5 : Int), .string M.s0, .string M.s1, .slice A ln c] : Array Value)[1 + j]? = some (.int .u64 (M.num (j : Int) : Nat)) := by
  have : j = 0 ∨ j = 1 ∨ j = 2 ∨ j = 3 ∨ j = 4 ∨ j = 5 := by omega
  rcases this with rfl | rfl | rfl | rfl | rfl | rfl <;> rfl
def LlR (bx s : Nat) (k : Nat) (v : Int) (X Y : Value) (tl rl : Nat) (row : List Value) (R : MV) (E : Int) (P : Nat) (a0 : Act) (w0 : World) (f : Nat → Bool) (a : Act) (w : World) : Prop := ∃ (x0 x1 x2 x3 x4 x5 x6 x7 x8 x9 x10 x11 : Value) (Aj : Option Addr) (cj : Nat) (A' : Option Addr) (c' : Nat), a = ((((((((((((a0.put (some 62) x0).put (some 63) x1).put (some 64) x2).put (some 65) x3).put (some 66) x4).put (some 67) x5).put (some 68) x6).put (some 61) x7).put (some 69) x8).put (some 70) x9).put (some 11) x10).put (some 12) x11) ∧ (f 0 = true → x0 = .pointer (some ⟨s, 0, none⟩)) ∧ (f 1 = true → x1 = .int .u8 (k : Int)) ∧ (f 2 = true → x2 = .int .i64 v) ∧ (f 3 = true → x3 = X) ∧ (f 4 = true → x4 = Y) ∧ (f 5 = true → x5 = .slice Aj tl cj) ∧ (f 5 = true → f 6 = false → w.ownsRow bx 5 1 (.slice Aj tl cj) tl row) ∧ (f 6 = true → x6 = .tuple #[.agg #[.int .u8 (R.k : Int), .int .u64 (R.n0 : Int), .int .u64 (R.n1 : Int), .int .u64 (R.n2 : Int), .int .u64 (R.n3 : Int), .int .u64 (R.n4 : Int), .int .u64 (R.n5 : Int), .string R.s0, .string R.s1, .slice A' rl c'], .agg #[.int .i64 E, .int .i64 (P : Int)]]) ∧ (f 6 = true → w.ownsRow bx 9 1 (.slice A' rl c') rl (R.l.map sv)) ∧ (f 6 = true → f 5 = true) ∧ (f 7 = true → f 6 = true ∧ x7 = .tuple #[.agg #[.int .u8 (R.k : Int), .int .u64 (R.n0 : Int), .int .u64 (R.n1 : Int), .int .u64 (R.n2 : Int), .int .u64 (R.n3 : Int), .int .u64 (R.n4 : Int), .int .u64 (R.n5 : Int), .string R.s0, .string R.s1, .slice A' rl c'], .agg #[.int .i64 E, .int .i64 (P : Int)]]) ∧ (f 8 = true → f 6 = true ∧ x8 = .agg #[.int .u8 (R.k : Int), .int .u64 (R.n0 : Int), .int .u64 (R.n1 : Int), .int .u64 (R.n2 : Int), .int .u64 (R.n3 : Int), .int .u64 (R.n4 : Int), .int .u64 (R.n5 : Int), .string R.s0, .string R.s1, .slice A' rl c']) ∧ (f 9 = true → f 6 = true ∧ x9 = .agg #[.int .i64 E, .int .i64 (P : Int)]) ∧ (f 10 = true → ∃ g, x10 = .pointer (some ⟨g, 0, none⟩) ∧ w0.heap.size ≤ g ∧ Blk w g 27 (if f 12 = true then #[.int .u8 (R.k : Int), .int .u64 (R.n0 : Int), .int .u64 (R.n1 : Int), .int .u64 (R.n2 : Int), .int .u64 (R.n3 : Int), .int .u64 (R.n4 : Int), .int .u64 (R.n5 : Int), .string R.s0, .string R.s1, .slice A' rl c'] else #[.int .u8 0, .int .u64 0, .int .u64 0, .int .u64 0, .int .u64 0, .int .u64 0, .int .u64 0, .string ⟨#[]⟩, .string ⟨#[]⟩, .slice none 0 0])) ∧ (f 11 = true → ∃ g, x11 = .pointer (some ⟨g, 0, none⟩) ∧ w0.heap.size ≤ g ∧ Blk w g 33 (if f 13 = true then #[.int .i64 E, .int .i64 (P : Int)] else #[.int .i64 0, .int .i64 0])) ∧ (f 12 = true → f 10 = true ∧ f 8 = true) ∧ (f 13 = true → f 11 = true ∧ f 9 = true) ∧ Below bx w0 w ∧ (f 5 = false → Below w0.heap.size w0 w)
set_option maxRecDepth 100000 in
set_option maxHeartbeats 16000000 in
theorem lenientLast_ne (M B : MV) (v : Int) (w : World) (hkk : M.k ≠ B.k) (hok : MvOk w M) (hob : MvOk w B) :
    Calls Try.prog 3 #[mvV M, mvV B, .int .i64 v] w fun e w' => e = .returned (.bool true) ∧ Below w.heap.size w w' := by
  have hlv := fun W => live11_any W
  have hsma := fun W (hW : Below w.heap.size w W) => small9_any M W (hok.l.below hW)
  have hsmb := fun W (hW : Below w.heap.size w W) => small9_any B W (hob.l.below hW)
  obtain ⟨la, hlla⟩ : ∃ n, M.l.length = n := ⟨_, rfl⟩
  obtain ⟨lb, hllb⟩ : ∃ n, B.l.length = n := ⟨_, rfl⟩
  have hmv : mvV M = .agg #[.int .u8 (M.k : Int), .int .u64 (M.n0 : Int), .int .u64 (M.n1 : Int), .int .u64 (M.n2 : Int), .int .u64 (M.n3 : Int), .int .u64 (M.n4 : Int), .int .u64 (M.n5 : Int), .string M.s0, .string M.s1, .slice M.A M.l.length M.c] := rfl
  have hmv2 : mvV B = .agg #[.int .u8 (B.k : Int), .int .u64 (B.n0 : Int), .int .u64 (B.n1 : Int), .int .u64 (B.n2 : Int), .int .u64 (B.n3 : Int), .int .u64 (B.n4 : Int), .int .u64 (B.n5 : Int), .string B.s0, .string B.s1, .slice B.A B.l.length B.c] := rfl
  rw [hmv, hlla] at hsma
  rw [hmv2, hllb] at hsmb
  rw [hmv, hmv2, hlla, hllb]
  generalize smallB M = sa at *
  generalize smallB B = sb at *
  obtain ⟨s, hws⟩ : ∃ s, w.heap.size = s := ⟨_, rfl⟩
  rw [hws] at hsma hsmb ⊢
  have hz := hws
  have HLV := hid hlv
  have HSA := hid hsma
  have HSB := hid hsmb
  have hk1 : ¬ (M.k : Int) = (B.k : Int) := by omega
  have hk2 : ((M.k : Int) == (B.k : Int)) = false := by simpa using hk1
  have hk3 : ((M.k : Int) != (B.k : Int)) = true := by simpa using hk1
  clear hlv hsma hsmb hok hob hmv hmv2 hlla hllb
  go_enter Try.func3, Try.ntmps3
  go_wp2_with fail
  have hka : Blk ((w.alloc (.cells #[.int .u8 (M.k : Int), .int .u64 (M.n0 : Int), .int .u64 (M.n1 : Int), .int .u64 (M.n2 : Int), .int .u64 (M.n3 : Int), .int .u64 (M.n4 : Int), .int .u64 (M.n5 : Int), .string M.s0, .string M.s1, .slice M.A la M.c] 27)).alloc (.cells #[.int .u8 (B.k : Int), .int .u64 (B.n0 : Int), .int .u64 (B.n1 : Int), .int .u64 (B.n2 : Int), .int .u64 (B.n3 : Int), .int .u64 (B.n4 : Int), .int .u64 (B.n5 : Int), .string B.s0, .string B.s1, .slice B.A lb B.c] 27)) (s) 27 #[.int .u8 (M.k : Int), .int .u64 (M.n0 : Int), .int .u64 (M.n1 : Int), .int .u64 (M.n2 : Int), .int .u64 (M.n3 : Int), .int .u64 (M.n4 : Int), .int .u64 (M.n5 : Int), .string M.s0, .string M.s1, .slice M.A la M.c] := by
    have h := ((Blk.new w 27 #[.int .u8 (M.k : Int), .int .u64 (M.n0 : Int), .int .u64 (M.n1 : Int), .int .u64 (M.n2 : Int), .int .u64 (M.n3 : Int), .int .u64 (M.n4 : Int), .int .u64 (M.n5 : Int), .string M.s0, .string M.s1, .slice M.A la M.c]).alloc (.cells #[.int .u8 (B.k : Int), .int .u64 (B.n0 : Int), .int .u64 (B.n1 : Int), .int .u64 (B.n2 : Int), .int .u64 (B.n3 : Int), .int .u64 (B.n4 : Int), .int .u64 (B.n5 : Int), .string B.s0, .string B.s1, .slice B.A lb B.c] 27))
    rw [hz] at h; exact h
  have hkb : Blk ((w.alloc (.cells #[.int .u8 (M.k : Int), .int .u64 (M.n0 : Int), .int .u64 (M.n1 : Int), .int .u64 (M.n2 : Int), .int .u64 (M.n3 : Int), .int .u64 (M.n4 : Int), .int .u64 (M.n5 : Int), .string M.s0, .string M.s1, .slice M.A la M.c] 27)).alloc (.cells #[.int .u8 (B.k : Int), .int .u64 (B.n0 : Int), .int .u64 (B.n1 : Int), .int .u64 (B.n2 : Int), .int .u64 (B.n3 : Int), .int .u64 (B.n4 : Int), .int .u64 (B.n5 : Int), .string B.s0, .string B.s1, .slice B.A lb B.c] 27)) (s + 1) 27 #[.int .u8 (B.k : Int), .int .u64 (B.n0 : Int), .int .u64 (B.n1 : Int), .int .u64 (B.n2 : Int), .int .u64 (B.n3 : Int), .int .u64 (B.n4 : Int), .int .u64 (B.n5 : Int), .string B.s0, .string B.s1, .slice B.A lb B.c] := by
    have h := (Blk.new (w.alloc (.cells #[.int .u8 (M.k : Int), .int .u64 (M.n0 : Int), .int .u64 (M.n1 : Int), .int .u64 (M.n2 : Int), .int .u64 (M.n3 : Int), .int .u64 (M.n4 : Int), .int .u64 (M.n5 : Int), .string M.s0, .string M.s1, .slice M.A la M.c] 27)) 27 #[.int .u8 (B.k : Int), .int .u64 (B.n0 : Int), .int .u64 (B.n1 : Int), .int .u64 (B.n2 : Int), .int .u64 (B.n3 : Int), .int .u64 (B.n4 : Int), .int .u64 (B.n5 : Int), .string B.s0, .string B.s1, .slice B.A lb B.c])
    rw [World.size_alloc, hz] at h; exact h
  have hb0 : Below s w ((w.alloc (.cells #[.int .u8 (M.k : Int), .int .u64 (M.n0 : Int), .int .u64 (M.n1 : Int), .int .u64 (M.n2 : Int), .int .u64 (M.n3 : Int), .int .u64 (M.n4 : Int), .int .u64 (M.n5 : Int), .string M.s0, .string M.s1, .slice M.A la M.c] 27)).alloc (.cells #[.int .u8 (B.k : Int), .int .u64 (B.n0 : Int), .int .u64 (B.n1 : Int), .int .u64 (B.n2 : Int), .int .u64 (B.n3 : Int), .int .u64 (B.n4 : Int), .int .u64 (B.n5 : Int), .string B.s0, .string B.s1, .slice B.A lb B.c] 27)) := by
    have h := (bw_a (bw_a (Below.refl w.heap.size w) (.cells #[.int .u8 (M.k : Int), .int .u64 (M.n0 : Int), .int .u64 (M.n1 : Int), .int .u64 (M.n2 : Int), .int .u64 (M.n3 : Int), .int .u64 (M.n4 : Int), .int .u64 (M.n5 : Int), .string M.s0, .string M.s1, .slice M.A la M.c] 27)) (.cells #[.int .u8 (B.k : Int), .int .u64 (B.n0 : Int), .int .u64 (B.n1 : Int), .int .u64 (B.n2 : Int), .int .u64 (B.n3 : Int), .int .u64 (B.n4 : Int), .int .u64 (B.n5 : Int), .string B.s0, .string B.s1, .slice B.A lb B.c] 27))
    rw [hz] at h; exact h
  have hsz : (((w.alloc (.cells #[.int .u8 (M.k : Int), .int .u64 (M.n0 : Int), .int .u64 (M.n1 : Int), .int .u64 (M.n2 : Int), .int .u64 (M.n3 : Int), .int .u64 (M.n4 : Int), .int .u64 (M.n5 : Int), .string M.s0, .string M.s1, .slice M.A la M.c] 27)).alloc (.cells #[.int .u8 (B.k : Int), .int .u64 (B.n0 : Int), .int .u64 (B.n1 : Int), .int .u64 (B.n2 : Int), .int .u64 (B.n3 : Int), .int .u64 (B.n4 : Int), .int .u64 (B.n5 : Int), .string B.s0, .string B.s1, .slice B.A lb B.c] 27))).heap.size = s + 1 + 1 := by simp [hz]
  generalize hW1 : ((w.alloc (.cells #[.int .u8 (M.k : Int), .int .u64 (M.n0 : Int), .int .u64 (M.n1 : Int), .int .u64 (M.n2 : Int), .int .u64 (M.n3 : Int), .int .u64 (M.n4 : Int), .int .u64 (M.n5 : Int), .string M.s0, .string M.s1, .slice M.A la M.c] 27)).alloc (.cells #[.int .u8 (B.k : Int), .int .u64 (B.n0 : Int), .int .u64 (B.n1 : Int), .int .u64 (B.n2 : Int), .int .u64 (B.n3 : Int), .int .u64 (B.n4 : Int), .int .u64 (B.n5 : Int), .string B.s0, .string B.s1, .slice B.A lb B.c] 27)) = W1 at *
  have HKA := hid hka
  have HKB := hid hkb
  have HBB1 := hid hb0
  have HSZ1 := hid hsz
  clear hb0 hsz hz hW1 hka hkb
  refine (HLV.out W1).mono ?_
  rintro e w2 ⟨rfl, hb⟩
  have hka := HKA.out.below hb HKA.out.lt
  have hkb := HKB.out.below hb HKB.out.lt
  have hb0 : Below s w w2 := HBB1.out.trans (hb.mono (by have := HBB1.out.size; omega))
  have HKA := hid hka
  have HKB := hid hkb
  have HBB2 := hid hb0
  clear hb0 hb hka hkb
  have zhka0 := HKA.out.cell 0
  have zhka1 := HKA.out.cell 1
  have zhka2 := HKA.out.cell 2
  have zhka3 := HKA.out.cell 3
  have zhka4 := HKA.out.cell 4
  have zhka5 := HKA.out.cell 5
  have zhka6 := HKA.out.cell 6
  have zhka7 := HKA.out.cell 7
  have zhka8 := HKA.out.cell 8
  have zhka9 := HKA.out.cell 9
  have lhka := HKA.out.lt
  simp only [List.getElem?_toArray, List.getElem?_cons_zero, List.getElem?_cons_succ] at zhka0 zhka1 zhka2 zhka3 zhka4 zhka5 zhka6 zhka7 zhka8 zhka9
  go_wp2_with fail
  refine (HSA.out _ HBB2.out).mono ?_
  rintro e w3 ⟨rfl, hb⟩
  clear lhka zhka0 zhka1 zhka2 zhka3 zhka4 zhka5 zhka6 zhka7 zhka8 zhka9
  have hka := HKA.out.below hb HKA.out.lt
  have hkb := HKB.out.below hb HKB.out.lt
  have hb0 : Below s w w3 := HBB2.out.trans (hb.mono (by have := HBB2.out.size; omega))
  have HKA := hid hka
  have HKB := hid hkb
  have HBB3 := hid hb0
  clear hb0 hb hka hkb
  cases sa with
  | false =>
    go_wp2_with fail
    go_ret
    exact ⟨rfl, HBB3.out⟩
  | true =>
    have zhkb0 := HKB.out.cell 0
    have zhkb1 := HKB.out.cell 1
    have zhkb2 := HKB.out.cell 2
    have zhkb3 := HKB.out.cell 3
    have zhkb4 := HKB.out.cell 4
    have zhkb5 := HKB.out.cell 5
    have zhkb6 := HKB.out.cell 6
    have zhkb7 := HKB.out.cell 7
    have zhkb8 := HKB.out.cell 8
    have zhkb9 := HKB.out.cell 9
    have lhkb := HKB.out.lt
    simp only [List.getElem?_toArray, List.getElem?_cons_zero, List.getElem?_cons_succ] at zhkb0 zhkb1 zhkb2 zhkb3 zhkb4 zhkb5 zhkb6 zhkb7 zhkb8 zhkb9
    go_wp2_with fail
    refine (HSB.out _ HBB3.out).mono ?_
    rintro e w4 ⟨rfl, hb⟩
    clear lhkb zhkb0 zhkb1 zhkb2 zhkb3 zhkb4 zhkb5 zhkb6 zhkb7 zhkb8 zhkb9
    have hka := HKA.out.below hb HKA.out.lt
    have hkb := HKB.out.below hb HKB.out.lt
    have hb0 : Below s w w4 := HBB3.out.trans (hb.mono (by have := HBB3.out.size; omega))
    have HKA := hid hka
    have HKB := hid hkb
    have HBB4 := hid hb0
    clear hb0 hb hka hkb
    cases sb with
    | false =>
      go_wp2_with fail
      go_ret
      exact ⟨rfl, HBB4.out⟩
    | true =>
      have zhka0 := HKA.out.cell 0
      have zhka1 := HKA.out.cell 1
      have zhka2 := HKA.out.cell 2
      have zhka3 := HKA.out.cell 3
      have zhka4 := HKA.out.cell 4
      have zhka5 := HKA.out.cell 5
      have zhka6 := HKA.out.cell 6
      have zhka7 := HKA.out.cell 7
      have zhka8 := HKA.out.cell 8
      have zhka9 := HKA.out.cell 9
      have lhka := HKA.out.lt
      have zhkb0 := HKB.out.cell 0
      have zhkb1 := HKB.out.cell 1
      have zhkb2 := HKB.out.cell 2
      have zhkb3 := HKB.out.cell 3
      have zhkb4 := HKB.out.cell 4
      have zhkb5 := HKB.out.cell 5
      have zhkb6 := HKB.out.cell 6
      have zhkb7 := HKB.out.cell 7
      have zhkb8 := HKB.out.cell 8
      have zhkb9 := HKB.out.cell 9
      have lhkb := HKB.out.lt
      simp only [List.getElem?_toArray, List.getElem?_cons_zero, List.getElem?_cons_succ] at zhka0 zhka1 zhka2 zhka3 zhka4 zhka5 zhka6 zhka7 zhka8 zhka9 zhkb0 zhkb1 zhkb2 zhkb3 zhkb4 zhkb5 zhkb6 zhkb7 zhkb8 zhkb9
      go_wp2_with fail
      go_ret
      exact ⟨rfl, HBB4.out⟩
set_option maxRecDepth 100000 in
set_option maxHeartbeats 16000000 in
theorem lenientLast_eq (M B : MV) (v : Int) (w : World) (hkk : M.k = B.k) (hok : MvOk w M) (hob : MvOk w B) (hv1 : -9223372036854775808 ≤ v) (hv2 : v ≤ 9223372036854775807) :
    Calls Try.prog 3 #[mvV M, mvV B, .int .i64 v] w fun e w' => e = .returned (.bool true) ∧ Below w.heap.size w w' := by
  have hlv := fun W => live11_any W
  obtain ⟨i0, hi0, hz0, hz1, hz2⟩ := info_parts Try.info5
  have hsma := fun W (hW : Below w.heap.size w W) => small9_any M W (hok.l.below hW)
  have hsmb := fun W (hW : Below w.heap.size w W) => small9_any B W (hob.l.below hW)
  have heax := fun (hb : smallB M = true) W (hW : Below w.heap.size w W) => (ebytes_any M v W (hok.below hW) (small_sm hb) hv1 hv2).mono (fun e w' h => bytesR_sl h)
  have hebx := fun (hb : smallB B = true) W (hW : Below w.heap.size w W) => (ebytes_any B v W (hob.below hW) (small_sm hb) hv1 hv2).mono (fun e w' h => bytesR_sl h)
  have hk255 := hok.k
  have hmla := fun W (hW : Below w.heap.size w W) => hok.l.below hW
  have hmlb := fun W (hW : Below w.heap.size w W) => hob.l.below hW
  have hla : smallB M = true → M.l.length ≤ 100 := fun hb => (small_sm hb).l
  have hlb : smallB B = true → B.l.length ≤ 100 := fun hb => (small_sm hb).l
  have hcapa := fun (hb : smallB M = true) => enc_cap v hok.n (small_sm hb)
  have hcapb := fun (hb : smallB B = true) => enc_cap v hob.n (small_sm hb)
  have hrd := fun (hb : smallB M = true) (hb2 : smallB B = true) h1 h2 h3 => ll_read v hok.n hob.n (small_sm hb) (small_sm hb2) hkk h1 h2 h3
  have hbig := fun (i : Nat) (hi : i ≤ 5) => hok.n i
  obtain ⟨eb, heb⟩ : ∃ eb, encB M (ofL (M.k : Int) v) = eb := ⟨_, rfl⟩
  obtain ⟨fb, hfb⟩ : ∃ eb, encB B (ofL (B.k : Int) v) = eb := ⟨_, rfl⟩
  obtain ⟨E1, hE1⟩ : ∃ E1, (chkV M (ofL (M.k : Int) v)).1 = E1 := ⟨_, rfl⟩
  obtain ⟨E2, hE2⟩ : ∃ E2, (chkV M (ofL (M.k : Int) v)).2 = E2 := ⟨_, rfl⟩
  obtain ⟨F1, hF1⟩ : ∃ E1, (chkV B (ofL (B.k : Int) v)).1 = E1 := ⟨_, rfl⟩
  obtain ⟨F2, hF2⟩ : ∃ E2, (chkV B (ofL (B.k : Int) v)).2 = E2 := ⟨_, rfl⟩
  obtain ⟨n1, hn1⟩ : ∃ n, eb.length = n := ⟨_, rfl⟩
  obtain ⟨n2, hn2⟩ : ∃ n, fb.length = n := ⟨_, rfl⟩
  obtain ⟨la, hlla⟩ : ∃ n, M.l.length = n := ⟨_, rfl⟩
  obtain ⟨lb, hllb⟩ : ∃ n, B.l.length = n := ⟨_, rfl⟩
  rw [heb, hn1, hE1, hE2] at heax
  rw [hfb, hn2, hF1, hF2] at hebx
  rw [heb, hn1] at hcapa
  rw [hfb, hn2] at hcapb
  rw [heb, hfb, hE1, hF1, hn1, hn2, hlla, hllb] at hrd
  rw [hlla] at hla
  rw [hllb] at hlb
  have hmv : mvV M = .agg #[.int .u8 (M.k : Int), .int .u64 (M.n0 : Int), .int .u64 (M.n1 : Int), .int .u64 (M.n2 : Int), .int .u64 (M.n3 : Int), .int .u64 (M.n4 : Int), .int .u64 (M.n5 : Int), .string M.s0, .string M.s1, .slice M.A M.l.length M.c] := rfl
  have hmv2 : mvV B = .agg #[.int .u8 (M.k : Int), .int .u64 (B.n0 : Int), .int .u64 (B.n1 : Int), .int .u64 (B.n2 : Int), .int .u64 (B.n3 : Int), .int .u64 (B.n4 : Int), .int .u64 (B.n5 : Int), .string B.s0, .string B.s1, .slice B.A B.l.length B.c] := by unfold mvV mvA; rw [hkk]
  rw [hmv, hlla] at heax hsma
  rw [hmv2, hllb] at hebx hsmb
  rw [hmv, hmv2, hlla, hllb]
  generalize smallB M = sa at *
  generalize smallB B = sb at *
  obtain ⟨s, hws⟩ : ∃ s, w.heap.size = s := ⟨_, rfl⟩
  rw [hws] at hsma hsmb heax hebx hmla hmlb ⊢
  have hz := hws
  have HLV := hid hlv
  have HSA := hid hsma
  have HSB := hid hsmb
  have HEA := hid heax
  have HEB := hid hebx
  have HMLA := hid hmla
  have HMLB := hid hmlb
  have HRD := hid hrd
  have HCA := hid hcapa
  have HCB := hid hcapb
  have HLA := hid hla
  have HLB := hid hlb
  have HN1 := hid hn1
  have HN2 := hid hn2
  have HWS := hid hws
  have HLLA := hid hlla
  have HLLB := hid hllb
  clear hlv hsma hsmb heax hebx hmla hmlb hrd hcapa hcapb hla hlb hn1 hn2 hlla hllb hE1 hE2 hF1 hF2 heb hfb hok hob hmv hmv2 hbig hkk
  go_enter Try.func3, Try.ntmps3
  go_wp2_with fail
  have hka : Blk ((w.alloc (.cells #[.int .u8 (M.k : Int), .int .u64 (M.n0 : Int), .int .u64 (M.n1 : Int), .int .u64 (M.n2 : Int), .int .u64 (M.n3 : Int), .int .u64 (M.n4 : Int), .int .u64 (M.n5 : Int), .string M.s0, .string M.s1, .slice M.A la M.c] 27)).alloc (.cells #[.int .u8 (M.k : Int), .int .u64 (B.n0 : Int), .int .u64 (B.n1 : Int), .int .u64 (B.n2 : Int), .int .u64 (B.n3 : Int), .int .u64 (B.n4 : Int), .int .u64 (B.n5 : Int), .string B.s0, .string B.s1, .slice B.A lb B.c] 27)) (s) 27 #[.int .u8 (M.k : Int), .int .u64 (M.n0 : Int), .int .u64 (M.n1 : Int), .int .u64 (M.n2 : Int), .int .u64 (M.n3 : Int), .int .u64 (M.n4 : Int), .int .u64 (M.n5 : Int), .string M.s0, .string M.s1, .slice M.A la M.c] := by
    have h := ((Blk.new w 27 #[.int .u8 (M.k : Int), .int .u64 (M.n0 : Int), .int .u64 (M.n1 : Int), .int .u64 (M.n2 : Int), .int .u64 (M.n3 : Int), .int .u64 (M.n4 : Int), .int .u64 (M.n5 : Int), .string M.s0, .string M.s1, .slice M.A la M.c]).alloc (.cells #[.int .u8 (M.k : Int), .int .u64 (B.n0 : Int), .int .u64 (B.n1 : Int), .int .u64 (B.n2 : Int), .int .u64 (B.n3 : Int), .int .u64 (B.n4 : Int), .int .u64 (B.n5 : Int), .string B.s0, .string B.s1, .slice B.A lb B.c] 27))
    rw [hz] at h; exact h
  have hkb : Blk ((w.alloc (.cells #[.int .u8 (M.k : Int), .int .u64 (M.n0 : Int), .int .u64 (M.n1 : Int), .int .u64 (M.n2 : Int), .int .u64 (M.n3 : Int), .int .u64 (M.n4 : Int), .int .u64 (M.n5 : Int), .string M.s0, .string M.s1, .slice M.A la M.c] 27)).alloc (.cells #[.int .u8 (M.k : Int), .int .u64 (B.n0 : Int), .int .u64 (B.n1 : Int), .int .u64 (B.n2 : Int), .int .u64 (B.n3 : Int), .int .u64 (B.n4 : Int), .int .u64 (B.n5 : Int), .string B.s0, .string B.s1, .slice B.A lb B.c] 27)) (s + 1) 27 #[.int .u8 (M.k : Int), .int .u64 (B.n0 : Int), .int .u64 (B.n1 : Int), .int .u64 (B.n2 : Int), .int .u64 (B.n3 : Int), .int .u64 (B.n4 : Int), .int .u64 (B.n5 : Int), .string B.s0, .string B.s1, .slice B.A lb B.c] := by
    have h := (Blk.new (w.alloc (.cells #[.int .u8 (M.k : Int), .int .u64 (M.n0 : Int), .int .u64 (M.n1 : Int), .int .u64 (M.n2 : Int), .int .u64 (M.n3 : Int), .int .u64 (M.n4 : Int), .int .u64 (M.n5 : Int), .string M.s0, .string M.s1, .slice M.A la M.c] 27)) 27 #[.int .u8 (M.k : Int), .int .u64 (B.n0 : Int), .int .u64 (B.n1 : Int), .int .u64 (B.n2 : Int), .int .u64 (B.n3 : Int), .int .u64 (B.n4 : Int), .int .u64 (B.n5 : Int), .string B.s0, .string B.s1, .slice B.A lb B.c])
    rw [World.size_alloc, hz] at h; exact h
  have hb0 : Below s w ((w.alloc (.cells #[.int .u8 (M.k : Int), .int .u64 (M.n0 : Int), .int .u64 (M.n1 : Int), .int .u64 (M.n2 : Int), .int .u64 (M.n3 : Int), .int .u64 (M.n4 : Int), .int .u64 (M.n5 : Int), .string M.s0, .string M.s1, .slice M.A la M.c] 27)).alloc (.cells #[.int .u8 (M.k : Int), .int .u64 (B.n0 : Int), .int .u64 (B.n1 : Int), .int .u64 (B.n2 : Int), .int .u64 (B.n3 : Int), .int .u64 (B.n4 : Int), .int .u64 (B.n5 : Int), .string B.s0, .string B.s1, .slice B.A lb B.c] 27)) := by
    have h := (bw_a (bw_a (Below.refl w.heap.size w) (.cells #[.int .u8 (M.k : Int), .int .u64 (M.n0 : Int), .int .u64 (M.n1 : Int), .int .u64 (M.n2 : Int), .int .u64 (M.n3 : Int), .int .u64 (M.n4 : Int), .int .u64 (M.n5 : Int), .string M.s0, .string M.s1, .slice M.A la M.c] 27)) (.cells #[.int .u8 (M.k : Int), .int .u64 (B.n0 : Int), .int .u64 (B.n1 : Int), .int .u64 (B.n2 : Int), .int .u64 (B.n3 : Int), .int .u64 (B.n4 : Int), .int .u64 (B.n5 : Int), .string B.s0, .string B.s1, .slice B.A lb B.c] 27))
    rw [hz] at h; exact h
  have hsz : (((w.alloc (.cells #[.int .u8 (M.k : Int), .int .u64 (M.n0 : Int), .int .u64 (M.n1 : Int), .int .u64 (M.n2 : Int), .int .u64 (M.n3 : Int), .int .u64 (M.n4 : Int), .int .u64 (M.n5 : Int), .string M.s0, .string M.s1, .slice M.A la M.c] 27)).alloc (.cells #[.int .u8 (M.k : Int), .int .u64 (B.n0 : Int), .int .u64 (B.n1 : Int), .int .u64 (B.n2 : Int), .int .u64 (B.n3 : Int), .int .u64 (B.n4 : Int), .int .u64 (B.n5 : Int), .string B.s0, .string B.s1, .slice B.A lb B.c] 27))).heap.size = s + 1 + 1 := by simp [hz]
  generalize hW1 : ((w.alloc (.cells #[.int .u8 (M.k : Int), .int .u64 (M.n0 : Int), .int .u64 (M.n1 : Int), .int .u64 (M.n2 : Int), .int .u64 (M.n3 : Int), .int .u64 (M.n4 : Int), .int .u64 (M.n5 : Int), .string M.s0, .string M.s1, .slice M.A la M.c] 27)).alloc (.cells #[.int .u8 (M.k : Int), .int .u64 (B.n0 : Int), .int .u64 (B.n1 : Int), .int .u64 (B.n2 : Int), .int .u64 (B.n3 : Int), .int .u64 (B.n4 : Int), .int .u64 (B.n5 : Int), .string B.s0, .string B.s1, .slice B.A lb B.c] 27)) = W1 at *
  have HKA := hid hka
  have HKB := hid hkb
  have HBB1 := hid hb0
  have HSZ1 := hid hsz
  clear hb0 hsz hz hW1 hka hkb
  refine (HLV.out W1).mono ?_
  rintro e w2 ⟨rfl, hb⟩
  have hka := HKA.out.below hb HKA.out.lt
  have hkb := HKB.out.below hb HKB.out.lt
  have hb0 : Below s w w2 := HBB1.out.trans (hb.mono (by have := HBB1.out.size; omega))
  have HKA := hid hka
  have HKB := hid hkb
  have HBB2 := hid hb0
  clear hb0 hb hka hkb
  have zhka0 := HKA.out.cell 0
  have zhka1 := HKA.out.cell 1
  have zhka2 := HKA.out.cell 2
  have zhka3 := HKA.out.cell 3
  have zhka4 := HKA.out.cell 4
  have zhka5 := HKA.out.cell 5
  have zhka6 := HKA.out.cell 6
  have zhka7 := HKA.out.cell 7
  have zhka8 := HKA.out.cell 8
  have zhka9 := HKA.out.cell 9
  have lhka := HKA.out.lt
  simp only [List.getElem?_toArray, List.getElem?_cons_zero, List.getElem?_cons_succ] at zhka0 zhka1 zhka2 zhka3 zhka4 zhka5 zhka6 zhka7 zhka8 zhka9
  go_wp2_with fail
  refine (HSA.out _ HBB2.out).mono ?_
  rintro e w3 ⟨rfl, hb⟩
  clear lhka zhka0 zhka1 zhka2 zhka3 zhka4 zhka5 zhka6 zhka7 zhka8 zhka9
  have hka := HKA.out.below hb HKA.out.lt
  have hkb := HKB.out.below hb HKB.out.lt
  have hb0 : Below s w w3 := HBB2.out.trans (hb.mono (by have := HBB2.out.size; omega))
  have HKA := hid hka
  have HKB := hid hkb
  have HBB3 := hid hb0
  clear hb0 hb hka hkb
  cases sa with
  | false =>
    go_wp2_with fail
    go_ret
    exact ⟨rfl, HBB3.out⟩
  | true =>
    have zhkb0 := HKB.out.cell 0
    have zhkb1 := HKB.out.cell 1
    have zhkb2 := HKB.out.cell 2
    have zhkb3 := HKB.out.cell 3
    have zhkb4 := HKB.out.cell 4
    have zhkb5 := HKB.out.cell 5
    have zhkb6 := HKB.out.cell 6
    have zhkb7 := HKB.out.cell 7
    have zhkb8 := HKB.out.cell 8
    have zhkb9 := HKB.out.cell 9
    have lhkb := HKB.out.lt
    simp only [List.getElem?_toArray, List.getElem?_cons_zero, List.getElem?_cons_succ] at zhkb0 zhkb1 zhkb2 zhkb3 zhkb4 zhkb5 zhkb6 zhkb7 zhkb8 zhkb9
    go_wp2_with fail
    refine (HSB.out _ HBB3.out).mono ?_
    rintro e w4 ⟨rfl, hb⟩
    clear lhkb zhkb0 zhkb1 zhkb2 zhkb3 zhkb4 zhkb5 zhkb6 zhkb7 zhkb8 zhkb9
    have hka := HKA.out.below hb HKA.out.lt
    have hkb := HKB.out.below hb HKB.out.lt
    have hb0 : Below s w w4 := HBB3.out.trans (hb.mono (by have := HBB3.out.size; omega))
    have HKA := hid hka
    have HKB := hid hkb
    have HBB4 := hid hb0
    clear hb0 hb hka hkb
    cases sb with
    | false =>
      go_wp2_with fail
      go_ret
      exact ⟨rfl, HBB4.out⟩
    | true =>
      have hx1 := HEA.out (by first | trivial | rfl)
      have hx2 := HEB.out (by first | trivial | rfl)
      have HEA1 := hid hx1
      have HEB1 := hid hx2
      have hca := HCA.out (by first | trivial | rfl)
      have hcb := HCB.out (by first | trivial | rfl)
      have hla := HLA.out (by first | trivial | rfl)
      have hlb := HLB.out (by first | trivial | rfl)
      clear hx1 hx2 HEA HEB HCA HCB HLA HLB
      have zhka0 := HKA.out.cell 0
      have zhka1 := HKA.out.cell 1
      have zhka2 := HKA.out.cell 2
      have zhka3 := HKA.out.cell 3
      have zhka4 := HKA.out.cell 4
      have zhka5 := HKA.out.cell 5
      have zhka6 := HKA.out.cell 6
      have zhka7 := HKA.out.cell 7
      have zhka8 := HKA.out.cell 8
      have zhka9 := HKA.out.cell 9
      have lhka := HKA.out.lt
      have zhkb0 := HKB.out.cell 0
      have zhkb1 := HKB.out.cell 1
      have zhkb2 := HKB.out.cell 2
      have zhkb3 := HKB.out.cell 3
      have zhkb4 := HKB.out.cell 4
      have zhkb5 := HKB.out.cell 5
      have zhkb6 := HKB.out.cell 6
      have zhkb7 := HKB.out.cell 7
      have zhkb8 := HKB.out.cell 8
      have zhkb9 := HKB.out.cell 9
      have lhkb := HKB.out.lt
      simp only [List.getElem?_toArray, List.getElem?_cons_zero, List.getElem?_cons_succ] at zhka0 zhka1 zhka2 zhka3 zhka4 zhka5 zhka6 zhka7 zhka8 zhka9 zhkb0 zhkb1 zhkb2 zhkb3 zhkb4 zhkb5 zhkb6 zhkb7 zhkb8 zhkb9
      go_wp2_with fail
      have hbl := HKB.out.lt
      obtain ⟨bx, hbx⟩ : ∃ p, w4.heap.size = p := ⟨_, rfl⟩
      rw [hbx] at hbl
      have HBX := hid hbx
      have HBLT := hid hbl
      clear hbx hbl
      refine (HEA1.out _ HBB4.out).mono ?_
      rintro e w5 ⟨A1, c1, rfl, hse, hseo, hb⟩
      clear lhka lhkb zhka0 zhka1 zhka2 zhka3 zhka4 zhka5 zhka6 zhka7 zhka8 zhka9 zhkb0 zhkb1 zhkb2 zhkb3 zhkb4 zhkb5 zhkb6 zhkb7 zhkb8 zhkb9
      have hka := HKA.out.below hb HKA.out.lt
      have hkb := HKB.out.below hb HKB.out.lt
      have hbs := hb.size
      rw [HBX.out] at hbs hseo
      have hb0 : Below s w w5 := HBB4.out.trans (hb.mono (by have := HBB4.out.size; omega))
      have HKA := hid hka
      have HKB := hid hkb
      have HSE := hid hse
      have HBB5 := hid hb0
      clear hb0 hb hka hkb hse
      have hseo : Ow _ _ _ _ _ _ _ := ⟨hseo⟩
      have HSEO := hid hseo
      clear hseo
      have zhkb0 := HKB.out.cell 0
      have zhkb1 := HKB.out.cell 1
      have zhkb2 := HKB.out.cell 2
      have zhkb3 := HKB.out.cell 3
      have zhkb4 := HKB.out.cell 4
      have zhkb5 := HKB.out.cell 5
      have zhkb6 := HKB.out.cell 6
      have zhkb7 := HKB.out.cell 7
      have zhkb8 := HKB.out.cell 8
      have zhkb9 := HKB.out.cell 9
      have lhkb := HKB.out.lt
      simp only [List.getElem?_toArray, List.getElem?_cons_zero, List.getElem?_cons_succ] at zhkb0 zhkb1 zhkb2 zhkb3 zhkb4 zhkb5 zhkb6 zhkb7 zhkb8 zhkb9
      obtain ⟨p3, hz⟩ : ∃ p, w5.heap.size = p := ⟨_, rfl⟩
      rw [hz] at lhkb
      have mhkb := Nat.lt_add_one_of_lt lhkb
      rw [hz] at hbs
      have HBS := hid hbs
      clear hbs
      go_wp2_with fail
      have hk8 : Blk (w5.alloc (.cells #[.int .i64 E1, .int .i64 E2] 33)) (p3) 33 #[.int .i64 E1, .int .i64 E2] := by
        have h := (Blk.new w5 33 #[.int .i64 E1, .int .i64 E2])
        rw [hz] at h; exact h
      have hka := (HKA.out.alloc (.cells #[.int .i64 E1, .int .i64 E2] 33))
      have hkb := (HKB.out.alloc (.cells #[.int .i64 E1, .int .i64 E2] 33))
      have hse := HSE.out.below (bw_a (Below.refl w5.heap.size w5) (.cells #[.int .i64 E1, .int .i64 E2] 33))
      have hseo := HSEO.out.below (bw_a (Below.refl w5.heap.size w5) (.cells #[.int .i64 E1, .int .i64 E2] 33))
      have hb0 : Below s w (w5.alloc (.cells #[.int .i64 E1, .int .i64 E2] 33)) := HBB5.out.trans ((bw_a (Below.refl w5.heap.size w5) (.cells #[.int .i64 E1, .int .i64 E2] 33)).mono (by have := HBB5.out.size; omega))
      have hsz : ((w5.alloc (.cells #[.int .i64 E1, .int .i64 E2] 33))).heap.size = p3 + 1 := by simp [hz]
      generalize hW6 : (w5.alloc (.cells #[.int .i64 E1, .int .i64 E2] 33)) = W6 at *
      have HKA := hid hka
      have HKB := hid hkb
      have HK8 := hid hk8
      have HSE := hid hse
      have HSEO := hid hseo
      have HBB6 := hid hb0
      have HSZ6 := hid hsz
      clear hb0 hsz hz hW6 hka hkb hk8 hse hseo
      refine (HEB1.out _ HBB6.out).mono ?_
      rintro e w7 ⟨A2, c2, rfl, hsf, -, hb⟩
      clear lhkb zhkb0 zhkb1 zhkb2 zhkb3 zhkb4 zhkb5 zhkb6 zhkb7 zhkb8 zhkb9 mhkb
      have hka := HKA.out.below hb HKA.out.lt
      have hkb := HKB.out.below hb HKB.out.lt
      have hk8 := HK8.out.below hb HK8.out.lt
      have hse := HSE.out.below hb
      have hseo := HSEO.out.below hb
      have hb0 : Below s w w7 := HBB6.out.trans (hb.mono (by have := HBB6.out.size; omega))
      have HKA := hid hka
      have HKB := hid hkb
      have HK8 := hid hk8
      have HSE := hid hse
      have HSEO := hid hseo
      have HSF := hid hsf
      have HBB7 := hid hb0
      clear hb0 hb hka hkb hk8 hse hseo hsf
      have zhk80 := HK8.out.cell 0
      have zhk81 := HK8.out.cell 1
      have lhk8 := HK8.out.lt
      simp only [List.getElem?_toArray, List.getElem?_cons_zero, List.getElem?_cons_succ] at zhk80 zhk81
      obtain ⟨p4, hz⟩ : ∃ p, w7.heap.size = p := ⟨_, rfl⟩
      rw [hz] at lhk8
      have mhk8 := Nat.lt_add_one_of_lt lhk8
      by_cases he1 : E1 = 0
      rotate_left
      · have he2 : (E1 != 0) = true := by simpa using he1
        go_wp2_with fail
        go_ret
        exact ⟨rfl, (HBB7.out.trans ((bw_a (Below.refl w7.heap.size w7) (.cells #[.int .i64 F1, .int .i64 F2] 33)).mono (by have := HBB7.out.size; omega)))⟩
      by_cases hf1 : F1 = 0
      rotate_left
      · have hf2 : (F1 != 0) = true := by simpa using hf1
        have he2 : (E1 != 0) = false := by simpa using he1
        go_wp2_with fail
        go_ret
        exact ⟨rfl, (HBB7.out.trans ((bw_a (Below.refl w7.heap.size w7) (.cells #[.int .i64 F1, .int .i64 F2] 33)).mono (by have := HBB7.out.size; omega)))⟩
      subst he1
      subst hf1
      have hwr : IntKind.i64.wrap ((n1 : Int) + (n2 : Int)) = (n1 : Int) + (n2 : Int) := IntWalk.i64_in _ (by omega)
      by_cases hg1 : 8192 < n1 + n2
      · have hg2 : (8192 : Int) < (n1 : Int) + (n2 : Int) := by omega
        have hg3 : decide ((8192 : Int) < (n1 : Int) + (n2 : Int)) = true := by simpa using hg2
        go_wp2_with fail
        go_ret
        exact ⟨rfl, (HBB7.out.trans ((bw_a (Below.refl w7.heap.size w7) (.cells #[.int .i64 0, .int .i64 F2] 33)).mono (by have := HBB7.out.size; omega)))⟩
      have hg2 : ¬ (8192 : Int) < (n1 : Int) + (n2 : Int) := by omega
      have hg3 : decide ((8192 : Int) < (n1 : Int) + (n2 : Int)) = false := by simpa using hg2
      go_wp2_with fail
      clear lhk8 zhk80 zhk81 mhk8
      have hk10 : Blk (w7.alloc (.cells #[.int .i64 0, .int .i64 F2] 33)) (p4) 33 #[.int .i64 0, .int .i64 F2] := by
        have h := (Blk.new w7 33 #[.int .i64 0, .int .i64 F2])
        rw [hz] at h; exact h
      have hka := (HKA.out.alloc (.cells #[.int .i64 0, .int .i64 F2] 33))
      have hkb := (HKB.out.alloc (.cells #[.int .i64 0, .int .i64 F2] 33))
      have hk8 := (HK8.out.alloc (.cells #[.int .i64 0, .int .i64 F2] 33))
      have hse := HSE.out.below (bw_a (Below.refl w7.heap.size w7) (.cells #[.int .i64 0, .int .i64 F2] 33))
      have hseo := HSEO.out.below (bw_a (Below.refl w7.heap.size w7) (.cells #[.int .i64 0, .int .i64 F2] 33))
      have hsf := HSF.out.below (bw_a (Below.refl w7.heap.size w7) (.cells #[.int .i64 0, .int .i64 F2] 33))
      have hb0 : Below s w (w7.alloc (.cells #[.int .i64 0, .int .i64 F2] 33)) := HBB7.out.trans ((bw_a (Below.refl w7.heap.size w7) (.cells #[.int .i64 0, .int .i64 F2] 33)).mono (by have := HBB7.out.size; omega))
      have hsz : ((w7.alloc (.cells #[.int .i64 0, .int .i64 F2] 33))).heap.size = p4 + 1 := by simp [hz]
      generalize hW8 : (w7.alloc (.cells #[.int .i64 0, .int .i64 F2] 33)) = W8 at *
      have HKA := hid hka
      have HKB := hid hkb
      have HK8 := hid hk8
      have HK10 := hid hk10
      have HSE := hid hse
      have HSEO := hid hseo
      have HSF := hid hsf
      have HBB8 := hid hb0
      have HSZ8 := hid hsz
      clear hb0 hsz hz hW8 hka hkb hk8 hk10 hse hseo hsf
      obtain ⟨R, E, P, hR, hcs⟩ := HRD.out (by first | trivial | rfl) (by first | trivial | rfl) (by first | trivial | rfl) (by first | trivial | rfl) (by omega)
      obtain ⟨tl, htl⟩ : ∃ t, n1 + n2 = t := ⟨_, rfl⟩
      obtain ⟨rl, hrl⟩ : ∃ t, R.l.length = t := ⟨_, rfl⟩
      obtain ⟨row, hrow⟩ : ∃ r, (eb ++ fb).map bv = r := ⟨_, rfl⟩
      have hdc := fun W A' c' (h : Sl W A' c' ((eb ++ fb).map bv)) => dec_p (w := W) (n := tl) hk255 hv1 hv2 (by rw [List.length_append, HN1.out, HN2.out]; exact htl) h hR
      rw [hrl, hrow] at hdc
      have hox := HSEO.out.own
      have hsbx : s < bx := by have h := HBLT.out; omega
      have hbxs : bx ≤ W8.heap.size := by have h := HBS.out; have h2 := HK8.out.lt; omega
      have HDC := hid hdc
      have HOX := hid hox
      have HOY := hid HSF.out
      have HSBX := hid hsbx
      have HBXS := hid hbxs
      have HTL := hid htl
      have HROW := hid hrow
      have HRL := hid hrl
      have HCS := hid hcs
      clear hdc hox hsbx hbxs hrl hcs hR htl hrow
      refine wp_region_invB (by kernel_rfl) (by kernel_rfl) (LlR bx s M.k v (.slice A1 n1 c1) (.slice A2 n2 c2) tl rl row R E P) ?_ ?_ ?_
      · exact ⟨undef, undef, undef, undef, undef, undef, undef, undef, undef, undef, undef, undef, none, 0, none, 0, (by first | (simp only [Act.put, List.setIfInBounds_toArray, List.set_cons_succ, List.set_cons_zero]; done) | rfl), by simp, by simp, by simp, by simp, by simp, by simp, by simp, by simp, by simp, by simp, by simp, by simp, by simp, by simp, by simp, by simp, by simp, (⟨rfl, rfl, rfl, Nat.le_refl _, fun _ _ => rfl⟩), (fun _ => ⟨rfl, rfl, rfl, Nat.le_refl _, fun _ _ => rfl⟩)⟩
      · intro f a' wx i o ho hf hdep hI
        have hi : i < 14 := (Array.getElem?_eq_some_iff.1 ho).1
        have hcase : i = 0 ∨ i = 1 ∨ i = 2 ∨ i = 3 ∨ i = 4 ∨ i = 5 ∨ i = 6 ∨ i = 7 ∨ i = 8 ∨ i = 9 ∨ i = 10 ∨ i = 11 ∨ i = 12 ∨ i = 13 := by omega
        clear hi
        rcases hcase with rfl | rfl | rfl | rfl | rfl | rfl | rfl | rfl | rfl | rfl | rfl | rfl | rfl | rfl
        all_goals
          simp only [List.getElem?_toArray, List.getElem?_cons_zero, List.getElem?_cons_succ, Option.some.injEq] at ho
          subst ho
        · -- 0
          obtain ⟨x0, x1, x2, x3, x4, x5, x6, x7, x8, x9, x10, x11, Aj, cj, A', c', rfl, h0, h1, h2, h3, h4, h5, r5, h6, s6, d6, h7, h8, h9, h10, h11, d12, d13, W1, W0⟩ := hI
          have H0' := hid h0; have H1' := hid h1; have H2' := hid h2; have H3' := hid h3; have H4' := hid h4; have H5' := hid h5; have R5' := hid r5; have H6' := hid h6; have S6' := hid s6; have D6' := hid d6; have H7' := hid h7; have H8' := hid h8; have H9' := hid h9; have H10' := hid h10; have H11' := hid h11; have D12' := hid d12; have D13' := hid d13; have W1' := hid W1; have W0' := hid W0; clear h0 h1 h2 h3 h4 h5 r5 h6 s6 d6 h7 h8 h9 h10 h11 d12 d13 W1 W0
          try simp only [Act.put, List.setIfInBounds_toArray, List.set_cons_succ, List.set_cons_zero]
          go_wp2_with fail
          have h0 := H0'.out; have h1 := H1'.out; have h2 := H2'.out; have h3 := H3'.out; have h4 := H4'.out; have h5 := H5'.out; have r5 := R5'.out; have h6 := H6'.out; have s6 := S6'.out; have d6 := D6'.out; have h7 := H7'.out; have h8 := H8'.out; have h9 := H9'.out; have h10 := H10'.out; have h11 := H11'.out; have d12 := D12'.out; have d13 := D13'.out; have W1 := W1'.out; have W0 := W0'.out
          exact ⟨_, x1, x2, x3, x4, x5, x6, x7, x8, x9, x10, x11, Aj, cj, A', c', (by first | (simp only [Act.put, List.setIfInBounds_toArray, List.set_cons_succ, List.set_cons_zero]; done) | rfl), (fun _ => rfl), (fun h => h1 (by simpa using h)), (fun h => h2 (by simpa using h)), (fun h => h3 (by simpa using h)), (fun h => h4 (by simpa using h)), (fun h => h5 (by simpa using h)), (fun h h' => (r5 (by simpa using h) (by simpa using h'))), (fun h => h6 (by simpa using h)), (fun h => (s6 (by simpa using h))), (fun h => by have h' := d6 (by simpa using h); simp [h']), (fun h => by have h' := h7 (by simpa using h); exact ⟨by simp [h'.1], h'.2⟩), (fun h => by have h' := h8 (by simpa using h); exact ⟨by simp [h'.1], h'.2⟩), (fun h => by have h' := h9 (by simpa using h); exact ⟨by simp [h'.1], h'.2⟩), (fun h => by obtain ⟨g, e, hg, hk⟩ := h10 (by simpa using h); have hk' := hk; exact ⟨g, e, hg, by simpa using hk'⟩), (fun h => by obtain ⟨g, e, hg, hk⟩ := h11 (by simpa using h); have hk' := hk; exact ⟨g, e, hg, by simpa using hk'⟩), (fun h => by have h' := d12 (by simpa using h); simp [h']), (fun h => by have h' := d13 (by simpa using h); simp [h']), W1, (fun h => (W0 (by simpa using h)))⟩
        · -- 1
          obtain ⟨x0, x1, x2, x3, x4, x5, x6, x7, x8, x9, x10, x11, Aj, cj, A', c', rfl, h0, h1, h2, h3, h4, h5, r5, h6, s6, d6, h7, h8, h9, h10, h11, d12, d13, W1, W0⟩ := hI
          simp [Region.binds] at hdep
          obtain rfl := h0 (by first | exact hdep | exact hdep.1 | exact hdep.2 | exact hdep.2.1 | exact hdep.2.2 | exact hdep.2.2.1 | exact hdep.2.2.2 | simp_all)
          have hkk := HKA.out.below W1 HSBX.out
          have c0 := hkk.cell 0
          simp only [List.getElem?_toArray, List.getElem?_cons_zero, List.getElem?_cons_succ] at c0
          have hlk := hkk.lt
          clear hkk
          have H0' := hid h0; have H1' := hid h1; have H2' := hid h2; have H3' := hid h3; have H4' := hid h4; have H5' := hid h5; have R5' := hid r5; have H6' := hid h6; have S6' := hid s6; have D6' := hid d6; have H7' := hid h7; have H8' := hid h8; have H9' := hid h9; have H10' := hid h10; have H11' := hid h11; have D12' := hid d12; have D13' := hid d13; have W1' := hid W1; have W0' := hid W0; clear h0 h1 h2 h3 h4 h5 r5 h6 s6 d6 h7 h8 h9 h10 h11 d12 d13 W1 W0
          try simp only [Act.put, List.setIfInBounds_toArray, List.set_cons_succ, List.set_cons_zero]
          go_wp2_with fail
          have h0 := H0'.out; have h1 := H1'.out; have h2 := H2'.out; have h3 := H3'.out; have h4 := H4'.out; have h5 := H5'.out; have r5 := R5'.out; have h6 := H6'.out; have s6 := S6'.out; have d6 := D6'.out; have h7 := H7'.out; have h8 := H8'.out; have h9 := H9'.out; have h10 := H10'.out; have h11 := H11'.out; have d12 := D12'.out; have d13 := D13'.out; have W1 := W1'.out; have W0 := W0'.out
          exact ⟨_, _, x2, x3, x4, x5, x6, x7, x8, x9, x10, x11, Aj, cj, A', c', (by first | (simp only [Act.put, List.setIfInBounds_toArray, List.set_cons_succ, List.set_cons_zero]; done) | rfl), (fun _ => rfl), (fun _ => rfl), (fun h => h2 (by simpa using h)), (fun h => h3 (by simpa using h)), (fun h => h4 (by simpa using h)), (fun h => h5 (by simpa using h)), (fun h h' => (r5 (by simpa using h) (by simpa using h'))), (fun h => h6 (by simpa using h)), (fun h => (s6 (by simpa using h))), (fun h => by have h' := d6 (by simpa using h); simp [h']), (fun h => by have h' := h7 (by simpa using h); exact ⟨by simp [h'.1], h'.2⟩), (fun h => by have h' := h8 (by simpa using h); exact ⟨by simp [h'.1], h'.2⟩), (fun h => by have h' := h9 (by simpa using h); exact ⟨by simp [h'.1], h'.2⟩), (fun h => by obtain ⟨g, e, hg, hk⟩ := h10 (by simpa using h); have hk' := hk; exact ⟨g, e, hg, by simpa using hk'⟩), (fun h => by obtain ⟨g, e, hg, hk⟩ := h11 (by simpa using h); have hk' := hk; exact ⟨g, e, hg, by simpa using hk'⟩), (fun h => by have h' := d12 (by simpa using h); simp [h']), (fun h => by have h' := d13 (by simpa using h); simp [h']), W1, (fun h => (W0 (by simpa using h)))⟩
        · -- 2
          obtain ⟨x0, x1, x2, x3, x4, x5, x6, x7, x8, x9, x10, x11, Aj, cj, A', c', rfl, h0, h1, h2, h3, h4, h5, r5, h6, s6, d6, h7, h8, h9, h10, h11, d12, d13, W1, W0⟩ := hI
          have H0' := hid h0; have H1' := hid h1; have H2' := hid h2; have H3' := hid h3; have H4' := hid h4; have H5' := hid h5; have R5' := hid r5; have H6' := hid h6; have S6' := hid s6; have D6' := hid d6; have H7' := hid h7; have H8' := hid h8; have H9' := hid h9; have H10' := hid h10; have H11' := hid h11; have D12' := hid d12; have D13' := hid d13; have W1' := hid W1; have W0' := hid W0; clear h0 h1 h2 h3 h4 h5 r5 h6 s6 d6 h7 h8 h9 h10 h11 d12 d13 W1 W0
          try simp only [Act.put, List.setIfInBounds_toArray, List.set_cons_succ, List.set_cons_zero]
          go_wp2_with fail
          have h0 := H0'.out; have h1 := H1'.out; have h2 := H2'.out; have h3 := H3'.out; have h4 := H4'.out; have h5 := H5'.out; have r5 := R5'.out; have h6 := H6'.out; have s6 := S6'.out; have d6 := D6'.out; have h7 := H7'.out; have h8 := H8'.out; have h9 := H9'.out; have h10 := H10'.out; have h11 := H11'.out; have d12 := D12'.out; have d13 := D13'.out; have W1 := W1'.out; have W0 := W0'.out
          exact ⟨x0, x1, _, x3, x4, x5, x6, x7, x8, x9, x10, x11, Aj, cj, A', c', (by first | (simp only [Act.put, List.setIfInBounds_toArray, List.set_cons_succ, List.set_cons_zero]; done) | rfl), (fun h => h0 (by simpa using h)), (fun h => h1 (by simpa using h)), (fun _ => rfl), (fun h => h3 (by simpa using h)), (fun h => h4 (by simpa using h)), (fun h => h5 (by simpa using h)), (fun h h' => (r5 (by simpa using h) (by simpa using h'))), (fun h => h6 (by simpa using h)), (fun h => (s6 (by simpa using h))), (fun h => by have h' := d6 (by simpa using h); simp [h']), (fun h => by have h' := h7 (by simpa using h); exact ⟨by simp [h'.1], h'.2⟩), (fun h => by have h' := h8 (by simpa using h); exact ⟨by simp [h'.1], h'.2⟩), (fun h => by have h' := h9 (by simpa using h); exact ⟨by simp [h'.1], h'.2⟩), (fun h => by obtain ⟨g, e, hg, hk⟩ := h10 (by simpa using h); have hk' := hk; exact ⟨g, e, hg, by simpa using hk'⟩), (fun h => by obtain ⟨g, e, hg, hk⟩ := h11 (by simpa using h); have hk' := hk; exact ⟨g, e, hg, by simpa using hk'⟩), (fun h => by have h' := d12 (by simpa using h); simp [h']), (fun h => by have h' := d13 (by simpa using h); simp [h']), W1, (fun h => (W0 (by simpa using h)))⟩
        · -- 3
          obtain ⟨x0, x1, x2, x3, x4, x5, x6, x7, x8, x9, x10, x11, Aj, cj, A', c', rfl, h0, h1, h2, h3, h4, h5, r5, h6, s6, d6, h7, h8, h9, h10, h11, d12, d13, W1, W0⟩ := hI
          have H0' := hid h0; have H1' := hid h1; have H2' := hid h2; have H3' := hid h3; have H4' := hid h4; have H5' := hid h5; have R5' := hid r5; have H6' := hid h6; have S6' := hid s6; have D6' := hid d6; have H7' := hid h7; have H8' := hid h8; have H9' := hid h9; have H10' := hid h10; have H11' := hid h11; have D12' := hid d12; have D13' := hid d13; have W1' := hid W1; have W0' := hid W0; clear h0 h1 h2 h3 h4 h5 r5 h6 s6 d6 h7 h8 h9 h10 h11 d12 d13 W1 W0
          try simp only [Act.put, List.setIfInBounds_toArray, List.set_cons_succ, List.set_cons_zero]
          go_wp2_with fail
          have h0 := H0'.out; have h1 := H1'.out; have h2 := H2'.out; have h3 := H3'.out; have h4 := H4'.out; have h5 := H5'.out; have r5 := R5'.out; have h6 := H6'.out; have s6 := S6'.out; have d6 := D6'.out; have h7 := H7'.out; have h8 := H8'.out; have h9 := H9'.out; have h10 := H10'.out; have h11 := H11'.out; have d12 := D12'.out; have d13 := D13'.out; have W1 := W1'.out; have W0 := W0'.out
          exact ⟨x0, x1, x2, _, x4, x5, x6, x7, x8, x9, x10, x11, Aj, cj, A', c', (by first | (simp only [Act.put, List.setIfInBounds_toArray, List.set_cons_succ, List.set_cons_zero]; done) | rfl), (fun h => h0 (by simpa using h)), (fun h => h1 (by simpa using h)), (fun h => h2 (by simpa using h)), (fun _ => rfl), (fun h => h4 (by simpa using h)), (fun h => h5 (by simpa using h)), (fun h h' => (r5 (by simpa using h) (by simpa using h'))), (fun h => h6 (by simpa using h)), (fun h => (s6 (by simpa using h))), (fun h => by have h' := d6 (by simpa using h); simp [h']), (fun h => by have h' := h7 (by simpa using h); exact ⟨by simp [h'.1], h'.2⟩), (fun h => by have h' := h8 (by simpa using h); exact ⟨by simp [h'.1], h'.2⟩), (fun h => by have h' := h9 (by simpa using h); exact ⟨by simp [h'.1], h'.2⟩), (fun h => by obtain ⟨g, e, hg, hk⟩ := h10 (by simpa using h); have hk' := hk; exact ⟨g, e, hg, by simpa using hk'⟩), (fun h => by obtain ⟨g, e, hg, hk⟩ := h11 (by simpa using h); have hk' := hk; exact ⟨g, e, hg, by simpa using hk'⟩), (fun h => by have h' := d12 (by simpa using h); simp [h']), (fun h => by have h' := d13 (by simpa using h); simp [h']), W1, (fun h => (W0 (by simpa using h)))⟩
        · -- 4
          obtain ⟨x0, x1, x2, x3, x4, x5, x6, x7, x8, x9, x10, x11, Aj, cj, A', c', rfl, h0, h1, h2, h3, h4, h5, r5, h6, s6, d6, h7, h8, h9, h10, h11, d12, d13, W1, W0⟩ := hI
          have H0' := hid h0; have H1' := hid h1; have H2' := hid h2; have H3' := hid h3; have H4' := hid h4; have H5' := hid h5; have R5' := hid r5; have H6' := hid h6; have S6' := hid s6; have D6' := hid d6; have H7' := hid h7; have H8' := hid h8; have H9' := hid h9; have H10' := hid h10; have H11' := hid h11; have D12' := hid d12; have D13' := hid d13; have W1' := hid W1; have W0' := hid W0; clear h0 h1 h2 h3 h4 h5 r5 h6 s6 d6 h7 h8 h9 h10 h11 d12 d13 W1 W0
          try simp only [Act.put, List.setIfInBounds_toArray, List.set_cons_succ, List.set_cons_zero]
          go_wp2_with fail
          have h0 := H0'.out; have h1 := H1'.out; have h2 := H2'.out; have h3 := H3'.out; have h4 := H4'.out; have h5 := H5'.out; have r5 := R5'.out; have h6 := H6'.out; have s6 := S6'.out; have d6 := D6'.out; have h7 := H7'.out; have h8 := H8'.out; have h9 := H9'.out; have h10 := H10'.out; have h11 := H11'.out; have d12 := D12'.out; have d13 := D13'.out; have W1 := W1'.out; have W0 := W0'.out
          exact ⟨x0, x1, x2, x3, _, x5, x6, x7, x8, x9, x10, x11, Aj, cj, A', c', (by first | (simp only [Act.put, List.setIfInBounds_toArray, List.set_cons_succ, List.set_cons_zero]; done) | rfl), (fun h => h0 (by simpa using h)), (fun h => h1 (by simpa using h)), (fun h => h2 (by simpa using h)), (fun h => h3 (by simpa using h)), (fun _ => rfl), (fun h => h5 (by simpa using h)), (fun h h' => (r5 (by simpa using h) (by simpa using h'))), (fun h => h6 (by simpa using h)), (fun h => (s6 (by simpa using h))), (fun h => by have h' := d6 (by simpa using h); simp [h']), (fun h => by have h' := h7 (by simpa using h); exact ⟨by simp [h'.1], h'.2⟩), (fun h => by have h' := h8 (by simpa using h); exact ⟨by simp [h'.1], h'.2⟩), (fun h => by have h' := h9 (by simpa using h); exact ⟨by simp [h'.1], h'.2⟩), (fun h => by obtain ⟨g, e, hg, hk⟩ := h10 (by simpa using h); have hk' := hk; exact ⟨g, e, hg, by simpa using hk'⟩), (fun h => by obtain ⟨g, e, hg, hk⟩ := h11 (by simpa using h); have hk' := hk; exact ⟨g, e, hg, by simpa using hk'⟩), (fun h => by have h' := d12 (by simpa using h); simp [h']), (fun h => by have h' := d13 (by simpa using h); simp [h']), W1, (fun h => (W0 (by simpa using h)))⟩
        · -- 5
          obtain ⟨x0, x1, x2, x3, x4, x5, x6, x7, x8, x9, x10, x11, Aj, cj, A', c', rfl, h0, h1, h2, h3, h4, h5, r5, h6, s6, d6, h7, h8, h9, h10, h11, d12, d13, W1, W0⟩ := hI
          simp [Region.binds] at hdep
          obtain rfl := h3 (by first | exact hdep | exact hdep.1 | exact hdep.2 | exact hdep.2.1 | exact hdep.2.2 | exact hdep.2.2.1 | exact hdep.2.2.2 | simp_all)
          obtain rfl := h4 (by first | exact hdep | exact hdep.1 | exact hdep.2 | exact hdep.2.1 | exact hdep.2.2 | exact hdep.2.2.1 | exact hdep.2.2.2 | simp_all)
          have q6 : f 6 = false := (by cases hx : f 6 with | false => rfl | true => (have := d6 hx; rw [hf] at this; cases this))
          have q7 : f 7 = false := (by cases hx : f 7 with | false => rfl | true => (have := (h7 hx).1; rw [q6] at this; cases this))
          have q8 : f 8 = false := (by cases hx : f 8 with | false => rfl | true => (have := (h8 hx).1; rw [q6] at this; cases this))
          have q9 : f 9 = false := (by cases hx : f 9 with | false => rfl | true => (have := (h9 hx).1; rw [q6] at this; cases this))
          have q12 : f 12 = false := (by cases hx : f 12 with | false => rfl | true => (have := (d12 hx).2; rw [q8] at this; cases this))
          have q13 : f 13 = false := (by cases hx : f 13 with | false => rfl | true => (have := (d13 hx).2; rw [q9] at this; cases this))
          have hbw := W0 hf
          have hox := own_below HOX.out hbw
          have hoy := HOY.out.below hbw
          have hsz1 := hbw.size
          have hbxw : bx ≤ wx.heap.size := Nat.le_trans HBXS.out hsz1
          have HOXW := hid hox
          have HOYW := hid hoy
          clear hox hoy hbw
          have H0' := hid h0; have H1' := hid h1; have H2' := hid h2; have H3' := hid h3; have H4' := hid h4; have H5' := hid h5; have R5' := hid r5; have H6' := hid h6; have S6' := hid s6; have D6' := hid d6; have H7' := hid h7; have H8' := hid h8; have H9' := hid h9; have H10' := hid h10; have H11' := hid h11; have D12' := hid d12; have D13' := hid d13; have W1' := hid W1; have W0' := hid W0; clear h0 h1 h2 h3 h4 h5 r5 h6 s6 d6 h7 h8 h9 h10 h11 d12 d13 W1 W0
          try simp only [Act.put, List.setIfInBounds_toArray, List.set_cons_succ, List.set_cons_zero]
          go_wp2_with (at_builtin; refine wpList_append_rd rfl (.tmp 65) (.tmp 66) 30 rfl bx 5 i0 (.int .u8 0) 1 1 Try.underlying30 hi0 hz0 hz1 hz2 rfl (by decide) _ _ _ rfl HOXW.out A2 n2 c2 (fb.map bv) rfl (by rw [List.length_map, HN2.out, Nat.mul_one]) HOYW.out.rd HOYW.out.nil0 (bv_one _) (by simp only [maxLen]; omega) (by omega) hbxw ?_; intro v1 w1 hown1 hgrow1; rw [← List.map_append, HTL.out, HROW.out] at hown1; obtain ⟨Aq, cq, rfl⟩ := row_slice' hown1; have hcg := Chg.of_grown (S := fun q => (Value.slice A1 n1 c1).ownBlock = some q) hgrow1 (fun g e => e); have HO1 := hid hown1; have HCG := hid hcg; clear hown1 hgrow1 hcg)
          have h0 := H0'.out; have h1 := H1'.out; have h2 := H2'.out; have h3 := H3'.out; have h4 := H4'.out; have h5 := H5'.out; have r5 := R5'.out; have h6 := H6'.out; have s6 := S6'.out; have d6 := D6'.out; have h7 := H7'.out; have h8 := H8'.out; have h9 := H9'.out; have h10 := H10'.out; have h11 := H11'.out; have d12 := D12'.out; have d13 := D13'.out; have W1 := W1'.out; have W0 := W0'.out
          exact ⟨x0, x1, x2, _, _, _, x6, x7, x8, x9, x10, x11, Aq, cq, A', c', (by first | (simp only [Act.put, List.setIfInBounds_toArray, List.set_cons_succ, List.set_cons_zero]; done) | rfl), (fun h => h0 (by simpa using h)), (fun h => h1 (by simpa using h)), (fun h => h2 (by simpa using h)), (fun _ => rfl), (fun _ => rfl), (fun _ => rfl), (fun _ _ => HO1.out), (fun h => by simp [q6] at h), (fun h => by simp [q6] at h), (fun h => by simp [q6] at h), (fun h => by simp [q7] at h), (fun h => by simp [q8] at h), (fun h => by simp [q9] at h), (fun h => by obtain ⟨g, e, hg, hk⟩ := h10 (by simpa using h); have hk' := (HCG.out.blk hk (fun hq => own_ne_blk HOXW.out hk (by decide) _ hq rfl)); exact ⟨g, e, hg, by simpa using hk'⟩), (fun h => by obtain ⟨g, e, hg, hk⟩ := h11 (by simpa using h); have hk' := (HCG.out.blk hk (fun hq => own_ne_blk HOXW.out hk (by decide) _ hq rfl)); exact ⟨g, e, hg, by simpa using hk'⟩), (fun h => by have h' := d12 (by simpa using h); simp [h']), (fun h => by have h' := d13 (by simpa using h); simp [h']), (W1.trans (HCG.out.below (fun k ek => (HOXW.out.lt k ek).1) hbxw)), (fun h => by simp at h)⟩
        · -- 6
          obtain ⟨x0, x1, x2, x3, x4, x5, x6, x7, x8, x9, x10, x11, Aj, cj, A', c', rfl, h0, h1, h2, h3, h4, h5, r5, h6, s6, d6, h7, h8, h9, h10, h11, d12, d13, W1, W0⟩ := hI
          simp [Region.binds] at hdep
          obtain rfl := h1 (by first | exact hdep | exact hdep.1 | exact hdep.2 | exact hdep.2.1 | exact hdep.2.2 | exact hdep.2.2.1 | exact hdep.2.2.2 | simp_all)
          obtain rfl := h2 (by first | exact hdep | exact hdep.1 | exact hdep.2 | exact hdep.2.1 | exact hdep.2.2 | exact hdep.2.2.1 | exact hdep.2.2.2 | simp_all)
          obtain rfl := h5 (by first | exact hdep | exact hdep.1 | exact hdep.2 | exact hdep.2.1 | exact hdep.2.2 | exact hdep.2.2.1 | exact hdep.2.2.2 | simp_all)
          have q7 : f 7 = false := (by cases hx : f 7 with | false => rfl | true => (have := (h7 hx).1; rw [hf] at this; cases this))
          have q8 : f 8 = false := (by cases hx : f 8 with | false => rfl | true => (have := (h8 hx).1; rw [hf] at this; cases this))
          have q9 : f 9 = false := (by cases hx : f 9 with | false => rfl | true => (have := (h9 hx).1; rw [hf] at this; cases this))
          have q12 : f 12 = false := (by cases hx : f 12 with | false => rfl | true => (have := (d12 hx).2; rw [q8] at this; cases this))
          have q13 : f 13 = false := (by cases hx : f 13 with | false => rfl | true => (have := (d13 hx).2; rw [q9] at this; cases this))
          have hrow5 := r5 (by first | exact hdep | exact hdep.1 | exact hdep.2 | exact hdep.2.1 | exact hdep.2.2 | simp_all) hf
          have hsl5 := Sl.of_own' hrow5
          have HCON := hid (HDC.out wx Aj cj hsl5)
          have q5 : f 5 = true := (by first | exact hdep | exact hdep.1 | exact hdep.2 | exact hdep.2.1 | exact hdep.2.2 | simp_all)
          clear hrow5 hsl5
          have H0' := hid h0; have H1' := hid h1; have H2' := hid h2; have H3' := hid h3; have H4' := hid h4; have H5' := hid h5; have R5' := hid r5; have H6' := hid h6; have S6' := hid s6; have D6' := hid d6; have H7' := hid h7; have H8' := hid h8; have H9' := hid h9; have H10' := hid h10; have H11' := hid h11; have D12' := hid d12; have D13' := hid d13; have W1' := hid W1; have W0' := hid W0; clear h0 h1 h2 h3 h4 h5 r5 h6 s6 d6 h7 h8 h9 h10 h11 d12 d13 W1 W0
          try simp only [Act.put, List.setIfInBounds_toArray, List.set_cons_succ, List.set_cons_zero]
          go_wp2_with fail
          refine HCON.out.mono ?_
          rintro e w8 ⟨Aq, cq, rfl, ho8, hb8⟩
          have HO8 := hid ho8
          have HB8 := hid hb8
          clear ho8 hb8
          go_wp2_with fail
          have h0 := H0'.out; have h1 := H1'.out; have h2 := H2'.out; have h3 := H3'.out; have h4 := H4'.out; have h5 := H5'.out; have r5 := R5'.out; have h6 := H6'.out; have s6 := S6'.out; have d6 := D6'.out; have h7 := H7'.out; have h8 := H8'.out; have h9 := H9'.out; have h10 := H10'.out; have h11 := H11'.out; have d12 := D12'.out; have d13 := D13'.out; have W1 := W1'.out; have W0 := W0'.out
          have hbx8 : bx ≤ wx.heap.size := Nat.le_trans HBXS.out W1.size
          exact ⟨x0, _, _, x3, x4, _, _, x7, x8, x9, x10, x11, Aj, cj, Aq, cq, (by first | (simp only [Act.put, List.setIfInBounds_toArray, List.set_cons_succ, List.set_cons_zero]; done) | rfl), (fun h => h0 (by simpa using h)), (fun _ => rfl), (fun _ => rfl), (fun h => h3 (by simpa using h)), (fun h => h4 (by simpa using h)), (fun _ => rfl), (fun _ h => by simp at h), (fun _ => rfl), (fun _ => own_mono HO8.out.own hbx8), (fun _ => by simp [q5]), (fun h => by simp [q7] at h), (fun h => by simp [q8] at h), (fun h => by simp [q9] at h), (fun h => by obtain ⟨g, e, hg, hk⟩ := h10 (by simpa using h); have hk' := hk.below HB8.out hk.lt; exact ⟨g, e, hg, by simpa [q12] using hk'⟩), (fun h => by obtain ⟨g, e, hg, hk⟩ := h11 (by simpa using h); have hk' := hk.below HB8.out hk.lt; exact ⟨g, e, hg, by simpa [q13] using hk'⟩), (fun h => by have h' := d12 (by simpa using h); simp [h']), (fun h => by have h' := d13 (by simpa using h); simp [h']), (W1.trans (HB8.out.mono hbx8)), (fun h => by simp [q5] at h)⟩
        · -- 7
          obtain ⟨x0, x1, x2, x3, x4, x5, x6, x7, x8, x9, x10, x11, Aj, cj, A', c', rfl, h0, h1, h2, h3, h4, h5, r5, h6, s6, d6, h7, h8, h9, h10, h11, d12, d13, W1, W0⟩ := hI
          simp [Region.binds] at hdep
          obtain rfl := h6 (by first | exact hdep | exact hdep.1 | exact hdep.2 | exact hdep.2.1 | exact hdep.2.2 | exact hdep.2.2.1 | exact hdep.2.2.2 | simp_all)
          have q6 : f 6 = true := (by first | exact hdep | exact hdep.1 | simp_all)
          have H0' := hid h0; have H1' := hid h1; have H2' := hid h2; have H3' := hid h3; have H4' := hid h4; have H5' := hid h5; have R5' := hid r5; have H6' := hid h6; have S6' := hid s6; have D6' := hid d6; have H7' := hid h7; have H8' := hid h8; have H9' := hid h9; have H10' := hid h10; have H11' := hid h11; have D12' := hid d12; have D13' := hid d13; have W1' := hid W1; have W0' := hid W0; clear h0 h1 h2 h3 h4 h5 r5 h6 s6 d6 h7 h8 h9 h10 h11 d12 d13 W1 W0
          try simp only [Act.put, List.setIfInBounds_toArray, List.set_cons_succ, List.set_cons_zero]
          go_wp2_with fail
          have h0 := H0'.out; have h1 := H1'.out; have h2 := H2'.out; have h3 := H3'.out; have h4 := H4'.out; have h5 := H5'.out; have r5 := R5'.out; have h6 := H6'.out; have s6 := S6'.out; have d6 := D6'.out; have h7 := H7'.out; have h8 := H8'.out; have h9 := H9'.out; have h10 := H10'.out; have h11 := H11'.out; have d12 := D12'.out; have d13 := D13'.out; have W1 := W1'.out; have W0 := W0'.out
          exact ⟨x0, x1, x2, x3, x4, x5, _, _, x8, x9, x10, x11, Aj, cj, A', c', (by first | (simp only [Act.put, List.setIfInBounds_toArray, List.set_cons_succ, List.set_cons_zero]; done) | rfl), (fun h => h0 (by simpa using h)), (fun h => h1 (by simpa using h)), (fun h => h2 (by simpa using h)), (fun h => h3 (by simpa using h)), (fun h => h4 (by simpa using h)), (fun h => h5 (by simpa using h)), (fun h h' => (r5 (by simpa using h) (by simpa using h'))), (fun _ => rfl), (fun h => (s6 (by simpa using h))), (fun h => by have h' := d6 (by simpa using h); simp [h']), (fun _ => ⟨by simp [q6], rfl⟩), (fun h => by have h' := h8 (by simpa using h); exact ⟨by simp [h'.1], h'.2⟩), (fun h => by have h' := h9 (by simpa using h); exact ⟨by simp [h'.1], h'.2⟩), (fun h => by obtain ⟨g, e, hg, hk⟩ := h10 (by simpa using h); have hk' := hk; exact ⟨g, e, hg, by simpa using hk'⟩), (fun h => by obtain ⟨g, e, hg, hk⟩ := h11 (by simpa using h); have hk' := hk; exact ⟨g, e, hg, by simpa using hk'⟩), (fun h => by have h' := d12 (by simpa using h); simp [h']), (fun h => by have h' := d13 (by simpa using h); simp [h']), W1, (fun h => (W0 (by simpa using h)))⟩
        · -- 8
          obtain ⟨x0, x1, x2, x3, x4, x5, x6, x7, x8, x9, x10, x11, Aj, cj, A', c', rfl, h0, h1, h2, h3, h4, h5, r5, h6, s6, d6, h7, h8, h9, h10, h11, d12, d13, W1, W0⟩ := hI
          simp [Region.binds] at hdep
          obtain ⟨q6, rfl⟩ := h7 (by first | exact hdep | exact hdep.1 | exact hdep.2 | exact hdep.2.1 | exact hdep.2.2 | exact hdep.2.2.1 | exact hdep.2.2.2 | simp_all)
          have H0' := hid h0; have H1' := hid h1; have H2' := hid h2; have H3' := hid h3; have H4' := hid h4; have H5' := hid h5; have R5' := hid r5; have H6' := hid h6; have S6' := hid s6; have D6' := hid d6; have H7' := hid h7; have H8' := hid h8; have H9' := hid h9; have H10' := hid h10; have H11' := hid h11; have D12' := hid d12; have D13' := hid d13; have W1' := hid W1; have W0' := hid W0; clear h0 h1 h2 h3 h4 h5 r5 h6 s6 d6 h7 h8 h9 h10 h11 d12 d13 W1 W0
          try simp only [Act.put, List.setIfInBounds_toArray, List.set_cons_succ, List.set_cons_zero]
          go_wp2_with fail
          have h0 := H0'.out; have h1 := H1'.out; have h2 := H2'.out; have h3 := H3'.out; have h4 := H4'.out; have h5 := H5'.out; have r5 := R5'.out; have h6 := H6'.out; have s6 := S6'.out; have d6 := D6'.out; have h7 := H7'.out; have h8 := H8'.out; have h9 := H9'.out; have h10 := H10'.out; have h11 := H11'.out; have d12 := D12'.out; have d13 := D13'.out; have W1 := W1'.out; have W0 := W0'.out
          exact ⟨x0, x1, x2, x3, x4, x5, x6, _, _, x9, x10, x11, Aj, cj, A', c', (by first | (simp only [Act.put, List.setIfInBounds_toArray, List.set_cons_succ, List.set_cons_zero]; done) | rfl), (fun h => h0 (by simpa using h)), (fun h => h1 (by simpa using h)), (fun h => h2 (by simpa using h)), (fun h => h3 (by simpa using h)), (fun h => h4 (by simpa using h)), (fun h => h5 (by simpa using h)), (fun h h' => (r5 (by simpa using h) (by simpa using h'))), (fun h => h6 (by simpa using h)), (fun h => (s6 (by simpa using h))), (fun h => by have h' := d6 (by simpa using h); simp [h']), (fun _ => ⟨by simp [q6], rfl⟩), (fun _ => ⟨by simp [q6], rfl⟩), (fun h => by have h' := h9 (by simpa using h); exact ⟨by simp [h'.1], h'.2⟩), (fun h => by obtain ⟨g, e, hg, hk⟩ := h10 (by simpa using h); have hk' := hk; exact ⟨g, e, hg, by simpa using hk'⟩), (fun h => by obtain ⟨g, e, hg, hk⟩ := h11 (by simpa using h); have hk' := hk; exact ⟨g, e, hg, by simpa using hk'⟩), (fun h => by have h' := d12 (by simpa using h); simp [h']), (fun h => by have h' := d13 (by simpa using h); simp [h']), W1, (fun h => (W0 (by simpa using h)))⟩
        · -- 9
          obtain ⟨x0, x1, x2, x3, x4, x5, x6, x7, x8, x9, x10, x11, Aj, cj, A', c', rfl, h0, h1, h2, h3, h4, h5, r5, h6, s6, d6, h7, h8, h9, h10, h11, d12, d13, W1, W0⟩ := hI
          simp [Region.binds] at hdep
          obtain ⟨q6, rfl⟩ := h7 (by first | exact hdep | exact hdep.1 | exact hdep.2 | exact hdep.2.1 | exact hdep.2.2 | exact hdep.2.2.1 | exact hdep.2.2.2 | simp_all)
          have H0' := hid h0; have H1' := hid h1; have H2' := hid h2; have H3' := hid h3; have H4' := hid h4; have H5' := hid h5; have R5' := hid r5; have H6' := hid h6; have S6' := hid s6; have D6' := hid d6; have H7' := hid h7; have H8' := hid h8; have H9' := hid h9; have H10' := hid h10; have H11' := hid h11; have D12' := hid d12; have D13' := hid d13; have W1' := hid W1; have W0' := hid W0; clear h0 h1 h2 h3 h4 h5 r5 h6 s6 d6 h7 h8 h9 h10 h11 d12 d13 W1 W0
          try simp only [Act.put, List.setIfInBounds_toArray, List.set_cons_succ, List.set_cons_zero]
          go_wp2_with fail
          have h0 := H0'.out; have h1 := H1'.out; have h2 := H2'.out; have h3 := H3'.out; have h4 := H4'.out; have h5 := H5'.out; have r5 := R5'.out; have h6 := H6'.out; have s6 := S6'.out; have d6 := D6'.out; have h7 := H7'.out; have h8 := H8'.out; have h9 := H9'.out; have h10 := H10'.out; have h11 := H11'.out; have d12 := D12'.out; have d13 := D13'.out; have W1 := W1'.out; have W0 := W0'.out
          exact ⟨x0, x1, x2, x3, x4, x5, x6, _, x8, _, x10, x11, Aj, cj, A', c', (by first | (simp only [Act.put, List.setIfInBounds_toArray, List.set_cons_succ, List.set_cons_zero]; done) | rfl), (fun h => h0 (by simpa using h)), (fun h => h1 (by simpa using h)), (fun h => h2 (by simpa using h)), (fun h => h3 (by simpa using h)), (fun h => h4 (by simpa using h)), (fun h => h5 (by simpa using h)), (fun h h' => (r5 (by simpa using h) (by simpa using h'))), (fun h => h6 (by simpa using h)), (fun h => (s6 (by simpa using h))), (fun h => by have h' := d6 (by simpa using h); simp [h']), (fun _ => ⟨by simp [q6], rfl⟩), (fun h => by have h' := h8 (by simpa using h); exact ⟨by simp [h'.1], h'.2⟩), (fun _ => ⟨by simp [q6], rfl⟩), (fun h => by obtain ⟨g, e, hg, hk⟩ := h10 (by simpa using h); have hk' := hk; exact ⟨g, e, hg, by simpa using hk'⟩), (fun h => by obtain ⟨g, e, hg, hk⟩ := h11 (by simpa using h); have hk' := hk; exact ⟨g, e, hg, by simpa using hk'⟩), (fun h => by have h' := d12 (by simpa using h); simp [h']), (fun h => by have h' := d13 (by simpa using h); simp [h']), W1, (fun h => (W0 (by simpa using h)))⟩
        · -- 10
          obtain ⟨x0, x1, x2, x3, x4, x5, x6, x7, x8, x9, x10, x11, Aj, cj, A', c', rfl, h0, h1, h2, h3, h4, h5, r5, h6, s6, d6, h7, h8, h9, h10, h11, d12, d13, W1, W0⟩ := hI
          have qs : f 12 = false := (by cases hx : f 12 with | false => rfl | true => (have := (d12 hx).1; rw [hf] at this; cases this))
          have H0' := hid h0; have H1' := hid h1; have H2' := hid h2; have H3' := hid h3; have H4' := hid h4; have H5' := hid h5; have R5' := hid r5; have H6' := hid h6; have S6' := hid s6; have D6' := hid d6; have H7' := hid h7; have H8' := hid h8; have H9' := hid h9; have H10' := hid h10; have H11' := hid h11; have D12' := hid d12; have D13' := hid d13; have W1' := hid W1; have W0' := hid W0; clear h0 h1 h2 h3 h4 h5 r5 h6 s6 d6 h7 h8 h9 h10 h11 d12 d13 W1 W0
          try simp only [Act.put, List.setIfInBounds_toArray, List.set_cons_succ, List.set_cons_zero]
          go_wp2_with fail
          have h0 := H0'.out; have h1 := H1'.out; have h2 := H2'.out; have h3 := H3'.out; have h4 := H4'.out; have h5 := H5'.out; have r5 := R5'.out; have h6 := H6'.out; have s6 := S6'.out; have d6 := D6'.out; have h7 := H7'.out; have h8 := H8'.out; have h9 := H9'.out; have h10 := H10'.out; have h11 := H11'.out; have d12 := D12'.out; have d13 := D13'.out; have W1 := W1'.out; have W0 := W0'.out
          have hsw : W8.heap.size ≤ wx.heap.size := W1.size
          exact ⟨x0, x1, x2, x3, x4, x5, x6, x7, x8, x9, _, x11, Aj, cj, A', c', (by first | (simp only [Act.put, List.setIfInBounds_toArray, List.set_cons_succ, List.set_cons_zero]; done) | rfl), (fun h => h0 (by simpa using h)), (fun h => h1 (by simpa using h)), (fun h => h2 (by simpa using h)), (fun h => h3 (by simpa using h)), (fun h => h4 (by simpa using h)), (fun h => h5 (by simpa using h)), (fun h h' => (own_below (r5 (by simpa using h) (by simpa using h')) (bw_a (Below.refl _ wx) (.cells #[.int .u8 0, .int .u64 0, .int .u64 0, .int .u64 0, .int .u64 0, .int .u64 0, .int .u64 0, .string ⟨#[]⟩, .string ⟨#[]⟩, .slice none 0 0] 27)))), (fun h => h6 (by simpa using h)), (fun h => (own_below (s6 (by simpa using h)) (bw_a (Below.refl _ wx) (.cells #[.int .u8 0, .int .u64 0, .int .u64 0, .int .u64 0, .int .u64 0, .int .u64 0, .int .u64 0, .string ⟨#[]⟩, .string ⟨#[]⟩, .slice none 0 0] 27)))), (fun h => by have h' := d6 (by simpa using h); simp [h']), (fun h => by have h' := h7 (by simpa using h); exact ⟨by simp [h'.1], h'.2⟩), (fun h => by have h' := h8 (by simpa using h); exact ⟨by simp [h'.1], h'.2⟩), (fun h => by have h' := h9 (by simpa using h); exact ⟨by simp [h'.1], h'.2⟩), (fun _ => ⟨_, rfl, hsw, by simp [qs]; exact Blk.new wx _ _⟩), (fun h => by obtain ⟨g, e, hg, hk⟩ := h11 (by simpa using h); have hk' := (hk.below (bw_a (Below.refl _ wx) (.cells #[.int .u8 0, .int .u64 0, .int .u64 0, .int .u64 0, .int .u64 0, .int .u64 0, .int .u64 0, .string ⟨#[]⟩, .string ⟨#[]⟩, .slice none 0 0] 27)) hk.lt); exact ⟨g, e, hg, by simpa using hk'⟩), (fun h => by simp [qs] at h), (fun h => by have h' := d13 (by simpa using h); simp [h']), (W1.trans ((bw_a (Below.refl _ wx) (.cells #[.int .u8 0, .int .u64 0, .int .u64 0, .int .u64 0, .int .u64 0, .int .u64 0, .int .u64 0, .string ⟨#[]⟩, .string ⟨#[]⟩, .slice none 0 0] 27)).mono (Nat.le_trans HBXS.out hsw))), (fun h => ((W0 (by simpa using h)).trans ((bw_a (Below.refl _ wx) (.cells #[.int .u8 0, .int .u64 0, .int .u64 0, .int .u64 0, .int .u64 0, .int .u64 0, .int .u64 0, .string ⟨#[]⟩, .string ⟨#[]⟩, .slice none 0 0] 27)).mono hsw)))⟩
        · -- 11
          obtain ⟨x0, x1, x2, x3, x4, x5, x6, x7, x8, x9, x10, x11, Aj, cj, A', c', rfl, h0, h1, h2, h3, h4, h5, r5, h6, s6, d6, h7, h8, h9, h10, h11, d12, d13, W1, W0⟩ := hI
          have qs : f 13 = false := (by cases hx : f 13 with | false => rfl | true => (have := (d13 hx).1; rw [hf] at this; cases this))
          have H0' := hid h0; have H1' := hid h1; have H2' := hid h2; have H3' := hid h3; have H4' := hid h4; have H5' := hid h5; have R5' := hid r5; have H6' := hid h6; have S6' := hid s6; have D6' := hid d6; have H7' := hid h7; have H8' := hid h8; have H9' := hid h9; have H10' := hid h10; have H11' := hid h11; have D12' := hid d12; have D13' := hid d13; have W1' := hid W1; have W0' := hid W0; clear h0 h1 h2 h3 h4 h5 r5 h6 s6 d6 h7 h8 h9 h10 h11 d12 d13 W1 W0
          try simp only [Act.put, List.setIfInBounds_toArray, List.set_cons_succ, List.set_cons_zero]
          go_wp2_with fail
          have h0 := H0'.out; have h1 := H1'.out; have h2 := H2'.out; have h3 := H3'.out; have h4 := H4'.out; have h5 := H5'.out; have r5 := R5'.out; have h6 := H6'.out; have s6 := S6'.out; have d6 := D6'.out; have h7 := H7'.out; have h8 := H8'.out; have h9 := H9'.out; have h10 := H10'.out; have h11 := H11'.out; have d12 := D12'.out; have d13 := D13'.out; have W1 := W1'.out; have W0 := W0'.out
          have hsw : W8.heap.size ≤ wx.heap.size := W1.size
          exact ⟨x0, x1, x2, x3, x4, x5, x6, x7, x8, x9, x10, _, Aj, cj, A', c', (by first | (simp only [Act.put, List.setIfInBounds_toArray, List.set_cons_succ, List.set_cons_zero]; done) | rfl), (fun h => h0 (by simpa using h)), (fun h => h1 (by simpa using h)), (fun h => h2 (by simpa using h)), (fun h => h3 (by simpa using h)), (fun h => h4 (by simpa using h)), (fun h => h5 (by simpa using h)), (fun h h' => (own_below (r5 (by simpa using h) (by simpa using h')) (bw_a (Below.refl _ wx) (.cells #[.int .i64 0, .int .i64 0] 33)))), (fun h => h6 (by simpa using h)), (fun h => (own_below (s6 (by simpa using h)) (bw_a (Below.refl _ wx) (.cells #[.int .i64 0, .int .i64 0] 33)))), (fun h => by have h' := d6 (by simpa using h); simp [h']), (fun h => by have h' := h7 (by simpa using h); exact ⟨by simp [h'.1], h'.2⟩), (fun h => by have h' := h8 (by simpa using h); exact ⟨by simp [h'.1], h'.2⟩), (fun h => by have h' := h9 (by simpa using h); exact ⟨by simp [h'.1], h'.2⟩), (fun h => by obtain ⟨g, e, hg, hk⟩ := h10 (by simpa using h); have hk' := (hk.below (bw_a (Below.refl _ wx) (.cells #[.int .i64 0, .int .i64 0] 33)) hk.lt); exact ⟨g, e, hg, by simpa using hk'⟩), (fun _ => ⟨_, rfl, hsw, by simp [qs]; exact Blk.new wx _ _⟩), (fun h => by have h' := d12 (by simpa using h); simp [h']), (fun h => by simp [qs] at h), (W1.trans ((bw_a (Below.refl _ wx) (.cells #[.int .i64 0, .int .i64 0] 33)).mono (Nat.le_trans HBXS.out hsw))), (fun h => ((W0 (by simpa using h)).trans ((bw_a (Below.refl _ wx) (.cells #[.int .i64 0, .int .i64 0] 33)).mono hsw)))⟩
        · -- 12
          obtain ⟨x0, x1, x2, x3, x4, x5, x6, x7, x8, x9, x10, x11, Aj, cj, A', c', rfl, h0, h1, h2, h3, h4, h5, r5, h6, s6, d6, h7, h8, h9, h10, h11, d12, d13, W1, W0⟩ := hI
          simp [Region.binds] at hdep
          obtain ⟨q6, rfl⟩ := h8 (by first | exact hdep | exact hdep.1 | exact hdep.2 | exact hdep.2.1 | exact hdep.2.2 | exact hdep.2.2.1 | exact hdep.2.2.2 | simp_all)
          have qb : f 10 = true := (by first | exact hdep | exact hdep.1 | exact hdep.2 | exact hdep.2.1 | exact hdep.2.2 | exact hdep.2.2.1 | exact hdep.2.2.2 | simp_all)
          have qsrc : f 8 = true := (by first | exact hdep | exact hdep.1 | exact hdep.2 | exact hdep.2.1 | exact hdep.2.2 | exact hdep.2.2.1 | exact hdep.2.2.2 | simp_all)
          have q5 : f 5 = true := d6 q6
          obtain ⟨g, rfl, hg, hkg⟩ := h10 qb
          rw [hf] at hkg
          have hkg : Blk wx g 27 #[.int .u8 0, .int .u64 0, .int .u64 0, .int .u64 0, .int .u64 0, .int .u64 0, .int .u64 0, .string ⟨#[]⟩, .string ⟨#[]⟩, .slice none 0 0] := by simpa using hkg
          have y0 := hkg.cell 0; have z0 := hkg.frozen 0
          have y1 := hkg.cell 1; have z1 := hkg.frozen 1
          have y2 := hkg.cell 2; have z2 := hkg.frozen 2
          have y3 := hkg.cell 3; have z3 := hkg.frozen 3
          have y4 := hkg.cell 4; have z4 := hkg.frozen 4
          have y5 := hkg.cell 5; have z5 := hkg.frozen 5
          have y6 := hkg.cell 6; have z6 := hkg.frozen 6
          have y7 := hkg.cell 7; have z7 := hkg.frozen 7
          have y8 := hkg.cell 8; have z8 := hkg.frozen 8
          have y9 := hkg.cell 9; have z9 := hkg.frozen 9
          simp only [List.getElem?_toArray, List.getElem?_cons_zero, List.getElem?_cons_succ] at y0 y1 y2 y3 y4 y5 y6 y7 y8 y9
          have HKG := hid hkg
          have HGG := hid hg
          clear hkg hg
          have H0' := hid h0; have H1' := hid h1; have H2' := hid h2; have H3' := hid h3; have H4' := hid h4; have H5' := hid h5; have R5' := hid r5; have H6' := hid h6; have S6' := hid s6; have D6' := hid d6; have H7' := hid h7; have H8' := hid h8; have H9' := hid h9; have H10' := hid h10; have H11' := hid h11; have D12' := hid d12; have D13' := hid d13; have W1' := hid W1; have W0' := hid W0; clear h0 h1 h2 h3 h4 h5 r5 h6 s6 d6 h7 h8 h9 h10 h11 d12 d13 W1 W0
          try simp only [Act.put, List.setIfInBounds_toArray, List.set_cons_succ, List.set_cons_zero]
          go_wp2_with fail
          have h0 := H0'.out; have h1 := H1'.out; have h2 := H2'.out; have h3 := H3'.out; have h4 := H4'.out; have h5 := H5'.out; have r5 := R5'.out; have h6 := H6'.out; have s6 := S6'.out; have d6 := D6'.out; have h7 := H7'.out; have h8 := H8'.out; have h9 := H9'.out; have h10 := H10'.out; have h11 := H11'.out; have d12 := D12'.out; have d13 := D13'.out; have W1 := W1'.out; have W0 := W0'.out
          obtain ⟨hkn, hcn⟩ := mstore HKG.out _ _ _ _ _ _ _ _ _ _
          have hsw : W8.heap.size ≤ wx.heap.size := W1.size
          have hbg : bx ≤ g := Nat.le_trans HBXS.out HGG.out
          exact ⟨x0, x1, x2, x3, x4, x5, x6, x7, _, x9, _, x11, Aj, cj, A', c', (by first | (simp only [Act.put, List.setIfInBounds_toArray, List.set_cons_succ, List.set_cons_zero]; done) | rfl), (fun h => h0 (by simpa using h)), (fun h => h1 (by simpa using h)), (fun h => h2 (by simpa using h)), (fun h => h3 (by simpa using h)), (fun h => h4 (by simpa using h)), (fun h => h5 (by simpa using h)), (fun _ h => by simp [q6] at h), (fun h => h6 (by simpa using h)), (fun h => (own_chgS (s6 (by simpa using h)) hcn (fun gg hgg e => own_ne_blk (s6 (by simpa using h)) HKG.out (by decide) gg hgg e))), (fun h => by have h' := d6 (by simpa using h); simp [h']), (fun h => by have h' := h7 (by simpa using h); exact ⟨by simp [h'.1], h'.2⟩), (fun _ => ⟨by simp [q6], rfl⟩), (fun h => by have h' := h9 (by simpa using h); exact ⟨by simp [h'.1], h'.2⟩), (fun _ => ⟨g, rfl, HGG.out, by simpa using hkn⟩), (fun h => by obtain ⟨g2, e, hg2, hk⟩ := h11 (by simpa using h); have hk' := hcn.blk hk (fun e => by subst e; exact absurd (blk_ty HKG.out hk) (by decide)); exact ⟨g2, e, hg2, by simpa using hk'⟩), (fun _ => by simp [qb, qsrc]), (fun h => by have h' := d13 (by simpa using h); simp [h']), (W1.trans (hcn.below (fun k hk => by subst hk; exact hbg) (Nat.le_trans HBXS.out hsw))), (fun h => by simp [q5] at h)⟩
        · -- 13
          obtain ⟨x0, x1, x2, x3, x4, x5, x6, x7, x8, x9, x10, x11, Aj, cj, A', c', rfl, h0, h1, h2, h3, h4, h5, r5, h6, s6, d6, h7, h8, h9, h10, h11, d12, d13, W1, W0⟩ := hI
          simp [Region.binds] at hdep
          obtain ⟨q6, rfl⟩ := h9 (by first | exact hdep | exact hdep.1 | exact hdep.2 | exact hdep.2.1 | exact hdep.2.2 | exact hdep.2.2.1 | exact hdep.2.2.2 | simp_all)
          have qb : f 11 = true := (by first | exact hdep | exact hdep.1 | exact hdep.2 | exact hdep.2.1 | exact hdep.2.2 | exact hdep.2.2.1 | exact hdep.2.2.2 | simp_all)
          have qsrc : f 9 = true := (by first | exact hdep | exact hdep.1 | exact hdep.2 | exact hdep.2.1 | exact hdep.2.2 | exact hdep.2.2.1 | exact hdep.2.2.2 | simp_all)
          have q5 : f 5 = true := d6 q6
          obtain ⟨g, rfl, hg, hkg⟩ := h11 qb
          rw [hf] at hkg
          have hkg : Blk wx g 33 #[.int .i64 0, .int .i64 0] := by simpa using hkg
          have y0 := hkg.cell 0; have z0 := hkg.frozen 0
          have y1 := hkg.cell 1; have z1 := hkg.frozen 1
          simp only [List.getElem?_toArray, List.getElem?_cons_zero, List.getElem?_cons_succ] at y0 y1
          have HKG := hid hkg
          have HGG := hid hg
          clear hkg hg
          have H0' := hid h0; have H1' := hid h1; have H2' := hid h2; have H3' := hid h3; have H4' := hid h4; have H5' := hid h5; have R5' := hid r5; have H6' := hid h6; have S6' := hid s6; have D6' := hid d6; have H7' := hid h7; have H8' := hid h8; have H9' := hid h9; have H10' := hid h10; have H11' := hid h11; have D12' := hid d12; have D13' := hid d13; have W1' := hid W1; have W0' := hid W0; clear h0 h1 h2 h3 h4 h5 r5 h6 s6 d6 h7 h8 h9 h10 h11 d12 d13 W1 W0
          try simp only [Act.put, List.setIfInBounds_toArray, List.set_cons_succ, List.set_cons_zero]
          go_wp2_with fail
          have h0 := H0'.out; have h1 := H1'.out; have h2 := H2'.out; have h3 := H3'.out; have h4 := H4'.out; have h5 := H5'.out; have r5 := R5'.out; have h6 := H6'.out; have s6 := S6'.out; have d6 := D6'.out; have h7 := H7'.out; have h8 := H8'.out; have h9 := H9'.out; have h10 := H10'.out; have h11 := H11'.out; have d12 := D12'.out; have d13 := D13'.out; have W1 := W1'.out; have W0 := W0'.out
          obtain ⟨hkn, hcn⟩ := fstore HKG.out _ _
          have hsw : W8.heap.size ≤ wx.heap.size := W1.size
          have hbg : bx ≤ g := Nat.le_trans HBXS.out HGG.out
          exact ⟨x0, x1, x2, x3, x4, x5, x6, x7, x8, _, x10, _, Aj, cj, A', c', (by first | (simp only [Act.put, List.setIfInBounds_toArray, List.set_cons_succ, List.set_cons_zero]; done) | rfl), (fun h => h0 (by simpa using h)), (fun h => h1 (by simpa using h)), (fun h => h2 (by simpa using h)), (fun h => h3 (by simpa using h)), (fun h => h4 (by simpa using h)), (fun h => h5 (by simpa using h)), (fun _ h => by simp [q6] at h), (fun h => h6 (by simpa using h)), (fun h => (own_chgS (s6 (by simpa using h)) hcn (fun gg hgg e => own_ne_blk (s6 (by simpa using h)) HKG.out (by decide) gg hgg e))), (fun h => by have h' := d6 (by simpa using h); simp [h']), (fun h => by have h' := h7 (by simpa using h); exact ⟨by simp [h'.1], h'.2⟩), (fun h => by have h' := h8 (by simpa using h); exact ⟨by simp [h'.1], h'.2⟩), (fun _ => ⟨by simp [q6], rfl⟩), (fun h => by obtain ⟨g2, e, hg2, hk⟩ := h10 (by simpa using h); have hk' := hcn.blk hk (fun e => by subst e; exact absurd (blk_ty HKG.out hk) (by decide)); exact ⟨g2, e, hg2, by simpa using hk'⟩), (fun _ => ⟨g, rfl, HGG.out, by simpa using hkn⟩), (fun h => by have h' := d12 (by simpa using h); simp [h']), (fun _ => by simp [qb, qsrc]), (W1.trans (hcn.below (fun k hk => by subst hk; exact hbg) (Nat.le_trans HBXS.out hsw))), (fun h => by simp [q5] at h)⟩
      · intro f a' wx hall hI
        obtain ⟨x0, x1, x2, x3, x4, x5, x6, x7, x8, x9, x10, x11, Aj, cj, A', c', rfl, h0, h1, h2, h3, h4, h5, r5, h6, s6, d6, h7, h8, h9, h10, h11, d12, d13, W1, W0⟩ := hI
        obtain rfl := h0 (hall 0 (by simp))
        obtain rfl := h1 (hall 1 (by simp))
        obtain rfl := h2 (hall 2 (by simp))
        obtain rfl := h3 (hall 3 (by simp))
        obtain rfl := h4 (hall 4 (by simp))
        obtain rfl := h5 (hall 5 (by simp))
        obtain rfl := h6 (hall 6 (by simp))
        obtain ⟨-, rfl⟩ := h7 (hall 7 (by simp))
        obtain ⟨-, rfl⟩ := h8 (hall 8 (by simp))
        obtain ⟨-, rfl⟩ := h9 (hall 9 (by simp))
        obtain ⟨g1, rfl, -, hkr⟩ := h10 (hall 10 (by simp))
        rw [hall 12 (by simp), if_pos rfl] at hkr
        obtain ⟨g2, rfl, -, hkf⟩ := h11 (hall 11 (by simp))
        rw [hall 13 (by simp), if_pos rfl] at hkf
        have hsr := Sl.of_own' (s6 (hall 6 (by simp)))
        have hka := HKA.out.below W1 HSBX.out
        have hkb := HKB.out.below W1 HBLT.out
        have hB := HBB8.out.trans (W1.mono (by have := HSBX.out; omega))
        clear h0 h1 h2 h3 h4 h5 h6 h7 h8 h9 h10 h11 r5 s6 d6 d12 d13 W1 W0 hall f
        try simp only [Act.put, List.setIfInBounds_toArray, List.set_cons_succ, List.set_cons_zero]
        have HKA := hid hka; have HKB := hid hkb; have HKR := hid hkr; have HKF := hid hkf; have HSR := hid hsr; have HBB := hid hB
        clear hka hkb hkr hkf hsr hB HSEO HSE HSF HK8 HK10 HDC HOX HOY
        have zhka9 := HKA.out.cell 9
        have lhka := HKA.out.lt
        have zhkb9 := HKB.out.cell 9
        have lhkb := HKB.out.lt
        have zhkf0 := HKF.out.cell 0
        have lhkf := HKF.out.lt
        have zhkr9 := HKR.out.cell 9
        have lhkr := HKR.out.lt
        simp only [List.getElem?_toArray, List.getElem?_cons_zero, List.getElem?_cons_succ] at zhka9 zhkb9 zhkf0 zhkr9
        have hwr2 : IntKind.i64.wrap ((la : Int) + (lb : Int)) = (la : Int) + (lb : Int) := IntWalk.i64_in _ (by omega)
        have hla2 := HMLA.out _ HBB.out
        have hlb2 := HMLB.out _ HBB.out
        have HSAL := hid hla2
        have HSBL := hid hlb2
        clear hla2 hlb2
        rcases HCS.out with ⟨hc1, rfl, rfl⟩ | ⟨hc1, rfl, hc3, hc4, hc5⟩
        · have hg4 : (64 : Int) < (la : Int) + (lb : Int) := by omega
          go_wp2_with fail
          go_ret
          exact ⟨rfl, HBB.out⟩
        have hg4 : ¬ (64 : Int) < (la : Int) + (lb : Int) := by omega
        have hrl2 : rl = la + lb := by rw [← HRL.out, hc3, List.length_append, HLLA.out, HLLB.out]
        have hrl3 : (rl : Int) = (la : Int) + (lb : Int) := by omega
        have HC3 := hid hc3
        have HC4 := hid hc4
        have HC5 := hid hc5
        clear hc3 hc4 hc5 HCS HRD
        go_wp2_with fail
        have hrl64 : rl ≤ 64 := by omega
        have HRL2 := hid hrl2
        clear hrl2 hrl3
        clear lhka lhkb lhkf lhkr zhka9 zhkb9 zhkf0 zhkr9
        obtain ⟨z0, hz0⟩ : ∃ p, wx.heap.size = p := ⟨_, rfl⟩
        have hka2 := HKA.out.lt
        have hkb2 := HKB.out.lt
        have hkr2 := HKR.out.lt
        go_loopw [13] (fun i wr => ∃ j : Nat, j ≤ 6 ∧ i = .int .i64 (j : Int) ∧ Below wx.heap.size wx wr) (fun i _ => 6 - (intOf i).toNat)
        case atStart => exact ⟨0, by omega, rfl, Below.refl _ _⟩
        case round =>
          obtain ⟨j, hj, rfl, hB⟩ := hrel
          have HB := hid hB
          clear hB
          by_cases hlt : j < 6
          · have hj5 : j ≤ 5 := by omega
            have hjI : (j : Int) < 6 := by omega
            have hj0 : (0 : Int) ≤ (j : Int) := by omega
            have za := (HKA.out.below HB.out HKA.out.lt).cell (1 + j)
            rw [mc_num M (M.A) (M.c) la j hj5] at za
            have lka := (HKA.out.below HB.out HKA.out.lt).lt
            have zb := (HKB.out.below HB.out HKB.out.lt).cell (1 + j)
            rw [mc_numk M.k B (B.A) (B.c) lb j hj5] at zb
            have lkb := (HKB.out.below HB.out HKB.out.lt).lt
            have zr := (HKR.out.below HB.out HKR.out.lt).cell (1 + j)
            rw [mc_num R (A') (c') rl j hj5] at zr
            have lkr := (HKR.out.below HB.out HKR.out.lt).lt
            have hq := HC4.out j hj5
            obtain ⟨x, hx⟩ : ∃ x, M.num (j : Int) = x := ⟨_, rfl⟩
            obtain ⟨y, hy⟩ : ∃ x, B.num (j : Int) = x := ⟨_, rfl⟩
            obtain ⟨z, hzz⟩ : ∃ x, R.num (j : Int) = x := ⟨_, rfl⟩
            rw [hx] at hq za
            rw [hy] at hq zb
            rw [hzz] at hq zr
            clear hx hy hzz
            unfold lastN at hq
            by_cases hy0 : y = 0
            · subst hy0
              rw [if_neg (by simp)] at hq
              subst hq
              by_cases hx0 : z = 0
              · subst hx0
                go_wp2_with fail
                go_quiet (fail)
                go_wp2_with fail
                go_roundw
                case rel => exact ⟨j + 1, by omega, by go_num, below_drewN HB.out _⟩
                case measure => simp [intOf]; omega
              · have hx1 : ((z : Int) != 0) = true := by simp; omega
                have hx2 : ¬ (z : Int) = 0 := by omega
                have hx3 : ((z : Int) == 0) = false := by simp; omega
                go_wp2_with fail
                go_quiet (fail)
                go_wp2_with fail
                go_roundw
                case rel => exact ⟨j + 1, by omega, by go_num, below_drewN HB.out _⟩
                case measure => simp [intOf]; omega
            · rw [if_pos hy0] at hq
              subst hq
              go_wp2_with fail
              go_quiet (fail)
              go_wp2_with fail
              go_roundw
              case rel => exact ⟨j + 1, by omega, by go_num, below_drewN HB.out _⟩
              case measure => simp [intOf]; omega
          · obtain rfl : j = 6 := by omega
            rw [show ((6 : Nat) : Int) = 6 from rfl]
            go_wp2_with fail
            obtain ⟨wa, rfl⟩ : ∃ x, x = wr := ⟨_, rfl⟩
            have HKAwa := hid (HKA.out.below HB.out HKA.out.lt)
            have HKBwa := hid (HKB.out.below HB.out HKB.out.lt)
            have HKRwa := hid (HKR.out.below HB.out HKR.out.lt)
            have HBBwa := hid (HBB.out.trans (HB.out.mono (by have := HBB.out.size; omega)))
            have HSRwa := hid (HSR.out.below HB.out)
            have HSALwa := hid (HSAL.out.below HB.out)
            have HSBLwa := hid (HSBL.out.below HB.out)
            clear HB
            go_loopw [14] (fun i wr => ∃ j : Nat, j ≤ 2 ∧ i = .int .i64 (j : Int) ∧ Below wa.heap.size wa wr) (fun i _ => 2 - (intOf i).toNat)
            case atStart => exact ⟨0, by omega, rfl, Below.refl _ _⟩
            case round =>
              obtain ⟨j, hj, rfl, hB⟩ := hrel
              have HB := hid hB
              clear hB
              by_cases hlt : j < 2
              · have hj5 : j ≤ 1 := by omega
                have hjI : (j : Int) < 2 := by omega
                have hj0 : (0 : Int) ≤ (j : Int) := by omega
                have za := (HKAwa.out.below HB.out HKAwa.out.lt).cell (7 + j)
                rw [mc_text M (M.A) (M.c) la j hj5] at za
                have lka := (HKAwa.out.below HB.out HKAwa.out.lt).lt
                have zb := (HKBwa.out.below HB.out HKBwa.out.lt).cell (7 + j)
                rw [mc_textk M.k B (B.A) (B.c) lb j hj5] at zb
                have lkb := (HKBwa.out.below HB.out HKBwa.out.lt).lt
                have zr := (HKRwa.out.below HB.out HKRwa.out.lt).cell (7 + j)
                rw [mc_text R (A') (c') rl j hj5] at zr
                have lkr := (HKRwa.out.below HB.out HKRwa.out.lt).lt
                have hq := HC5.out j hj5
                obtain ⟨x, hx⟩ : ∃ x, M.text (j : Int) = x := ⟨_, rfl⟩
                obtain ⟨y, hy⟩ : ∃ x, B.text (j : Int) = x := ⟨_, rfl⟩
                obtain ⟨z, hzz⟩ : ∃ x, R.text (j : Int) = x := ⟨_, rfl⟩
                rw [hx] at hq za
                rw [hy] at hq zb
                rw [hzz] at hq zr
                clear hx hy hzz
                unfold lastS at hq
                by_cases hy0 : y = ⟨#[]⟩
                · subst hy0
                  rw [if_neg (by simp)] at hq
                  subst hq
                  by_cases hx0 : z = ⟨#[]⟩
                  · subst hx0
                    go_wp2_with fail
                    go_quiet (fail)
                    go_wp2_with fail
                    go_roundw
                    case rel => exact ⟨j + 1, by omega, by go_num, below_drewN HB.out _⟩
                    case measure => simp [intOf]; omega
                  · have hx1 : ¬ z.toList = [] := fun h => hx0 ((bytes_nil z).2 h)
                    have hx2 : (z.toList == []) = false := by simpa using hx1
                    have hx3 : z.toList.isEmpty = false := by simpa using hx1
                    have hx4 : (!z.toList.isEmpty) = true := by simpa using hx1
                    go_wp2_with fail
                    go_quiet (fail)
                    go_wp2_with fail
                    go_roundw
                    case rel => exact ⟨j + 1, by omega, by go_num, below_drewN HB.out _⟩
                    case measure => simp [intOf]; omega
                · rw [if_pos hy0] at hq
                  subst hq
                  go_wp2_with fail
                  go_quiet (fail)
                  go_wp2_with fail
                  go_roundw
                  case rel => exact ⟨j + 1, by omega, by go_num, below_drewN HB.out _⟩
                  case measure => simp [intOf]; omega
              · obtain rfl : j = 2 := by omega
                rw [show ((2 : Nat) : Int) = 2 from rfl]
                go_wp2_with fail
                obtain ⟨wb, rfl⟩ : ∃ x, x = wr := ⟨_, rfl⟩
                have HKAwb := hid (HKAwa.out.below HB.out HKAwa.out.lt)
                have HKBwb := hid (HKBwa.out.below HB.out HKBwa.out.lt)
                have HKRwb := hid (HKRwa.out.below HB.out HKRwa.out.lt)
                have HBBwb := hid (HBBwa.out.trans (HB.out.mono (by have := HBBwa.out.size; omega)))
                have HSRwb := hid (HSRwa.out.below HB.out)
                have HSALwb := hid (HSALwa.out.below HB.out)
                have HSBLwb := hid (HSBLwa.out.below HB.out)
                clear HB
                have hcr := HKRwb.out.cell 9
                simp only [List.getElem?_toArray, List.getElem?_cons_zero, List.getElem?_cons_succ] at hcr
                have lkr := HKRwb.out.lt
                clear hcr lkr
                go_loopw [15] (fun i wr => ∃ j : Nat, j ≤ rl ∧ i = .int .i64 (j : Int) ∧ Below wb.heap.size wb wr) (fun i _ => rl - (intOf i).toNat)
                case atStart => exact ⟨0, by omega, rfl, Below.refl _ _⟩
                case round =>
                  obtain ⟨j, hj, rfl, hB⟩ := hrel
                  have HB := hid hB
                  clear hB
                  have za := (HKAwb.out.below HB.out HKAwb.out.lt).cell 9
                  have lka := (HKAwb.out.below HB.out HKAwb.out.lt).lt
                  have zb := (HKBwb.out.below HB.out HKBwb.out.lt).cell 9
                  have lkb := (HKBwb.out.below HB.out HKBwb.out.lt).lt
                  have zr := (HKRwb.out.below HB.out HKRwb.out.lt).cell 9
                  have lkr := (HKRwb.out.below HB.out HKRwb.out.lt).lt
                  simp only [List.getElem?_toArray, List.getElem?_cons_zero, List.getElem?_cons_succ] at za zb zr
                  have hsr := HSRwb.out.below HB.out
                  have hsa := HSALwb.out.below HB.out
                  have hsb := HSBLwb.out.below HB.out
                  have hj0 : (0 : Int) ≤ (j : Int) := by omega
                  by_cases hlt : j < rl
                  · have hjr : (j : Int) < (rl : Int) := by omega
                    have hjr2 : decide ((j : Int) < (rl : Int)) = true := by simpa using hjr
                    by_cases hla1 : j < la
                    · have hja : (j : Int) < (la : Int) := by omega
                      have hja2 : decide ((j : Int) < (la : Int)) = true := by simpa using hja
                      have hja3 : ¬ (la : Int) ≤ (j : Int) := by omega
                      have hja4 : decide ((la : Int) ≤ (j : Int)) = false := by simpa using hja3
                      have hja5 : decide (j < la) = true := by simpa using hla1
                      have hja6 : decide (la ≤ j) = false := by simp; omega
                      have hjr5 : decide (j < rl) = true := by simpa using hlt
                      have HLT := hid hlt
                      have hlM : j < M.l.length := by have := HLLA.out; omega
                      obtain ⟨q, hq⟩ : ∃ q, M.l[j] = q := ⟨_, rfl⟩
                      have hr1 : (R.l.map sv)[j]? = some (sv q) := by rw [HC3.out, List.map_append, List.getElem?_append_left (by simpa using hlM)]; simp [hq, List.getElem?_eq_getElem hlM]
                      have ha1 : (M.l.map sv)[j]? = some (sv q) := by simp [hq, List.getElem?_eq_getElem hlM]
                      obtain ⟨br, orr, hA1, hbr, hcr⟩ := hsr.rd j _ hr1
                      obtain ⟨ba, oa, hA2, hba, hca⟩ := hsa.rd j _ ha1
                      rw [hA1] at zr
                      rw [hA2] at za
                      unfold sv at hcr hca
                      clear hq hr1 ha1 hsr hsa hsb hA1 hA2
                      go_wp2_with fail
                      go_quiet (fail)
                      clear hjr5 hja5 hja6 hja4 hja3 hja2 hja hjr2 hjr za zb zr hcr hca hbr hba hlM hla1
                      go_wp2_with fail
                      go_roundw
                      case rel => exact ⟨j + 1, by have := HLT.out; omega, by go_num, below_drewN HB.out _⟩
                      case measure => have := HLT.out; simp [intOf]; omega
                    · have hja : ¬ (j : Int) < (la : Int) := by omega
                      have hja2 : decide ((j : Int) < (la : Int)) = false := by simpa using hja
                      have hja3 : (la : Int) ≤ (j : Int) := by omega
                      have hja4 : decide ((la : Int) ≤ (j : Int)) = true := by simpa using hja3
                      have hja5 : decide (j < la) = false := by simpa using hla1
                      have hja6 : decide (la ≤ j) = true := by simp; omega
                      have hjr5 : decide (j < rl) = true := by simpa using hlt
                      have HLT := hid hlt
                      obtain ⟨k, hk⟩ : ∃ k, j - la = k := ⟨_, rfl⟩
                      have hsub : IntKind.i64.wrap ((j : Int) - (la : Int)) = (k : Int) := by rw [IntWalk.i64_in _ (by omega)]; omega
                      have hkb : k < lb := by have := HRL2.out; omega
                      have hkb2 : (k : Int) < (lb : Int) := by omega
                      have hk0 : (0 : Int) ≤ (k : Int) := by omega
                      have hlB : k < B.l.length := by have := HLLB.out; omega
                      obtain ⟨q, hq⟩ : ∃ q, B.l[k] = q := ⟨_, rfl⟩
                      have hb1 : (B.l.map sv)[k]? = some (sv q) := by simp [hq, List.getElem?_eq_getElem hlB]
                      have hr1 : (R.l.map sv)[j]? = some (sv q) := by rw [HC3.out, List.map_append, List.getElem?_append_right (by rw [List.length_map, HLLA.out]; omega), List.length_map, HLLA.out, hk]; exact hb1
                      obtain ⟨br, orr, hA1, hbr, hcr⟩ := hsr.rd j _ hr1
                      obtain ⟨bb, ob, hA2, hbb, hcb⟩ := hsb.rd k _ hb1
                      rw [hA1] at zr
                      rw [hA2] at zb
                      unfold sv at hcr hcb
                      clear hq hr1 hb1 hsr hsa hsb hA1 hA2
                      go_wp2_with fail
                      go_quiet (fail)
                      clear hjr5 hja5 hja6 hja4 hja3 hja2 hja hjr2 hjr za zb zr hcr hcb hbr hbb hlB hla1 hsub hkb hkb2 hk0 hk
                      go_wp2_with fail
                      go_roundw
                      case rel => exact ⟨j + 1, by have := HLT.out; omega, by go_num, below_drewN HB.out _⟩
                      case measure => have := HLT.out; simp [intOf]; omega
                  · obtain rfl : j = rl := by omega
                    have hjr : ¬ (j : Int) < (j : Int) := by omega
                    have hjr2 : decide ((j : Int) < (j : Int)) = false := by simp
                    clear hsr hsa hsb
                    go_wp2_with fail
                    go_ret
                    exact ⟨rfl, HBBwb.out.trans (HB.out.mono (by have := HBBwb.out.size; omega))⟩
theorem lenientLast_any (M B : MV) (v : Int) (w : World) (hok : MvOk w M) (hob : MvOk w B) (hv1 : -9223372036854775808 ≤ v) (hv2 : v ≤ 9223372036854775807) :
    Calls Try.prog 3 #[mvV M, mvV B, .int .i64 v] w fun e w' => e = .returned (.bool true) ∧ Below w.heap.size w w' := by
  by_cases hkk : M.k = B.k
  · exact lenientLast_eq M B v w hkk hok hob hv1 hv2
  · exact lenientLast_ne M B v w hkk hok hob
end Go.Proofs.Ytnfodgjihdoncaa
