/- The fields of bytes: shifted; of bytes that were put; of fields that were read. -/
import Derived.Test.YtefoccpgnijamaaSkPuts
import Derived.Test.YtefoccpgnijamaaSkEnd
import Derived.Test.YtefoccpgnijamaaM3
set_option linter.unusedVariables false
namespace Go.Proofs.Ytefoccpgnijamaa
theorem plc_add (e p q k : Nat) : plc e (p + q) (p + k) = p + plc e q k := by unfold plc; split <;> rfl
theorem rHead_shift (bs : List UInt8) (p : Nat) : rHead bs p = ((rHead (bs.drop p) 0).1, (rHead (bs.drop p) 0).2.1, (rHead (bs.drop p) 0).2.2.1, p + (rHead (bs.drop p) 0).2.2.2) := by
  unfold rHead
  simp only [List.drop_zero, Nat.zero_add]
  split <;> simp
theorem rTake_shift (n : Int) (bs : List UInt8) (p q : Nat) : rTake n bs (p + q) = ((rTake n (bs.drop p) q).1, (rTake n (bs.drop p) q).2.1, p + (rTake n (bs.drop p) q).2.2) := by
  unfold rTake
  rw [List.drop_drop, List.length_drop, show bs.length - p - q = bs.length - (p + q) from by omega]
  split
  · rfl
  · split
    · rfl
    · simp only [Nat.add_assoc]
theorem rFix_shift (k : Nat) (bs : List UInt8) (p q : Nat) : rFix k bs (p + q) = ((rFix k (bs.drop p) q).1, (rFix k (bs.drop p) q).2.1, p + (rFix k (bs.drop p) q).2.2) := by
  unfold rFix
  rw [List.drop_drop, List.length_drop, show bs.length - p - q = bs.length - (p + q) from by omega]
  split
  · rfl
  · simp only [Nat.add_assoc]
theorem rCount_shift (m : Int) (bs : List UInt8) (p q : Nat) : rCount m bs (p + q) = ((rCount m (bs.drop p) q).1, (rCount m (bs.drop p) q).2.1, p + (rCount m (bs.drop p) q).2.2) := by
  unfold rCount
  rw [List.drop_drop]
  split
  · rfl
  · split
    · simp only [Nat.add_assoc]
    · rw [Nat.add_assoc, rTake_shift]
theorem rVal_shift (w : Int) (bs : List UInt8) (p q : Nat) : rVal w bs (p + q) = ((rVal w (bs.drop p) q).1, (rVal w (bs.drop p) q).2.1, (rVal w (bs.drop p) q).2.2.1, p + (rVal w (bs.drop p) q).2.2.2) := by
  unfold rVal
  rw [rFix_shift 8, rFix_shift 4, rCount_shift, ← List.drop_drop, Nat.add_assoc]
  simp only [plc_add]
  split
  · rfl
  · split
    · rfl
    · split <;> rfl
/-- A field at a place is that at the beginning of what is left. -/
theorem rOne_shift (bs : List UInt8) (p : Nat) : (rOne bs p).num = (rOne (bs.drop p) 0).num ∧ (rOne bs p).w = (rOne (bs.drop p) 0).w ∧ (rOne bs p).n = (rOne (bs.drop p) 0).n ∧ (rOne bs p).xs = (rOne (bs.drop p) 0).xs ∧ (rOne bs p).e = (rOne (bs.drop p) 0).e ∧
    (rOne bs p).nx = p + (rOne (bs.drop p) 0).nx ∧ ((rOne bs p).e ≠ 0 → (rOne bs p).p = p + (rOne (bs.drop p) 0).p) := by
  unfold rOne
  rw [rHead_shift]
  simp only
  split
  · rw [rVal_shift]
    simp only
    refine ⟨trivial, trivial, trivial, trivial, trivial, trivial, fun he => ?_⟩
    unfold flt
    rw [if_neg he, if_neg he]
  · exact ⟨rfl, rfl, rfl, rfl, rfl, rfl, fun _ => rfl⟩
theorem rOne_p0 (bs : List UInt8) (p : Nat) (h : (rOne bs p).e = 0) : (rOne bs p).p = 0 := by
  unfold rOne at h ⊢
  split
  · rename_i h0
    rw [if_pos h0] at h
    simp only at h ⊢
    rw [h]; rfl
  · rename_i h0
    rw [if_neg h0] at h
    exact absurd h h0
/-- What a field's wire type has. -/
def bareN (f : FV) : Nat := if f.w = 2 then 0 else if f.w = 5 then f.n % 4294967296 else f.n
def bareX (f : FV) : List UInt8 := if f.w = 2 then f.s.xs else []
theorem pErr_inv (f : FV) (h : pErrF f = 0) (w0 : 0 ≤ f.w) (w1 : f.w ≤ 255) : (mk f.num f.w).2 = 0 ∧ (f.w = 0 ∨ f.w = 1 ∨ f.w = 2 ∨ f.w = 5) ∧ (f.w = 2 → f.s.xs.length ≤ 8192) := by
  have hf := mk_facts f.num f.w w0 w1
  unfold pErrF pErr at h
  by_cases h0 : (mk f.num f.w).2 = 0
  · rw [if_neg (by omega)] at h
    obtain ⟨h1, h2, hw, he⟩ := mk_ok_inv h0
    refine ⟨h0, by unfold wireB at hw; simpa using hw, fun h2 => ?_⟩
    by_cases hl : 8192 < f.s.xs.length
    · rw [if_pos ⟨h2, hl⟩] at h; omega
    · omega
  · rw [if_pos h0] at h; omega
section
variable {E pre rest : List UInt8} {p : Nat}
theorem xd_num (n : Nat) (hn : n ≤ 18446744073709551615) (hE : E = pre ++ (putN n ++ rest)) (hp : pre.length = p) : M.get (E.drop p) = (n, (putN n).length, 0) := by
  subst hE hp
  rw [List.drop_left' rfl]
  exact get_put rest hn
theorem xd_head (num x : Int) (h0 : (mk num x).2 = 0) (hE : E = pre ++ (putN (mk num x).1.toNat ++ rest)) (hp : pre.length = p) : rHead E p = (num, x, 0, p + (putN (mk num x).1.toNat).length) := by
  obtain ⟨h1, h2, hw, he⟩ := mk_ok_inv h0
  have hl := wireB_lt hw
  have hm : (mk num x).1 = 8 * num + x := by rw [he]
  have hg := xd_num (mk num x).1.toNat (by omega) hE hp
  unfold rHead
  rw [hg]
  simp only [if_true]
  rw [show (((mk num x).1.toNat : Nat) : Int) = (mk num x).1 from by omega, spl_mk h0]
  rfl
theorem xd_fix (k n : Nat) (hn : n < 256 ^ k) (hE : E = pre ++ (fixN k n ++ rest)) (hp : pre.length = p) : rFix k E p = (n, 0, p + k) := by
  subst hE hp
  unfold rFix
  rw [if_neg (by simp [length_fixN]), List.drop_left' rfl, List.take_left' (length_fixN k n), unfix_fix k n hn]
theorem xd_bytes (t : List UInt8) (ht : t.length ≤ 8192) (hE : E = pre ++ ((putN t.length ++ t) ++ rest)) (hp : pre.length = p) : rCount 8192 E p = (t, 0, p + (putN t.length ++ t).length) := by
  have hg := xd_num (E := E) (pre := pre) (rest := t ++ rest) t.length (by omega) (by rw [hE, List.append_assoc]) hp
  unfold rCount
  rw [hg]
  dsimp only
  rw [if_neg (by simp), if_neg (by omega), rTake_ok (by omega) (by rw [hE]; simp; omega)]
  have e : E = (pre ++ putN t.length) ++ (t ++ rest) := by rw [hE]; simp
  rw [e, ← hp, List.drop_left' (by simp)]
  simp
  omega
/-- A field that was put is read as it was put, but for what its wire type hasn't. -/
theorem rOne_put (f : FV) (h : pErrF f = 0) (hn : f.n ≤ 18446744073709551615) (w0 : 0 ≤ f.w) (w1 : f.w ≤ 255) (hE : E = pre ++ (pBF f ++ rest)) (hp : pre.length = p) :
    rOne E p = ⟨f.num, f.w, bareN f, bareX f, 0, 0, p + (pBF f).length⟩ := by
  obtain ⟨hm, hw, hl⟩ := pErr_inv f h w0 w1
  have hpb : pBF f = putN (mk f.num f.w).1.toNat ++ pTail f.w f.n f.s.xs := rfl
  rw [hpb, List.append_assoc] at hE
  have hh := xd_head f.num f.w hm hE hp
  rw [hpb, List.length_append, ← Nat.add_assoc]
  unfold rOne
  rw [hh]
  simp only [if_true]
  have hE2 : E = (pre ++ putN (mk f.num f.w).1.toNat) ++ (pTail f.w f.n f.s.xs ++ rest) := by rw [hE]; simp
  have hp2 : (pre ++ putN (mk f.num f.w).1.toNat).length = p + (putN (mk f.num f.w).1.toNat).length := by rw [List.length_append, hp]
  generalize p + (putN (mk f.num f.w).1.toNat).length = r at *
  generalize pre ++ putN (mk f.num f.w).1.toNat = pr at *
  have hv : rVal f.w E r = (bareN f, bareX f, 0, r + (pTail f.w f.n f.s.xs).length) := by
    unfold bareN bareX
    rcases hw with hw | hw | hw | hw <;> rw [hw] at hE2 ⊢
    · have hg := xd_num f.n hn (show E = pr ++ (putN f.n ++ rest) from hE2) hp2
      unfold rVal
      rw [if_pos rfl, hg]
      simp [plc, pTail]
    · have hg := xd_fix 8 f.n (by omega) (show E = pr ++ (fixN 8 f.n ++ rest) from hE2) hp2
      unfold rVal
      rw [if_neg (by omega), if_pos rfl, hg]
      simp [plc, pTail, length_fixN]
    · have hg := xd_bytes f.s.xs (hl hw) (show E = pr ++ ((putN f.s.xs.length ++ f.s.xs) ++ rest) from hE2) hp2
      unfold rVal
      rw [if_neg (by omega), if_neg (by omega), if_pos rfl, hg]
      simp [plc, pTail]
    · have hg := xd_fix 4 (f.n % 4294967296) (by omega) (show E = pr ++ (fixN 4 (f.n % 4294967296) ++ rest) from hE2) hp2
      unfold rVal
      rw [if_neg (by omega), if_neg (by omega), if_neg (by omega), hg]
      simp [plc, pTail, length_fixN]
  rw [hv]
  rfl
end
theorem putN_pos (n : Nat) : 1 ≤ (putN n).length := by rw [putN_size]; exact sizeN_pos n
theorem pBF_pos (f : FV) : 1 ≤ (pBF f).length := by
  have h := putN_pos (mk f.num f.w).1.toNat
  unfold pBF pB
  rw [List.length_append]
  omega
/-- What is read of fields that were put, from a place on. -/
def putL : List FV → Nat → List (RF × Nat)
  | [], _ => []
  | f :: fs, p => (⟨f.num, f.w, bareN f, bareX f, 0, 0, p + (pBF f).length⟩, p) :: putL fs (p + (pBF f).length)
theorem flds_put (l : List FV) : ∀ (E pre : List UInt8) (p fu : Nat), (∀ f ∈ l, pErrF f = 0 ∧ f.n ≤ 18446744073709551615 ∧ 0 ≤ f.w ∧ f.w ≤ 255) → E = pre ++ l.flatMap pBF → pre.length = p → E.length - p ≤ fu → flds E fu p = (putL l p, 0, 0) := by
  induction l with
  | nil =>
    intro E pre p fu _ hE hp _
    rw [flds_end _ _ _ (by rw [hE]; simp [hp])]
    rfl
  | cons f fs ih =>
    intro E pre p fu hok hE hp hfu
    obtain ⟨h0, hn, w0, w1⟩ := hok f (List.mem_cons_self ..)
    rw [List.flatMap_cons] at hE
    have hone := rOne_put f h0 hn w0 w1 hE hp
    have hpos := pBF_pos f
    have hlt : p < E.length := by rw [hE, List.length_append, List.length_append, hp]; omega
    obtain ⟨g, hg, hst⟩ := flds_step E fu p hlt hfu (by rw [hone])
    rw [hone] at hg hst
    have hi := ih E (pre ++ pBF f) (p + (pBF f).length) g (fun x hx => hok x (List.mem_cons_of_mem _ hx)) (by rw [hE]; simp) (by rw [List.length_append, hp]) hg
    simp only at hst
    rw [hst, hi]
    rfl
theorem putL_len (l : List FV) (p : Nat) : (putL l p).length = l.length := by
  induction l generalizing p with
  | nil => rfl
  | cons f fs ih => simp [putL, ih]
/-- Fields as values, one by one. -/
theorem fvAll_get {fs : List FV} {rs : List (RF × Nat)} (h : fvAll fs rs) (k : Nat) (hk : k < fs.length) (hk2 : k < rs.length) : fvOf fs[k] rs[k] := by
  induction fs generalizing rs k with
  | nil => simp at hk
  | cons f fs ih => cases rs with
    | nil => exact h.elim
    | cons r rs => cases k with
      | zero => exact h.1
      | succ k => exact ih h.2 k (by simpa using hk) (by simpa using hk2)
theorem putL_get (l : List FV) (p k : Nat) (hk : k < l.length) (hk2 : k < (putL l p).length) : (putL l p)[k].1.num = l[k].num ∧ (putL l p)[k].1.w = l[k].w ∧ (putL l p)[k].1.n = bareN l[k] ∧ (putL l p)[k].1.xs = bareX l[k] := by
  induction l generalizing p k with
  | nil => simp at hk
  | cons f fs ih => cases k with
    | zero => exact ⟨rfl, rfl, rfl, rfl⟩
    | succ k => exact ih (p + (pBF f).length) k (by simpa using hk) (by simpa [putL] using hk2)
/-- The fields of what was put: as they were put, but for what their wire types haven't, and places. -/
theorem put_like {l pre : List FV} {p : Nat} (h : fvAll pre (putL l p)) : pre.length = l.length ∧ ∀ (k : Nat) (h1 : k < pre.length) (h2 : k < l.length), pre[k].num = l[k].num ∧ pre[k].w = l[k].w ∧ pre[k].n = bareN l[k] ∧ pre[k].s.xs = bareX l[k] := by
  have hl := fvAll_len h
  rw [putL_len] at hl
  refine ⟨hl, fun k h1 h2 => ?_⟩
  have h3 : k < (putL l p).length := by rw [putL_len]; exact h2
  have hg := fvAll_get h k h1 h3
  have hp := putL_get l p k h2 h3
  exact ⟨hg.1.trans hp.1, hg.2.1.trans hp.2.1, hg.2.2.1.trans hp.2.2.1, hg.2.2.2.1.trans hp.2.2.2⟩
theorem put_get_len (b : List UInt8) (h : (M.get b).2.2 = 0) : (putN (M.get b).1).length ≤ (M.get b).2.1 := by
  obtain ⟨v, hv, hs, -⟩ := put_getF b 0 0 (by omega) (by simp) h
  have hv2 : (M.get b).1 = v := by unfold M.get; rw [hv]; simp
  rw [hv2, putN_size]
  have : 0 + sizeN v ≤ (M.get b).2.1 := hs
  omega
theorem putN_len_mono {a b : Nat} (h : a ≤ b) : (putN a).length ≤ (putN b).length := by rw [putN_size, putN_size]; exact sizeN_mono h
/-- A field that was read: it can be put, has just what its wire type has, and is no longer. -/
theorem again_one (f : FV) (bs : List UInt8) (p : Nat) (hp : p ≤ bs.length) (h : (rOne bs p).e = 0) (hf : fvOf f (rOne bs p, p)) : pErrF f = 0 ∧ bareN f = f.n ∧ bareX f = f.s.xs ∧ p + (pBF f).length ≤ (rOne bs p).nx := by
  obtain ⟨f1, f2, f3, f4, -⟩ := hf
  simp only at f1 f2 f3 f4
  unfold bareN bareX pErrF pErr pBF pB
  rw [f1, f2, f3, f4]
  clear f1 f2 f3 f4
  unfold rOne at h ⊢
  by_cases h0 : (rHead bs p).2.2.1 = 0
  · rw [if_pos h0] at h ⊢
    have hh := rHead_facts bs p h0
    simp only at h ⊢
    have hle := rHead_le bs p hp h0
    have hmk : (mk (rHead bs p).1 (rHead bs p).2.1).2 = 0 ∧ p + (putN (mk (rHead bs p).1 (rHead bs p).2.1).1.toNat).length ≤ (rHead bs p).2.2.2 := by
      unfold rHead at h0 ⊢
      by_cases hg : (M.get (bs.drop p)).2.2 = 0
      · rw [if_pos hg] at h0 ⊢
        simp only at h0 ⊢
        have hse := spl_err ((M.get (bs.drop p)).1 : Int)
        have hms := mk_spl (n := ((M.get (bs.drop p)).1 : Int)) (by omega)
        rw [hms]
        have hl := put_get_len _ hg
        simp only [Int.toNat_natCast]
        exact ⟨trivial, by omega⟩
      · rw [if_neg hg] at h0; exact absurd h0 hg
    generalize (rHead bs p).2.2.2 = r at *
    generalize hw0 : (rHead bs p).2.1 = w at *
    generalize (rHead bs p).1 = num at *
    obtain ⟨hm, hlm⟩ := hmk
    obtain ⟨-, -, hw, -⟩ := hh
    have hd : (bs.drop r).length = bs.length - r := List.length_drop
    rcases hw with rfl | rfl | rfl | rfl
    · have hv : rVal 0 bs r = (if (M.get (bs.drop r)).2.2 = 0 then (M.get (bs.drop r)).1 else 0, [], (M.get (bs.drop r)).2.2, plc (M.get (bs.drop r)).2.2 r (r + (M.get (bs.drop r)).2.1)) := by unfold rVal; rw [if_pos rfl]
      rw [hv] at h ⊢
      simp only at h ⊢
      have hl := put_get_len _ h
      rw [h]
      refine ⟨by rw [if_neg (by omega), if_neg (by omega)], by rw [if_neg (by omega), if_neg (by omega)], rfl, ?_⟩
      simp only [pTail, plc, if_true, List.length_append]
      omega
    · have hv : rVal 1 bs r = (if (rFix 8 bs r).2.1 = 0 then (rFix 8 bs r).1 else 0, [], (rFix 8 bs r).2.1, plc (rFix 8 bs r).2.1 r (rFix 8 bs r).2.2) := by unfold rVal; rw [if_neg (by omega), if_pos rfl]
      rw [hv] at h ⊢
      simp only at h ⊢
      rw [h]
      refine ⟨by rw [if_neg (by omega), if_neg (by omega)], by rw [if_neg (by omega), if_neg (by omega)], rfl, ?_⟩
      have h2 : (rFix 8 bs r).2.2 = r + 8 := by
        unfold rFix at h ⊢
        split
        · rename_i hx; rw [if_pos hx] at h; simp at h
        · rfl
      simp only [pTail, plc, if_true, List.length_append, h2]
      rw [if_neg (by omega), length_fixN]
      omega
    · have hv : rVal 2 bs r = (0, if (rCount 8192 bs r).2.1 = 0 then (rCount 8192 bs r).1 else [], (rCount 8192 bs r).2.1, plc (rCount 8192 bs r).2.1 r (rCount 8192 bs r).2.2) := by unfold rVal; rw [if_neg (by omega), if_neg (by omega), if_pos rfl]
      rw [hv] at h ⊢
      simp only at h ⊢
      rw [h]
      simp only [if_true, plc]
      have hc : (rCount 8192 bs r).1.length ≤ 8192 ∧ r + (putN (rCount 8192 bs r).1.length ++ (rCount 8192 bs r).1).length ≤ (rCount 8192 bs r).2.2 := by
        unfold rCount at h ⊢
        by_cases g1 : (M.get (bs.drop r)).2.2 ≠ 0
        · rw [if_pos g1] at h; exact absurd h g1
        · rw [if_neg g1] at h ⊢
          by_cases g2 : (8192 : Int) < 0 ∨ (8192 : Int) < ((M.get (bs.drop r)).1 : Int)
          · rw [if_pos g2] at h; simp at h
          · rw [if_neg g2] at h ⊢
            have hl := put_get_len _ (show (M.get (bs.drop r)).2.2 = 0 by omega)
            have hgf := M.get_facts (bs.drop r)
            by_cases g3 : ((bs.length - (r + (M.get (bs.drop r)).2.1) : Nat) : Int) < ((M.get (bs.drop r)).1 : Int)
            · rw [rTake_short (by omega) g3] at h; simp at h
            · rw [rTake_ok (by omega) g3]
              simp only [Int.toNat_natCast]
              have hlen : ((bs.drop (r + (M.get (bs.drop r)).2.1)).take (M.get (bs.drop r)).1).length = (M.get (bs.drop r)).1 := by rw [List.length_take, List.length_drop]; omega
              rw [List.length_append, hlen]
              omega
      refine ⟨by rw [if_neg (by omega), if_neg (by omega)], trivial, trivial, ?_⟩
      have ht : pTail 2 0 (rCount 8192 bs r).1 = putN (rCount 8192 bs r).1.length ++ (rCount 8192 bs r).1 := rfl
      rw [ht, List.length_append]
      omega
    · have hv : rVal 5 bs r = (if (rFix 4 bs r).2.1 = 0 then (rFix 4 bs r).1 else 0, [], (rFix 4 bs r).2.1, plc (rFix 4 bs r).2.1 r (rFix 4 bs r).2.2) := by unfold rVal; rw [if_neg (by omega), if_neg (by omega), if_neg (by omega)]
      have h5 := rFix4_lt bs r
      rw [hv] at h h5 ⊢
      simp only at h h5 ⊢
      have h2 : (rFix 4 bs r).2.2 = r + 4 := by
        unfold rFix at h ⊢
        split
        · rename_i hx; rw [if_pos hx] at h; simp at h
        · rfl
      rw [h] at h5 ⊢
      simp only [if_true] at h5 ⊢
      refine ⟨by rw [if_neg (by omega), if_neg (by omega)], by rw [if_neg (by omega)]; omega, rfl, ?_⟩
      have ht : ∀ n xs, pTail 5 n xs = fixN 4 (n % 4294967296) := fun _ _ => rfl
      rw [ht, List.length_append, length_fixN, h2]
      simp only [plc, if_true]
      omega
  · rw [if_neg h0] at h
    exact absurd h h0
/-- Fields that were read. -/
theorem again_all (bs : List UInt8) : ∀ (fu p : Nat) (fs : List FV), p ≤ bs.length → (flds bs fu p).2.1 = 0 → fvAll fs (flds bs fu p).1 → (∀ f ∈ fs, pErrF f = 0 ∧ bareN f = f.n ∧ bareX f = f.s.xs) ∧ p + (fs.flatMap pBF).length ≤ bs.length
  | 0, p, fs, hp, _, hf => by
    cases fs with
    | nil => simpa using hp
    | cons f fs => exact hf.elim
  | fu + 1, p, fs, hp, he, hf => by
    rw [flds] at he hf
    by_cases h1 : bs.length ≤ p
    · rw [if_pos h1] at hf
      cases fs with
      | nil => simpa using hp
      | cons f fs => exact hf.elim
    · rw [if_neg h1] at he hf
      by_cases h2 : (rOne bs p).e = 0
      · rw [if_pos h2] at he hf
        simp only at he hf
        cases fs with
        | nil => exact hf.elim
        | cons f fs =>
          have hn := (rOne_facts bs p hp).1 h2
          obtain ⟨a1, a2, a3, a4⟩ := again_one f bs p hp h2 hf.1
          obtain ⟨b1, b2⟩ := again_all bs fu (rOne bs p).nx fs hn.2.1 he hf.2
          refine ⟨fun g hg => ?_, ?_⟩
          · rcases List.mem_cons.1 hg with rfl | hg
            · exact ⟨a1, a2, a3⟩
            · exact b1 g hg
          · rw [List.flatMap_cons, List.length_append]; omega
      · rw [if_neg h2] at he
        exact absurd he h2
/-- Where fields stand: each ends where the next one begins. -/
def At (bs : List UInt8) : List (RF × Nat) → Nat → Prop
  | [], _ => True
  | r :: rs, p => r = (rOne bs p, p) ∧ p < bs.length ∧ (rOne bs p).e = 0 ∧ At bs rs (rOne bs p).nx
theorem flds_at (bs : List UInt8) : ∀ (fu p : Nat), At bs (flds bs fu p).1 p
  | 0, p => trivial
  | fu + 1, p => by
    rw [flds]
    by_cases h1 : bs.length ≤ p
    · rw [if_pos h1]; trivial
    · rw [if_neg h1]
      by_cases h2 : (rOne bs p).e = 0
      · rw [if_pos h2]; exact ⟨rfl, by omega, h2, flds_at bs fu (rOne bs p).nx⟩
      · rw [if_neg h2]; trivial
theorem at_get {bs : List UInt8} {rs : List (RF × Nat)} {p : Nat} (h : At bs rs p) (k : Nat) (h1 : k < rs.length) : rs[k].2 < bs.length ∧ rs[k].1 = rOne bs rs[k].2 ∧ (rOne bs rs[k].2).e = 0 ∧ ∀ (h2 : k + 1 < rs.length), rs[k + 1].2 = (rOne bs rs[k].2).nx := by
  induction rs generalizing p k with
  | nil => simp at h1
  | cons r rs ih =>
    obtain ⟨rfl, hp, he, ha⟩ := h
    cases k with
    | zero =>
      refine ⟨hp, rfl, he, fun h2 => ?_⟩
      cases rs with
      | nil => simp at h2
      | cons s rs => obtain ⟨rfl, _⟩ := ha; rfl
    | succ k =>
      have := ih ha k (by simpa using h1)
      simpa using this
end Go.Proofs.Ytefoccpgnijamaa
