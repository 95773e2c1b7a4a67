/- The writes of WholePut: a field's tag, and its value. -/
import Derived.Test.YtefoccpgnijamaaLive5
import Derived.Test.YtefoccpgnijamaaSkPuts
import Derived.Test.YtefoccpgnijamaaSkMath
set_option linter.unusedVariables false
namespace Go.Proofs.Ytefoccpgnijamaa
open Go.RowKit
/-- What writing a field's value comes to. -/
def doP (most : Nat) (x : FV) (bs : List UInt8) : List UInt8 × Nat :=
  if x.w = 0 then wput most bs (putN x.n) else if x.w = 1 then wput most bs (fixN 8 x.n) else if x.w = 5 then wput most bs (fixN 4 (x.n % 4294967296)) else wput most bs (putN x.s.xs.length ++ x.s.xs)
theorem wireB_cases {x : Int} (h : wireB x = true) : x = 0 ∨ x = 1 ∨ x = 2 ∨ x = 5 := by
  unfold wireB at h
  simp at h
  omega
theorem doP_tail {most : Nat} {x : FV} {bs : List UInt8} (h : (mk x.num x.w).2 = 0) : doP most x bs = wput most bs (pTail x.w x.n x.s.xs) := by
  obtain ⟨-, -, hw, -⟩ := mk_ok_inv h
  unfold doP pTail
  rcases wireB_cases hw with h | h | h | h <;> rw [h] <;> simp
/-- A field's writes: all of its bytes, or none of them. -/
theorem allP (most : Nat) (x : FV) (bs : List UInt8) (h0 : 0 ≤ x.w) (h1 : x.w ≤ 255) (hx : x.s.xs.length ≤ 200) (hb : bs.length ≤ most) :
    ∃ bs' E, allW [fun b => wtag most b x.num x.w, fun b => doP most x b] bs = (bs', E) ∧ ((E = 0 ∧ pErrF x = 0 ∧ bs' = bs ++ pBF x) ∨ (E ≠ 0 ∧ bs' = bs)) := by
  have hf := mk_facts x.num x.w h0 h1
  by_cases he : (mk x.num x.w).2 = 0
  · have hpe : pErrF x = 0 := by unfold pErrF pErr; rw [if_neg (by omega), if_neg (by omega)]
    have e1 : (fun b => wtag most b x.num x.w) = fun b => wput most b (putN (mk x.num x.w).1.toNat) := by funext b; unfold wtag; rw [if_pos he]
    have e2 : (fun b => doP most x b) = fun b => wput most b (pTail x.w x.n x.s.xs) := by funext b; exact doP_tail he
    rw [e1, e2, allW_bytes]
    unfold wput pBF pB
    by_cases h2 : most < bs.length + (putN (mk x.num x.w).1.toNat ++ pTail x.w x.n x.s.xs).length
    · rw [if_pos h2]
      exact ⟨bs, 14, rfl, .inr ⟨by omega, rfl⟩⟩
    · rw [if_neg h2]
      exact ⟨_, 0, rfl, .inl ⟨rfl, hpe, rfl⟩⟩
  · have h2 : ¬ (mk x.num x.w).2.toNat = 0 := by omega
    refine ⟨bs, (mk x.num x.w).2.toNat, allW_err (b := bs) ?_ h2, .inr ⟨h2, rfl⟩⟩
    have h3 : wtag most bs x.num x.w = (bs, (mk x.num x.w).2.toNat) := by unfold wtag; rw [if_neg he]
    unfold allR
    simp only [h3]
    rw [if_neg h2]
section
variable (W : World) (B q p : Nat) (v : Value) (bs : List UInt8) (most : Nat) (x : FV)
set_option maxRecDepth 100000 in
set_option maxHeartbeats 1000000 in
theorem put1c_any (hx0 : 0 ≤ x.w) (hx1 : x.w ≤ 255) (hk : Blk W p 41 (fvC x).toArray) (h : Wr W B q v bs most) :
    Calls Try.prog 19 #[.pointer (some ⟨q, 0, none⟩), .pointer (some ⟨p, 0, none⟩)] W fun e w' => ∃ v', e = .returned (.int .i64 ((wtag most bs x.num x.w).2 : Nat)) ∧ Wr w' B q v' (wtag most bs x.num x.w).1 most ∧ Stp q v v' bs.length W w' := by
  have hv := otag_any W B q v bs most x.num x.w hx0 hx1 h
  generalize wtag most bs x.num x.w = r at *
  obtain ⟨num, wi, n, ⟨A, c, xs⟩, at_⟩ := x
  simp only [fvC] at *
  have c0 := hk.cell 0
  have c1 := hk.cell 1
  simp only [List.getElem?_toArray, List.getElem?_cons_zero, List.getElem?_cons_succ] at c0 c1
  have HV := hid hv
  clear hv h hk
  go_enter Try.func19, Try.ntmps19
  go_wp2_with fail
  refine HV.out.mono ?_
  rintro e w2 ⟨v', rfl, hw, hst⟩
  go_wp2_with fail
  go_ret
  exact ⟨v', rfl, hw, hst⟩
set_option maxRecDepth 100000 in
set_option maxHeartbeats 2000000 in
theorem put2c_any (hx0 : 0 ≤ x.w) (hx1 : x.w ≤ 255) (hn : x.n ≤ 18446744073709551615) (hl : x.s.xs.length ≤ 1000000) (hs : Sl W x.s.A x.s.c (x.s.xs.map bv)) (hf : FarS x.s.A x.s.xs.length (Oset q v)) (hk : Blk W p 41 (fvC x).toArray) (h : Wr W B q v bs most) :
    Calls Try.prog 21 #[.pointer (some ⟨q, 0, none⟩), .pointer (some ⟨p, 0, none⟩)] W fun e w' => ∃ v', e = .returned (.int .i64 ((doP most x bs).2 : Nat)) ∧ Wr w' B q v' (doP most x bs).1 most ∧ Stp q v v' bs.length W w' := by
  have h0 := ovarint_any W B q v bs most x.n hn h
  have h1 := oeight_any W B q v bs most x.n hn h
  have h5 := ofour_any W B q v bs most (x.n % 4294967296) (by omega) h
  have h2 := obytes_any x.s.xs x.s.xs.length x.s.A x.s.c W B q v bs most rfl hl hs hf h
  have hd : doP most x bs = if x.w = 0 then wput most bs (putN x.n) else if x.w = 1 then wput most bs (fixN 8 x.n) else if x.w = 5 then wput most bs (fixN 4 (x.n % 4294967296)) else wput most bs (putN x.s.xs.length ++ x.s.xs) := rfl
  have hwr : IntKind.u32.wrap (x.n : Int) = ((x.n % 4294967296 : Nat) : Int) := by rw [IntKind.wrap_u32]; omega
  rw [hd]
  clear hd hs hf h
  generalize wput most bs (putN x.n) = r0 at *
  generalize wput most bs (fixN 8 x.n) = r1 at *
  generalize wput most bs (fixN 4 (x.n % 4294967296)) = r5 at *
  generalize wput most bs (putN x.s.xs.length ++ x.s.xs) = r2 at *
  obtain ⟨num, wi, n, ⟨A, c, xs⟩, at_⟩ := x
  simp only [fvC] at *
  generalize n % 4294967296 = n4 at *
  generalize xs.length = len at *
  have c0 := hk.cell 0
  have c1 := hk.cell 1
  have c2 := hk.cell 2
  have c3 := hk.cell 3
  simp only [List.getElem?_toArray, List.getElem?_cons_zero, List.getElem?_cons_succ] at c0 c1 c2 c3
  have H0 := hid h0
  have H1 := hid h1
  have H5 := hid h5
  have H2 := hid h2
  clear h0 h1 h5 h2 hk
  have hcase : wi = 0 ∨ wi = 1 ∨ wi = 5 ∨ (wi ≠ 0 ∧ wi ≠ 1 ∧ wi ≠ 5) := by omega
  rcases hcase with rfl | rfl | rfl | ⟨e0, e1, e5⟩
  · rw [if_pos rfl]
    go_enter Try.func21, Try.ntmps21
    go_wp2_with fail
    refine H0.out.mono ?_
    rintro e w2 ⟨v', rfl, hw, hst⟩
    go_wp2_with fail
    go_ret
    exact ⟨v', rfl, hw, hst⟩
  · rw [if_neg (by omega), if_pos rfl]
    go_enter Try.func21, Try.ntmps21
    go_wp2_with fail
    refine H1.out.mono ?_
    rintro e w2 ⟨v', rfl, hw, hst⟩
    go_wp2_with fail
    go_ret
    exact ⟨v', rfl, hw, hst⟩
  · rw [if_neg (by omega), if_neg (by omega), if_pos rfl]
    go_enter Try.func21, Try.ntmps21
    go_wp2_with fail
    refine H5.out.mono ?_
    rintro e w2 ⟨v', rfl, hw, hst⟩
    go_wp2_with fail
    go_ret
    exact ⟨v', rfl, hw, hst⟩
  · rw [if_neg e0, if_neg e1, if_neg e5]
    have n0 : (wi == 0) = false := by simpa using e0
    have n1 : (wi == 1) = false := by simpa using e1
    have n5 : (wi == 5) = false := by simpa using e5
    clear e0 e1 e5
    go_enter Try.func21, Try.ntmps21
    go_wp2_with fail
    refine H2.out.mono ?_
    rintro e w2 ⟨v', rfl, hw, hst⟩
    go_wp2_with fail
    go_ret
    exact ⟨v', rfl, hw, hst⟩
end
theorem awake1c_any (W : World) (B q : Nat) (v : Value) (bs : List UInt8) (most : Nat) (h : Wr W B q v bs most) :
    Calls Try.prog 40 #[.pointer (some ⟨q, 0, none⟩)] W fun e w' => ∃ v', e = .returned (.int .i64 ((wput most bs [18]).2 : Nat)) ∧ Wr w' B q v' (wput most bs [18]).1 most ∧ Stp q v v' bs.length W w' := by
  have hv := otag_any W B q v bs most 2 2 (by omega) (by omega) h
  have ht : wtag most bs 2 2 = wput most bs [18] := by
    unfold wtag
    rw [show mk 2 2 = (18, 0) from rfl, if_pos rfl, show ((18 : Int)).toNat = 18 from rfl, putN_small (by omega)]; rfl
  rw [ht] at hv
  generalize wput most bs [18] = r at *
  have HV := hid hv
  clear hv h ht
  go_enter Try.func40, Try.ntmps40
  go_wp2_with fail
  refine HV.out.mono ?_
  rintro e w2 ⟨v', rfl, hw, hst⟩
  go_wp2_with fail
  go_ret
  exact ⟨v', rfl, hw, hst⟩
theorem awake2c_any (W : World) (B q : Nat) (v : Value) (bs : List UInt8) (most : Nat) (h : Wr W B q v bs most) :
    Calls Try.prog 41 #[.pointer (some ⟨q, 0, none⟩)] W fun e w' => ∃ v', e = .returned (.int .i64 ((wput most bs [1, 7]).2 : Nat)) ∧ Wr w' B q v' (wput most bs [1, 7]).1 most ∧ Stp q v v' bs.length W w' := by
  have ht : wput most bs (putN 1 ++ [7]) = wput most bs [1, 7] := by rw [putN_small (by omega)]; rfl
  generalize wput most bs [1, 7] = r at *
  obtain ⟨r1, r2⟩ := r
  have hv := fun N hN => l5_bytes [7] [7] 1 N #[.int .u8 7] r2 r1 W B q v bs most hN rfl rfl (by omega) ht h
  have HV := hid hv
  clear hv ht
  go_enter Try.func41, Try.ntmps41
  go_wp2_with fail
  refine (HV.out _ rfl).mono ?_
  rintro e w2 ⟨v', rfl, hw, hst⟩
  go_wp2_with fail
  go_ret
  exact ⟨v', rfl, hw, hst⟩
end Go.Proofs.Ytefoccpgnijamaa
