/- How long a message's bytes are at most, and in which order its fields stand: plain mathematics. -/
import Derived.Test.YtnfodgjihdoncaaApart
set_option linter.unusedVariables false
namespace Go.Proofs.Ytnfodgjihdoncaa
open Go.RowKit
/-- How many bytes a field has at most. -/
def capR (t : Nat) : Nat := if t ≤ 6 then 11 else if t = 7 then 66 else if t = 8 then 4099 else if t = 9 then 7003 else 4224
theorem cap_sum : (List.range 11).all (fun k => (List.range 4).all fun v => decide (((ofL (k : Int) (v : Int)).map fun r => capR r.typ).sum ≤ 8192)) = true := by decide +kernel
theorem cap_all (k : Nat) (v : Int) : ((ofL (k : Int) v).map fun r => capR r.typ).sum ≤ 8192 := by
  by_cases hk : k = 0 ∨ 10 < k
  · rw [ofL_kind k v hk]; decide
  have h := List.all_eq_true.1 cap_sum k (List.mem_range.2 (by omega))
  rcases kn_one v with rfl | rfl | rfl | ⟨-, h0⟩
  · have := List.all_eq_true.1 h 1 (List.mem_range.2 (by omega)); simpa using this
  · have := List.all_eq_true.1 h 2 (List.mem_range.2 (by omega)); simpa using this
  · have := List.all_eq_true.1 h 3 (List.mem_range.2 (by omega)); simpa using this
  · rw [ofL_nil _ _ h0]; decide
theorem chk_size {s : ByteArray} {most : Int} (h : chk s most = 0) : (s.data.toList.length : Int) ≤ most := by
  unfold chk checkI at h
  split at h
  · cases h
  · omega
theorem txtE_each {most : Int} : ∀ (l : List ByteArray), txtE most l = 0 → ∀ s ∈ l, chk s most = 0
  | [], _, s, hs => by simp at hs
  | x :: l, h, s, hs => by
    rw [txtE] at h
    by_cases c : chk x most = 0
    · rw [if_pos c] at h
      rcases List.mem_cons.1 hs with rfl | hs
      · exact c
      · exact txtE_each l h s hs
    · rw [if_neg c] at h; exact absurd h c
theorem lstE_each {l : List ByteArray} (h : lstE l = 0) : l.length ≤ 64 ∧ ∀ s ∈ l, chk s 64 = 0 := by
  unfold lstE at h
  split at h
  · cases h
  · exact ⟨by omega, txtE_each l h⟩
theorem wB_bytes {num : Nat} (h1 : 1 ≤ num) (h2 : num ≤ 7) (xs : List UInt8) : (wB ((num : Int), 2, 0, xs)).length ≤ (if xs.length < 128 then 2 else 3) + xs.length ∨ 16384 ≤ xs.length := by
  by_cases hl : 16384 ≤ xs.length
  · exact .inr hl
  left
  have e1 : (putN (mk (num : Int) 2).1.toNat).length ≤ 1 := by
    rw [mk_ok (by omega) (by omega) rfl]
    exact putN_length 0 _ (by show (8 * (num : Int) + 2).toNat < 128 ^ 1; omega)
  show (putN (mk (num : Int) 2).1.toNat ++ pTail 2 0 xs).length ≤ _
  have e2 : pTail 2 0 xs = putN xs.length ++ xs := rfl
  rw [List.length_append, e2, List.length_append]
  split
  · have := putN_length 0 xs.length (by omega)
    omega
  · have := putN_length 1 xs.length (by omega)
    omega
theorem wB_plain {num : Nat} (h1 : 1 ≤ num) (h2 : num ≤ 7) (w n : Nat) (hw : w = 0 ∨ w = 1 ∨ w = 5) (hn : n ≤ 18446744073709551615) : (wB ((num : Int), (w : Int), n, [])).length ≤ 11 := by
  have hwb : wireB (w : Int) = true := by rcases hw with e | e | e <;> rw [e] <;> rfl
  have e1 : (putN (mk (num : Int) (w : Int)).1.toNat).length ≤ 1 := by
    rw [mk_ok (by omega) (by omega) hwb]
    exact putN_length 0 _ (by show (8 * (num : Int) + (w : Int)).toNat < 128 ^ 1; omega)
  show (putN (mk (num : Int) (w : Int)).1.toNat ++ pTail (w : Int) n []).length ≤ _
  rw [List.length_append]
  have e2 := pTail_len (x := (w : Int)) (n := n) (xs := []) hn (by simp)
  simp only [List.length_nil, Nat.add_zero] at e2
  omega
theorem fldR_cap {M : MV} {r : SRow} (hn : ∀ i, M.num i ≤ 18446744073709551615) (hsm : MvSm M) (hr : r ∈ ROWS) (hf : fldE M r = 0) : (fldR M r).length ≤ capR r.typ := by
  have hk := row_num hr
  rw [fldR_rowP hsm hr]
  cases hd : dflB M (r.typ : Nat) (r.slot : Nat) with
  | true => unfold rowP; rw [hd]; simp
  | false =>
    unfold fldE at hf
    rw [hd] at hf
    simp only [Bool.false_eq_true, if_false] at hf
    have hP : rowP M r = partW M (r.num : Nat) (r.typ : Nat) (r.slot : Nat) := by unfold rowP; rw [hd]; rfl
    rw [hP]
    by_cases c10 : r.typ = 10
    · rw [c10] at hf ⊢
      rw [show ((10 : Nat) : Int) = 10 from rfl, wr_list] at hf
      obtain ⟨hl, he⟩ := lstE_each hf
      have hp : partW M (r.num : Nat) ((10 : Nat) : Int) (r.slot : Nat) = M.l.map (fun s => ((r.num : Int), 2, 0, s.data.toList)) := by unfold partW; exact if_pos (by decide)
      rw [hp, List.flatMap_map]
      have := fm_len (fun s : ByteArray => wB ((r.num : Int), 2, 0, s.data.toList)) 66 M.l (fun s hs => by
        have h1 := chk_size (he s hs)
        rcases wB_bytes hk.1 hk.2.1 s.data.toList with h | h
        · split at h <;> omega
        · omega)
      have h3 : 66 * M.l.length ≤ 66 * 64 := Nat.mul_le_mul_left _ hl
      show _ ≤ 4224
      omega
    by_cases c7 : 7 ≤ r.typ
    · rw [wr_text _ _ _ (by omega)] at hf
      have hp : partW M (r.num : Nat) (r.typ : Nat) (r.slot : Nat) = [((r.num : Int), 2, 0, (M.text (r.slot : Nat)).data.toList)] := by
        unfold partW
        rw [if_neg (by omega), if_pos (by omega)]
      rw [hp, List.flatMap_cons, List.flatMap_nil, List.append_nil]
      have h1 := chk_size hf
      have hm : mostN (r.typ : Nat) = if r.typ = 7 then 64 else if r.typ = 8 then 4096 else 7000 := by
        have : r.typ = 7 ∨ r.typ = 8 ∨ r.typ = 9 := by omega
        rcases this with e | e | e <;> rw [e] <;> rfl
      rw [hm] at h1
      unfold capR
      rw [if_neg (by omega)]
      rcases wB_bytes hk.1 hk.2.1 (M.text (r.slot : Nat)).data.toList with h | h
      · split at h <;> split at h1 <;> first | (rename_i e1 e2; rw [if_pos e2]; omega) | (rename_i e1 e2; rw [if_neg e2]; split at h1 <;> first | (rename_i e3; rw [if_pos e3]; omega) | (rename_i e3; rw [if_neg e3]; split <;> omega))
      · split at h1
        · omega
        · split at h1 <;> omega
    · have hp : partW M (r.num : Nat) (r.typ : Nat) (r.slot : Nat) = if (r.typ : Int) = 3 then [((r.num : Int), 0, (zig (wrap64 (M.num (r.slot : Nat) : Nat))).toNat, [])] else [((r.num : Int), (wireN (r.typ : Nat) : Int), M.num (r.slot : Nat), [])] := by
        unfold partW
        rw [if_neg (by omega), if_neg (by omega)]
      have hcap : capR r.typ = 11 := by unfold capR; rw [if_pos (by omega)]
      rw [hp, hcap]
      split
      · rw [List.flatMap_cons, List.flatMap_nil, List.append_nil]
        have r1 := w64_range (M.num (r.slot : Nat) : Int)
        have z1 := zig_range _ r1.1 r1.2
        exact wB_plain hk.1 hk.2.1 0 _ (.inl rfl) (by omega)
      · rw [List.flatMap_cons, List.flatMap_nil, List.append_nil]
        have hw : wireN (r.typ : Nat) = 0 ∨ wireN (r.typ : Nat) = 1 ∨ wireN (r.typ : Nat) = 5 := by
          unfold wireN
          split
          · exact .inr (.inr rfl)
          split
          · exact .inr (.inl rfl)
          · rw [if_neg (by omega)]; exact .inl rfl
        exact wB_plain hk.1 hk.2.1 _ _ hw (hn _)
theorem flat_cap {M : MV} (hn : ∀ i, M.num i ≤ 18446744073709551615) (hsm : MvSm M) : ∀ (L : List SRow), (∀ r ∈ L, r ∈ ROWS) → (∀ r ∈ L, fldE M r = 0) → (L.flatMap (fldR M)).length ≤ (L.map fun r => capR r.typ).sum
  | [], _, _ => by simp
  | r :: L, hL, hf => by
    have h1 := fldR_cap hn hsm (hL r (List.mem_cons_self ..)) (hf r (List.mem_cons_self ..))
    have h2 := flat_cap hn hsm L (fun q hq => hL q (List.mem_cons_of_mem _ hq)) (fun q hq => hf q (List.mem_cons_of_mem _ hq))
    rw [List.flatMap_cons, List.length_append, List.map_cons, List.sum_cons]
    omega
theorem enc_cap {M : MV} (v : Int) (hn : ∀ i, M.num i ≤ 18446744073709551615) (hsm : MvSm M) : (encB M (ofL (M.k : Int) v)).length ≤ 8192 := by
  unfold encB
  split
  · rename_i hc
    exact Nat.le_trans (flat_cap hn hsm _ (fun r hr => ofL_mem _ _ hr) (chkL_all _ (chkV_zero hc).2.2.1)) (cap_all M.k v)
  · simp
/-- A row's parts are one, unless it is a list's. -/
theorem rowP_one {M : MV} {r : SRow} (ht : r.typ ≠ 10) : (rowP M r).length ≤ 1 := by
  unfold rowP
  split
  · simp
  · unfold partW
    rw [if_neg (by omega)]
    split
    · simp
    split <;> simp
/-- Each part is of a field of its own number, and they stand by rising numbers, some of one number if it is a list's. -/
theorem allP_order {M : MV} (hn : ∀ i, M.num i ≤ 18446744073709551615) (hsm : MvSm M) : ∀ (L : List SRow), (∀ r ∈ L, r ∈ ROWS) → L.Pairwise (fun a b => a.num < b.num) → (allP M L).Pairwise (fun x y => x.1 < y.1 ∨ (x.1 = y.1 ∧ ∃ r ∈ L, (r.num : Int) = y.1 ∧ r.typ = 10))
  | [], _, _ => List.Pairwise.nil
  | q :: L, hL, hp => by
    have hq := hL q (List.mem_cons_self ..)
    rw [List.pairwise_cons] at hp
    have hall : allP M (q :: L) = rowP M q ++ allP M L := by unfold allP; rw [List.flatMap_cons]
    rw [hall, List.pairwise_append]
    refine ⟨?_, (allP_order hn hsm L (fun q hq => hL q (List.mem_cons_of_mem _ hq)) hp.2).imp ?_, ?_⟩
    · by_cases ht : q.typ = 10
      · rw [List.pairwise_iff_forall_sublist]
        intro x y hxy
        have hx : x ∈ rowP M q := hxy.subset (by simp)
        have hy : y ∈ rowP M q := hxy.subset (by simp)
        have e1 := (rowP_ok hn hsm hq hx).num
        have e2 := (rowP_ok hn hsm hq hy).num
        exact .inr ⟨by rw [e1, e2], q, List.mem_cons_self .., e2.symm, ht⟩
      · have h1 := rowP_one (M := M) ht
        generalize rowP M q = P at *
        match P, h1 with
        | [], _ => exact List.Pairwise.nil
        | [x], _ => exact List.pairwise_singleton _ _
    · intro x y h
      rcases h with h | ⟨h, r, hr, h2⟩
      · exact .inl h
      · exact .inr ⟨h, r, List.mem_cons_of_mem _ hr, h2⟩
    · intro x hx y hy
      obtain ⟨t, ht, hyt⟩ := allP_ok hn hsm (fun q hq => hL q (List.mem_cons_of_mem _ hq)) hy
      have e1 := (rowP_ok hn hsm hq hx).num
      have e2 := hyt.num
      have := hp.1 t ht
      exact .inl (by omega)
end Go.Proofs.Ytnfodgjihdoncaa
namespace Go.Proofs.Ytnfodgjihdoncaa
open Go.RowKit
theorem enc_flds {M : MV} (k : Nat) (v : Int) (hn : ∀ i, M.num i ≤ 18446744073709551615) (hsm : MvSm M) (hc : (chkV M (ofL (k : Int) v)).1 = 0) : flds (encB M (ofL (k : Int) v)) (encB M (ofL (k : Int) v)).length 0 = (putL ((allP M (ofL (k : Int) v)).map ptF) 0, 0, 0) := by
  have hL : ∀ r ∈ ofL (k : Int) v, r ∈ ROWS := fun r hr => ofL_mem _ _ hr
  rw [encB_allP hsm hL hc]
  exact flat_flds _ fun x hx => by obtain ⟨r, hr, hxr⟩ := allP_ok hn hsm hL hx; exact hxr.put (hL r hr)
end Go.Proofs.Ytnfodgjihdoncaa
