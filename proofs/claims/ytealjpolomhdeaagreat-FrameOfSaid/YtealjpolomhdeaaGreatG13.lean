/- crc.Seal, crc.Open; the document's Seal. · What must be whatever is asked: layer 7. · The walks of CrcIs, CrcParts, CrcSeals. · The walk of CrcBurst. · Frames as lists of bytes: put, read, what stands behind, what is shorter. · frame.Size, join, Put, measure, Read, Same. · frame.measure, Read, Same; bytes.Equal. · frame.Read, Same; bytes.Equal. · What the readers of frames and streams share. · frame.Of; what must be whatever is asked: layer 13. · What must be whatever is asked: layer 13. · What must be whatever is asked: layer 13: the walk. -/
import Derived.Test.YtealjpolomhdeaaGreatCrcMore
import Derived.Test.YtealjpolomhdeaaGreatG2
import Derived.Test.YtealjpolomhdeaaGreatG0
import Derived.Test.YtealjpolomhdeaaGreatM2
import Derived.Lib.SlBytesConst
import Derived.RegionTactic
import Derived.ChangeAlike
import Derived.Laws.BitsAllLaws
import Derived.BigQuiet
import Derived.Deep.QuietTactic
import Derived.Shelf.RegionOpen
import Derived.Test.YtealjpolomhdeaaGreatEn4
set_option linter.unusedVariables false
namespace Go.Proofs.YtealjpolomhdeaaGreat
open Go.RowKit
theorem C.le4_fix (v : Nat) : fixN 4 v = C.le4 v := by
  simp only [fixN, C.le4, b8]
  rw [Nat.div_div_eq_div_mul, Nat.div_div_eq_div_mul]
/-- Bytes, and behind them their sum. -/
def C.sealB (bs : List UInt8) : List UInt8 := bs ++ C.le4 (C.sum bs)
theorem C.sealB_len (bs : List UInt8) : (C.sealB bs).length = bs.length + 4 := by simp [C.sealB, C.le4_length]
set_option maxRecDepth 100000 in
set_option maxHeartbeats 2000000 in
theorem cseal_any (bs : List UInt8) (n : Nat) (A : Option Addr) (c : Nat) (w : World) (hn : bs.length = n) (hl : n ≤ 1000000) (hS : Sl w A c (bs.map bv)) :
    Calls Tryz.prog 42 #[.slice A n c] w fun e w' => ∃ v, e = .returned v ∧ w'.ownsRow w.heap.size 5 1 v (n + 4) ((C.sealB bs).map bv) ∧ Below w.heap.size w w' := by
  obtain ⟨i0, hi, hz0, hz1, hz2⟩ := info_parts Tryz.info5
  have hmk : ∀ u : World, (Instr.makeSlice 22 (.int .i64 0) (.int .i64 ((n : Int) + 4))).run Tryz.prog u = .ok (.slice (some ⟨u.heap.size, 0, none⟩) 0 (n + 4)) (u.alloc (.cells (madeCells #[.int .u8 0] (n + 4)) 5)) := fun u => by
    have h := run_make (P := Tryz.prog) u 22 5 i0 (.int .u8 0) Tryz.underlying22 hi hz0 .i64 .i64 0 ((n + 4 : Nat) : Int) (by omega) (by omega) (by rw [hz2]; omega) (by omega)
    have ht : ((n : Int) + 4).toNat = n + 4 := by omega
    simpa [hz1, Value.cells, ht] using h
  have hrow : (w.alloc (.cells (madeCells #[.int .u8 0] (n + 4)) 5)).ownsRow w.heap.size 5 1 (.slice (some ⟨w.heap.size, 0, none⟩) 0 (n + 4)) 0 [] := World.ownsRow_made _ _ _ (Nat.le_refl _) (by simp only [maxLen]; omega) (by rw [size_madeCells]; omega)
  have hof := fun W (hW : Below w.heap.size w W) => cof_any bs n A c W hn hl (hS.below hW)
  have hsl := C.sum_lt bs
  have hfx := fun W => fix32_any (C.sum bs) (by omega) W
  have hsA : Sl (w.alloc (.cells (madeCells #[.int .u8 0] (n + 4)) 5)) A c (bs.map bv) := hS.below (bw_a (Below.refl _ w) _)
  have hq : C.sealB bs = bs ++ fixN 4 (C.sum bs) := by rw [C.le4_fix]; rfl
  rw [hq]
  have hl4 := length_fixN 4 (C.sum bs)
  generalize fixN 4 (C.sum bs) = F at *
  generalize C.sum bs = sm at *
  have HOF := hid hof
  have HFX := hid hfx
  have HN := hid hn
  have HR := hid hrow
  have HSA := hid hsA
  have HL4 := hid hl4
  clear hof hfx hn hS hsl hrow hsA hq hl4
  go_enter Tryz.func42, Tryz.ntmps42
  go_wp2_with (at_builtin; refine wpList_append_rd rfl (.tmp 8) (.tmp 9) 22 rfl w.heap.size 5 i0 (.int .u8 0) 1 1 Tryz.underlying22 hi hz0 hz1 hz2 rfl (by decide) _ _ _ rfl HR.out A n c (bs.map bv) rfl (by rw [List.length_map, HN.out, Nat.mul_one]) HSA.out.rd HSA.out.nil0 (bv_one _) (by simp only [maxLen]; omega) (by omega) (by simp) ?_; intro v1 w1 hown1 hgrow1; have HO1 := hid hown1; have HB1 := hid (bw_g (bw_a (Below.refl w.heap.size w) _) hgrow1 (fun k ek => (HR.out.lt k ek).1)); clear hown1 hgrow1)
  refine (HOF.out _ HB1.out).mono ?_
  rintro e w2 ⟨rfl, hb2⟩
  go_wp2_with fail
  refine (HFX.out _).mono ?_
  rintro e w3 ⟨A3, c3, rfl, hs3, hb3⟩
  have HB3 := hid (bw_t (bw_t HB1.out hb2) hb3)
  have HO3 := hid (own_below (own_below HO1.out hb2) hb3)
  have HS3 := hid hs3
  clear hb2 hb3 hs3
  go_wp2_with (at_builtin; refine wpList_append_rd rfl (.tmp 11) (.tmp 14) 22 rfl w.heap.size 5 i0 (.int .u8 0) 1 1 Tryz.underlying22 hi hz0 hz1 hz2 rfl (by decide) _ _ _ rfl HO3.out A3 4 c3 (F.map bv) rfl (by rw [List.length_map, HL4.out]) HS3.out.rd HS3.out.nil0 (bv_one _) (by simp only [maxLen]; omega) (by omega) HB3.out.size ?_; intro v4 w4 hown4 hgrow4)
  go_ret
  refine ⟨_, rfl, ?_, bw_g HB3.out hgrow4 (fun k ek => (HO3.out.lt k ek).1)⟩
  rw [List.map_append]
  simpa using hown4
/-- What opening comes to. -/
def C.openE (bs : List UInt8) : Nat := if bs.length < 4 then 4 else if C.sealB (bs.take (bs.length - 4)) = bs then 0 else 12
theorem C.open_sum (bs : List UInt8) (h : 4 ≤ bs.length) : (C.sealB (bs.take (bs.length - 4)) = bs) ↔ unfixN (bs.drop (bs.length - 4)) = C.sum (bs.take (bs.length - 4)) := by
  have hd : (bs.drop (bs.length - 4)).length = 4 := by rw [List.length_drop]; omega
  obtain ⟨v, hv, he⟩ := C.le4_of _ hd
  have hu : unfixN (bs.drop (bs.length - 4)) = v := by rw [he, ← C.le4_fix, unfix_fix 4 v (by omega)]
  have hsp : bs = bs.take (bs.length - 4) ++ bs.drop (bs.length - 4) := (List.take_append_drop _ _).symm
  rw [hu]
  constructor
  · intro h1
    have h2 : C.sealB (bs.take (bs.length - 4)) = bs.take (bs.length - 4) ++ C.le4 v := by rw [h1]; rw [← he]; exact hsp
    have h3 : C.le4 (C.sum (bs.take (bs.length - 4))) = C.le4 v := List.append_cancel_left h2
    have h4 := congrArg unfixN h3
    rw [← C.le4_fix, ← C.le4_fix, unfix_fix 4 _ (by have := C.sum_lt (bs.take (bs.length - 4)); omega), unfix_fix 4 v (by omega)] at h4
    exact h4.symm
  · intro h1
    unfold C.sealB
    rw [← h1, ← he]
    exact hsp.symm
set_option maxRecDepth 100000 in
set_option maxHeartbeats 2000000 in
theorem copen_any (bs : List UInt8) (n : Nat) (A : Option Addr) (c : Nat) (w : World) (hn : bs.length = n) (hl : n ≤ 1000000) (hS : Sl w A c (bs.map bv)) :
    Calls Tryz.prog 44 #[.slice A n c] w fun e w' => ((C.openE bs = 0 ∧ ∃ v, e = .returned (.tuple #[v, .int .i64 0]) ∧ w'.ownsRow w.heap.size 5 1 v (n - 4) ((bs.take (n - 4)).map bv)) ∨ (C.openE bs ≠ 0 ∧ e = .returned (.tuple #[.slice none 0 0, .int .i64 (C.openE bs : Nat)]))) ∧ Below w.heap.size w w' := by
  have hcap := hS.cap
  have hsm := hS.small
  rw [List.length_map, hn] at hcap
  by_cases h4 : n < 4
  · have he : C.openE bs = 4 := by unfold C.openE; rw [if_pos (by omega)]
    rw [he]
    clear hS hn
    go_enter Tryz.func44, Tryz.ntmps44
    go_wp2_with fail
    go_ret2
    exact ⟨.inr ⟨by omega, rfl⟩, Below.refl _ _⟩
  · have hos := C.open_sum bs (by omega)
    have hE : C.openE bs = if unfixN (bs.drop (n - 4)) = C.sum (bs.take (n - 4)) then 0 else 12 := by
      unfold C.openE
      rw [if_neg (by omega)]
      rw [hn] at hos ⊢
      by_cases h : unfixN (bs.drop (n - 4)) = C.sum (bs.take (n - 4))
      · rw [if_pos h, if_pos (hos.2 h)]
      · rw [if_neg h, if_neg (fun h2 => h (hos.1 h2))]
    rw [hE]
    have ht : (bs.take (n - 4)).length = n - 4 := by rw [List.length_take]; omega
    have hd : (bs.drop (n - 4)).length = 4 := by rw [List.length_drop]; omega
    have hcut := hS.cut (n - 4) (by omega)
    have hpre : Sl w A c ((bs.take (n - 4)).map bv) := ⟨by rw [List.length_map, ht]; omega, hsm, hS.nil0, by have := hS.rd.take (n - 4); rwa [← List.map_take] at this⟩
    have hX : cutA A c (n - 4) = Option.map (fun x => x.add (n - 4)) A := by unfold cutA; rw [if_neg (by omega)]
    have hg := fun W (hW : Below w.heap.size w W) => get32_any (bs.drop (n - 4)) (cutA A c (n - 4)) (c - (n - 4)) W (hcut.below hW)
    simp only [hd, List.take_of_length_le (Nat.le_of_eq hd), hX, show ¬ (4 : Nat) < 4 from by omega, if_false] at hg
    have hof := fun W (hW : Below w.heap.size w W) => cof_any (bs.take (n - 4)) (n - 4) A c W ht (by omega) (hpre.below hW)
    have hcl := fun W (hW : Below w.heap.size w W) => clone_any (bs.take (n - 4)) (n - 4) A c W ht (by omega) (hpre.below hW)
    generalize C.sum (bs.take (n - 4)) = sm at *
    generalize unfixN (bs.drop (n - 4)) = u at *
    have HG := hid hg
    have HOF := hid hof
    have HCL := hid hcl
    have hc1 : ((n : Int) - 4) = ((n - 4 : Nat) : Int) := by omega
    have HE := hid hE
    clear hg hof hcl hn hS hos hE hpre hcut hd ht hX
    obtain ⟨p, hp⟩ : ∃ p, n = p + 4 := ⟨n - 4, by omega⟩
    subst hp
    rw [show p + 4 - 4 = p from by omega] at *
    generalize bs.take p = pre at *
    obtain ⟨er, her⟩ : ∃ er : Nat, (if u = sm then 0 else 12) = er := ⟨_, rfl⟩
    rw [her]
    have HER := hid her
    clear her
    have hcp : ¬ c = p := by omega
    go_enter Tryz.func44, Tryz.ntmps44
    go_wp2_with fail
    refine (HG.out _ (Below.refl _ _)).mono ?_
    rintro e w1 ⟨rfl, rfl⟩
    go_wp2_with fail
    refine (HOF.out _ (Below.refl _ _)).mono ?_
    rintro e w2 ⟨rfl, hb2⟩
    by_cases hu : u = sm
    · have he0 : er = 0 := by rw [← HER.out, if_pos hu]
      subst hu
      have HE0 := hid he0
      clear he0
      go_wp2_with fail
      refine (HCL.out _ hb2).mono ?_
      rintro e w3 ⟨v, rfl, ho, hb3⟩
      go_wp2_with fail
      go_ret2
      exact ⟨.inl ⟨HE0.out, v, rfl, own_mono ho hb2.size⟩, bw_t hb2 hb3⟩
    · obtain rfl : er = 12 := by rw [← HER.out, if_neg hu]
      have hub : ((u : Int) != (sm : Int)) = true := by simp; omega
      clear hu
      go_wp2_with fail
      go_ret2
      exact ⟨.inr ⟨by omega, rfl⟩, hb2⟩
end Go.Proofs.YtealjpolomhdeaaGreat
set_option linter.unusedVariables false
namespace Go.Proofs.YtealjpolomhdeaaGreat
open Go.RowKit
theorem lit_sl (w : World) (t : TypeId) (bs : List UInt8) (cs : Array Value) (n : Nat) (hn : bs.length = n) (hm : n ≤ 9223372036854775807) (h : cs.toList = bs.map bv) : Sl (w.alloc (.cells cs t)) (some ⟨w.heap.size, 0, none⟩) n (bs.map bv) :=
  ⟨by simp [hn], hm, (fun h => by cases h), by rw [← h]; exact Rd.new w t cs⟩
theorem cseal_sl (bs : List UInt8) (n m : Nat) (A : Option Addr) (c : Nat) (w : World) (hn : bs.length = n) (hm : n + 4 = m) (hl : n ≤ 1000000) (hS : Sl w A c (bs.map bv)) :
    Calls Tryz.prog 42 #[.slice A n c] w fun e w' => ∃ A' c', e = .returned (.slice A' m c') ∧ Sl w' A' c' ((C.sealB bs).map bv) ∧ Below w.heap.size w w' := by
  subst hm
  refine (cseal_any bs n A c w hn hl hS).mono ?_
  rintro e w' ⟨v, rfl, ho, hb⟩
  obtain ⟨A', c', rfl, -, hs⟩ := Sl.of_own ho
  exact ⟨A', c', rfl, hs, hb⟩
end Go.Proofs.YtealjpolomhdeaaGreat
set_option linter.unusedVariables false
namespace Go.Proofs.YtealjpolomhdeaaGreat
open Go.RowKit
/-- A slice cut at its end. -/
theorem Sl.pre {w : World} {A : Option Addr} {c : Nat} {bs : List UInt8} (h : Sl w A c (bs.map bv)) (k : Nat) (hk : k ≤ bs.length) : Sl w A c ((bs.take k).map bv) := by
  have hc := h.cap
  rw [List.length_map] at hc
  refine ⟨by rw [List.length_map, List.length_take]; omega, h.small, h.nil0, ?_⟩
  have := h.rd.take k
  rwa [← List.map_take] at this
end Go.Proofs.YtealjpolomhdeaaGreat
set_option linter.unusedVariables false
namespace Go.Proofs.YtealjpolomhdeaaGreat
open Go.RowKit
/-- A row of bytes in a block that may be written. -/
structure RowB (W : World) (g : Nat) (cur : Array Value) (bs : List UInt8) : Prop where
  blk : Blk W g 5 cur
  len : bs.length ≤ cur.size
  get : ∀ k (h : k < bs.length), cur[k]? = some (bv bs[k])
theorem RowB.of_own {W : World} {B n : Nat} {v : Value} {bs : List UInt8} (h : W.ownsRow B 5 1 v n (bs.map bv)) (h0 : 0 < n) : ∃ g c cur, v = .slice (some ⟨g, 0, none⟩) n c ∧ B ≤ g ∧ n ≤ c ∧ c ≤ 9223372036854775807 ∧ bs.length = n ∧ RowB W g cur bs := by
  have hn : bs.length = n := by simpa using h.1
  rcases h.2 with ⟨rfl, hx⟩ | ⟨g, cap, cur, rfl, hb, hg, hnc, hcm, hcs, htake⟩
  · omega
  · refine ⟨g, cap, cur, rfl, hb, hnc, hcm, hn, hg, by omega, fun k hk => ?_⟩
    have h1 := h.cells (g := g) rfl k (bv bs[k]) (by simp [hk])
    rw [addr_add] at h1
    have h2 : W.cell? ⟨g, k, none⟩ = cur[k]? := Blk.cell hg k
    rw [← h2]
    simpa using h1
theorem RowB.sl {W : World} {g c : Nat} {cur : Array Value} {bs : List UInt8} (h : RowB W g cur bs) (hc : bs.length ≤ c) (hm : c ≤ 9223372036854775807) : Sl W (some ⟨g, 0, none⟩) c (bs.map bv) := by
  refine ⟨by simpa using hc, hm, (fun h => by cases h), fun k u hk => ⟨g, 0, rfl, h.blk.lt, ?_⟩⟩
  have hk2 : k < bs.length := by have := (List.getElem?_eq_some_iff.1 hk).1; simpa using this
  rw [Nat.zero_add, h.blk.cell, h.get k hk2]
  rw [List.getElem?_map, List.getElem?_eq_getElem hk2] at hk
  exact hk
theorem RowB.set_ {W : World} {g : Nat} {cur : Array Value} {bs : List UInt8} (h : RowB W g cur bs) (j : Nat) (x : UInt8) : RowB (W.setCell ⟨g, j, none⟩ (bv x)) g (cur.setIfInBounds j (bv x)) (bs.set j x) := by
  refine ⟨h.blk.set_ j _, by simpa using h.len, fun k hk => ?_⟩
  rw [List.length_set] at hk
  have hl := h.len
  by_cases e : j = k
  · subst e
    rw [Array.getElem?_setIfInBounds_self_of_lt (by omega)]
    simp
  · rw [Array.getElem?_setIfInBounds_ne e, h.get k hk, List.getElem_set_ne e]
end Go.Proofs.YtealjpolomhdeaaGreat
set_option linter.unusedVariables false
namespace Go.Proofs.YtealjpolomhdeaaGreat
open Go.RowKit
def Fr.inner (t : UInt8) (p : List UInt8) : List UInt8 := t :: b8 (p.length % 256) :: b8 (p.length / 256) :: p
/-- A frame's bytes. -/
def Fr.put (t : UInt8) (p : List UInt8) : List UInt8 := 197 :: 154 :: C.sealB (Fr.inner t p)
theorem Fr.inner_len (t : UInt8) (p : List UInt8) : (Fr.inner t p).length = p.length + 3 := by simp [Fr.inner]
theorem Fr.put_len (t : UInt8) (p : List UInt8) : (Fr.put t p).length = p.length + 9 := by simp [Fr.put, C.sealB_len, Fr.inner_len]
/-- The length that bytes tell, their type, and their payload. -/
def Fr.ln (bs : List UInt8) : Nat := (bs.getD 3 0).toNat + 256 * (bs.getD 4 0).toNat
def Fr.ty (bs : List UInt8) : UInt8 := bs.getD 2 0
def Fr.pl (bs : List UInt8) : List UInt8 := (bs.drop 5).take (Fr.ln bs)
/-- What is wrong with the first five. -/
def Fr.hE (bs : List UInt8) : Nat :=
  if 0 < bs.length ∧ bs.getD 0 0 ≠ 197 then 3 else if 1 < bs.length ∧ bs.getD 1 0 ≠ 154 then 3 else if bs.length < 5 then 4 else if 8192 < Fr.ln bs then 2 else 0
/-- What is wrong with what begins there. -/
def Fr.rE (bs : List UInt8) : Nat :=
  if Fr.hE bs ≠ 0 then Fr.hE bs else if bs.length < Fr.ln bs + 9 then 4 else if Fr.put (Fr.ty bs) (Fr.pl bs) = bs.take (Fr.ln bs + 9) then 0 else 12
theorem Fr.cons5 (bs : List UInt8) (h : 5 ≤ bs.length) : ∃ x0 x1 x2 x3 x4 r, bs = x0 :: x1 :: x2 :: x3 :: x4 :: r := by
  rcases bs with _ | ⟨x0, _ | ⟨x1, _ | ⟨x2, _ | ⟨x3, _ | ⟨x4, r⟩⟩⟩⟩⟩
  · simp at h
  · simp at h
  · simp at h
  · simp at h
  · simp at h
  · exact ⟨x0, x1, x2, x3, x4, r, rfl⟩
theorem Fr.hE_cases (bs : List UInt8) : Fr.hE bs = 3 ∨ Fr.hE bs = 4 ∨ Fr.hE bs = 2 ∨ Fr.hE bs = 0 := by
  unfold Fr.hE
  split
  · simp
  · split
    · simp
    · split
      · simp
      · split <;> simp
theorem Fr.hE0 {bs : List UInt8} (h : Fr.hE bs = 0) : ∃ t a b r, bs = 197 :: 154 :: t :: a :: b :: r ∧ Fr.ln bs = a.toNat + 256 * b.toNat ∧ a.toNat + 256 * b.toNat ≤ 8192 := by
  have h5 : 5 ≤ bs.length := by
    unfold Fr.hE at h
    by_cases h5 : bs.length < 5
    · exfalso
      revert h
      split
      · simp
      · split
        · simp
        · simp
    · omega
  obtain ⟨x0, x1, t, a, b, r, rfl⟩ := Fr.cons5 bs h5
  unfold Fr.hE at h
  simp only [List.length_cons, List.getD_cons_zero, List.getD_cons_succ] at h
  by_cases e0 : x0 = 197
  · by_cases e1 : x1 = 154
    · subst e0; subst e1
      refine ⟨t, a, b, r, rfl, rfl, ?_⟩
      have hl : Fr.ln (197 :: 154 :: t :: a :: b :: r) = a.toNat + 256 * b.toNat := rfl
      rw [hl] at h
      by_cases hq : 8192 < a.toNat + 256 * b.toNat
      · exfalso; revert h; simp [hq, show ¬ (r.length + 1 + 1 + 1 + 1 + 1 < 5) from by omega]
      · omega
    · exfalso; revert h; simp [e0, e1]
  · exfalso; revert h; simp [e0]
theorem Fr.hE_ok (t a b : UInt8) (r : List UInt8) (h : a.toNat + 256 * b.toNat ≤ 8192) : Fr.hE (197 :: 154 :: t :: a :: b :: r) = 0 := by
  have hl : Fr.ln (197 :: 154 :: t :: a :: b :: r) = a.toNat + 256 * b.toNat := rfl
  unfold Fr.hE
  rw [hl]
  simp [show ¬ (r.length + 1 + 1 + 1 + 1 + 1 < 5) from by omega]; omega
theorem Fr.put_cons (t : UInt8) (p : List UInt8) : Fr.put t p = 197 :: 154 :: t :: b8 (p.length % 256) :: b8 (p.length / 256) :: (p ++ C.le4 (C.sum (Fr.inner t p))) := rfl
theorem Fr.len8 {n : Nat} (h : n ≤ 8192) : (b8 (n % 256)).toNat + 256 * (b8 (n / 256)).toNat = n := by
  rw [b8_toNat (by omega), b8_toNat (by omega)]; omega
theorem Fr.b8_len (a b : UInt8) : b8 ((a.toNat + 256 * b.toNat) % 256) = a ∧ b8 ((a.toNat + 256 * b.toNat) / 256) = b := by
  have ha := a.toNat_lt
  have hb := b.toNat_lt
  rw [show (a.toNat + 256 * b.toNat) % 256 = a.toNat from by omega, show (a.toNat + 256 * b.toNat) / 256 = b.toNat from by omega]
  exact ⟨b8_self a, b8_self b⟩
/-- A frame is read as it was put, whatever stands behind. -/
theorem Fr.rE_put (t : UInt8) (p m : List UInt8) (h : p.length ≤ 8192) : Fr.rE (Fr.put t p ++ m) = 0 ∧ Fr.ty (Fr.put t p ++ m) = t ∧ Fr.pl (Fr.put t p ++ m) = p ∧ Fr.ln (Fr.put t p ++ m) = p.length := by
  have hp : Fr.put t p ++ m = 197 :: 154 :: t :: b8 (p.length % 256) :: b8 (p.length / 256) :: (p ++ (C.le4 (C.sum (Fr.inner t p)) ++ m)) := by rw [Fr.put_cons]; simp
  have hl : Fr.ln (Fr.put t p ++ m) = p.length := by rw [hp]; exact Fr.len8 h
  have ht : Fr.ty (Fr.put t p ++ m) = t := by rw [hp]; rfl
  have hpl : Fr.pl (Fr.put t p ++ m) = p := by
    unfold Fr.pl
    rw [hl, hp]
    simp only [List.drop_succ_cons, List.drop_zero]
    exact List.take_left' rfl
  refine ⟨?_, ht, hpl, hl⟩
  have h0 : Fr.hE (Fr.put t p ++ m) = 0 := by rw [hp]; exact Fr.hE_ok _ _ _ _ (by rw [Fr.len8 h]; exact h)
  have hln := Fr.put_len t p
  unfold Fr.rE
  rw [h0, if_neg (by simp), hl, ht, hpl, if_neg (by rw [List.length_append]; omega), if_pos]
  rw [← hln]; exact (List.take_left' rfl).symm
theorem Fr.rE_cases (bs : List UInt8) : Fr.rE bs = 3 ∨ Fr.rE bs = 4 ∨ Fr.rE bs = 2 ∨ Fr.rE bs = 12 ∨ Fr.rE bs = 0 := by
  unfold Fr.rE
  rcases Fr.hE_cases bs with h | h | h | h <;> rw [h]
  · simp
  · simp
  · simp
  · rw [if_neg (by simp)]
    split
    · simp
    · split <;> simp
/-- Opening what stands behind both first bytes. -/
theorem Fr.open_ {bs : List UInt8} (h0 : Fr.hE bs = 0) (hl : Fr.ln bs + 9 ≤ bs.length) : ((bs.take (Fr.ln bs + 9)).drop 2).length = Fr.ln bs + 7 ∧ C.openE ((bs.take (Fr.ln bs + 9)).drop 2) = Fr.rE bs ∧ (((bs.take (Fr.ln bs + 9)).drop 2).take (Fr.ln bs + 3)) = Fr.ty bs :: (bs.getD 3 0) :: (bs.getD 4 0) :: Fr.pl bs := by
  obtain ⟨t, a, b, r, rfl, hn, hle⟩ := Fr.hE0 h0
  have hX : (((197 :: 154 :: t :: a :: b :: r).take (Fr.ln (197 :: 154 :: t :: a :: b :: r) + 9)).drop 2) = t :: a :: b :: r.take (Fr.ln (197 :: 154 :: t :: a :: b :: r) + 4) := by
    simp [List.take_succ_cons]
  have hpl : Fr.pl (197 :: 154 :: t :: a :: b :: r) = r.take (Fr.ln (197 :: 154 :: t :: a :: b :: r)) := rfl
  have hty : Fr.ty (197 :: 154 :: t :: a :: b :: r) = t := rfl
  have h8 := Fr.b8_len a b
  rw [← hn] at h8
  simp only [List.length_cons] at hl
  have hrE : Fr.rE (197 :: 154 :: t :: a :: b :: r) = if Fr.put t (r.take (Fr.ln (197 :: 154 :: t :: a :: b :: r))) = (197 :: 154 :: t :: a :: b :: r).take (Fr.ln (197 :: 154 :: t :: a :: b :: r) + 9) then 0 else 12 := by
    unfold Fr.rE
    rw [h0, if_neg (by simp), hty, hpl, if_neg (by simp only [List.length_cons]; omega)]
  rw [hrE, hX, hpl, hty]
  generalize Fr.ln (197 :: 154 :: t :: a :: b :: r) = n at *
  have hrl : (r.take (n + 4)).length = n + 4 := by rw [List.length_take]; omega
  have htk : (t :: a :: b :: r.take (n + 4)).take (n + 3) = t :: a :: b :: r.take n := by
    simp only [List.take_succ_cons]
    rw [List.take_take, Nat.min_eq_left (by omega)]
  refine ⟨by simp only [List.length_cons, hrl], ?_, htk⟩
  unfold C.openE
  have hlen : (t :: a :: b :: r.take (n + 4)).length = n + 7 := by simp only [List.length_cons, hrl]
  rw [hlen, if_neg (by omega), show n + 7 - 4 = n + 3 from by omega, htk]
  have hin : Fr.inner t (r.take n) = t :: a :: b :: r.take n := by
    unfold Fr.inner
    rw [List.length_take, Nat.min_eq_left (by omega), h8.1, h8.2]
  have hsp : (197 :: 154 :: t :: a :: b :: r).take (n + 9) = 197 :: 154 :: t :: a :: b :: r.take (n + 4) := by simp [List.take_succ_cons]
  rw [hsp]
  unfold Fr.put
  rw [hin]
  by_cases hc : C.sealB (t :: a :: b :: r.take n) = t :: a :: b :: r.take (n + 4)
  · rw [if_pos hc, if_pos (by rw [hc])]
  · rw [if_neg hc, if_neg (fun h => hc (by injection h with _ h; injection h))]
end Go.Proofs.YtealjpolomhdeaaGreat
set_option linter.unusedVariables false
namespace Go.Proofs.YtealjpolomhdeaaGreat
open Go.RowKit
def Fr.size (n : Int) : Int := if n < 0 ∨ 8192 < n then 0 else n + 9
theorem fsize_any (n : Int) (w : World) (h1 : -9223372036854775808 ≤ n) (h2 : n ≤ 9223372036854775807) :
    Calls Tryz.prog 27 #[.int .i64 n] w fun e w' => e = .returned (.int .i64 (Fr.size n)) ∧ w = w' := by
  unfold Fr.size
  by_cases ha : n < 0
  · rw [if_pos (.inl ha)]
    go_enter Tryz.func27, Tryz.ntmps27
    go_wp2_with fail
    go_ret
    exact ⟨rfl, rfl⟩
  by_cases hb : 8192 < n
  · rw [if_pos (.inr hb)]
    go_enter Tryz.func27, Tryz.ntmps27
    go_wp2_with fail
    go_ret
    exact ⟨rfl, rfl⟩
  · rw [if_neg (by omega)]
    go_enter Tryz.func27, Tryz.ntmps27
    go_wp2_with fail
    go_ret
    exact ⟨ret_int (by omega), rfl⟩
theorem i64_or_256 (a b : Nat) (ha : a < 256) (hb : b < 256) : bits .or .i64 (a : Int) ((b : Int) * 256) = ((a + 256 * b : Nat) : Int) := by
  have e : ((b : Int) * 256) = ((256 * b : Nat) : Int) := by omega
  rw [e]
  have ho : a ||| 256 * b = a + 256 * b := by
    rw [Nat.or_comm, nat_join 8 (256 * b) a (by omega) (by omega)]; omega
  show IntKind.i64.wrap ((BitVec.ofInt 64 (a : Int) ||| BitVec.ofInt 64 ((256 * b : Nat) : Int)).toNat : Int) = _
  rw [BitVec.toNat_or, ofInt_u64 a (by omega), ofInt_u64 (256 * b) (by omega), ho, IntWalk.i64_in _ (by omega)]
set_option maxRecDepth 100000 in
set_option maxHeartbeats 2000000 in
theorem fjoin_any (xa bs : List UInt8) (n m : Nat) (A B : Option Addr) (c d q : Nat) (w : World) (hn : xa.length = n) (hm : bs.length = m) (hl : n + m ≤ 1000000) (hA : Sl w A c (xa.map bv)) (hB : Sl w B d (bs.map bv))
    (hq : Blk w q 22 #[.slice A n c, .slice B m d]) :
    Calls Tryz.prog 41 #[.slice (some ⟨q, 0, none⟩) 2 2] w fun e w' => ∃ v, e = .returned v ∧ w'.ownsRow w.heap.size 5 1 v (n + m) ((xa ++ bs).map bv) ∧ Below w.heap.size w w' := by
  obtain ⟨i0, hi, hz0, hz1, hz2⟩ := info_parts Tryz.info5
  have hql := hq.lt
  have HN := hid hn
  have HM := hid hm
  have HA := hid hA
  have HB := hid hB
  have HQ := hid hq
  clear hn hm hA hB hq
  go_enter Tryz.func41, Tryz.ntmps41
  go_wp2_with fail
  go_loopw [3, 5, 8] (fun v _ i wr => ∃ (t : Nat) (xs : List UInt8), wr.ownsRow w.heap.size 5 1 v t (xs.map bv) ∧ Below w.heap.size w wr ∧ ((i = .int .i64 0 ∧ t = 0 ∧ xs = []) ∨ (i = .int .i64 1 ∧ t = n ∧ xs = xa) ∨ (i = .int .i64 2 ∧ t = n + m ∧ xs = xa ++ bs))) (fun _ _ i _ => 2 - (intOf i).toNat)
  case atStart => exact ⟨0, [], World.ownsRow_nil _ _ _ _, Below.refl _ _, .inl ⟨rfl, rfl, rfl⟩⟩
  case round =>
    obtain ⟨t, xs, ho, hbe, hk⟩ := hrel
    have hqr := HQ.out.below hbe hql
    have hsA := HA.out.below hbe
    have hsB := HB.out.below hbe
    have c0 := hqr.cell 0
    have c1 := hqr.cell 1
    simp only [List.getElem?_toArray, List.getElem?_cons_zero, List.getElem?_cons_succ] at c0 c1
    have hsz := hbe.size
    have HO := hid ho
    have HBE := hid hbe
    have HSA := hid hsA
    have HSB := hid hsB
    clear ho hbe hsA hsB hqr
    rcases hk with ⟨rfl, rfl, rfl⟩ | ⟨rfl, rfl, rfl⟩ | ⟨rfl, rfl, rfl⟩
    · go_wp2_with (at_builtin; refine wpList_append_rd rfl (.tmp 12) (.tmp 13) 22 rfl w.heap.size 5 i0 (.int .u8 0) 1 1 Tryz.underlying22 hi hz0 hz1 hz2 rfl (by decide) _ _ _ rfl HO.out A n c (xa.map bv) rfl (by rw [List.length_map, HN.out, Nat.mul_one]) HSA.out.rd HSA.out.nil0 (bv_one _) (by simp only [maxLen]; omega) (by omega) hsz ?_; intro v1 w1 hown1 hgrow1; have HO1 := hid hown1; have HB1 := hid (bw_g HBE.out hgrow1 (fun k ek => (HO.out.lt k ek).1)); clear hown1 hgrow1)
      go_roundw
      case rel => exact ⟨n, xa, by have := HO1.out; simpa using this, HB1.out, .inr (.inl ⟨rfl, rfl, rfl⟩)⟩
      case measure => simp [intOf]
    · go_wp2_with (at_builtin; refine wpList_append_rd rfl (.tmp 12) (.tmp 13) 22 rfl w.heap.size 5 i0 (.int .u8 0) 1 1 Tryz.underlying22 hi hz0 hz1 hz2 rfl (by decide) _ _ _ rfl HO.out B m d (bs.map bv) rfl (by rw [List.length_map, HM.out, Nat.mul_one]) HSB.out.rd HSB.out.nil0 (bv_one _) (by simp only [maxLen]; omega) (by omega) hsz ?_; intro v1 w1 hown1 hgrow1; have HO1 := hid hown1; have HB1 := hid (bw_g HBE.out hgrow1 (fun k ek => (HO.out.lt k ek).1)); clear hown1 hgrow1)
      go_roundw
      case rel => exact ⟨_, _, by have := HO1.out; rw [← List.map_append] at this; exact this, HB1.out, .inr (.inr ⟨rfl, rfl, rfl⟩)⟩
      case measure => simp [intOf]
    · go_wp2_with fail
      go_ret
      exact ⟨_, rfl, HO.out, HBE.out⟩
set_option maxRecDepth 100000 in
set_option maxHeartbeats 2000000 in
theorem fput_any (t : UInt8) (bs : List UInt8) (n : Nat) (A : Option Addr) (c : Nat) (w : World) (hn : bs.length = n) (hl : n ≤ 8192) (hS : Sl w A c (bs.map bv)) :
    Calls Tryz.prog 25 #[.agg #[.int .u8 (t.toNat : Int), .slice A n c]] w fun e w' => ∃ v, e = .returned (.tuple #[v, .int .i64 0]) ∧ w'.ownsRow w.heap.size 5 1 v (n + 9) ((Fr.put t bs).map bv) ∧ Below w.heap.size w w' := by
  have ht := t.toNat_lt
  have hin : Fr.inner t bs = [t, b8 (n % 256), b8 (n / 256)] ++ bs := by unfold Fr.inner; rw [hn]; rfl
  have hput : Fr.put t bs = [197, 154] ++ C.sealB (Fr.inner t bs) := rfl
  have hil := Fr.inner_len t bs
  rw [hn] at hil
  have hsl := C.sealB_len (Fr.inner t bs)
  rw [hil] at hsl
  have hj1 := fun W B q hB hq => fjoin_any [t, b8 (n % 256), b8 (n / 256)] bs 3 n (some ⟨B, 0, none⟩) A 3 c q W rfl hn (by omega) hB hq
  have hj2 := fun W B D d q hB hq => fjoin_any [197, 154] (C.sealB (Fr.inner t bs)) 2 (n + 7) (some ⟨B, 0, none⟩) D 2 d q W rfl (by omega) (by omega) hB hq
  have hseal := fun W D d => cseal_sl (Fr.inner t bs) (n + 3) (n + 7) D d W hil (by omega) (by omega)
  rw [← hin] at hj1
  rw [← hput] at hj2
  have hlit : #[Value.int .u8 (t.toNat : Int), .int .u8 ((n : Int) % 256), .int .u8 ((n : Int) / 256)].toList = [t, b8 (n % 256), b8 (n / 256)].map bv := by
    simp only [List.map_cons, List.map_nil]
    rw [bv_b8 _ (by omega), bv_b8 _ (by omega)]
    rfl
  generalize C.sealB (Fr.inner t bs) = sb at *
  generalize Fr.inner t bs = ib at *
  generalize Fr.put t bs = pb at *
  generalize t.toNat = tn at *
  have HJ1 := hid hj1
  have HJ2 := hid hj2
  have HSE := hid hseal
  have HS := hid hS
  have HL := hid hlit
  clear hj1 hj2 hseal hS hin hput hil hsl hn hlit
  go_enter Tryz.func25, Tryz.ntmps25
  go_wp2_with fail
  have k1 := (lit_sl (w.alloc (.cells #[.int .u8 (tn : Int), .slice A n c] 42)) 5 [t, b8 (n % 256), b8 (n / 256)] #[.int .u8 (tn : Int), .int .u8 ((n : Int) % 256), .int .u8 ((n : Int) / 256)] 3 rfl (by omega) HL.out)
  have k2 := Blk.new ((w.alloc (.cells #[.int .u8 (tn : Int), .slice A n c] 42)).alloc (.cells #[.int .u8 (tn : Int), .int .u8 ((n : Int) % 256), .int .u8 ((n : Int) / 256)] 5)) 22 #[.slice (some ⟨w.heap.size + 1, 0, none⟩) 3 3, .slice A n c]
  rw [World.size_alloc] at k1 k2
  rw [World.size_alloc] at k2
  have b1 := bw_a (bw_a (bw_a (Below.refl _ w) (.cells #[.int .u8 (tn : Int), .slice A n c] 42)) (.cells #[.int .u8 (tn : Int), .int .u8 ((n : Int) % 256), .int .u8 ((n : Int) / 256)] 5)) (.cells #[.slice (some ⟨w.heap.size + 1, 0, none⟩) 3 3, .slice A n c] 22)
  refine (HJ1.out _ _ _ (k1.below (bw_a (Below.refl _ _) _)) (HS.out.below b1) k2).mono ?_
  rintro e w1 ⟨v1, rfl, ho1, hb1⟩
  obtain ⟨A1, c1, rfl, -, hs1⟩ := Sl.of_own ho1
  have B1 := bw_t b1 hb1
  have e33 : 3 + n = n + 3 := by omega
  rw [e33]
  clear k1 k2 b1 ho1 hb1 e33
  go_wp2_with fail
  refine (HSE.out _ _ _ (hs1.below (bw_a (Below.refl _ _) _))).mono ?_
  rintro e w2 ⟨A2, c2, rfl, hs2, hb2⟩
  have k1 := (lit_sl w1 5 [197, 154] #[.int .u8 197, .int .u8 154] 2 rfl (by omega) rfl).below hb2
  have hl1 : w1.heap.size < w2.heap.size := by have := hb2.size; rw [World.size_alloc] at this; omega
  have B2 := bw_t (bw_a B1 _) hb2
  clear hs1 B1 hb2
  go_wp2_with fail
  refine (HJ2.out _ _ _ _ _ (k1.below (bw_a (Below.refl _ _) _)) (hs2.below (bw_a (Below.refl _ _) _)) (Blk.new _ _ _)).mono ?_
  rintro e w3 ⟨v3, rfl, ho3, hb3⟩
  have e9 : 2 + (n + 7) = n + 9 := by omega
  rw [e9] at ho3
  have hsz := B2.size
  have ho4 := own_mono ho3 (show w.heap.size ≤ _ from by rw [World.size_alloc]; omega)
  have B3 := bw_t (bw_a B2 _) hb3
  have HO := hid ho4
  clear k1 hs2 ho3 ho4 e9 hb3 B2
  go_wp2_with fail
  go_ret2
  exact ⟨_, rfl, HO.out, B3⟩
end Go.Proofs.YtealjpolomhdeaaGreat
set_option linter.unusedVariables false
namespace Go.Proofs.YtealjpolomhdeaaGreat
open Go.RowKit
def Fr.mS (bs : List UInt8) : Nat := if Fr.hE bs = 0 then Fr.ln bs + 9 else 0
theorem Fr.n8 {x : UInt8} {k : Nat} (hk : k < 256) : x = UInt8.ofNat k ↔ x.toNat = k := by
  constructor
  · rintro rfl; rw [UInt8.toNat_ofNat']; omega
  · intro h; rw [← h]; exact UInt8.ofNat_toNat.symm
theorem Fr.hE_form {bs : List UInt8} (h : (0 < bs.length ∧ (bs.getD 0 0).toNat ≠ 197) ∨ (1 < bs.length ∧ (bs.getD 1 0).toNat ≠ 154)) : Fr.hE bs = 3 := by
  unfold Fr.hE
  by_cases h0 : 0 < bs.length ∧ bs.getD 0 0 ≠ 197
  · rw [if_pos h0]
  · rw [if_neg h0, if_pos]
    rcases h with ⟨h1, h2⟩ | ⟨h1, h2⟩
    · exact absurd ⟨h1, fun e => h2 (by rw [e]; rfl)⟩ h0
    · exact ⟨h1, fun e => h2 (by rw [e]; rfl)⟩
theorem Fr.hE_five {bs : List UInt8} (h0 : 0 < bs.length → (bs.getD 0 0).toNat = 197) (h1 : 1 < bs.length → (bs.getD 1 0).toNat = 154) : Fr.hE bs = if bs.length < 5 then 4 else if 8192 < Fr.ln bs then 2 else 0 := by
  unfold Fr.hE
  rw [if_neg, if_neg]
  · rintro ⟨a, b⟩; exact b ((Fr.n8 (k := 154) (by omega)).2 (h1 a))
  · rintro ⟨a, b⟩; exact b ((Fr.n8 (k := 197) (by omega)).2 (h0 a))
set_option maxRecDepth 100000 in
set_option maxHeartbeats 4000000 in
theorem fmeasure_any (bs : List UInt8) (n : Nat) (A : Option Addr) (c : Nat) (w : World) (hn : bs.length = n) (hl : n ≤ 9223372036854775807) (hR : BRd w A bs) :
    Calls Tryz.prog 43 #[.slice A n c] w fun e w' => e = .returned (.tuple #[.int .i64 (Fr.mS bs : Nat), .int .i64 (Fr.hE bs : Nat)]) ∧ w = w' := by
  have HN := hid hn
  have HR := hid hR
  clear hn hR
  go_enter Tryz.func43, Tryz.ntmps43
  go_wp2
  go_step3
  go_wp2
  go_step3
  go_wp2
  go_loop [4, 5, 6, 7, 10, 15, 28] (fun s e _ _ i _ _ => ∃ (k : Nat), k ≤ n ∧ i = .int .i64 (k : Int) ∧ k ≤ 4 ∧ s = .int .i64 0 ∧ e = .int .i64 4 ∧ (0 < k → (bs.getD 0 0).toNat = 197) ∧ (1 < k → (bs.getD 1 0).toNat = 154)) (fun _ _ _ _ i _ _ => n - (intOf i).toNat)
  case atStart => exact ⟨0, by omega, rfl, by omega, rfl, rfl, by omega, by omega⟩
  case round =>
    obtain ⟨k, hk, rfl, hk4, rfl, rfl, m0, m1⟩ := hrel
    by_cases hlt : k < n
    · have hkl : k < bs.length := by have := HN.out; omega
      obtain ⟨b, off, rfl, hbl, hc⟩ := HR.out.at_ hkl
      have hgd : bs.getD k 0 = bs[k] := by simp [List.getD, hkl]
      have hx := bs[k].toNat_lt
      have hgd2 : (bs.getD k 0).toNat = bs[k].toNat := by rw [hgd]
      clear hgd
      rcases (by omega : k = 0 ∨ k = 1 ∨ (2 ≤ k ∧ k ≤ 3) ∨ k = 4) with h | h | h | h
      · have e0 : ((k : Int) == 0) = true := by simp [h]
        have e1 : ((k : Int) == 1) = false := by simp [h]
        have e4 : ((k : Int) == 4) = false := by simp [h]
        have HK := hid h
        have M0 := hid m0
        clear m0 m1 h
        by_cases hx0 : bs[k].toNat = 197
        · have hv : (((bs[k].toNat : Nat) : Int) != 197) = false := by simp [hx0]
          have HX := hid (hgd2.trans hx0)
          clear hx0 hgd2
          generalize bs[k].toNat = x at *
          go_wp2
          go_round
          case rel =>
            have hx := HX.out
            rw [HK.out] at hx
            exact ⟨k + 1, by omega, by go_num, by have := HK.out; omega, rfl, rfl, fun _ => hx, fun h => by have := HK.out; omega⟩
          case measure => simp [intOf]; omega
        · have hv : (((bs[k].toNat : Nat) : Int) != 197) = true := by simp; omega
          have hE := Fr.hE_form (bs := bs) (.inl ⟨by have := HK.out; omega, by rw [← HK.out, hgd2]; exact hx0⟩)
          have hS : Fr.mS bs = 0 := by unfold Fr.mS; rw [if_neg (by omega)]
          have HE := hid hE
          have HS := hid hS
          clear hx0 hgd2 hE hS
          generalize bs[k].toNat = x at *
          go_wp2
          go_ret2
          rw [HE.out, HS.out]
          exact ⟨rfl, rfl⟩
      · have e0 : ((k : Int) == 0) = false := by simp [h]
        have e1 : ((k : Int) == 1) = true := by simp [h]
        have e4 : ((k : Int) == 4) = false := by simp [h]
        have HK := hid h
        have M0 := hid m0
        clear m0 m1 h
        by_cases hx0 : bs[k].toNat = 154
        · have hv : (((bs[k].toNat : Nat) : Int) != 154) = false := by simp [hx0]
          have HX := hid (hgd2.trans hx0)
          clear hx0 hgd2
          generalize bs[k].toNat = x at *
          go_wp2
          go_round
          case rel =>
            have hx := HX.out
            rw [HK.out] at hx
            exact ⟨k + 1, by omega, by go_num, by have := HK.out; omega, rfl, rfl, fun _ => M0.out (by have := HK.out; omega), fun _ => hx⟩
          case measure => simp [intOf]; omega
        · have hv : (((bs[k].toNat : Nat) : Int) != 154) = true := by simp; omega
          have hE := Fr.hE_form (bs := bs) (.inr ⟨by have := HK.out; omega, by rw [← HK.out, hgd2]; exact hx0⟩)
          have hS : Fr.mS bs = 0 := by unfold Fr.mS; rw [if_neg (by omega)]
          have HE := hid hE
          have HS := hid hS
          clear hx0 hgd2 hE hS
          generalize bs[k].toNat = x at *
          go_wp2
          go_ret2
          rw [HE.out, HS.out]
          exact ⟨rfl, rfl⟩
      · have e0 : ((k : Int) == 0) = false := by simp; omega
        have e1 : ((k : Int) == 1) = false := by simp; omega
        have e4 : ((k : Int) == 4) = false := by simp; omega
        have HK := hid h
        have M0 := hid m0
        have M1 := hid m1
        clear m0 m1 h hgd2
        generalize bs[k].toNat = x at *
        go_wp2
        go_round
        case rel => exact ⟨k + 1, by omega, by go_num, by have := HK.out; omega, rfl, rfl, fun _ => M0.out (by have := HK.out; omega), fun _ => M1.out (by have := HK.out; omega)⟩
        case measure => simp [intOf]; omega
      · have h3l : 3 < bs.length := by omega
        obtain ⟨b', off', hbb, -, hc3⟩ := HR.out.at_ h3l
        injection hbb with hbb
        injection hbb with hb1 hb2
        subst hb1
        subst hb2
        have e0 : ((k : Int) == 0) = false := by simp [h]
        have e1 : ((k : Int) == 1) = false := by simp [h]
        have e4 : ((k : Int) == 4) = true := by simp [h]
        have ek : (k : Int) - 1 = ((3 : Nat) : Int) := by omega
        have hln : Fr.ln bs = bs[3].toNat + 256 * bs[k].toNat := by
          have h3 : bs.getD 3 0 = bs[3] := by simp [List.getD, h3l]
          unfold Fr.ln
          rw [h3, ← hgd2, h]
        have hx3 := bs[3].toNat_lt
        have hor := i64_or_256 bs[3].toNat bs[k].toNat (by omega) (by omega)
        rw [← hln] at hor
        have hlb : Fr.ln bs ≤ 65535 := by omega
        have HK := hid h
        have M0 := hid m0
        have M1 := hid m1
        have HO := hid hor
        clear m0 m1 h hgd2 hln
        generalize bs[k].toNat = x at *
        generalize bs[3].toNat = y at *
        have h5 := Fr.hE_five (bs := bs) (fun _ => M0.out (by have := HK.out; omega)) (fun _ => M1.out (by have := HK.out; omega))
        rw [if_neg (by omega)] at h5
        have hS : Fr.mS bs = if Fr.hE bs = 0 then Fr.ln bs + 9 else 0 := rfl
        have hsz := fsize_any (Fr.ln bs : Nat) w (by omega) (by omega)
        generalize Fr.ln bs = L at *
        by_cases h8 : 8192 < L
        · rw [if_pos h8] at h5
          rw [if_neg (by omega)] at hS
          have HE := hid h5
          have HS := hid hS
          clear h5 hS
          have hz : Fr.size (L : Int) = 0 := by unfold Fr.size; rw [if_pos (.inr (by omega))]
          rw [hz] at hsz
          have HSZ := hid hsz
          clear hsz hz
          go_wp2_with (go_at_call 27; refine HSZ.out.mono ?_; rintro e w' ⟨rfl, rfl⟩)
          simp only [Exit.noGoto]
          go_ret2
          rw [HE.out, HS.out]
          exact ⟨rfl, rfl⟩
        · rw [if_neg h8] at h5
          rw [if_pos h5] at hS
          have HE := hid h5
          have HS := hid hS
          clear h5 hS
          have hz : Fr.size (L : Int) = (L : Int) + 9 := by unfold Fr.size; rw [if_neg (by omega)]
          rw [hz] at hsz
          have hb9 : ((L : Int) + 9 == 0) = false := by simp; omega
          have HSZ := hid hsz
          clear hsz hz
          go_wp2_with (go_at_call 27; refine HSZ.out.mono ?_; rintro e w' ⟨rfl, rfl⟩)
          simp only [Exit.noGoto]
          go_ret2
          rw [HE.out, HS.out]
          exact ⟨by simp, rfl⟩
    · obtain rfl : k = n := by omega
      have h5 := Fr.hE_five (bs := bs) (by rw [HN.out]; exact m0) (by rw [HN.out]; exact m1)
      rw [if_pos (by have := HN.out; omega)] at h5
      have hS : Fr.mS bs = 0 := by unfold Fr.mS; rw [if_neg (by omega)]
      have HE := hid h5
      have HS := hid hS
      clear h5 hS m0 m1
      go_wp2
      go_ret2
      rw [HE.out, HS.out]
      exact ⟨rfl, rfl⟩
end Go.Proofs.YtealjpolomhdeaaGreat
set_option linter.unusedVariables false
namespace Go.Proofs.YtealjpolomhdeaaGreat
open Go.RowKit
/-- A row of bytes in memory that was made behind B. -/
structure Pay (B : Nat) (w : World) (A : Option Addr) (c : Nat) (xs : List UInt8) : Prop where
  sl : Sl w A c (xs.map bv)
  own : A = none ∨ ∃ b o cs k, A = some ⟨b, o, none⟩ ∧ B ≤ b ∧ w.heap[b]? = some (.cells cs 5 k)
theorem Pay.chg {B : Nat} {w w' : World} {A : Option Addr} {c : Nat} {xs : List UInt8} {S : Nat → Prop} (h : Pay B w A c xs) (hc : Chg S w w') (hS : ∀ b cs k, B ≤ b → w.heap[b]? = some (.cells cs 5 k) → ¬ S b) : Pay B w' A c xs := by
  rcases h.own with rfl | ⟨b, o, cs, k, rfl, hb, hk⟩
  · exact ⟨hc.sl h.sl (n := xs.length) (fun _ b' o' e => by cases e) (by simp), .inl rfl⟩
  · have hn := hS b cs k hb hk
    have hlt := (Array.getElem?_eq_some_iff.1 hk).1
    exact ⟨hc.sl h.sl (n := xs.length) (fun _ b' o' e => by injection e with e; injection e with e1 e2; subst e1; exact hn) (by simp), .inr ⟨b, o, cs, k, rfl, hb, (hc.block b hlt hn).trans hk⟩⟩
theorem Pay.below {B : Nat} {w w' : World} {A : Option Addr} {c : Nat} {xs : List UInt8} (h : Pay B w A c xs) (hb : Below w.heap.size w w') : Pay B w' A c xs := by
  refine h.chg (Chg.of_new hb) (S := fun _ => False) (fun _ _ _ _ _ h => h)
theorem Pay.mono {B B' : Nat} {w : World} {A : Option Addr} {c : Nat} {xs : List UInt8} (h : Pay B w A c xs) (hb : B' ≤ B) : Pay B' w A c xs :=
  ⟨h.sl, h.own.imp_right fun ⟨b, o, cs, k, e, h1, h2⟩ => ⟨b, o, cs, k, e, Nat.le_trans hb h1, h2⟩⟩
theorem Pay.of_own {B n : Nat} {w : World} {v : Value} {xs : List UInt8} (h : w.ownsRow B 5 1 v n (xs.map bv)) : ∃ A c, v = .slice A n c ∧ Pay B w A c xs := by
  obtain ⟨A, c, rfl, hnn, hs⟩ := Sl.of_own h
  refine ⟨A, c, rfl, hs, ?_⟩
  rcases h.2 with ⟨e, _⟩ | ⟨g, cap, cur, e, hb, hg, _⟩
  · injection e with e1 e2 e3
    exact .inl e1
  · injection e with e1 e2 e3
    exact .inr ⟨g, 0, cur, _, e1, hb, hg⟩
theorem conv_bs12 {P : Program} {w : World} {src dst e : TypeId} {A : Option Addr} {n c : Nat} {vs : List UInt8} (hsl : Sl w A c (vs.map bv)) (hn : vs.length = n) (hs : P.underlying src = some (.slice e)) (he : P.underlying e = some (.int .u8)) (hd : P.underlying dst = some .string) :
    (convert src dst (.slice A n c)).run P w = .ok (.string ⟨vs.toArray⟩) w := by
  subst hn
  cases A with
  | none =>
    obtain hnil := hsl.rd.none_nil
    obtain rfl : vs = [] := by simpa using hnil
    obtain rfl := hsl.nil0 rfl
    exact run_convert_bytes_nil w src e hs he 0 0 dst hd
  | some a =>
    exact run_convert_bytes_back _ src dst e _ _ vs hs he hd fun j hj => by
      have := hsl.rd.addr j (bv vs[j]) (by simp [hj])
      simpa [bv] using this
/-- What reading comes to. -/
def RdR (w : World) (bs : List UInt8) (e : Ending) (w' : World) : Prop :=
  ((Fr.rE bs = 0 ∧ ∃ A c, e = .returned (.tuple #[.agg #[.int .u8 ((Fr.ty bs).toNat : Int), .slice A (Fr.ln bs) c], .int .i64 ((Fr.ln bs + 9 : Nat) : Int), .int .i64 0]) ∧ Pay w.heap.size w' A c (Fr.pl bs)) ∨
   (Fr.rE bs ≠ 0 ∧ e = .returned (.tuple #[.agg #[.int .u8 0, .slice none 0 0], .int .i64 0, .int .i64 (Fr.rE bs : Nat)]))) ∧ Below w.heap.size w w'
set_option maxRecDepth 100000 in
set_option maxHeartbeats 4000000 in
theorem fread_any (bs : List UInt8) (n : Nat) (A : Option Addr) (c : Nat) (w : World) (hn : bs.length = n) (hS : Sl w A c (bs.map bv)) :
    Calls Tryz.prog 26 #[.slice A n c] w (RdR w bs) := by
  have hcap := hS.cap
  have hsm := hS.small
  rw [List.length_map, hn] at hcap
  have hme := fun W (hW : Below w.heap.size w W) => fmeasure_any bs n A c W hn (by omega) (hS.below hW).rd
  have hR : RdR w bs = fun e w' => ((Fr.rE bs = 0 ∧ ∃ A c, e = .returned (.tuple #[.agg #[.int .u8 ((Fr.ty bs).toNat : Int), .slice A (Fr.ln bs) c], .int .i64 ((Fr.ln bs + 9 : Nat) : Int), .int .i64 0]) ∧ Pay w.heap.size w' A c (Fr.pl bs)) ∨
   (Fr.rE bs ≠ 0 ∧ e = .returned (.tuple #[.agg #[.int .u8 0, .slice none 0 0], .int .i64 0, .int .i64 (Fr.rE bs : Nat)]))) ∧ Below w.heap.size w w' := rfl
  generalize RdR w bs = R at *
  by_cases h0 : Fr.hE bs = 0
  · have hmS : Fr.mS bs = Fr.ln bs + 9 := by unfold Fr.mS; rw [if_pos h0]
    rw [hmS, h0] at hme
    obtain ⟨t', a', b', r', -, hlnr, hle⟩ := Fr.hE0 h0
    have hL8 : Fr.ln bs ≤ 8192 := by omega
    clear hlnr hle r'
    by_cases hs : n < Fr.ln bs + 9
    · have hrE : Fr.rE bs = 4 := by unfold Fr.rE; rw [h0, if_neg (by simp), if_pos (by omega)]
      rw [hrE] at hR
      generalize Fr.ln bs = L at *
      have HR := hid hR
      have HME := hid hme
      have hbb : decide ((n : Int) < ((L + 9 : Nat) : Int)) = true := by simp; omega
      clear hR hme hS hn hmS hrE
      go_enter Tryz.func26, Tryz.ntmps26
      go_wp2_with fail
      refine (HME.out _ (bw_a (Below.refl _ _) _)).mono ?_
      rintro e w1 ⟨rfl, rfl⟩
      go_wp2_with fail
      refine bodyPost_ret (v := .tuple #[.agg #[.int .u8 0, .slice none 0 0], .int .i64 0, .int .i64 4]) (by simp [results, Tryz.results26, go_sem]) rfl ?_
      rw [HR.out]
      exact ⟨.inr ⟨by omega, rfl⟩, by first | exact bw_a (Below.refl _ _) _ | exact (bw_a (Below.refl _ _) _).setCell (Nat.le_refl _) _⟩
    · have hopen := Fr.open_ h0 (by omega)
      obtain ⟨hx1, hx2, hx3⟩ := hopen
      have hsz : Fr.ln bs + 9 ≤ c := by omega
      obtain ⟨b, off, rfl, hbl, -⟩ := BRd.at_ (k := 0) hS.rd (by omega)
      have hcut : Sl w (some ⟨b, off + 2, none⟩) (c - 2) (((bs.take (Fr.ln bs + 9)).drop 2).map bv) := by
        have h1 : Sl w (some ⟨b, off, none⟩) c ((bs.take (Fr.ln bs + 9)).map bv) := ⟨by rw [List.length_map, List.length_take]; omega, hsm, hS.nil0, by have := hS.rd.take (Fr.ln bs + 9); rwa [← List.map_take] at this⟩
        have h2 := h1.cut 2 (by rw [List.length_take]; omega)
        have h3 : cutA (some ⟨b, off, none⟩) c 2 = some ⟨b, off + 2, none⟩ := by unfold cutA; rw [if_neg (by omega)]; simp [addr_add]
        rwa [h3] at h2
      have hop := fun W (hW : Below w.heap.size w W) => copen_any ((bs.take (Fr.ln bs + 9)).drop 2) (Fr.ln bs + 7) (some ⟨b, off + 2, none⟩) (c - 2) W hx1 (by omega) (hcut.below hW)
      rw [hx2, show Fr.ln bs + 7 - 4 = Fr.ln bs + 3 from by omega, hx3] at hop
      have hple : (Fr.pl bs).length = Fr.ln bs := by
        unfold Fr.pl; rw [List.length_take, List.length_drop]; omega
      have hgd3 : bs.getD 3 0 = bs.getD 3 0 := rfl
      generalize bs.getD 3 0 = x3 at *
      generalize bs.getD 4 0 = x4 at *
      by_cases hz : Fr.rE bs = 0
      · simp only [hz, true_and, ne_eq, not_true_eq_false, false_and, or_false] at hop hR
        generalize Fr.ln bs = L at *
        generalize Fr.pl bs = p at *
        generalize Fr.ty bs = ty at *
        generalize ((bs.take (L + 9)).drop 2) = X at *
        have HR := hid hR
        have HME := hid hme
        have HOP := hid hop
        have HP := hid hple
        have hbb : decide ((n : Int) < ((L + 9 : Nat) : Int)) = false := by simp; omega
        clear hR hme hS hn hmS hop hx1 hx2 hx3 hz hple hcut hgd3 h0
        go_enter Tryz.func26, Tryz.ntmps26
        go_wp2_with fail
        refine (HME.out _ (bw_a (Below.refl _ _) _)).mono ?_
        rintro e w1 ⟨rfl, rfl⟩
        go_wp2_with fail
        refine (HOP.out _ (bw_a (Below.refl _ _) _)).mono ?_
        rintro e w2 ⟨⟨v, rfl, ho⟩, hb2⟩
        obtain ⟨g, c2, cur, rfl, hgB, hc2, hcm, hln3, hrow⟩ := RowB.of_own ho (by omega)
        rw [World.size_alloc] at hgB
        have hres := (Blk.new w 42 #[.int .u8 0, .slice none 0 0]).below hb2 (by simp)
        have hB2 := bw_t (bw_a (Below.refl _ w) _) hb2
        have hsl3 := hrow.sl (c := c2) (by omega) hcm
        have hg0 := hrow.blk.cell 0
        have h00 := hrow.get 0 (by simp)
        simp only [List.getElem_cons_zero] at h00
        rw [h00] at hg0
        simp only [bv] at hg0
        have hgl := hrow.blk.lt
        have hrc0 := hres.cell 0
        have hrc1 := hres.cell 1
        simp only [List.getElem?_toArray, List.getElem?_cons_zero, List.getElem?_cons_succ] at hrc0 hrc1
        have hrf := fun i => hres.frozen i
        have hmx : Tryz.prog.follows .mixedOrders = true := by kernel_rfl
        have hcut3 := hsl3.cut 3 (by simp)
        simp only [List.drop_succ_cons, List.drop_zero] at hcut3
        have hgne : ¬ g = w.heap.size := by omega
        have HROW := hid hrow
        have HRES := hid hres
        have HB := hid hB2
        have HC3 := hid hcut3
        clear ho hb2 hrow hres hB2 hsl3 hcut3 h00
        go_wp2_with fail
        by_cases hc3 : c2 = 3
        · subst hc3
          obtain rfl : L = 0 := by omega
          have hpay : Pay w.heap.size w2 (some ⟨g, 0, none⟩) 0 p := ⟨by have := HC3.out; simp only [cutA, if_true, Nat.sub_self] at this; exact this, .inr ⟨g, 0, _, _, rfl, by omega, HROW.out.blk⟩⟩
          have hchg := ((((Chg.refl (fun q => q = w.heap.size) w2).set_ (.inl rfl) 0 (Value.int .u8 (ty.toNat : Int))).set_ (.inl rfl) 1 (Value.slice (some ⟨g, 0, none⟩) 0 0))).drew
          have hpay2 := hpay.chg hchg (fun b' cs k h1 h2 e => by
            subst e
            rw [show w2.heap[w.heap.size]? = _ from HRES.out] at h2
            injection h2 with h2
            injection h2 with _ h2
            exact absurd h2 (by decide))
          have HPAY := hid hpay2
          have HBE := hid (HB.out.trans (hchg.below (B := w.heap.size) (fun k hk => by omega) HB.out.size))
          clear hpay hpay2 hchg
          go_region
          go_wp2_with fail
          refine bodyPost_ret (v := .tuple #[.agg #[.int .u8 (ty.toNat : Int), .slice (some ⟨g, 0, none⟩) 0 0], .int .i64 ((0 + 9 : Nat) : Int), .int .i64 0]) (by simp [results, Tryz.results26, go_sem, hrc0, hrc1]) rfl ?_
          rw [HR.out]
          exact ⟨⟨_, _, rfl, HPAY.out⟩, HBE.out⟩
        · have hpay : Pay w.heap.size w2 (some ⟨g, 3, none⟩) (c2 - 3) p := ⟨by have := HC3.out; unfold cutA at this; rw [if_neg hc3] at this; simpa [addr_add] using this, .inr ⟨g, 3, _, _, rfl, by omega, HROW.out.blk⟩⟩
          have hchg := ((((Chg.refl (fun q => q = w.heap.size) w2).set_ (.inl rfl) 0 (Value.int .u8 (ty.toNat : Int))).set_ (.inl rfl) 1 (Value.slice (some ⟨g, 3, none⟩) L (c2 - 3)))).drew
          have hpay2 := hpay.chg hchg (fun b' cs k h1 h2 e => by
            subst e
            rw [show w2.heap[w.heap.size]? = _ from HRES.out] at h2
            injection h2 with h2
            injection h2 with _ h2
            exact absurd h2 (by decide))
          have HPAY := hid hpay2
          have HBE := hid (HB.out.trans (hchg.below (B := w.heap.size) (fun k hk => by omega) HB.out.size))
          clear hpay hpay2 hchg
          go_region
          go_wp2_with fail
          refine bodyPost_ret (v := .tuple #[.agg #[.int .u8 (ty.toNat : Int), .slice (some ⟨g, 3, none⟩) L (c2 - 3)], .int .i64 ((L + 9 : Nat) : Int), .int .i64 0]) (by simp [results, Tryz.results26, go_sem, hrc0, hrc1]) rfl ?_
          rw [HR.out]
          exact ⟨⟨_, _, rfl, HPAY.out⟩, HBE.out⟩
      · have h12 : Fr.rE bs = 12 := by
          rcases Fr.rE_cases bs with h | h | h | h | h
          · unfold Fr.rE at h; rw [h0, if_neg (by simp), if_neg (by omega)] at h; split at h <;> simp at h
          · unfold Fr.rE at h; rw [h0, if_neg (by simp), if_neg (by omega)] at h; split at h <;> simp at h
          · unfold Fr.rE at h; rw [h0, if_neg (by simp), if_neg (by omega)] at h; split at h <;> simp at h
          · exact h
          · exact absurd h hz
        rw [h12] at hop hR
        simp only [show ¬ (12 : Nat) = 0 from by omega, false_and, false_or, ne_eq, not_false_eq_true, true_and] at hop hR
        generalize Fr.ln bs = L at *
        generalize ((bs.take (L + 9)).drop 2) = X at *
        have HR := hid hR
        have HME := hid hme
        have HOP := hid hop
        have hbb : decide ((n : Int) < ((L + 9 : Nat) : Int)) = false := by simp; omega
        clear hR hme hS hn hmS hop hx1 hx2 hx3 hz hple hcut hgd3 h0 h12
        go_enter Tryz.func26, Tryz.ntmps26
        go_wp2_with fail
        refine (HME.out _ (bw_a (Below.refl _ _) _)).mono ?_
        rintro e w1 ⟨rfl, rfl⟩
        go_wp2_with fail
        refine (HOP.out _ (bw_a (Below.refl _ _) _)).mono ?_
        rintro e w2 ⟨rfl, hb2⟩
        have hres := (Blk.new w 42 #[.int .u8 0, .slice none 0 0]).below hb2 (by simp)
        have HB := hid (bw_t (bw_a (Below.refl _ w) _) hb2)
        have hrc0 := hres.cell 0
        have hrc1 := hres.cell 1
        simp only [List.getElem?_toArray, List.getElem?_cons_zero, List.getElem?_cons_succ] at hrc0 hrc1
        have hrf := fun i => hres.frozen i
        have hlt := hres.lt
        clear hres hb2
        go_wp2_with fail
        refine bodyPost_ret (v := .tuple #[.agg #[.int .u8 0, .slice none 0 0], .int .i64 0, .int .i64 12]) (by simp [results, Tryz.results26, go_sem, hrc0, hrc1]) rfl ?_
        rw [HR.out]
        exact ⟨rfl, by first | exact HB.out | exact (HB.out.setCell (Nat.le_refl _) _) | exact ((HB.out.setCell (Nat.le_refl _) _).setCell (Nat.le_refl _) _)⟩
  · have hrE : Fr.rE bs = Fr.hE bs := by unfold Fr.rE; rw [if_pos h0]
    have hmS : Fr.mS bs = 0 := by unfold Fr.mS; rw [if_neg h0]
    rw [hmS] at hme
    rw [hrE] at hR
    obtain ⟨E, hE⟩ : ∃ E, Fr.hE bs = E := ⟨_, rfl⟩
    rw [hE] at hme h0 hR
    have HR := hid hR
    have HME := hid hme
    have hbb : ((E : Int) != 0) = true := by simp; omega
    clear hR hme hS hn hmS hrE hE
    go_enter Tryz.func26, Tryz.ntmps26
    go_wp2_with fail
    refine (HME.out _ (bw_a (Below.refl _ _) _)).mono ?_
    rintro e w1 ⟨rfl, rfl⟩
    go_wp2_with fail
    refine bodyPost_ret (v := .tuple #[.agg #[.int .u8 0, .slice none 0 0], .int .i64 0, .int .i64 (E : Int)]) (by simp [results, Tryz.results26, go_sem]) rfl ?_
    rw [HR.out]
    exact ⟨.inr ⟨h0, rfl⟩, by first | exact bw_a (Below.refl _ _) _ | exact (bw_a (Below.refl _ _) _).setCell (Nat.le_refl _) _⟩
set_option maxHeartbeats 1000000 in
theorem bequal_any (xs ys : List UInt8) (n m : Nat) (A B : Option Addr) (c d : Nat) (w : World) (hn : xs.length = n) (hm : ys.length = m) (hA : Sl w A c (xs.map bv)) (hB : Sl w B d (ys.map bv)) :
    Calls Tryz.prog 33 #[.slice A n c, .slice B m d] w fun e w' => e = .returned (.bool (decide (xs = ys))) ∧ w = w' := by
  have hcA := conv_bs12 (P := Tryz.prog) (src := 22) (dst := 9) hA hn Tryz.underlying22 Tryz.underlying5 Tryz.underlying9
  have hcB := conv_bs12 (P := Tryz.prog) (src := 22) (dst := 9) hB hm Tryz.underlying22 Tryz.underlying5 Tryz.underlying9
  clear hA hB hn hm
  go_enter Tryz.func33, Tryz.ntmps33
  go_wp2_with fail
  go_ret
  exact ⟨ret_bool (by rw [Bool.eq_iff_iff]; simp), rfl⟩
set_option maxRecDepth 100000 in
set_option maxHeartbeats 2000000 in
theorem fsame_any (a b : UInt8) (xs ys : List UInt8) (n m : Nat) (A B : Option Addr) (c d : Nat) (w : World) (hn : xs.length = n) (hm : ys.length = m) (hA : Sl w A c (xs.map bv)) (hB : Sl w B d (ys.map bv)) :
    Calls Tryz.prog 16 #[.agg #[.int .u8 (a.toNat : Int), .slice A n c], .agg #[.int .u8 (b.toNat : Int), .slice B m d]] w fun e w' => e = .returned (.bool (decide (a = b ∧ xs = ys))) ∧ Below w.heap.size w w' := by
  have heq := fun W (hW : Below w.heap.size w W) => bequal_any xs ys n m A B c d W hn hm (hA.below hW) (hB.below hW)
  have hab : (a = b) ↔ ((a.toNat : Int) = (b.toNat : Int)) := by rw [← UInt8.toNat_inj]; omega
  have hD : decide (a = b ∧ xs = ys) = (decide ((a.toNat : Int) = (b.toNat : Int)) && decide (xs = ys)) := by
    rw [Bool.eq_iff_iff]; simp only [decide_eq_true_eq, Bool.and_eq_true, hab]
  rw [hD]
  generalize decide (xs = ys) = z at *
  have HEQ := hid heq
  clear heq hab hD hn hm hA hB
  generalize (a.toNat : Int) = x at *
  generalize (b.toNat : Int) = y at *
  have hb2 := bw_a (bw_a (Below.refl _ w) (.cells #[.int .u8 x, .slice A n c] 42)) (.cells #[.int .u8 y, .slice B m d] 42)
  by_cases he : x = y
  · subst he
    go_enter Tryz.func16, Tryz.ntmps16
    go_wp2_with (go_at_call 33; refine (HEQ.out _ hb2).mono ?_; rintro e w' ⟨rfl, rfl⟩)
    go_ret
    exact ⟨by simp, hb2⟩
  · have hb : (x == y) = false := by simpa using he
    have hb' : decide (x = y) = false := by simpa using he
    rw [hb']
    clear he hb'
    go_enter Tryz.func16, Tryz.ntmps16
    go_wp2_with (go_at_call 33; refine (HEQ.out _ hb2).mono ?_; rintro e w' ⟨rfl, rfl⟩)
    go_ret
    exact ⟨by simp, hb2⟩
end Go.Proofs.YtealjpolomhdeaaGreat
set_option linter.unusedVariables false
namespace Go.Proofs.YtealjpolomhdeaaGreat
open Go.RowKit
theorem Sl.of_own'' {w : World} {B n c : Nat} {A : Option Addr} {xs : List Value} (h : w.ownsRow B 5 1 (.slice A n c) n xs) : Sl w A c xs := by
  obtain ⟨A', c', he, -, hs⟩ := Sl.of_own h
  injection he with h1 h2 h3
  subst h1; subst h3
  exact hs
/-- Reading what was put. -/
theorem fread_ok (t : UInt8) (p m : List UInt8) (n k : Nat) (A : Option Addr) (c : Nat) (w : World) (hp : p.length = n) (hl : n ≤ 8192) (hk : n + 9 + m.length = k) (hS : Sl w A c ((Fr.put t p ++ m).map bv)) :
    Calls Tryz.prog 26 #[.slice A k c] w fun e w' => ∃ A' c', e = .returned (.tuple #[.agg #[.int .u8 (t.toNat : Int), .slice A' n c'], .int .i64 ((n + 9 : Nat) : Int), .int .i64 0]) ∧ Pay w.heap.size w' A' c' p ∧ Below w.heap.size w w' := by
  obtain ⟨h0, ht, hpl, hln⟩ := Fr.rE_put t p m (by omega)
  refine (fread_any (Fr.put t p ++ m) k A c w (by rw [List.length_append, Fr.put_len]; omega) hS).mono ?_
  rintro e w' ⟨(⟨-, A', c', rfl, hpay⟩ | ⟨hne, -⟩), hb⟩
  · rw [ht, hpl, hln, hp] at *
    exact ⟨A', c', rfl, hpay, hb⟩
  · exact absurd h0 hne
theorem fread_no (bs : List UInt8) (n k : Nat) (A : Option Addr) (c : Nat) (w : World) (hk : Fr.rE bs = k) (h0 : k ≠ 0) (hn : bs.length = n) (hS : Sl w A c (bs.map bv)) :
    Calls Tryz.prog 26 #[.slice A n c] w fun e w' => e = .returned (.tuple #[.agg #[.int .u8 0, .slice none 0 0], .int .i64 0, .int .i64 (k : Int)]) ∧ Below w.heap.size w w' := by
  refine (fread_any bs n A c w hn hS).mono ?_
  rintro e w' ⟨(⟨h, -⟩ | ⟨-, rfl⟩), hb⟩
  · exact absurd (hk.symm.trans h) h0
  · exact ⟨by rw [hk], hb⟩
theorem l13_e1 : Fr.rE [197, 155] = 3 := by decide +kernel
theorem l13_e2 : Fr.rE [197] = 4 := by decide +kernel
theorem l13_e3 : Fr.rE [197, 154, 0, 0, 255] = 2 := by decide +kernel
theorem RdR.ok {w w' : World} {bs : List UInt8} {e : Ending} (h : RdR w bs e w') (h0 : Fr.rE bs = 0) : ∃ A c, e = .returned (.tuple #[.agg #[.int .u8 ((Fr.ty bs).toNat : Int), .slice A (Fr.ln bs) c], .int .i64 ((Fr.ln bs + 9 : Nat) : Int), .int .i64 0]) ∧ Pay w.heap.size w' A c (Fr.pl bs) ∧ Below w.heap.size w w' := by
  rcases h with ⟨⟨-, A, c, h1, h2⟩ | ⟨h1, -⟩, h3⟩
  · exact ⟨A, c, h1, h2, h3⟩
  · exact absurd h0 h1
theorem RdR.no {w w' : World} {bs : List UInt8} {e : Ending} (h : RdR w bs e w') (h0 : Fr.rE bs ≠ 0) : e = .returned (.tuple #[.agg #[.int .u8 0, .slice none 0 0], .int .i64 0, .int .i64 (Fr.rE bs : Nat)]) ∧ Below w.heap.size w w' := by
  rcases h with ⟨⟨h1, -⟩ | ⟨-, h1⟩, h3⟩
  · exact absurd h1 h0
  · exact ⟨h1, h3⟩
theorem fsame_zero (w : World) : Calls Tryz.prog 16 #[.agg #[.int .u8 0, .slice none 0 0], .agg #[.int .u8 0, .slice none 0 0]] w fun e w' => e = .returned (.bool true) ∧ Below w.heap.size w w' := by
  have h := fsame_any 0 0 [] [] 0 0 none none 0 0 w rfl rfl (Sl.nil_ w) (Sl.nil_ w)
  exact h
section
open Go.Shelf
attribute [local go_sem] Oper.semAt_some
end
/-- Some blocks lie as they lay. -/
def KBg (z b : Nat) (W W' : World) : Prop := ∀ q, z ≤ q → q < b → W'.heap[q]? = W.heap[q]?
theorem KBg.of_chg {z b : Nat} {W W' : World} {S : Nat → Prop} (h : Chg S W W') (hz : b ≤ W.heap.size) (h0 : ∀ q, z ≤ q → q < b → ¬ S q) : KBg z b W W' := fun q h1 h2 => h.block q (by omega) (h0 q h1 h2)
theorem KBg.trans {z b : Nat} {W W' W'' : World} (h : KBg z b W W') (k : KBg z b W' W'') : KBg z b W W'' := fun q h1 h2 => (k q h1 h2).trans (h q h1 h2)
theorem KBg.refl (z b : Nat) (W : World) : KBg z b W W := fun _ _ _ => rfl
theorem KBg.size {z b : Nat} {W W' : World} (h : KBg z b W W') (hz : z < b) (hb : b ≤ W.heap.size) : b ≤ W'.heap.size := by
  have h1 := h (b - 1) (by omega) (by omega)
  have h2 : W'.heap[b - 1]? = some W.heap[b - 1] := by rw [h1]; exact Array.getElem?_eq_getElem (by omega)
  have := (Array.getElem?_eq_some_iff.1 h2).1
  omega
end Go.Proofs.YtealjpolomhdeaaGreat
set_option linter.unusedVariables false
namespace Go.Proofs.YtealjpolomhdeaaGreat
open Go.RowKit
/-- What Of comes to. -/
def FrOfR (w : World) (M : MV) (v : Int) (e : Ending) (w' : World) : Prop :=
  (((chkV M (ofL (M.k : Int) v)).1 ≠ 0 ∧ e = .returned (.tuple #[.agg #[.int .u8 0, .slice none 0 0], .agg #[.int .i64 (chkV M (ofL (M.k : Int) v)).1, .int .i64 (chkV M (ofL (M.k : Int) v)).2]])) ∨
   ((chkV M (ofL (M.k : Int) v)).1 = 0 ∧ ∃ A c, e = .returned (.tuple #[.agg #[.int .u8 (M.k : Int), .slice A (encB M (ofL (M.k : Int) v)).length c], .agg #[.int .i64 0, .int .i64 0]]) ∧ Sl w' A c ((encB M (ofL (M.k : Int) v)).map bv))) ∧ Below w.heap.size w w'
set_option maxRecDepth 100000 in
set_option maxHeartbeats 4000000 in
theorem fof_any (M : MV) (v : Int) (w : World) (hok : MvOk w M) (hsm : MvSm M) (hv1 : -9223372036854775808 ≤ v) (hv2 : v ≤ 9223372036854775807) :
    Calls Tryz.prog 14 #[mvV M, .int .i64 v] w (FrOfR w M v) := by
  have hb := fun W (hW : Below w.heap.size w W) => (ebytes_any M v W (hok.below hW) hsm hv1 hv2).mono (fun e w' h => bytesR_sl h)
  have hR : FrOfR w M v = fun e w' => (((chkV M (ofL (M.k : Int) v)).1 ≠ 0 ∧ e = .returned (.tuple #[.agg #[.int .u8 0, .slice none 0 0], .agg #[.int .i64 (chkV M (ofL (M.k : Int) v)).1, .int .i64 (chkV M (ofL (M.k : Int) v)).2]])) ∨
   ((chkV M (ofL (M.k : Int) v)).1 = 0 ∧ ∃ A c, e = .returned (.tuple #[.agg #[.int .u8 (M.k : Int), .slice A (encB M (ofL (M.k : Int) v)).length c], .agg #[.int .i64 0, .int .i64 0]]) ∧ Sl w' A c ((encB M (ofL (M.k : Int) v)).map bv))) ∧ Below w.heap.size w w' := rfl
  generalize FrOfR w M v = R at *
  generalize encB M (ofL (M.k : Int) v) = eb at *
  generalize (chkV M (ofL (M.k : Int) v)).1 = E1 at *
  generalize (chkV M (ofL (M.k : Int) v)).2 = E2 at *
  unfold mvV mvA at *
  generalize M.l.length = len at *
  generalize eb.map bv = ebv at *
  generalize eb.length = el at *
  have HB := hid hb
  have HR := hid hR
  clear hb hok hR
  obtain ⟨s, hs⟩ : ∃ s, w.heap.size = s := ⟨_, rfl⟩
  have hbb := bw_a (bw_a (bw_a (Below.refl _ w) (.cells #[.int .u8 (M.k : Int), .int .u64 (M.n0 : Int), .int .u64 (M.n1 : Int), .int .u64 (M.n2 : Int), .int .u64 (M.n3 : Int), .int .u64 (M.n4 : Int), .int .u64 (M.n5 : Int), .string M.s0, .string M.s1, .slice M.A len M.c] 29)) (.cells #[.int .u8 0, .slice none 0 0] 42)) (.cells #[.int .i64 0, .int .i64 0] 32)
  have hk0 := (((Blk.new w 29 #[.int .u8 (M.k : Int), .int .u64 (M.n0 : Int), .int .u64 (M.n1 : Int), .int .u64 (M.n2 : Int), .int .u64 (M.n3 : Int), .int .u64 (M.n4 : Int), .int .u64 (M.n5 : Int), .string M.s0, .string M.s1, .slice M.A len M.c]).alloc (.cells #[.int .u8 0, .slice none 0 0] 42)).alloc (.cells #[.int .i64 0, .int .i64 0] 32))
  have hk1 := ((Blk.new (w.alloc (.cells #[.int .u8 (M.k : Int), .int .u64 (M.n0 : Int), .int .u64 (M.n1 : Int), .int .u64 (M.n2 : Int), .int .u64 (M.n3 : Int), .int .u64 (M.n4 : Int), .int .u64 (M.n5 : Int), .string M.s0, .string M.s1, .slice M.A len M.c] 29)) 42 #[.int .u8 0, .slice none 0 0]).alloc (.cells #[.int .i64 0, .int .i64 0] 32))
  have hk2 := (Blk.new ((w.alloc (.cells #[.int .u8 (M.k : Int), .int .u64 (M.n0 : Int), .int .u64 (M.n1 : Int), .int .u64 (M.n2 : Int), .int .u64 (M.n3 : Int), .int .u64 (M.n4 : Int), .int .u64 (M.n5 : Int), .string M.s0, .string M.s1, .slice M.A len M.c] 29)).alloc (.cells #[.int .u8 0, .slice none 0 0] 42)) 32 #[.int .i64 0, .int .i64 0])
  simp only [World.size_alloc] at hk1 hk2
  have hl0 := hk0.lt
  have hl1 := hk1.lt
  have hl2 := hk2.lt
  have HK0 := hid hk0
  have HK1 := hid hk1
  have HK2 := hid hk2
  have HBB := hid hbb
  clear hk0 hk1 hk2 hbb
  go_enter Tryz.func14, Tryz.ntmps14
  go_wp2_with fail
  refine (HB.out _ HBB.out).mono ?_
  rintro e w1 ⟨A, c, rfl, hs1, ho1, hb1⟩
  have hk0 := HK0.out.below hb1 hl0
  have hk1 := HK1.out.below hb1 hl1
  have hk2 := HK2.out.below hb1 hl2
  have hB1 := bw_t HBB.out hb1
  have c0 := hk0.cell 0
  have d0 := hk1.cell 0
  have d1 := hk1.cell 1
  have e0 := hk2.cell 0
  have e1 := hk2.cell 1
  simp only [List.getElem?_toArray, List.getElem?_cons_zero, List.getElem?_cons_succ] at c0 d0 d1 e0 e1
  have f1 := fun i => hk1.frozen i
  have f2 := fun i => hk2.frozen i
  have l0 := hk0.lt
  have l1 := hk1.lt
  have l2 := hk2.lt
  rw [hs] at c0 d0 d1 e0 e1 f1 f2 l0 l1 l2
  rw [hs] at hk1 hk2
  simp only [World.size_alloc, hs] at ho1
  have HO1 := hid ho1
  have HSZ := hid hs
  clear hs ho1
  have HS1 := hid hs1
  have HK1 := hid hk1
  have HK2 := hid hk2
  have HB1 := hid hB1
  have hmx : Tryz.prog.follows .mixedOrders = true := by kernel_rfl
  clear hk0 hk1 hk2 hB1 hs1 hb1
  by_cases hE : E1 = 0
  · subst hE
    go_wp2_with fail
    obtain ⟨W9, hW9⟩ : ∃ W9, ((((((w1.setCell ⟨s + 1, 0, none⟩ (.int .u8 (M.k : Int))).setCell ⟨s + 1, 1, none⟩ (.slice A el c)).setCell ⟨s + 1 + 1, 0, none⟩ (.int .i64 0)).setCell ⟨s + 1 + 1, 1, none⟩ (.int .i64 0)).alloc (.cells #[.int .i64 0, .int .i64 E2] 32))) = W9 := ⟨_, rfl⟩
    have hq1 : Blk W9 (s + 1) 42 #[(.int .u8 (M.k : Int)), (.slice A el c)] := by
      rw [← hW9]
      have h := (((Blk.set_ (Blk.set_ HK1.out 0 (.int .u8 (M.k : Int))) 1 (.slice A el c)).far (p := ⟨s + 1 + 1, 0, none⟩) (show s + 1 ≠ s + 1 + 1 by omega) (.int .i64 0)).far (p := ⟨s + 1 + 1, 1, none⟩) (show s + 1 ≠ s + 1 + 1 by omega) (.int .i64 0)).alloc (.cells #[.int .i64 0, .int .i64 E2] 32)
      exact h
    have hq2 : Blk W9 (s + 1 + 1) 32 #[(.int .i64 0), (.int .i64 0)] := by
      rw [← hW9]
      have h := (Blk.set_ (Blk.set_ ((HK2.out.far (p := ⟨s + 1, 0, none⟩) (show s + 1 + 1 ≠ s + 1 by omega) (.int .u8 (M.k : Int))).far (p := ⟨s + 1, 1, none⟩) (show s + 1 + 1 ≠ s + 1 by omega) (.slice A el c)) 0 (.int .i64 0)) 1 (.int .i64 0)).alloc (.cells #[.int .i64 0, .int .i64 E2] 32)
      exact h
    have hch : Chg (fun k => k = s + 1 ∨ k = s + 1 + 1) w1 W9 := by
      rw [← hW9]
      exact ((((((Chg.refl (fun k => k = s + 1 ∨ k = s + 1 + 1) w1).set_ (.inl (.inl rfl)) 0 _).set_ (.inl (.inl rfl)) 1 _).set_ (.inl (.inr rfl)) 0 _).set_ (.inl (.inr rfl)) 1 _).alloc _)
    have g0 := hq1.cell 0
    have g1 := hq1.cell 1
    have g2 := hq2.cell 0
    have g3 := hq2.cell 1
    simp only [List.getElem?_toArray, List.getElem?_cons_zero, List.getElem?_cons_succ] at g0 g1 g2 g3
    have HB9 := hid (HB1.out.trans (hch.below (B := w.heap.size) (fun k hk => by have := HSZ.out; omega) HB1.out.size))
    have HC9 := hid hch
    rw [hW9]
    clear hW9 hq1 hq2 hch
    refine bodyPost_ret (v := .tuple #[.agg #[.int .u8 (M.k : Int), .slice A el c], .agg #[.int .i64 0, .int .i64 0]]) (by simp [results, Tryz.results14, go_sem, g0, g1, g2, g3]) rfl ?_
    rw [HR.out]
    have ho9 := own_chgS HO1.out HC9.out (fun g hg hk => by have := (HO1.out.lt g hg).1; omega)
    exact ⟨.inr ⟨trivial, A, c, rfl, Sl.of_own'' ho9⟩, HB9.out⟩
  · have hEb : (E1 != 0) = true := by simpa using hE
    go_wp2_with fail
    go_region
    go_wp2_with fail
    obtain ⟨W9, hW9⟩ : ∃ W9, ((((((w1.setCell ⟨s + 1, 0, none⟩ (.int .u8 0)).setCell ⟨s + 1, 1, none⟩ (.slice none 0 0)).setCell ⟨s + 1 + 1, 0, none⟩ (.int .i64 E1)).setCell ⟨s + 1 + 1, 1, none⟩ (.int .i64 E2)).alloc (.cells #[.int .i64 E1, .int .i64 E2] 32)).drew) = W9 := ⟨_, rfl⟩
    have hq1 : Blk W9 (s + 1) 42 #[(.int .u8 0), (.slice none 0 0)] := by
      rw [← hW9]
      have h := (((Blk.set_ (Blk.set_ HK1.out 0 (.int .u8 0)) 1 (.slice none 0 0)).far (p := ⟨s + 1 + 1, 0, none⟩) (show s + 1 ≠ s + 1 + 1 by omega) (.int .i64 E1)).far (p := ⟨s + 1 + 1, 1, none⟩) (show s + 1 ≠ s + 1 + 1 by omega) (.int .i64 E2)).alloc (.cells #[.int .i64 E1, .int .i64 E2] 32)
      exact h
    have hq2 : Blk W9 (s + 1 + 1) 32 #[(.int .i64 E1), (.int .i64 E2)] := by
      rw [← hW9]
      have h := (Blk.set_ (Blk.set_ ((HK2.out.far (p := ⟨s + 1, 0, none⟩) (show s + 1 + 1 ≠ s + 1 by omega) (.int .u8 0)).far (p := ⟨s + 1, 1, none⟩) (show s + 1 + 1 ≠ s + 1 by omega) (.slice none 0 0)) 0 (.int .i64 E1)) 1 (.int .i64 E2)).alloc (.cells #[.int .i64 E1, .int .i64 E2] 32)
      exact h
    have hch : Chg (fun k => k = s + 1 ∨ k = s + 1 + 1) w1 W9 := by
      rw [← hW9]
      exact ((((((Chg.refl (fun k => k = s + 1 ∨ k = s + 1 + 1) w1).set_ (.inl (.inl rfl)) 0 _).set_ (.inl (.inl rfl)) 1 _).set_ (.inl (.inr rfl)) 0 _).set_ (.inl (.inr rfl)) 1 _).alloc _).drew
    have g0 := hq1.cell 0
    have g1 := hq1.cell 1
    have g2 := hq2.cell 0
    have g3 := hq2.cell 1
    simp only [List.getElem?_toArray, List.getElem?_cons_zero, List.getElem?_cons_succ] at g0 g1 g2 g3
    have HB9 := hid (HB1.out.trans (hch.below (B := w.heap.size) (fun k hk => by have := HSZ.out; omega) HB1.out.size))
    have HC9 := hid hch
    rw [hW9]
    clear hW9 hq1 hq2 hch
    refine bodyPost_ret (v := .tuple #[.agg #[.int .u8 0, .slice none 0 0], .agg #[.int .i64 E1, .int .i64 E2]]) (by simp [results, Tryz.results14, go_sem, g0, g1, g2, g3]) rfl ?_
    rw [HR.out]
    exact ⟨.inl ⟨hE, rfl⟩, HB9.out⟩
end Go.Proofs.YtealjpolomhdeaaGreat
set_option linter.unusedVariables false
namespace Go.Proofs.YtealjpolomhdeaaGreat
open Go.RowKit
def MH1 : MV := ⟨1, 1, 0, 0, 0, 0, 0, ⟨#[]⟩, ⟨#[]⟩, none, 0, []⟩
def MV0 : MV := ⟨0, 0, 0, 0, 0, 0, 0, ⟨#[]⟩, ⟨#[]⟩, none, 0, []⟩
theorem mh1_ok (w : World) : MvOk w MH1 := by
  refine ⟨by decide, fun i => ?_, fun i => ?_, fun x hx => by simp [MH1] at hx, Sl.nil_ w⟩
  · unfold MV.num; split <;> decide
  · unfold MV.text; split <;> decide
theorem mv0_ok (w : World) : MvOk w MV0 := by
  refine ⟨by decide, fun i => ?_, fun i => ?_, fun x hx => by simp [MV0] at hx, Sl.nil_ w⟩
  · unfold MV.num; split <;> decide
  · unfold MV.text; split <;> decide
theorem mh1_sm : MvSm MH1 := ⟨by decide, fun i => by unfold MV.text; split <;> decide, fun s hs => by simp [MH1] at hs⟩
theorem mv0_sm : MvSm MV0 := ⟨by decide, fun i => by unfold MV.text; split <;> decide, fun s hs => by simp [MV0] at hs⟩
theorem mh1_c : chkV MH1 (ofL (MH1.k : Int) 1) = (0, 0) := by
  show chkV MH1 (ofL ((1 : Nat) : Int) 1) = _
  rw [mh_o]; decide +kernel
theorem mv0_c : chkV MV0 (ofL (MV0.k : Int) 1) = (7, 0) := by
  show chkV MV0 (ofL ((0 : Nat) : Int) 1) = _
  rw [show ofL ((0 : Nat) : Int) 1 = [] from by decide +kernel]; rfl
theorem mh1_b : encB MH1 (ofL (MH1.k : Int) 1) = [8, 1] := by
  unfold encB
  rw [mh1_c]
  show (if (0 : Int) = 0 then (ofL ((1 : Nat) : Int) 1).flatMap (fldR MH1) else []) = _
  rw [if_pos rfl, mh_o]
  have f1 : fldR MH1 ⟨1, 1, 1, 1, 0⟩ = [8, 1] := by
    show fldB MH1 1 1 0 = _
    have hd : dflB MH1 1 0 = false := by decide +kernel
    rw [fldB_in hd mh1_sm (by omega) (by omega)]
    have hw : partW MH1 1 1 0 = [(1, 0, 1, [])] := by
      unfold partW
      rw [if_neg (by omega), if_neg (by omega), if_neg (by omega)]; rfl
    rw [hw, List.flatMap_cons, List.flatMap_nil, List.append_nil]
    show pB 1 0 1 [] = _
    unfold pB pTail
    rw [mk_ok (by omega) (by omega) rfl]
    simp only [Int.add_zero]
    rw [put_small _ (by omega), if_pos trivial, put_small _ (by omega)]
    decide
  have f2 : fldR MH1 ⟨1, 1, 2, 1, 1⟩ = [] := by
    show fldB MH1 2 1 1 = _
    unfold fldB
    rw [if_pos (by decide +kernel)]
  have f3 : fldR MH1 ⟨1, 1, 3, 7, 0⟩ = [] := by
    show fldB MH1 3 7 0 = _
    unfold fldB
    rw [if_pos (by decide +kernel)]
  rw [List.flatMap_cons, List.flatMap_cons, List.flatMap_cons, List.flatMap_nil, f1, f2, f3]
  rfl
theorem l13_of0 (W : World) : Calls Tryz.prog 14 #[.agg #[.int .u8 0, .int .u64 0, .int .u64 0, .int .u64 0, .int .u64 0, .int .u64 0, .int .u64 0, .string ⟨#[]⟩, .string ⟨#[]⟩, .slice none 0 0], .int .i64 1] W fun e w' => e = .returned (.tuple #[.agg #[.int .u8 0, .slice none 0 0], .agg #[.int .i64 7, .int .i64 0]]) ∧ Below W.heap.size W w' := by
  refine (fof_any MV0 1 W (mv0_ok W) mv0_sm (by omega) (by omega)).mono ?_
  rintro e w' ⟨h, hb⟩
  rw [mv0_c] at h
  rcases h with ⟨-, h⟩ | ⟨h, -⟩
  · exact ⟨h, hb⟩
  · exact absurd h (by decide)
theorem l13_of1 (W : World) : Calls Tryz.prog 14 #[.agg #[.int .u8 1, .int .u64 1, .int .u64 0, .int .u64 0, .int .u64 0, .int .u64 0, .int .u64 0, .string ⟨#[]⟩, .string ⟨#[]⟩, .slice none 0 0], .int .i64 1] W fun e w' => ∃ A c, e = .returned (.tuple #[.agg #[.int .u8 1, .slice A 2 c], .agg #[.int .i64 0, .int .i64 0]]) ∧ Sl w' A c (([8, 1] : List UInt8).map bv) ∧ Below W.heap.size W w' := by
  refine (fof_any MH1 1 W (mh1_ok W) mh1_sm (by omega) (by omega)).mono ?_
  rintro e w' ⟨h, hb⟩
  rw [mh1_c, mh1_b] at h
  rcases h with ⟨h, -⟩ | ⟨-, A, c, h, hs⟩
  · exact absurd rfl h
  · exact ⟨A, c, h, hs, hb⟩
theorem l13_put (W : World) : Calls Tryz.prog 25 #[.agg #[.int .u8 8, .slice none 0 0]] W fun e w' => ∃ A c, e = .returned (.tuple #[.slice A 9 c, .int .i64 0]) ∧ w'.ownsRow W.heap.size 5 1 (.slice A 9 c) 9 ((Fr.put 8 []).map bv) ∧ Below W.heap.size W w' := by
  refine Calls.mono (fput_any 8 [] 0 none 0 W rfl (by omega) (Sl.nil_ W)) ?_
  rintro e w1 ⟨v1, rfl, ho1, hb1⟩
  obtain ⟨A1, c1, rfl⟩ := row_slice' ho1
  exact ⟨A1, c1, rfl, ho1, hb1⟩
theorem l13_r1 (W : World) (A : Option Addr) (c : Nat) (h : Sl W A c ((Fr.put 8 [] ++ [1]).map bv)) : Calls Tryz.prog 26 #[.slice A 10 c] W fun e w' => ∃ A' c', e = .returned (.tuple #[.agg #[.int .u8 8, .slice A' 0 c'], .int .i64 9, .int .i64 0]) ∧ Below W.heap.size W w' := by
  refine Calls.mono (fread_ok 8 [] [1] 0 10 A c W rfl (by omega) rfl h) ?_
  rintro e w1 ⟨A1, c1, rfl, -, hb1⟩
  exact ⟨A1, c1, rfl, hb1⟩
theorem l13_r2 (W : World) (N : Nat) (hN : W.heap.size = N) : Calls Tryz.prog 26 #[.slice (some ⟨N, 0, none⟩) 2 2] (W.alloc (.cells #[.int .u8 197, .int .u8 155] 5)) fun e w' => e = .returned (.tuple #[.agg #[.int .u8 0, .slice none 0 0], .int .i64 0, .int .i64 3]) ∧ Below W.heap.size W w' := by
  subst hN
  exact (fread_no [197, 155] 2 3 _ 2 _ l13_e1 (by omega) rfl (lit_sl W 5 [197, 155] #[.int .u8 197, .int .u8 155] 2 rfl (by omega) rfl)).mono fun e w' h => ⟨h.1, bw_t (bw_a (Below.refl _ W) _) h.2⟩
theorem l13_r3 (W : World) (N : Nat) (hN : W.heap.size = N) : Calls Tryz.prog 26 #[.slice (some ⟨N, 0, none⟩) 1 1] (W.alloc (.cells #[.int .u8 197] 5)) fun e w' => e = .returned (.tuple #[.agg #[.int .u8 0, .slice none 0 0], .int .i64 0, .int .i64 4]) ∧ Below W.heap.size W w' := by
  subst hN
  exact (fread_no [197] 1 4 _ 1 _ l13_e2 (by omega) rfl (lit_sl W 5 [197] #[.int .u8 197] 1 rfl (by omega) rfl)).mono fun e w' h => ⟨h.1, bw_t (bw_a (Below.refl _ W) _) h.2⟩
theorem l13_r4 (W : World) (N : Nat) (hN : W.heap.size = N) : Calls Tryz.prog 26 #[.slice (some ⟨N, 0, none⟩) 5 5] (W.alloc (.cells #[.int .u8 197, .int .u8 154, .int .u8 0, .int .u8 0, .int .u8 255] 5)) fun e w' => e = .returned (.tuple #[.agg #[.int .u8 0, .slice none 0 0], .int .i64 0, .int .i64 2]) ∧ Below W.heap.size W w' := by
  subst hN
  exact (fread_no [197, 154, 0, 0, 255] 5 2 _ 5 _ l13_e3 (by omega) rfl (lit_sl W 5 [197, 154, 0, 0, 255] #[.int .u8 197, .int .u8 154, .int .u8 0, .int .u8 0, .int .u8 255] 5 rfl (by omega) rfl)).mono fun e w' h => ⟨h.1, bw_t (bw_a (Below.refl _ W) _) h.2⟩
theorem l13_s0 (W : World) : Calls Tryz.prog 27 #[.int .i64 0] W fun e w' => e = .returned (.int .i64 9) ∧ W = w' := by
  have h := fsize_any 0 W (by omega) (by omega)
  rwa [show Fr.size 0 = 9 from by decide] at h
theorem l13_s1 (W : World) : Calls Tryz.prog 27 #[.int .i64 8193] W fun e w' => e = .returned (.int .i64 0) ∧ W = w' := by
  have h := fsize_any 8193 W (by omega) (by omega)
  rwa [show Fr.size 8193 = 0 from by decide] at h
end Go.Proofs.YtealjpolomhdeaaGreat
set_option linter.unusedVariables false
namespace Go.Proofs.YtealjpolomhdeaaGreat
open Go.RowKit
set_option maxRecDepth 100000 in
set_option maxHeartbeats 1000000 in
theorem live13_any (w : World) : Calls Tryz.prog 12 #[] w fun e w' => e = .returned (.bool true) ∧ Below w.heap.size w w' := by
  obtain ⟨i0, hi, hz0, hz1, hz2⟩ := info_parts Tryz.info5
  have HSAME := hid (fun W A B c d hA hB => fsame_any 1 1 [8, 1] [8, 1] 2 2 A B c d W rfl rfl hA hB)
  go_enter Tryz.func12, Tryz.ntmps12
  go_wp2_with fail
  refine (l13_put w).mono ?_
  rintro e w1 ⟨A1, c1, rfl, ho1, hb1⟩
  have HOW := hid (own_below ho1 (bw_a (Below.refl _ w1) (.cells #[.int .u8 1] 5)))
  have HL1 := hid (lit_sl w1 5 [1] #[.int .u8 1] 1 rfl (by omega) rfl)
  have HB1 := hid (bw_a hb1 (.cells #[.int .u8 1] 5))
  clear ho1 hb1
  go_wp2_with (at_builtin; refine wpList_append_rd rfl (.tmp 25) (.tmp 26) 22 rfl w.heap.size 5 i0 (.int .u8 0) 1 1 Tryz.underlying22 hi hz0 hz1 hz2 rfl (by decide) _ _ _ rfl HOW.out (some ⟨w1.heap.size, 0, none⟩) 1 1 (([1] : List UInt8).map bv) rfl rfl HL1.out.rd HL1.out.nil0 (bv_one [1]) (by simp only [maxLen]; omega) (by omega) HB1.out.size ?_; intro v2 w2 hown2 hgrow2; have HO2 := hid hown2; have HB2 := hid (bw_g HB1.out hgrow2 (fun k ek => (HOW.out.lt k ek).1)); clear hown2 hgrow2)
  have ho2 := HO2.out
  rw [← List.map_append] at ho2
  obtain ⟨A2, c2, rfl, -, hs2⟩ := Sl.of_own ho2
  refine (l13_r1 w2 A2 c2 hs2).mono ?_
  rintro e w3 ⟨A3, c3, rfl, hb3⟩
  have HB3 := hid (bw_t HB2.out hb3)
  clear ho2 hs2 hb3
  go_wp2_with fail
  refine (l13_r2 _ _ (by simp)).mono ?_
  rintro e w4 ⟨rfl, hb4⟩
  have hk3 := (Blk.new w3 42 #[.int .u8 8, .slice A3 0 c3]).below hb4 (by simp)
  have HB4 := hid (bw_t (bw_a HB3.out _) hb4)
  have HK3 := hid hk3
  clear hk3 hb4
  go_wp2_with fail
  refine (l13_r3 _ _ (by simp)).mono ?_
  rintro e w5 ⟨rfl, hb5⟩
  have hb45 := bw_t (bw_a (Below.refl _ w4) _) hb5
  have HK3b := hid (HK3.out.below hb45 HK3.out.lt)
  have HB5 := hid (bw_t HB4.out hb45)
  clear hb5 hb45
  go_wp2_with fail
  refine (l13_r4 _ _ (by simp)).mono ?_
  rintro e w6 ⟨rfl, hb6⟩
  have hb56 := bw_t (bw_a (Below.refl _ w5) _) hb6
  have HK3c := hid (HK3b.out.below hb56 HK3b.out.lt)
  have HB6 := hid (bw_t HB5.out hb56)
  clear hb6 hb56
  go_wp2_with fail
  refine (l13_of0 _).mono ?_
  rintro e w7 ⟨rfl, hb7⟩
  have hb67 := bw_t (bw_a (Below.refl _ w6) _) hb7
  have HK3d := hid (HK3c.out.below hb67 HK3c.out.lt)
  have HB7 := hid (bw_t HB6.out hb67)
  clear hb7 hb67
  go_wp2_with fail
  refine (l13_of1 _).mono ?_
  rintro e w8 ⟨A8, c8, rfl, hs8, hb8⟩
  have hb78 := bw_t (bw_a (bw_a (Below.refl _ w7) (.cells #[.int .u8 0, .slice none 0 0] 42)) (.cells #[.int .i64 7, .int .i64 0] 32)) hb8
  have hk16 := (Blk.new (w7.alloc (.cells #[.int .u8 0, .slice none 0 0] 42)) 32 #[.int .i64 7, .int .i64 0]).below hb8 (by simp)
  rw [World.size_alloc] at hk16
  have hk3 := HK3d.out.below hb78 HK3d.out.lt
  have HB8 := hid (bw_t HB7.out hb78)
  have hb9 := bw_a (bw_a (Below.refl _ w8) (.cells #[.int .u8 1, .slice A8 2 c8] 42)) (.cells #[.int .i64 0, .int .i64 0] 32)
  have hk18 := Blk.new (w8.alloc (.cells #[.int .u8 1, .slice A8 2 c8] 42)) 32 #[.int .i64 0, .int .i64 0]
  rw [World.size_alloc] at hk18
  have hl3 := hk3.lt
  have hl16 := hk16.lt
  have hl16' : w7.heap.size < w8.heap.size := by omega
  have d0 := hk3.cell 0
  have d1 := hk16.cell 0
  have d2 := hk16.cell 1
  simp only [List.getElem?_toArray, List.getElem?_cons_zero, List.getElem?_cons_succ] at d0 d1 d2
  have HS9 := hid (hs8.below hb9)
  have HB9 := hid (HB8.out.trans (hb9.mono HB8.out.size))
  have hl9 := lit_sl ((w8.alloc (.cells #[.int .u8 1, .slice A8 2 c8] 42)).alloc (.cells #[.int .i64 0, .int .i64 0] 32)) 5 [8, 1] #[.int .u8 8, .int .u8 1] 2 rfl (by omega) rfl
  simp only [World.size_alloc] at hl9
  have HL9 := hid hl9
  have HK18 := hid hk18
  clear hb8 hb78 hk16 hk3 hs8 hb9 hk18 hl9
  go_wp2_with fail
  refine (HSAME.out _ _ _ _ _ (HS9.out.below (bw_a (Below.refl _ _) _)) HL9.out).mono ?_
  rintro e w10 ⟨rfl, hb10⟩
  have hk18 := (HK18.out.alloc (.cells #[.int .u8 8, .int .u8 1] 5)).below hb10 (HK18.out.alloc _).lt
  have HB10 := hid (bw_t (bw_a HB9.out _) hb10)
  clear d0 d1 d2
  have d5 := hk18.cell 0
  have d6 := hk18.cell 1
  simp only [List.getElem?_toArray, List.getElem?_cons_zero, List.getElem?_cons_succ] at d5 d6
  have hl18 := hk18.lt
  clear hb10 hk18
  go_wp2_with (first | (go_at_call 27; (with_reducible refine (l13_s0 _).mono ?_); rintro e w' ⟨rfl, rfl⟩) | (go_at_call 27; (with_reducible refine (l13_s1 _).mono ?_); rintro e w' ⟨rfl, rfl⟩))
  go_ret
  exact ⟨by simp, HB10.out⟩
end Go.Proofs.YtealjpolomhdeaaGreat
