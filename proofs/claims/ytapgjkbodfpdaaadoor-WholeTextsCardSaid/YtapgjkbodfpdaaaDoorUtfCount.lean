/- utf.Count, utf.Check, utf.Plain: walks. -/
import Derived.Test.YtapgjkbodfpdaaaDoorProg
import Derived.Test.YtapgjkbodfpdaaaDoorBase
import Derived.Test.YtapgjkbodfpdaaaDoorUtfFirst0
import Derived.WalkSmall
set_option linter.unusedVariables false
namespace Go.Proofs.YtapgjkbodfpdaaaDoor
open Go.RowKit
def countI (bs : List UInt8) : Int := if (scan bs 0).2 = none then ((scan bs 0).1.length : Int) else -1
theorem drop_cons {bs : List UInt8} {p n : Nat} (hn : bs.length = n) (hp : p < n) : ∃ c r, bs.drop p = c :: r := by
  cases hq : bs.drop p with
  | nil => have := congrArg List.length hq; simp at this; omega
  | cons c r => exact ⟨c, r, rfl⟩
theorem scan_len (k : Nat) (bs : List UInt8) (a : Nat) (hk : bs.length ≤ k) : (scan bs a).1.length ≤ bs.length := by
  induction k generalizing bs a with
  | zero =>
    obtain rfl : bs = [] := List.eq_nil_of_length_eq_zero (by omega)
    simp [scan_nil]
  | succ k ih =>
    cases bs with
    | nil => simp [scan_nil]
    | cons c r =>
      by_cases ho : (oneL (c :: r)).1 = 0
      · rw [scan_bad ho]; simp
      · have := ih ((c :: r).drop (oneL (c :: r)).1) (a + (oneL (c :: r)).1) (by simp at hk ⊢; omega)
        rw [scan_more ho]
        simp only [List.length_cons, List.length_drop] at this ⊢
        omega
set_option maxRecDepth 100000 in
set_option maxHeartbeats 1000000 in
theorem count_any (s : ByteArray) (bs : List UInt8) (w : World) (hs : s.data.toList = bs) (hl : bs.length ≤ 9223372036854775807) :
    Calls Tryd.prog 12 #[.string s] w fun e w' => e = .returned (.int .i64 (countI bs)) ∧ Below w.heap.size w w' := by
  have hsz : s.size = bs.length := by rw [← hs]; simp
  have hf := first_any s bs w hs hl
  have hsl := scan_len bs.length bs 0 (Nat.le_refl _)
  have hcI : countI bs = if (scan bs 0).2 = none then ((scan bs 0).1.length : Int) else -1 := rfl
  have HSB := hid hs
  clear hs
  generalize hn : bs.length = n at *
  have HN := hid hn
  clear hn
  generalize hsc : scan bs 0 = sc at *
  obtain ⟨rs, bad⟩ := sc
  simp only at hf hsl hcI
  generalize countI bs = ci at *
  have HF := hid hf
  have HSC := hid hsc
  have HCI := hid hcI
  clear hf hsc hcI
  cases bad with
  | some k =>
    go_enter Tryd.func12, Tryd.ntmps12
    go_wp2_with fail
    refine HF.out.mono ?_
    rintro e w1 ⟨rfl, hb1⟩
    simp only [placeI]
    go_wp2
    go_ret
    exact ⟨by rw [HCI.out]; simp, hb1⟩
  | none =>
    go_enter Tryd.func12, Tryd.ntmps12
    go_wp2_with fail
    refine HF.out.mono ?_
    rintro e w1 ⟨rfl, hb1⟩
    simp only [placeI]
    go_wp2
    go_loopw [3] (fun v wr => ∃ pos m : Nat, wr = w1.iter s pos ∧ pos ≤ n ∧ v = .int .i64 (m : Int) ∧ m ≤ pos ∧ (scan (bs.drop pos) pos).2 = none ∧ rs.length = m + (scan (bs.drop pos) pos).1.length) (fun _ wr => s.size - wr.iterPos w1.heap.size)
    case atStart => exact ⟨0, 0, rfl, by omega, rfl, by omega, by rw [List.drop_zero, HSC.out], by rw [List.drop_zero, HSC.out]; simp⟩
    case round =>
      obtain ⟨pos, m, rfl, hpn, rfl, hmp, hs2, hs1⟩ := hrel
      have HS2 := hid hs2
      have HS1 := hid hs1
      clear hs2 hs1
      by_cases hp : pos < s.size
      · have hnx : ∀ ty, (Instr.next (.pointer (some ⟨w1.heap.size, 0, none⟩)) true ty).run Tryd.prog (w1.iter s pos) = _ := fun ty => run_next_any w1 s pos ty hp
        obtain ⟨c, r, hd⟩ := drop_cons HN.out (by omega : pos < n)
        have ho := oneL_le (bs.drop pos)
        rw [List.length_drop, HN.out, hd] at ho
        have hdec := decode_at s bs pos c r HSB.out hd
        have hb := @scan_bad c r pos
        have hm := @scan_more c r pos
        have HD := hid hd
        clear hd
        generalize hq : oneL (c :: r) = q at *
        obtain ⟨o, v⟩ := q
        simp only at ho hb hm hdec
        have ho0 : o ≠ 0 := by
          intro h
          have := HS2.out
          rw [HD.out, hb h] at this
          cases this
        rw [if_neg ho0] at hdec
        rw [hdec] at hnx
        have HO := hid ho0
        have HM := hid (hm ho0)
        clear hdec ho0 hb hm hq
        go_wp2
        go_roundw
        case rel => exact ⟨pos + o, m + 1, rfl, by omega, by go_num, by have := HO.out; omega, by have := HS2.out; rw [HD.out, HM.out, ← HD.out, List.drop_drop] at this; exact this, by rw [HS1.out, HD.out, HM.out, ← HD.out, List.drop_drop, List.length_cons]; omega⟩
        case measure => have := HO.out; simp; omega
      · have hnx : ∀ ty, (Instr.next (.pointer (some ⟨w1.heap.size, 0, none⟩)) true ty).run Tryd.prog (w1.iter s pos) = _ := fun ty => run_next_end w1 s pos ty hp
        have hfin : rs.length = m := by
          have := HS1.out
          rw [List.drop_eq_nil_of_le (by have := HN.out; omega), scan_nil] at this
          simpa using this
        have HFIN := hid hfin
        clear hfin
        go_wp2
        go_ret
        exact ⟨ret_int (by rw [HCI.out, HFIN.out]; simp), bw_t hb1 (below_iter w1 s pos)⟩
def plainB (bs : List UInt8) : Bool := bs.all fun c => decide (32 ≤ c.toNat ∧ c.toNat ≤ 126)
theorem decode_low (s : ByteArray) (bs : List UInt8) (p : Nat) (c : UInt8) (r : List UInt8) (hs : s.data.toList = bs) (hd : bs.drop p = c :: r) (h : c.toNat < 128) : Utf8.decode s p = (c.toNat, 1) := by
  rw [decode_at s bs p c r hs hd]
  have e : oneL (c :: r) = (1, c.toNat) := by simp only [oneL]; rw [if_pos h]
  rw [e]; rfl
theorem decode_hi (s : ByteArray) (bs : List UInt8) (p : Nat) (c : UInt8) (r : List UInt8) (hs : s.data.toList = bs) (hd : bs.drop p = c :: r) (h : ¬ c.toNat < 128) : 128 ≤ (Utf8.decode s p).1 ∧ (Utf8.decode s p).1 ≤ 2147483647 := by
  have hp : p < s.size := by
    have h1 : s.size = bs.length := by rw [← hs]; simp
    have h2 := congrArg List.length hd
    simp at h2; omega
  refine ⟨(decode_high s p hp ?_).1, decode_le s p⟩
  have hg : (bs.drop p)[0]? = some (s[p]'hp) := by
    rw [List.getElem?_drop, ← hs, Array.getElem?_toList]; exact Array.getElem?_eq_getElem _
  rw [hd] at hg
  simp at hg
  rw [← hg]; omega
theorem plain_take {bs : List UInt8} {p : Nat} {c : UInt8} {r : List UInt8} (hd : bs.drop p = c :: r) : plainB (bs.take (p + 1)) = (plainB (bs.take p) && decide (32 ≤ c.toNat ∧ c.toNat ≤ 126)) := by
  have hp : p < bs.length := by have h2 := congrArg List.length hd; simp at h2; omega
  have hc : bs[p] = c := by
    have := List.drop_eq_getElem_cons hp
    rw [hd] at this; injection this with h _; exact h.symm
  rw [List.take_succ_eq_append_getElem hp, plainB, List.all_append, hc]
  simp [plainB]
theorem plain_not {bs : List UInt8} {p : Nat} {c : UInt8} {r : List UInt8} (hd : bs.drop p = c :: r) (h : ¬ (32 ≤ c.toNat ∧ c.toNat ≤ 126)) : plainB bs = false := by
  have e : bs = bs.take p ++ c :: r := by rw [← hd, List.take_append_drop]
  rw [e, plainB, List.all_append, List.all_cons]
  simp [h]
end Go.Proofs.YtapgjkbodfpdaaaDoor
