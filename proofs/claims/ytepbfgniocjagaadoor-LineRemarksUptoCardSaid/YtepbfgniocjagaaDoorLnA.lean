/- line: trimming, counting, cutting; Strip: walks. -/
import Derived.Test.YtepbfgniocjagaaDoorSrB
import Derived.Test.YtepbfgniocjagaaDoorLnMath
set_option linter.unusedVariables false
namespace Go.Proofs.YtepbfgniocjagaaDoor
open Go.RowKit
theorem drop_last1 (a : List UInt8) (c : UInt8) : (a ++ [c]).drop a.length = [c] := by simp
theorem snoc_of {l : List UInt8} {m : Nat} (h : l.length = m + 1) : ∃ a c, l = a ++ [c] ∧ a.length = m := by
  have hne : l ≠ [] := by intro e; subst e; simp at h
  exact ⟨l.dropLast, l.getLast hne, (List.dropLast_concat_getLast hne).symm, by rw [List.length_dropLast]; omega⟩
theorem ext_take (s : ByteArray) (bs : List UInt8) (k : Nat) (hs : s.data.toList = bs) : (s.extract 0 k).data.toList = bs.take k := by
  subst hs; simp only [ByteArray.data_extract, Array.toList_extract, List.extract_eq_take_drop, List.drop_zero, Nat.sub_zero]
set_option maxRecDepth 100000 in
set_option maxHeartbeats 2000000 in
theorem trimRB_any (s : ByteArray) (bs : List UInt8) (w : World) (hs : s.data.toList = bs) (hl : bs.length ≤ 9223372036854775807) :
    Calls Tryd.prog 68 #[.string s, .int .u8 32] w fun e w' => ∃ t : ByteArray, e = .returned (.string t) ∧ t.data.toList = trB bs ∧ w = w' := by
  have hz : s.size = bs.length := by rw [Lib.size_eq, hs]
  have hs0 := hid (congrArg trB hs)
  clear hs
  generalize hn : bs.length = n at *
  clear hn
  go_enter Tryd.func68, Tryd.ntmps68
  go_wp2
  go_loop [0] (fun v => ∃ t : ByteArray, v = .string t ∧ t.size ≤ n ∧ trB t.data.toList = trB bs) (fun v => match v with | .string t => t.size | _ => 0)
  case atStart => exact ⟨s, rfl, by omega, hs0.out⟩
  case round =>
    obtain ⟨t, rfl, htn, htr⟩ := hrel
    have HTR := hid htr
    clear htr hz
    obtain ⟨m, hm⟩ : ∃ m, t.size = m := ⟨_, rfl⟩
    cases m with
    | zero =>
      have ht : t = ⟨#[]⟩ := str_nil (List.eq_nil_of_length_eq_zero (by rw [← Lib.size_eq, hm]))
      have HF := hid (show trB bs = [] from by rw [← HTR.out, ht]; rfl)
      subst ht
      clear hm htn
      go_wp2
      go_ret
      exact ⟨⟨#[]⟩, rfl, HF.out.symm, rfl⟩
    | succ m =>
      obtain ⟨a, c, hac, ham⟩ := snoc_of (l := t.data.toList) (m := m) (by rw [← Lib.size_eq, hm])
      obtain ⟨hi, hg⟩ := str_at (s := t) (k := m) (c := c) (r := []) hac (by rw [← ham]; exact drop_last1 a c)
      have hx := c.toNat_lt
      have hex := ext_take t (a ++ [c]) m hac
      rw [← ham, List.take_left] at hex
      have hsn := trB_snoc a c
      rw [← hac, HTR.out] at hsn
      have hez : (t.extract 0 m).size = m := by rw [Lib.size_eq, ← ham, hex]
      rw [ham] at hex
      have HSN := hid hsn
      have HEX := hid hex
      have HAC := hid hac
      clear hac hex hsn ham
      generalize c.toNat = x at *
      by_cases h : x = 32
      · subst h
        have HN := hid (show trB a = trB bs from by have := HSN.out; rw [if_pos (by first | trivial | rfl)] at this; exact this.symm)
        go_wp2
        go_round
        case rel => exact ⟨t.extract 0 m, rfl, by rw [hez]; omega, by rw [HEX.out]; exact HN.out⟩
        case measure => simp [hez, hm]
      · have q : ((x : Int) == 32) = false := by simp; omega
        have HN := hid (show trB bs = a ++ [c] from by have := HSN.out; rw [if_neg h] at this; rw [this]; exact HAC.out)
        go_wp2
        go_ret
        exact ⟨t, rfl, by rw [HAC.out, HN.out], rfl⟩
set_option maxRecDepth 100000 in
set_option maxHeartbeats 2000000 in
theorem trimLB_any (s : ByteArray) (bs : List UInt8) (w : World) (hs : s.data.toList = bs) (hl : bs.length ≤ 9223372036854775807) :
    Calls Tryd.prog 49 #[.string s, .int .u8 32] w fun e w' => ∃ t : ByteArray, e = .returned (.string t) ∧ t.data.toList = tlB bs ∧ w = w' := by
  have hz : s.size = bs.length := by rw [Lib.size_eq, hs]
  have hs0 := hid (congrArg tlB hs)
  clear hs
  generalize hn : bs.length = n at *
  clear hn
  go_enter Tryd.func49, Tryd.ntmps49
  go_wp2
  go_loop [0] (fun v => ∃ t : ByteArray, v = .string t ∧ t.size ≤ n ∧ tlB t.data.toList = tlB bs) (fun v => match v with | .string t => t.size | _ => 0)
  case atStart => exact ⟨s, rfl, by omega, hs0.out⟩
  case round =>
    obtain ⟨t, rfl, htn, htr⟩ := hrel
    have HTR := hid htr
    clear htr hz
    cases hc : t.data.toList with
    | nil =>
      have ht : t = ⟨#[]⟩ := str_nil hc
      have hm : t.size = 0 := by rw [Lib.size_eq, hc]; rfl
      have HF := hid (show tlB bs = [] from by rw [← HTR.out, ht]; rfl)
      clear hc
      subst ht
      clear hm htn
      go_wp2
      go_ret
      exact ⟨⟨#[]⟩, rfl, HF.out.symm, rfl⟩
    | cons c r =>
      have hm : t.size = r.length + 1 := by rw [Lib.size_eq, hc]; rfl
      obtain ⟨hi, hg⟩ := str_at (s := t) (k := 0) hc rfl
      have hx := c.toNat_lt
      have hex := ext_drop t (c :: r) 1 (r.length + 1) hc (by simp)
      rw [show (c :: r).drop 1 = r from rfl] at hex
      have hez : (t.extract 1 (r.length + 1)).size = r.length := by rw [Lib.size_eq, hex]
      have htl : tlB bs = if c.toNat = 32 then tlB r else c :: r := by rw [← HTR.out, hc, tlB]
      have HTL := hid htl
      have HEX := hid hex
      have HC := hid hc
      clear hc hex htl
      generalize r.length = m at *
      generalize c.toNat = x at *
      by_cases h : x = 32
      · subst h
        have HN := hid (show tlB r = tlB bs from by have := HTL.out; rw [if_pos (by first | trivial | rfl)] at this; exact this.symm)
        go_wp2
        go_round
        case rel => exact ⟨t.extract 1 (m + 1), rfl, by rw [hez]; omega, by rw [HEX.out]; exact HN.out⟩
        case measure => simp [hez, hm]
      · have q : ((x : Int) == 32) = false := by simp; omega
        have HN := hid (show tlB bs = c :: r from by have := HTL.out; rw [if_neg h] at this; exact this)
        go_wp2
        go_ret
        exact ⟨t, rfl, by rw [HC.out, HN.out], rfl⟩
theorem str_ne0 {s : ByteArray} {c : UInt8} {r : List UInt8} (hs : s.data.toList = c :: r) : s.toList.isEmpty = false ∧ (s.toList == []) = false := by
  have := str_list hs; rw [this]; exact ⟨rfl, rfl⟩
set_option maxRecDepth 100000 in
set_option maxHeartbeats 1000000 in
theorem trimR_any (s : ByteArray) (bs : List UInt8) (w : World) (hs : s.data.toList = bs) (hl : bs.length ≤ 9223372036854775807) :
    Calls Tryd.prog 42 #[.string s, .string ⟨#[32]⟩] w fun e w' => ∃ t : ByteArray, e = .returned (.string t) ∧ t.data.toList = trB bs ∧ w = w' := by
  have HB := hid fun w => trimRB_any s bs w hs hl
  cases bs with
  | nil =>
    obtain rfl := str_nil hs
    clear hs
    go_enter Tryd.func42, Tryd.ntmps42
    go_wp2_with fail
    go_ret
    exact ⟨⟨#[]⟩, rfl, rfl, rfl⟩
  | cons c r =>
    obtain ⟨h0, h1⟩ := str_ne0 hs
    clear hs
    go_enter Tryd.func42, Tryd.ntmps42
    go_wp2_with (go_at_call 68; refine (HB.out _).mono ?_; rintro e w1 ⟨t, rfl, ht, rfl⟩)
    go_ret
    exact ⟨t, rfl, ht, rfl⟩
set_option maxRecDepth 100000 in
set_option maxHeartbeats 1000000 in
theorem trimL_any (s : ByteArray) (bs : List UInt8) (w : World) (hs : s.data.toList = bs) (hl : bs.length ≤ 9223372036854775807) :
    Calls Tryd.prog 29 #[.string s, .string ⟨#[32]⟩] w fun e w' => ∃ t : ByteArray, e = .returned (.string t) ∧ t.data.toList = tlB bs ∧ w = w' := by
  have HB := hid fun w => trimLB_any s bs w hs hl
  cases bs with
  | nil =>
    obtain rfl := str_nil hs
    clear hs
    go_enter Tryd.func29, Tryd.ntmps29
    go_wp2_with fail
    go_ret
    exact ⟨⟨#[]⟩, rfl, rfl, rfl⟩
  | cons c r =>
    obtain ⟨h0, h1⟩ := str_ne0 hs
    clear hs
    go_enter Tryd.func29, Tryd.ntmps29
    go_wp2_with (go_at_call 49; refine (HB.out _).mono ?_; rintro e w1 ⟨t, rfl, ht, rfl⟩)
    go_ret
    exact ⟨t, rfl, ht, rfl⟩
set_option maxRecDepth 100000 in
set_option maxHeartbeats 1000000 in
theorem clean_any (s : ByteArray) (bs : List UInt8) (w : World) (hs : s.data.toList = bs) (hl : bs.length ≤ 9223372036854775807) :
    Calls Tryd.prog 28 #[.string s] w fun e w' => e = .returned (.bool (!bs.any fun c => hidN c.toNat)) ∧ w = w' := by
  have hsz : s.size = bs.length := by rw [Lib.size_eq, hs]
  have HSB := hid hs
  clear hs
  generalize hn : bs.length = n at *
  have HN := hid hn
  clear hn
  go_enter Tryd.func28, Tryd.ntmps28
  go_wp2
  go_loop [3, 6] (fun _ i => ∃ k : Nat, k ≤ n ∧ i = .int .i64 (k : Int) ∧ (bs.any fun c => hidN c.toNat) = (bs.drop k).any fun c => hidN c.toNat) (fun _ i => n - (intOf i).toNat)
  case atStart => exact ⟨0, by omega, rfl, by simp⟩
  case round =>
    obtain ⟨k, hk, rfl, hsc⟩ := hrel
    have HC := hid hsc
    clear hsc
    by_cases hlt : k < n
    · obtain ⟨c, r, hd⟩ := str_cons HN.out hlt
      obtain ⟨hi, hg⟩ := str_at HSB.out hd
      have hx := c.toNat_lt
      have hdn := drop_next hd
      have hst : ((c :: r).any fun c => hidN c.toNat) = (hidN c.toNat || r.any fun c => hidN c.toNat) := rfl
      generalize c.toNat = x at *
      have HD := hid hd
      have HDN := hid hdn
      have HST := hid hst
      clear hd hdn hst
      by_cases h1 : x < 32
      · have HH := hid (show hidN x = true from by simp [hidN]; omega)
        go_wp2
        go_ret
        exact ⟨ret_bool (by rw [HC.out, HD.out, HST.out, HH.out]; rfl), rfl⟩
      by_cases h2 : x = 127
      · have HH := hid (show hidN x = true from by simp [hidN]; omega)
        have q : ((x : Int) == 127) = true := by simp [h2]
        clear h2
        go_wp2
        go_ret
        exact ⟨ret_bool (by rw [HC.out, HD.out, HST.out, HH.out]; rfl), rfl⟩
      · have HH := hid (show hidN x = false from by simp [hidN]; omega)
        have q : ((x : Int) == 127) = false := by simp; omega
        go_wp2
        go_round
        case rel => exact ⟨k + 1, by omega, by go_num, by rw [HC.out, HD.out, HST.out, HH.out, HDN.out]; rfl⟩
        case measure => simp [intOf] <;> omega
    · go_wp2
      go_ret
      exact ⟨ret_bool (by rw [HC.out, List.drop_eq_nil_of_le (by have := HN.out; omega)]; rfl), rfl⟩
end Go.Proofs.YtepbfgniocjagaaDoor
