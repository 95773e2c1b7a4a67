/- utf.First: a walk. -/
import Derived.Test.YtehjibbjkadoiaaProg
import Derived.Test.YtehjibbjkadoiaaM1
import Derived.Test.YtehjibbjkadoiaaHasPrefix
import Derived.Test.YtehjibbjkadoiaaDecode
import Derived.Test.YtehjibbjkadoiaaScan
import Derived.WalkSmall
set_option linter.unusedVariables false
namespace Go.Proofs.Ytehjibbjkadoiaa
open Go.RowKit
theorem ext_drop (s : ByteArray) (bs : List UInt8) (p e : Nat) (hs : s.data.toList = bs) (he : bs.length ≤ e) : (s.extract p e).data.toList = bs.drop p := by
  subst hs
  simp only [ByteArray.data_extract, Array.toList_extract, List.extract_eq_take_drop]
  exact List.take_of_length_le (by rw [List.length_drop]; omega)
theorem below_iter (w : World) (s : ByteArray) (p : Nat) : Below w.heap.size w (w.iter s p) := (Below.refl _ w).alloc (Nat.le_refl _) _
theorem prefix_good {c : UInt8} {r : List UInt8} (h : (oneL (c :: r)).1 ≠ 0) : (Utf8.encode ((oneL (c :: r)).2 : Int)).data.toList.isPrefixOf (c :: r) = true := by
  obtain ⟨h1, h2⟩ := one_forth h
  rw [encode_rune h1, ← h2]
  simp [List.isPrefixOf_iff_prefix, List.take_prefix]
theorem prefix_bad {c : UInt8} {r : List UInt8} (h : (oneL (c :: r)).1 = 0) : (Utf8.encode 65533).data.toList.isPrefixOf (c :: r) = false := by
  have hr : runeI ((65533 : Nat) : Int) = true := by decide
  have he := encode_rune hr
  rw [show ((65533 : Nat) : Int) = 65533 from rfl] at he
  rw [he]
  cases hp : (runeB 65533).isPrefixOf (c :: r)
  · rfl
  · obtain ⟨t, ht⟩ := List.isPrefixOf_iff_prefix.1 hp
    have := one_back hr t
    rw [ht] at this
    rw [this] at h
    have hpos := runeB_pos 65533
    simp only at h
    omega
set_option maxRecDepth 100000 in
set_option maxHeartbeats 1000000 in
theorem first_any (s : ByteArray) (bs : List UInt8) (w : World) (hs : s.data.toList = bs) (hl : bs.length ≤ 9223372036854775807) :
    Calls Try.prog 94 #[.string s] w fun e w' => e = .returned (.int .i64 (placeI (scan bs 0).2)) ∧ Below w.heap.size w w' := by
  have hsz : s.size = bs.length := by rw [← hs]; simp
  have HSB := hid hs
  clear hs
  generalize hn : bs.length = n at *
  have HN := hid hn
  clear hn
  go_enter Try.func94, Try.ntmps94
  go_wp2
  go_loopw [] (fun wr => ∃ pos, wr = w.iter s pos ∧ pos ≤ n ∧ (scan bs 0).2 = (scan (bs.drop pos) pos).2) (fun wr => s.size - wr.iterPos w.heap.size)
  case atStart => exact ⟨0, rfl, by omega, by simp⟩
  case round =>
    obtain ⟨pos, rfl, hpn, hsc⟩ := hrel
    have HC := hid hsc
    clear hsc
    by_cases hp : pos < s.size
    · have hnx : ∀ ty, (Instr.next (.pointer (some ⟨w.heap.size, 0, none⟩)) true ty).run Try.prog (w.iter s pos) = _ := fun ty => run_next_any w s pos ty hp
      obtain ⟨c, r, hd⟩ : ∃ c r, bs.drop pos = c :: r := by
        cases hq : bs.drop pos with
        | nil => have := congrArg List.length hq; have := HN.out; simp at *; omega
        | cons c r => exact ⟨c, r, rfl⟩
      have ho := oneL_le (bs.drop pos)
      rw [List.length_drop, HN.out, hd] at ho
      have hdec := decode_at s bs pos c r HSB.out hd
      have hext := ext_drop s bs pos n HSB.out (by have := HN.out; omega)
      rw [hd] at hext
      have hb := @scan_bad c r pos
      have hm := @scan_more c r pos
      have pg := @prefix_good c r
      have pb := @prefix_bad c r
      have HD := hid hd
      have HE := hid hext
      clear hd hext
      generalize hq : oneL (c :: r) = q at *
      obtain ⟨o, v⟩ := q
      simp only at ho hb hm hdec pg pb
      have HQ := hid hq
      have HB := hid hb
      have HM := hid hm
      clear hq hb hm
      by_cases ho0 : o = 0
      · rw [if_pos ho0] at hdec
        have PB := hid (pb ho0)
        rw [hdec] at hnx
        have HO := hid ho0
        clear pg pb hdec ho0
        go_wp2_with fail
        refine (prefix_any _ _ _).mono ?_
        rw [HE.out, PB.out]
        rintro e w1 ⟨rfl, rfl⟩
        go_wp2
        go_ret
        rw [HC.out, HD.out, HB.out HO.out]
        exact ⟨rfl, below_iter w s _⟩
      · rw [if_neg ho0] at hdec
        have PG := hid (pg ho0)
        rw [hdec] at hnx
        have HO := hid ho0
        clear pg pb hdec ho0
        go_wp2_with fail
        refine (prefix_any _ _ _).mono ?_
        rw [HE.out, PG.out]
        rintro e w1 ⟨rfl, rfl⟩
        go_wp2
        go_roundw
        case rel => exact ⟨pos + o, rfl, by omega, by rw [HC.out, HD.out, HM.out HO.out, ← HD.out, List.drop_drop]⟩
        case measure => have := HO.out; simp; omega
    · have hnx : ∀ ty, (Instr.next (.pointer (some ⟨w.heap.size, 0, none⟩)) true ty).run Try.prog (w.iter s pos) = _ := fun ty => run_next_end w s pos ty hp
      go_wp2
      go_ret
      rw [HC.out, List.drop_eq_nil_of_le (by have := HN.out; omega), scan_nil]
      exact ⟨rfl, below_iter w s pos⟩
end Go.Proofs.Ytehjibbjkadoiaa
