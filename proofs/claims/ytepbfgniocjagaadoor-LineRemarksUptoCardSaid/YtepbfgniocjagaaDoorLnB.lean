/- line: Count; strings.Cut at a line feed: walks. -/
import Derived.Test.YtepbfgniocjagaaDoorSrT
import Derived.Test.YtepbfgniocjagaaDoorLnA
set_option linter.unusedVariables false
namespace Go.Proofs.YtepbfgniocjagaaDoor
open Go.RowKit
theorem is10 (c : UInt8) : (c == 10) = (c.toNat == 10) := by
  rw [Bool.eq_iff_iff]; simp only [beq_iff_eq]
  constructor
  · rintro rfl; rfl
  · intro h; rw [← b8_self c, h]; rfl
theorem cnt10 (l : List UInt8) : Lib.countByte l 10 = l.countP (fun c => c.toNat == 10) := by
  unfold Lib.countByte
  rw [List.count]
  congr 1; funext c; exact is10 c
set_option maxRecDepth 100000 in
set_option maxHeartbeats 1000000 in
theorem scount_any (s : ByteArray) (bs : List UInt8) (w : World) (hs : s.data.toList = bs) :
    Calls Tryd.prog 43 #[.string s, .string ⟨#[10]⟩] w fun e w' => e = .returned (.int .i64 (bs.countP (fun c => c.toNat == 10) : Nat)) ∧ w = w' := by
  have hx : ∀ h : 0 < (⟨#[10]⟩ : ByteArray).size, ((((⟨#[10]⟩ : ByteArray)[0]'h).toNat : Int)).toNat.toUInt8 = (10 : UInt8) := fun _ => rfl
  have HX := hid hx
  have HS := hid hs
  clear hx hs
  go_enter Tryd.func43, Tryd.ntmps43
  go_wp2
  rw [run_callFunc_extern Tryd.func72 (by kernel_rfl) (by kernel_rfl) (by kernel_rfl) (e := Extern.BytealgCount.count) (by kernel_rfl), Lib.run_countString, HX.out, HS.out, cnt10]
  simp only [Result.andThen]
  rw [Oper.upon_value]
  go_wp2
  go_ret
  exact ⟨rfl, rfl⟩
def sfx (bs : List UInt8) : Bool := decide (bs.getLast? = some 10)
set_option maxRecDepth 100000 in
set_option maxHeartbeats 1000000 in
theorem hsfx_any (s : ByteArray) (bs : List UInt8) (w : World) (hs : s.data.toList = bs) (hl : bs.length ≤ 9223372036854775807) :
    Calls Tryd.prog 44 #[.string s, .string ⟨#[10]⟩] w fun e w' => e = .returned (.bool (sfx bs)) ∧ w = w' := by
  have key : ∀ w, Calls Tryd.prog 74 #[.string s, .string ⟨#[10]⟩] w fun e w' => e = .returned (.bool (sfx bs)) ∧ w = w' := by
    intro w
    have hsz : s.size = bs.length := by rw [Lib.size_eq, hs]
    cases hn : bs.length with
    | zero =>
      rw [hn] at hsz
      have hb : bs = [] := List.eq_nil_of_length_eq_zero hn
      have HF := hid (show sfx bs = false from by rw [hb]; rfl)
      clear hs hn hb
      go_enter Tryd.func74, Tryd.ntmps74
      go_wp2
      go_ret
      exact ⟨ret_bool HF.out.symm, rfl⟩
    | succ m =>
      rw [hn] at hsz hl
      obtain ⟨a, c, hac, ham⟩ := snoc_of hn
      have hex := ext_one (s := s) (k := m) hs (by rw [hac, ← ham]; exact drop_last1 a c)
      have hsl := str_list hex
      have HF := hid (show sfx bs = ([c] == [10]) from by
        rw [hac, sfx, List.getLast?_append]
        show decide (some c = some 10) = _
        rw [Bool.eq_iff_iff]; simp)
      clear hs hn hac ham hex
      generalize hq : ([c] : List UInt8) = q at *
      go_enter Tryd.func74, Tryd.ntmps74
      go_wp2
      go_ret
      exact ⟨ret_bool (by first | exact HF.out.symm | (rw [HF.out]; simp)), rfl⟩
  have HK := hid key
  clear key hs
  go_enter Tryd.func44, Tryd.ntmps44
  go_wp2_with fail
  refine (HK.out _).mono ?_
  rintro e w1 ⟨rfl, rfl⟩
  go_wp2
  go_ret
  exact ⟨rfl, rfl⟩
set_option maxRecDepth 100000 in
set_option maxHeartbeats 1000000 in
theorem lcount_any (s : ByteArray) (bs : List UInt8) (w : World) (hs : s.data.toList = bs) (hl : bs.length ≤ 100000000) :
    Calls Tryd.prog 23 #[.string s] w fun e w' => e = .returned (.int .i64 (cntL bs : Nat)) ∧ w = w' := by
  have H1 := hid fun w => scount_any s bs w hs
  have H2 := hid fun w => hsfx_any s bs w hs (by omega)
  have hle : bs.countP (fun c => c.toNat == 10) ≤ bs.length := List.countP_le_length
  have hcn : cntL bs = bs.countP (fun c => c.toNat == 10) + if bs ≠ [] ∧ bs.getLast? ≠ some 10 then 1 else 0 := rfl
  cases bs with
  | nil =>
    obtain rfl := str_nil hs
    clear hs hle
    go_enter Tryd.func23, Tryd.ntmps23
    go_wp2_with fail
    refine (H1.out _).mono ?_
    rintro e w1 ⟨rfl, rfl⟩
    go_wp2_with fail
    go_ret
    exact ⟨rfl, rfl⟩
  | cons c r =>
    obtain ⟨h0, h1⟩ := str_ne0 hs
    clear hs
    have hsf : sfx (c :: r) = decide ((c :: r).getLast? = some 10) := rfl
    have HCN := hid hcn
    have HSF := hid hsf
    clear hcn hsf
    generalize (c :: r).countP (fun c => c.toNat == 10) = m at *
    generalize (c :: r).length = n at *
    by_cases hq : (c :: r).getLast? = some 10
    · rw [show sfx (c :: r) = true from by rw [HSF.out]; simpa using hq] at H2
      have HF := hid (show cntL (c :: r) = m from by rw [HCN.out, if_neg (by simp [hq])]; omega)
      clear hq
      go_enter Tryd.func23, Tryd.ntmps23
      go_wp2_with fail
      refine (H1.out _).mono ?_
      rintro e w1 ⟨rfl, rfl⟩
      go_wp2_with fail
      refine (H2.out _).mono ?_
      rintro e w1 ⟨rfl, rfl⟩
      go_wp2_with fail
      go_ret
      exact ⟨ret_int (by rw [HF.out]), rfl⟩
    · rw [show sfx (c :: r) = false from by rw [HSF.out]; simpa using hq] at H2
      have HF := hid (show cntL (c :: r) = m + 1 from by rw [HCN.out, if_pos ⟨by simp, hq⟩])
      clear hq
      go_enter Tryd.func23, Tryd.ntmps23
      go_wp2_with fail
      refine (H1.out _).mono ?_
      rintro e w1 ⟨rfl, rfl⟩
      go_wp2_with fail
      refine (H2.out _).mono ?_
      rintro e w1 ⟨rfl, rfl⟩
      go_wp2_with fail
      go_ret
      exact ⟨ret_int (by rw [HF.out]; omega), rfl⟩
/-- Where the first line feed is, and what lies on both sides. -/
theorem ix_ln (bs : List UInt8) : (Lib.indexByte bs 10 = -1 ∧ lnA bs = bs ∧ lnB bs = []) ∨ ∃ k : Nat, Lib.indexByte bs 10 = (k : Int) ∧ k < bs.length ∧ lnA bs = bs.take k ∧ lnB bs = bs.drop (k + 1) := by
  induction bs with
  | nil => left; exact ⟨rfl, rfl, rfl⟩
  | cons c r ih =>
    by_cases hc : c = 10
    · right
      subst hc
      exact ⟨0, by simp [Lib.indexByte], by simp, by rw [lnA, if_pos (by decide)] <;> rfl, by rw [lnB, if_pos (by decide)] <;> rfl⟩
    · have hcn : c.toNat ≠ 10 := fun h => hc (by rw [← b8_self c, h]; rfl)
      have hce : (c == 10) = false := by simpa using hc
      rcases ih with ⟨h1, h2, h3⟩ | ⟨k, h1, h2, h3, h4⟩
      · left
        refine ⟨?_, by rw [lnA, if_neg hcn, h2], by rw [lnB, if_neg hcn, h3]⟩
        simp [Lib.indexByte, hce, h1]
      · right
        refine ⟨k + 1, ?_, by simp; omega, by rw [lnA, if_neg hcn, h3]; rfl, by rw [lnB, if_neg hcn, h4]; rfl⟩
        have hk : ((k : Int) == -1) = false := by rw [beq_eq_false_iff_ne]; omega
        simp [Lib.indexByte, hce, h1, hk]
set_option maxRecDepth 100000 in
set_option maxHeartbeats 2000000 in
theorem ixln_any (s : ByteArray) (bs : List UInt8) (w : World) (hs : s.data.toList = bs) :
    Calls Tryd.prog 90 #[.string s, .string ⟨#[10]⟩] w fun e w' => e = .returned (.int .i64 (Lib.indexByte bs 10)) ∧ w = w' := by
  by_cases h : bs = [10]
  · have he : s = ⟨#[10]⟩ := str_ext hs (by rw [h])
    have HF := hid (show Lib.indexByte bs 10 = 0 from by rw [h]; rfl)
    subst he
    clear hs h
    go_enter Tryd.func90, Tryd.ntmps90
    go_wp2_with fail
    go_ret
    exact ⟨ret_int HF.out.symm, rfl⟩
  · have HC := hid fun w => ixlite_any s 10 10 w rfl
    rw [hs] at HC
    have hsl := str_list hs
    have hne : ([10] == s.toList) = false := by rw [hsl]; cases hq : ([10] == bs) with
      | false => rfl
      | true => exact absurd (by simpa using hq : [10] = bs).symm h
    clear hs hsl h
    generalize Lib.indexByte bs 10 = z at *
    go_enter Tryd.func90, Tryd.ntmps90
    go_wp2_with (go_at_call 100; refine (HC.out _).mono ?_; rintro e w1 ⟨rfl, rfl⟩)
    go_ret
    exact ⟨rfl, rfl⟩
set_option maxRecDepth 100000 in
set_option maxHeartbeats 2000000 in
theorem cutln_any (s : ByteArray) (bs : List UInt8) (w : World) (hs : s.data.toList = bs) (hl : bs.length ≤ 100000000) :
    Calls Tryd.prog 48 #[.string s, .string ⟨#[10]⟩] w fun e w' => ∃ (t u : ByteArray) (f : Bool), e = .returned (.tuple #[.string t, .string u, .bool f]) ∧ t.data.toList = lnA bs ∧ u.data.toList = lnB bs ∧ Below w.heap.size w w' := by
  have key : ∀ w, Calls Tryd.prog 77 #[.string s, .string ⟨#[10]⟩] w fun e w' => ∃ (t u : ByteArray) (f : Bool), e = .returned (.tuple #[.string t, .string u, .bool f]) ∧ t.data.toList = lnA bs ∧ u.data.toList = lnB bs ∧ Below w.heap.size w w' := by
    intro w
    have HI := hid fun w => ixln_any s bs w hs
    have hsz : s.size = bs.length := by rw [Lib.size_eq, hs]
    rcases ix_ln bs with ⟨h1, h2, h3⟩ | ⟨k, h1, h2, h3, h4⟩
    · rw [h1] at HI
      have H2 := hid (hs.trans h2.symm)
      have H3 := hid h3
      clear hs h1 h2 h3
      go_enter Tryd.func77, Tryd.ntmps77
      go_wp2_with fail
      refine (HI.out _).mono ?_
      rintro e w1 ⟨rfl, rfl⟩
      go_wp2_with fail
      go_ret3
      exact ⟨s, ⟨#[]⟩, false, rfl, H2.out, H3.out.symm, Below.refl _ _⟩
    · rw [h1] at HI
      have H2 := hid ((ext_take s bs k hs).trans h3.symm)
      have hlen : bs.length ≤ s.size := by omega
      have H3 := hid ((ext_drop s bs (k + 1) bs.length hs (Nat.le_refl _)).trans h4.symm)
      have hw : IntKind.i64.wrap ((k : Int) + 1) = (k : Int) + 1 := IntWalk.i64_in _ (by omega)
      have hw2 : ((k : Int) + 1).toNat = k + 1 := by omega
      have hk1 : 0 ≤ (k : Int) + 1 := by omega
      have hk2 : (k : Int) + 1 ≤ (bs.length : Int) := by omega
      have hk3 : (k : Int) ≤ (bs.length : Int) := by omega
      have hk4 : k + 1 ≤ bs.length := by omega
      have hk5 : k ≤ bs.length := by omega
      clear hs h1 h3 h4 hlen
      generalize bs.length = n at *
      go_enter Tryd.func77, Tryd.ntmps77
      go_wp2_with fail
      refine (HI.out _).mono ?_
      rintro e w1 ⟨rfl, rfl⟩
      go_wp2_with fail
      go_quiet (fail)
      go_wp2_with fail
      go_ret3
      exact ⟨_, _, true, rfl, H2.out, H3.out, bw_d (Below.refl _ _) _⟩
  have HK := hid key
  clear key hs
  go_enter Tryd.func48, Tryd.ntmps48
  go_wp2_with fail
  refine (HK.out _).mono ?_
  rintro e w1 ⟨t, u, f, rfl, ht, hu, hb⟩
  go_wp2_with fail
  go_ret3
  exact ⟨t, u, f, rfl, ht, hu, hb⟩
end Go.Proofs.YtepbfgniocjagaaDoor
