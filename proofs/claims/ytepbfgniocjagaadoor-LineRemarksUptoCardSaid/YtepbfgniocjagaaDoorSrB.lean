/- scalar: Plain, what closes quotes, Cut, Put's test, digits behind \x, signs: walks. -/
import Derived.Test.YtepbfgniocjagaaDoorProg
import Derived.Test.YtepbfgniocjagaaDoorM1
import Derived.Test.YtepbfgniocjagaaDoorSrMath
import Derived.Test.YtepbfgniocjagaaDoorSrA
import Derived.Test.YtepbfgniocjagaaDoorUt
import Derived.Lib.Walk
import Derived.WalkSmall
import Derived.Deep.QuietTactic
import Derived.BigQuiet
import Derived.IntWalk
set_option linter.unusedVariables false
namespace Go.Proofs.YtepbfgniocjagaaDoor
open Go.RowKit
theorem str_nil {s : ByteArray} (h : s.data.toList = []) : s = ⟨#[]⟩ := by
  cases s with | mk d => cases d with | mk l => simp at h; subst h; rfl
theorem str_ext {s t : ByteArray} {bs : List UInt8} (h : s.data.toList = bs) (k : t.data.toList = bs) : s = t := by
  cases s with | mk d => cases t with | mk e => cases d with | mk l => cases e with | mk m => simp at h k; rw [h, k]
theorem str_mk (s : ByteArray) (bs : List UInt8) (h : s.data.toList = bs) : s = ⟨bs.toArray⟩ := str_ext h (by simp)
theorem str_list {s : ByteArray} {bs : List UInt8} (h : s.data.toList = bs) : s.toList = bs := by rw [Lib.toList_data]; exact h
set_option maxRecDepth 100000 in
set_option maxHeartbeats 1000000 in
theorem sPlain_any (s : ByteArray) (bs : List UInt8) (w : World) (hs : s.data.toList = bs) (hl : bs.length ≤ 9223372036854775807) :
    Calls Tryd.prog 95 #[.string s] w fun e w' => e = .returned (.bool (plB bs)) ∧ w = w' := by
  have HC := hid fun w => splain_any s bs w hs hl
  cases bs with
  | nil =>
    obtain rfl := str_nil hs
    clear hs
    go_enter Tryd.func95, Tryd.ntmps95
    go_wp2_with fail
    go_ret
    exact ⟨ret_bool (by simp [plB]), rfl⟩
  | cons c r =>
    have hsz : s.size = (c :: r).length := by rw [← hs]; simp
    have hsl := str_list hs
    have h0 : s.toList.isEmpty = false := by rw [hsl]; rfl
    have h1 : (s.toList == []) = false := by rw [hsl]; rfl
    have hp : plB (c :: r) = decide ((plF 0 (c :: r) : Int) = ((c :: r).length : Int)) := by
      simp only [plB]; rw [decide_eq_decide]; constructor
      · intro h; rw [h.2]
      · intro h; exact ⟨by simp, by omega⟩
    have HP := hid hp
    clear hp hs hsl
    generalize (c :: r).length = n at *
    generalize plF 0 (c :: r) = m at *
    go_enter Tryd.func95, Tryd.ntmps95
    go_wp2_with (go_at_call 93; refine (HC.out _).mono ?_; rintro e w1 ⟨rfl, rfl⟩)
    go_ret
    exact ⟨ret_bool (by first | exact HP.out.symm | (rw [HP.out]; simp) | (rw [HP.out, Bool.eq_iff_iff]; simp)), rfl⟩
theorem clF_tk {i : Nat} {c : UInt8} {r : List UInt8} : clF true i (c :: r) = clF false (i + 1) r := by rw [clF, if_pos rfl]
theorem clF_34 {i : Nat} {c : UInt8} {r : List UInt8} (h : c.toNat = 34) : clF false i (c :: r) = i + 2 := by rw [clF, if_neg (by simp), if_pos h]
theorem clF_no {i : Nat} {c : UInt8} {r : List UInt8} (h : c.toNat ≠ 34) : clF false i (c :: r) = clF (decide (c.toNat = 92)) (i + 1) r := by rw [clF, if_neg (by simp), if_neg h]
theorem clF_nil (tk : Bool) (i : Nat) : clF tk i [] = 0 := by rw [clF]
set_option maxRecDepth 100000 in
set_option maxHeartbeats 2000000 in
theorem closed_any (s : ByteArray) (d : UInt8) (bs : List UInt8) (w : World) (hs : s.data.toList = d :: bs) (hl : bs.length < 9223372036854775807) :
    Calls Tryd.prog 94 #[.string s] w fun e w' => e = .returned (.int .i64 (clF false 0 bs : Nat)) ∧ w = w' := by
  have hsz : s.size = bs.length + 1 := by rw [Lib.size_eq, hs]; simp
  have hbl : (s.extract 1 s.size).data.toList = bs := by rw [ext_drop s (d :: bs) 1 s.size hs (by simp; omega)]; rfl
  have hbz : (s.extract 1 s.size).size = bs.length := by rw [Lib.size_eq, hbl]
  have HBL := hid hbl
  clear hbl hs
  generalize hn : bs.length = n at *
  have HN := hid hn
  clear hn
  generalize hb : s.extract 1 s.size = b at *
  rw [hsz] at hb
  go_enter Tryd.func94, Tryd.ntmps94
  go_wp2
  go_loop [4, 5, 6, 11] (fun t _ _ i => ∃ (k : Nat) (tk : Bool), k ≤ n ∧ t = .bool tk ∧ i = .int .i64 (k : Int) ∧ clF false 0 bs = clF tk k (bs.drop k)) (fun _ _ _ i => n - (intOf i).toNat)
  case atStart => exact ⟨0, false, by omega, rfl, rfl, by simp⟩
  case round =>
    obtain ⟨k, tk, hk, rfl, rfl, hsc⟩ := hrel
    have HC := hid hsc
    clear hsc
    by_cases hlt : k < n
    · obtain ⟨c, r, hd⟩ := str_cons HN.out hlt
      obtain ⟨hi, hg⟩ := str_at HBL.out hd
      have hx := c.toNat_lt
      have hdn := drop_next hd
      have h34 := @clF_34 k c r
      have hno := @clF_no k c r
      have htk := @clF_tk k c r
      generalize c.toNat = x at *
      have HD := hid hd
      have HDN := hid hdn
      have H34 := hid h34
      have HNO := hid hno
      have HTK := hid htk
      clear hd hdn h34 hno htk
      cases tk with
      | true =>
        go_wp2
        go_round
        case rel => exact ⟨k + 1, false, by omega, rfl, by go_num, by rw [HC.out, HD.out, HTK.out, HDN.out]⟩
        case measure => simp [intOf] <;> omega
      | false =>
        by_cases h : x = 34
        · have HX := hid h
          subst h
          go_wp2
          go_ret
          exact ⟨ret_int (by rw [HC.out, HD.out, H34.out (by first | trivial | rfl)]; omega), rfl⟩
        · have q : ((x : Int) == 34) = false := by simp; omega
          by_cases h2 : x = 92
          · subst h2
            go_wp2
            go_round
            case rel => exact ⟨k + 1, true, by omega, rfl, by go_num, by rw [HC.out, HD.out, HNO.out (by first | trivial | decide), HDN.out]; rfl⟩
            case measure => simp [intOf] <;> omega
          · have q2 : ((x : Int) == 92) = false := by simp; omega
            go_wp2
            go_round
            case rel => exact ⟨k + 1, false, by omega, rfl, by go_num, by rw [HC.out, HD.out, HNO.out h, HDN.out, show decide (x = 92) = false from by simp [h2]]⟩
            case measure => simp [intOf] <;> omega
    · go_wp2
      go_ret
      exact ⟨ret_int (by rw [HC.out, List.drop_eq_nil_of_le (by have := HN.out; omega), clF_nil]; rfl), rfl⟩
def cutE (n : Nat) : Int := if n = 0 then 3 else 0
theorem pre_34 (c : UInt8) (r : List UInt8) : List.isPrefixOf [34] (c :: r) = decide (c.toNat = 34) := by
  rw [List.isPrefixOf, List.isPrefixOf, Bool.and_true, Bool.eq_iff_iff]
  simp only [beq_iff_eq, decide_eq_true_eq]
  constructor
  · rintro rfl; rfl
  · intro h; rw [← b8_self c, h]; rfl
set_option maxRecDepth 100000 in
set_option maxHeartbeats 1000000 in
theorem sCut_any (s : ByteArray) (bs : List UInt8) (w : World) (hs : s.data.toList = bs) (hl : bs.length ≤ 9223372036854775807) :
    Calls Tryd.prog 83 #[.string s] w fun e w' => e = .returned (.tuple #[.int .i64 (cutN bs : Nat), .int .i64 (cutE (cutN bs))]) ∧ w = w' := by
  have HP := hid fun w => splain_any s bs w hs hl
  have hpre := fun w => prefix_any s ⟨#[34]⟩ w
  rw [hs] at hpre
  cases bs with
  | nil =>
    rw [show (⟨#[34]⟩ : ByteArray).data.toList.isPrefixOf [] = false from rfl] at hpre
    have HPRE := hid hpre
    clear hpre hs
    rw [show plF 0 [] = 0 from rfl] at HP
    go_enter Tryd.func83, Tryd.ntmps83
    go_wp2_with (first | (go_at_call 93; refine (HP.out _).mono ?_; rintro e w1 ⟨rfl, rfl⟩) | (go_at_call 46; refine (HPRE.out _).mono ?_; rintro e w1 ⟨rfl, rfl⟩))
    go_ret2
    exact ⟨rfl, rfl⟩
  | cons c r =>
    have HCL := hid fun w => closed_any s c r w hs (by simp at hl; omega)
    rw [show (⟨#[34]⟩ : ByteArray).data.toList.isPrefixOf (c :: r) = decide (c.toNat = 34) from pre_34 c r] at hpre
    have hle1 := plF_le 0 (c :: r)
    have hle2 := clF_le false 0 r
    simp only [List.length_cons] at hle1 hl
    clear hs
    by_cases h : c.toNat = 34
    · have hc : cutN (c :: r) = clF false 0 r := by rw [cutN, if_pos h]
      rw [show decide (c.toNat = 34) = true from by simp [h]] at hpre
      have HPRE := hid hpre
      have HCN := hid hc
      clear hpre hc
      generalize plF 0 (c :: r) = p at *
      generalize clF false 0 r = m at *
      generalize cutN (c :: r) = q at *
      obtain rfl := HCN.out
      by_cases h0 : q = 0
      · subst h0
        go_enter Tryd.func83, Tryd.ntmps83
        go_wp2_with (first | (go_at_call 93; refine (HP.out _).mono ?_; rintro e w1 ⟨rfl, rfl⟩) | (go_at_call 46; refine (HPRE.out _).mono ?_; rintro e w1 ⟨rfl, rfl⟩) | (go_at_call 94; refine (HCL.out _).mono ?_; rintro e w1 ⟨rfl, rfl⟩))
        go_ret2
        exact ⟨rfl, rfl⟩
      · have t0 : ((q : Int) == 0) = false := by simp; omega
        go_enter Tryd.func83, Tryd.ntmps83
        go_wp2_with (first | (go_at_call 93; refine (HP.out _).mono ?_; rintro e w1 ⟨rfl, rfl⟩) | (go_at_call 46; refine (HPRE.out _).mono ?_; rintro e w1 ⟨rfl, rfl⟩) | (go_at_call 94; refine (HCL.out _).mono ?_; rintro e w1 ⟨rfl, rfl⟩))
        go_ret2
        exact ⟨by rw [cutE, if_neg h0]; rfl, rfl⟩
    · have hc : cutN (c :: r) = plF 0 (c :: r) := by rw [cutN, if_neg h]
      rw [show decide (c.toNat = 34) = false from by simp [h]] at hpre
      have HPRE := hid hpre
      have HCN := hid hc
      clear hpre hc
      generalize plF 0 (c :: r) = p at *
      generalize cutN (c :: r) = q at *
      obtain rfl := HCN.out
      by_cases h0 : q = 0
      · subst h0
        go_enter Tryd.func83, Tryd.ntmps83
        go_wp2_with (first | (go_at_call 93; refine (HP.out _).mono ?_; rintro e w1 ⟨rfl, rfl⟩) | (go_at_call 46; refine (HPRE.out _).mono ?_; rintro e w1 ⟨rfl, rfl⟩))
        go_ret2
        exact ⟨rfl, rfl⟩
      · have t0 : ((q : Int) == 0) = false := by simp; omega
        go_enter Tryd.func83, Tryd.ntmps83
        go_wp2_with (first | (go_at_call 93; refine (HP.out _).mono ?_; rintro e w1 ⟨rfl, rfl⟩) | (go_at_call 46; refine (HPRE.out _).mono ?_; rintro e w1 ⟨rfl, rfl⟩))
        go_ret2
        exact ⟨by rw [cutE, if_neg h0]; rfl, rfl⟩
set_option maxRecDepth 100000 in
set_option maxHeartbeats 2000000 in
theorem told_any (s : ByteArray) (c d : UInt8) (q : List UInt8) (w : World) (hs : s.data.toList = c :: d :: q) (hl : q.length < 9223372036854770000) :
    Calls Tryd.prog 111 #[.string s] w fun e w' => e = .returned (.tuple #[.int .u8 ((tdF q).1 : Nat), .int .i64 ((tdF q).2 : Nat)]) ∧ Below w.heap.size w w' := by
  have hsz : s.size = q.length + 2 := by rw [Lib.size_eq, hs]; simp
  match q, hs, hl, hsz with
  | [], hs, hl, hsz =>
    have hz : s.size = 2 := by simpa using hsz
    clear hs hsz
    go_enter Tryd.func111, Tryd.ntmps111
    go_wp2_with fail
    go_ret2
    exact ⟨rfl, Below.refl _ _⟩
  | [a], hs, hl, hsz =>
    have hz : s.size = 3 := by simpa using hsz
    clear hs hsz
    go_enter Tryd.func111, Tryd.ntmps111
    go_wp2_with fail
    go_ret2
    exact ⟨rfl, Below.refl _ _⟩
  | a :: b :: q, hs, hl, hsz =>
    obtain ⟨hi2, hg2⟩ := str_at (k := 2) (c := a) (r := b :: q) hs rfl
    obtain ⟨hi3, hg3⟩ := str_at (k := 3) (c := b) (r := q) hs rfl
    have hz : s.size = q.length + 4 := by simpa using hsz
    have hq : q.length < 9223372036854770000 := by simp at hl; omega
    clear hs hsz hl
    have hA : ∀ w, Calls Tryd.prog 104 #[.string ⟨#[48, 49, 50, 51, 52, 53, 54, 55, 56, 57, 97, 98, 99, 100, 101, 102]⟩, .int .u8 (a.toNat : Int)] w fun e w' => e = .returned (.int .i64 (match hxN a.toNat with | some a => (a : Int) | none => -1)) ∧ w' = w := fun w => (ixb_any _ a a.toNat w rfl).mono (by rintro e w1 ⟨rfl, rfl⟩; exact ⟨congrArg (fun z => Ending.returned (.int .i64 z)) (ix_hex' rfl), rfl⟩)
    have hB : ∀ w, Calls Tryd.prog 104 #[.string ⟨#[48, 49, 50, 51, 52, 53, 54, 55, 56, 57, 97, 98, 99, 100, 101, 102]⟩, .int .u8 (b.toNat : Int)] w fun e w' => e = .returned (.int .i64 (match hxN b.toNat with | some a => (a : Int) | none => -1)) ∧ w' = w := fun w => (ixb_any _ b b.toNat w rfl).mono (by rintro e w1 ⟨rfl, rfl⟩; exact ⟨congrArg (fun z => Ending.returned (.int .i64 z)) (ix_hex' rfl), rfl⟩)
    have hla := @hxN_lt a.toNat
    have hlb := @hxN_lt b.toNat
    have htd : tdF (a :: b :: q) = (match hxN a.toNat, hxN b.toNat with | some a, some b => if a < 8 then (16 * a + b, 4) else (0, 0) | _, _ => (0, 0)) := rfl
    rw [htd]
    clear htd
    generalize hxN a.toNat = fa at *
    generalize hxN b.toNat = fb at *
    have hax := a.toNat_lt
    have hbx := b.toNat_lt
    generalize a.toNat = xa at *
    generalize b.toNat = xb at *
    have hab : ∀ (w : World) (v : Int) (f : Option Nat), True := fun _ _ _ => trivial
    clear hab
    cases fa with
    | none =>
      have HA := hid hA
      have HB := hid hB
      clear hA hB hla hlb
      cases fb with
      | none =>
        go_enter Tryd.func111, Tryd.ntmps111
        go_wp2_with fail
        go_quiet ((first | (go_at_call 104; exact Calls.quiet_of_same (HA.out _)) | (go_at_call 104; exact Calls.quiet_of_same (HB.out _))))
        go_wp2_with fail
        go_ret2
        exact ⟨rfl, bw_d (Below.refl _ _) _⟩
      | some j =>
        go_enter Tryd.func111, Tryd.ntmps111
        go_wp2_with fail
        go_quiet ((first | (go_at_call 104; exact Calls.quiet_of_same (HA.out _)) | (go_at_call 104; exact Calls.quiet_of_same (HB.out _))))
        go_wp2_with fail
        go_ret2
        exact ⟨rfl, bw_d (Below.refl _ _) _⟩
    | some i =>
      have hi := (hla rfl).1
      cases fb with
      | none =>
        have HA := hid hA
        have HB := hid hB
        clear hA hB hla hlb
        by_cases h8 : i < 8
        all_goals
          go_enter Tryd.func111, Tryd.ntmps111
          go_wp2_with fail
          go_quiet ((first | (go_at_call 104; exact Calls.quiet_of_same (HA.out _)) | (go_at_call 104; exact Calls.quiet_of_same (HB.out _))))
          go_wp2_with fail
          go_ret2
          exact ⟨rfl, bw_d (Below.refl _ _) _⟩
      | some j =>
        have hj := (hlb rfl).1
        have HA := hid hA
        have HB := hid hB
        clear hA hB hla hlb
        by_cases h8 : i < 8
        · have hw1 : IntKind.i64.wrap ((i : Int) * 16) = (i : Int) * 16 := IntWalk.i64_in _ (by omega)
          have hw2 : IntKind.u8.wrap ((i : Int) * 16 + (j : Int)) = (i : Int) * 16 + (j : Int) := IntWalk.u8_in _ (by omega)
          go_enter Tryd.func111, Tryd.ntmps111
          go_wp2_with fail
          go_quiet ((first | (go_at_call 104; exact Calls.quiet_of_same (HA.out _)) | (go_at_call 104; exact Calls.quiet_of_same (HB.out _))))
          go_wp2_with fail
          go_ret2
          exact ⟨by dsimp only; push_cast; rw [Int.mul_comm 16]; rfl, bw_d (Below.refl _ _) _⟩
        · go_enter Tryd.func111, Tryd.ntmps111
          go_wp2_with fail
          go_quiet ((first | (go_at_call 104; exact Calls.quiet_of_same (HA.out _)) | (go_at_call 104; exact Calls.quiet_of_same (HB.out _))))
          go_wp2_with fail
          go_ret2
          exact ⟨by rfl, bw_d (Below.refl _ _) _⟩
end Go.Proofs.YtepbfgniocjagaaDoor
