/- scalar: unquoted, Read: walks. -/
import Derived.Test.YtihkjopplmdkkaaDoorProg
import Derived.Test.YtihkjopplmdkkaaDoorM1
import Derived.Test.YtihkjopplmdkkaaDoorSrMath
import Derived.Test.YtihkjopplmdkkaaDoorSrA
import Derived.Test.YtihkjopplmdkkaaDoorSrB
import Derived.Test.YtihkjopplmdkkaaDoorSrC
import Derived.Test.YtihkjopplmdkkaaDoorSrD
import Derived.Test.YtihkjopplmdkkaaDoorUt
import Derived.Lib.Walk
import Derived.WalkSmall
import Derived.IntWalk
set_option linter.unusedVariables false
namespace Go.Proofs.YtihkjopplmdkkaaDoor
open Go.RowKit
/-- Within quotes: what stands between a first and a last quote, if there are both. -/
def unQ (bs : List UInt8) : Option (List UInt8) := if 2 ≤ bs.length ∧ bs.head? = some 34 ∧ bs.getLast? = some 34 then unF ((bs.drop 1).dropLast) else none
theorem ext_mid (s : ByteArray) (bs : List UInt8) (n : Nat) (hs : s.data.toList = bs) (hn : bs.length = n) : (s.extract 1 (n - 1)).data.toList = (bs.drop 1).dropLast := by
  subst hs
  simp only [ByteArray.data_extract, Array.toList_extract, List.extract_eq_take_drop, List.dropLast_eq_take, List.length_drop, hn]
theorem unF_len (k : Nat) (bs out : List UInt8) (hk : bs.length ≤ k) (h : unF bs = some out) : out.length ≤ bs.length := by
  induction k generalizing bs out with
  | zero =>
    have : bs = [] := List.eq_nil_of_length_eq_zero (by omega)
    subst this; rw [unF_nil] at h; injection h with h; subst h; simp
  | succ k ih =>
    cases bs with
    | nil => rw [unF_nil] at h; injection h with h; subst h; simp
    | cons c r =>
      by_cases h0 : (sgF (c :: r)).2 = 0
      · rw [unF_bad h0] at h; cases h
      · rw [unF_more h0] at h
        obtain ⟨o, ho, rfl⟩ := Option.map_eq_some_iff.1 h
        have hl : ((c :: r).drop (sgF (c :: r)).2).length ≤ r.length := by rw [List.length_drop]; simp; omega
        have := ih _ o (by simp only [List.length_cons] at hk; omega) ho
        simp; omega
theorem drop_lastS {l : List UInt8} {x : UInt8} (h : l.getLast? = some x) : l.drop (l.length - 1) = [x] := by
  rw [List.getLast?_eq_getElem?] at h
  obtain ⟨hk, he⟩ := List.getElem?_eq_some_iff.1 h
  rw [List.drop_eq_getElem_cons hk, he, List.drop_eq_nil_of_le (by omega)]
def okB (o : Option (List UInt8)) : Bool := o.isSome
set_option maxRecDepth 100000 in
set_option maxHeartbeats 4000000 in
theorem unq_any (s : ByteArray) (bs : List UInt8) (w : World) (hs : s.data.toList = bs) (hl : bs.length ≤ 100000) :
    Calls Tryd.prog 48 #[.string s] w fun e w' => ∃ t : ByteArray, e = .returned (.tuple #[.string t, .bool (okB (unQ bs))]) ∧ t.data.toList = (unQ bs).getD [] ∧ Below w.heap.size w w' := by
  obtain ⟨i0, hi0, hz0, hz1, hz2⟩ := info_parts Tryd.info5
  have hsz : s.size = bs.length := by rw [Lib.size_eq, hs]
  by_cases g1 : bs.length < 2
  · have hu : unQ bs = none := by rw [unQ, if_neg (by omega)]
    rw [hu]
    clear hu hs
    have q1 : decide (bs.length < 2) = true := by simpa using g1
    generalize bs.length = n at *
    go_enter Tryd.func48, Tryd.ntmps48
    go_wp2
    go_ret2
    exact ⟨⟨#[]⟩, rfl, rfl, Below.refl _ _⟩
  have q1 : decide (bs.length < 2) = false := by simp; omega
  obtain ⟨c, r, rfl⟩ : ∃ c r, bs = c :: r := by cases bs with | nil => simp at g1 | cons c r => exact ⟨c, r, rfl⟩
  obtain ⟨hi, hg⟩ := str_at (k := 0) hs rfl
  by_cases g2 : ¬ c.toNat = 34
  · have hu : unQ (c :: r) = none := by
      rw [unQ, if_neg]; rintro ⟨-, h, -⟩
      simp at h; exact g2 (by rw [h]; rfl)
    rw [hu]
    clear hu hs
    have hcl := c.toNat_lt
    generalize c.toNat = x at *
    have q2 : ((x : Int) == 34) = false := by simp; omega
    have q3 : ((x : Int) != 34) = true := by simp; omega
    generalize (c :: r).length = n at *
    go_enter Tryd.func48, Tryd.ntmps48
    go_wp2
    go_ret2
    exact ⟨⟨#[]⟩, rfl, rfl, Below.refl _ _⟩
  have g2 : c.toNat = 34 := by omega
  rw [g2] at hg
  obtain ⟨l, hlst⟩ : ∃ l, (c :: r).getLast? = some l := by cases h : (c :: r).getLast? with | none => simp at h | some l => exact ⟨l, rfl⟩
  obtain ⟨hi2, hg3⟩ : ∃ h : (c :: r).length - 1 < s.size, ((s[(c :: r).length - 1]'h).toNat : Int) = (l.toNat : Int) := by
    exact str_at (r := []) hs (drop_lastS hlst)
  by_cases g3 : ¬ l.toNat = 34
  · have hu : unQ (c :: r) = none := by
      rw [unQ, if_neg]; rintro ⟨-, -, h⟩
      rw [hlst] at h; injection h with h; exact g3 (by rw [h]; rfl)
    rw [hu]
    clear hu hs
    have hcl := l.toNat_lt
    generalize l.toNat = x at *
    have q2 : ((x : Int) == 34) = false := by simp; omega
    have q3 : ((x : Int) != 34) = true := by simp; omega
    generalize (c :: r).length = n at *
    go_enter Tryd.func48, Tryd.ntmps48
    go_wp2
    go_ret2
    exact ⟨⟨#[]⟩, rfl, rfl, Below.refl _ _⟩
  have g3 : l.toNat = 34 := by omega
  rw [g3] at hg3
  have hu : unQ (c :: r) = unF (((c :: r).drop 1).dropLast) := by
    rw [unQ, if_pos ⟨by omega, by simp; rw [← b8_self c, g2]; rfl, by rw [hlst, ← b8_self l, g3]; rfl⟩]
  rw [hu]
  have hbl := ext_mid s (c :: r) _ hs rfl
  generalize hin : ((c :: r).drop 1).dropLast = ins at *
  have hinl : ins.length = (c :: r).length - 2 := by rw [← hin]; simp
  have hbz : (s.extract 1 ((c :: r).length - 1)).size = ins.length := by rw [Lib.size_eq, hbl]
  clear hu hin hlst hs g2 g3
  generalize (c :: r).length = n0 at *
  have HBL := hid hbl
  clear hbl
  generalize hn : ins.length = n at *
  have HN := hid hn
  clear hn
  obtain ⟨b, hb⟩ : ∃ b, s.extract 1 (n0 - 1) = b := ⟨_, rfl⟩
  rw [hb] at hbz HBL
  have hn0 : n0 = n + 2 := by omega
  subst hn0
  obtain ⟨hi4, hg4⟩ : ∃ h : n + 1 < s.size, ((s[n + 1]'h).toNat : Int) = 34 := ⟨hi2, hg3⟩
  have hb' : s.extract 1 (n + 1) = b := hb
  have q1' : decide ((n : Int) + 2 < 2) = false := by simp; omega
  have q3' : (n : Int) + 2 - 1 = (n : Int) + 1 := by omega
  clear q1 g1
  clear hg3 hi2 hinl
  go_enter Tryd.func48, Tryd.ntmps48
  go_wp2
  go_loopw [4, 5, 6, 7, 8, 32] (fun v nx _ _ _ i wr => ∃ (k m : Nat) (out : List UInt8), k ≤ n ∧ k ≤ m ∧ m ≤ n ∧ out.length ≤ m ∧ nx = .int .i64 (m : Int) ∧ i = .int .i64 (k : Int) ∧ wr.ownsRow w.heap.size 5 1 v out.length (out.map bv) ∧ Below w.heap.size w wr ∧ unF ins = (unF (ins.drop m)).map (out ++ ·)) (fun _ _ _ _ _ i _ => n - (intOf i).toNat)
  case atStart => exact ⟨0, 0, [], by omega, by omega, by omega, by simp, rfl, rfl, World.ownsRow_nil _ _ _ _, Below.refl _ _, by simp⟩
  case round =>
    obtain ⟨k, m, out, hk, hkm, hmn, hol, rfl, rfl, hrow, hbr, hun⟩ := hrel
    have hszr := hbr.size
    have HU := hid hun
    have HR := hid hrow
    clear hun hrow
    by_cases hlt : k < n
    · by_cases hskip : k < m
      · go_wp2
        go_roundw
        case rel => exact ⟨k + 1, m, out, by omega, by omega, hmn, hol, rfl, by go_num, HR.out, hbr, HU.out⟩
        case measure => simp [intOf] <;> omega
      · obtain rfl : k = m := by omega
        obtain ⟨d, q, hd⟩ := str_cons HN.out hlt
        have hbk : (b.extract k n).data.toList = d :: q := by rw [ext_drop b ins k n HBL.out (Nat.le_of_eq HN.out), hd]
        have hql : ins.length = k + 1 + q.length := by have := congrArg List.length hd; simp at this; have := HN.out; omega
        have hsg := fun w' => sign_any (b.extract k n) d q w' hbk (by have := HN.out; omega)
        have hle := sgF_le (d :: q)
        have hbad := @unF_bad d q
        have hmore := @unF_more d q
        generalize hsf : sgF (d :: q) = sf at *
        obtain ⟨y, z⟩ := sf
        simp only at hsg hle hbad hmore
        simp only [List.length_cons] at hle
        have hqn : k + 1 + q.length = n := by have := HN.out; omega
        have HD := hid hd
        have HSG := hid hsg
        have HBAD := hid hbad
        have HMORE := hid hmore
        clear hd hbk hsg hbad hmore hsf hql
        by_cases hzz : z = 0
        · subst hzz
          go_wp2_with fail
          (with_reducible refine (HSG.out _).mono ?_)
          rintro e w1 ⟨rfl, hb1⟩
          go_wp2
          go_ret2
          exact ⟨⟨#[]⟩, by rw [HU.out, HD.out, HBAD.out (by first | trivial | rfl)]; rfl, by rw [HU.out, HD.out, HBAD.out (by first | trivial | rfl)]; rfl, hbr.trans (hb1.mono hszr)⟩
        · have t0 : ((z : Int) == 0) = false := by simp; omega
          have hy : (Value.int .u8 (y : Int)) = bv (b8 y) := (bv_b8 y hle.2).symm
          have HY := hid hy
          clear hy
          go_wp2_with fail
          (with_reducible refine (HSG.out _).mono ?_)
          rintro e w1 ⟨rfl, hb1⟩
          have hsz1 := hb1.size
          have HR1 := hid (own_below HR.out hb1)
          go_wp2_with (at_builtin; refine wpList_append_rd rfl (.tmp 47) (.tmp 49) 51 rfl w.heap.size 5 i0 (.int .u8 0) 1 1 Tryd.underlying51 hi0 hz0 hz1 hz2 rfl (by decide) _ _ _ rfl (HR1.out.alloc _) (some ⟨w1.heap.size, 0, none⟩) 1 1 [.int .u8 (y : Int)] rfl rfl (Rd.new w1 5 #[.int .u8 (y : Int)]) (fun h => by cases h) (by simp [Value.oneCell']) (by simp only [maxLen]; omega) (by omega) (by simp; omega) ?_; intro v2 w2 hown2 hgrow2)
          have HO := hid hown2
          have hb2 : Below w.heap.size w w2 := (hbr.trans (hb1.mono hszr)).trans (bw_new (Nat.le_trans hszr hsz1) HR1.out hgrow2)
          clear hown2 hgrow2
          go_wp2
          go_roundw
          case rel =>
            refine ⟨k + 1, k + z, out ++ [b8 y], by omega, by omega, by omega, by simp; omega, by go_num, by go_num, ?_, hb2, ?_⟩
            · have h := HO.out
              rw [HY.out] at h
              simpa using h
            · rw [HU.out, HD.out, HMORE.out hzz, ← HD.out, List.drop_drop, Option.map_map]
              congr 1; funext x; simp
          case measure => simp [intOf] <;> omega
    · obtain rfl : k = n := by omega
      obtain rfl : m = k := by omega
      have hfin : unF ins = some out := by rw [HU.out, List.drop_eq_nil_of_le (by have := HN.out; omega), unF_nil]; simp
      have HF := hid hfin
      clear hfin
      obtain ⟨t, ht1, ht2⟩ := conv_ow (P := Tryd.prog) HR.out Tryd.underlying51 Tryd.underlying5 Tryd.underlying9
      have HT := hid ht1
      clear ht1
      go_wp2
      go_ret2
      exact ⟨t, by rw [HF.out]; rfl, by rw [HF.out, HT.out]; rfl, hbr⟩
def rdO (bs : List UInt8) : Option (List UInt8) := if plB bs = true then some bs else unQ bs
/-- What Read tells: the error, and the text. -/
def rdE (bs : List UInt8) : Int := match rdO bs with | none => 3 | some t => checkI t.length (scan t 0).2 4096
def rdT (bs : List UInt8) : List UInt8 := match rdO bs with | none => [] | some t => if checkI t.length (scan t 0).2 4096 = 0 then t else []
set_option maxRecDepth 100000 in
set_option maxHeartbeats 2000000 in
theorem sRead_any (s : ByteArray) (bs : List UInt8) (w : World) (hs : s.data.toList = bs) (hl : bs.length ≤ 100000) :
    Calls Tryd.prog 21 #[.string s] w fun e w' => ∃ t : ByteArray, e = .returned (.tuple #[.string t, .int .i64 (rdE bs)]) ∧ t.data.toList = rdT bs ∧ Below w.heap.size w w' := by
  have HP := hid fun w => sPlain_any s bs w hs (by omega)
  have HQ := hid fun w => unq_any s bs w hs hl
  have HS := hid hs
  have hro : rdO bs = if plB bs = true then some bs else unQ bs := rfl
  have hrE : rdE bs = match rdO bs with | none => 3 | some t => checkI t.length (scan t 0).2 4096 := rfl
  have hrT : rdT bs = match rdO bs with | none => [] | some t => if checkI t.length (scan t 0).2 4096 = 0 then t else [] := rfl
  generalize rdE bs = E at *
  generalize rdT bs = T at *
  generalize rdO bs = O at *
  have hul : ∀ t, unQ bs = some t → t.length ≤ bs.length := by
    intro t h
    unfold unQ at h; split at h
    · have := unF_len _ _ _ (Nat.le_refl _) h; simp at this; omega
    · cases h
  generalize plB bs = p at *
  generalize unQ bs = u at *
  clear hs
  cases p with
  | true =>
    rw [if_pos rfl] at hro
    have hro' := hro.symm
    subst hro'
    simp only at hrE hrT
    have HC := hid fun w => check_any s bs 4096 w HS.out (by omega) (by omega) (by omega)
    generalize checkI bs.length (scan bs 0).2 4096 = ch at *
    have hrE' := hrE.symm
    subst hrE'
    by_cases h0 : ch = 0
    · rw [if_pos h0] at hrT
      subst h0
      have HT := hid hrT
      clear hrT
      go_enter Tryd.func21, Tryd.ntmps21
      go_wp2_with (first | (go_at_call 25; refine (HP.out _).mono ?_; rintro e w1 ⟨rfl, rfl⟩) | (go_at_call 31; refine (HC.out _).mono ?_; rintro e w1 ⟨rfl, hb1⟩))
      go_ret2
      exact ⟨s, rfl, by rw [HS.out, HT.out], hb1⟩
    · rw [if_neg h0] at hrT
      have t0 : (ch == 0) = false := by simpa using h0
      have t1 : (ch != 0) = true := by simpa using h0
      have HT := hid hrT
      clear hrT
      go_enter Tryd.func21, Tryd.ntmps21
      go_wp2_with (first | (go_at_call 25; refine (HP.out _).mono ?_; rintro e w1 ⟨rfl, rfl⟩) | (go_at_call 31; refine (HC.out _).mono ?_; rintro e w1 ⟨rfl, hb1⟩))
      go_ret2
      exact ⟨⟨#[]⟩, rfl, HT.out.symm, hb1⟩
  | false =>
    rw [if_neg (by simp)] at hro
    have hro' := hro.symm
    subst hro'
    cases u with
    | none =>
      simp only at hrE hrT
      subst hrE
      have HT := hid hrT
      clear hrT
      go_enter Tryd.func21, Tryd.ntmps21
      go_wp2_with (first | (go_at_call 25; refine (HP.out _).mono ?_; rintro e w1 ⟨rfl, rfl⟩) | (go_at_call 48; refine (HQ.out _).mono ?_; rintro e w1 ⟨t, rfl, ht, hb1⟩; simp only [okB, Option.isSome_none]))
      go_ret2
      exact ⟨⟨#[]⟩, rfl, HT.out.symm, hb1⟩
    | some t0 =>
      simp only at hrE hrT
      have hul0 := hul t0 rfl
      have HC := hid fun t w ht => check_any t t0 4096 w ht (by omega) (by omega) (by omega)
      generalize checkI t0.length (scan t0 0).2 4096 = ch at *
      have hrE' := hrE.symm
      subst hrE'
      by_cases h0 : ch = 0
      · rw [if_pos h0] at hrT
        subst h0
        have HT := hid hrT
        clear hrT hul
        go_enter Tryd.func21, Tryd.ntmps21
        go_wp2_with (go_at_call 25; refine (HP.out _).mono ?_; rintro e w1 ⟨rfl, rfl⟩)
        refine (HQ.out _).mono ?_
        rintro e w1 ⟨t, rfl, ht, hb1⟩
        simp only [okB, Option.isSome_some]
        have HTT := hid (show t.data.toList = t0 from ht)
        clear ht
        go_wp2_with (go_at_call 31; refine (HC.out _ _ HTT.out).mono ?_; rintro e w2 ⟨rfl, hb2⟩)
        go_ret2
        exact ⟨t, rfl, by rw [HTT.out, HT.out], bw_t hb1 hb2⟩
      · rw [if_neg h0] at hrT
        have q0 : (ch == 0) = false := by simpa using h0
        have q1 : (ch != 0) = true := by simpa using h0
        have HT := hid hrT
        clear hrT hul
        go_enter Tryd.func21, Tryd.ntmps21
        go_wp2_with (go_at_call 25; refine (HP.out _).mono ?_; rintro e w1 ⟨rfl, rfl⟩)
        refine (HQ.out _).mono ?_
        rintro e w1 ⟨t, rfl, ht, hb1⟩
        simp only [okB, Option.isSome_some]
        have HTT := hid (show t.data.toList = t0 from ht)
        clear ht
        go_wp2_with (go_at_call 31; refine (HC.out _ _ HTT.out).mono ?_; rintro e w2 ⟨rfl, hb2⟩)
        go_ret2
        exact ⟨⟨#[]⟩, rfl, HT.out.symm, bw_t hb1 hb2⟩
end Go.Proofs.YtihkjopplmdkkaaDoor
