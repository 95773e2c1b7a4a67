/- The document's Read (layer 18): a walk. -/
import Derived.Test.YtihkjopplmdkkaaDoorSrV
import Derived.Test.YtihkjopplmdkkaaDoorSrC
import Derived.Deep.RegionHeld3
import Derived.Deep.AppendLies
import Derived.Deep.RegionLaw
import Derived.BigRegion
set_option linter.unusedVariables false
namespace Go.Proofs.YtihkjopplmdkkaaDoor
open Go.RowKit
theorem conv_bs {P : Program} (w : World) (v : Value) : True := trivial
def rdR (a : List UInt8) (e : Ending) : Prop := match unF a with
  | none => e = .returned (.tuple #[.string ⟨#[]⟩, .int .i64 3])
  | some t => e = .returned (.tuple #[.string ⟨(if checkI t.length (scan t 0).2 4096 = 0 then t else []).toArray⟩, .int .i64 (checkI t.length (scan t 0).2 4096)])
theorem rdR_none {a : List UInt8} {e : Ending} (h : unF a = none) (he : e = .returned (.tuple #[.string ⟨#[]⟩, .int .i64 3])) : rdR a e := by unfold rdR; rw [h]; exact he
set_option maxRecDepth 100000 in
set_option maxHeartbeats 8000000 in
theorem rReadQ_any (s : ByteArray) (a : List UInt8) (w : World) (hs : s.data.toList = 34 :: (a ++ [34])) (hl : a.length ≤ 10000) (hcl0 : clF false 0 (a ++ [34]) = a.length + 2) (hpl : plB (34 :: (a ++ [34])) = false) :
    Calls Tryd.prog 22 #[.string s] w fun e w' => rdR a e ∧ Below w.heap.size w w' := by
  obtain ⟨i0, hi0, hz0, hz1, hz2⟩ := info_parts Tryd.info5
  have hsz : s.size = a.length + 2 := by rw [Lib.size_eq, hs]; simp
  have HP : ∀ w, Calls Tryd.prog 26 #[.string s] w fun e w' => e = .returned (.bool false) ∧ w = w' := fun w => by have := rPlain_any s _ w hs (by simp; omega); rwa [hpl] at this
  have hcut : cutN (34 :: (a ++ [34])) = a.length + 2 := by rw [cutN, if_pos (by decide)]; exact hcl0
  have HC : ∀ w, Calls Tryd.prog 24 #[.string s] w fun e w' => e = .returned (.tuple #[.int .i64 ((a.length + 2 : Nat) : Int), .int .i64 0]) ∧ w = w' := fun w => by
    have := rCut_any s _ w hs (by simp; omega)
    rw [hcut] at this
    rwa [show cutE (a.length + 2) = 0 from by simp [cutE]] at this
  have HP' := hid HP
  have HC' := hid HC
  clear HP HC hcut hpl
  obtain ⟨hi00, hg00⟩ := str_at (k := 0) hs rfl
  rw [show ((34 : UInt8).toNat : Int) = 34 from rfl] at hg00
  have hat : ∀ k c q, 1 ≤ k → (a ++ [34]).drop (k - 1) = c :: q → ∃ h : k < s.size, ((s[k]'h).toNat : Int) = (c.toNat : Int) := by
    intro k c q hk hd
    refine str_at (r := q) hs ?_
    obtain ⟨j, rfl⟩ : ∃ j, k = j + 1 := ⟨k - 1, by omega⟩
    exact hd
  have HAT := hid hat
  have HCL0 := hid hcl0
  clear hs hat hcl0
  generalize hn : a.length = n at *
  have HN := hid hn
  clear hn
  go_enter Tryd.func22, Tryd.ntmps22
  go_wp2_with (first | (go_at_call 26; refine (HP'.out _).mono ?_; rintro e w1 ⟨rfl, rfl⟩) | (go_at_call 24; refine (HC'.out _).mono ?_; rintro e w1 ⟨rfl, rfl⟩))
  go_loopw [6, 7, 8] (fun v i _ wr => ∃ (k : Nat) (out : List UInt8), 1 ≤ k ∧ k ≤ n + 1 ∧ out.length ≤ k ∧ i = .int .i64 (k : Int) ∧ wr.ownsRow w.heap.size 5 1 v out.length (out.map bv) ∧ Below w.heap.size w wr ∧ clF false (k - 1) (a.drop (k - 1) ++ [34]) = n + 2 ∧ unF a = (unF (a.drop (k - 1))).map (out ++ ·)) (fun _ i _ _ => n + 2 - (intOf i).toNat)
  case atStart => exact ⟨1, [], by omega, by omega, by simp, rfl, World.ownsRow_nil _ _ _ _, Below.refl _ _, HCL0.out, by simp⟩
  case round =>
    obtain ⟨k, out, hk1, hk, hol, rfl, hrow, hbr, hcl, hun⟩ := hrel
    have hszr := hbr.size
    have HR := hid hrow
    have hnn : a.length + 2 = n + 2 := by rw [HN.out]
    rw [← hnn] at hcl
    by_cases hlt : k < n + 1
    · obtain ⟨c, q, hd⟩ := str_cons HN.out (show k - 1 < n by omega)
      have hd34 : (a ++ [34]).drop (k - 1) = c :: (q ++ [34]) := by rw [drop_34 (by have := HN.out; omega), hd]; rfl
      obtain ⟨hi, hg⟩ := HAT.out k c _ hk1 hd34
      have hx := c.toNat_lt
      have h34 := cl_ne34 hcl hd
      by_cases a1 : hidN c.toNat = true
      · have hst := un_stop hun hd (by rw [sgF_no (.inl a1)])
        have HST := hid hst
        have h5 : c.toNat < 32 ∨ c.toNat = 127 := by simpa [hidN] using a1
        generalize c.toNat = x at *
        clear hst a1 hun hd hd34 hcl hrow hnn h34
        rcases h5 with h5 | h5
        · go_wp2
          go_ret2
          exact ⟨rdR_none HST.out rfl, hbr⟩
        · subst h5
          go_wp2
          go_ret2
          exact ⟨rdR_none HST.out rfl, hbr⟩
      have a1' : hidN c.toNat = false := by simpa using a1
      have h5 : 32 ≤ c.toNat ∧ c.toNat ≠ 127 := by simp [hidN] at a1'; omega
      obtain ⟨h5, h6⟩ := h5
      have q5 : ((c.toNat : Int) == 127) = false := by simp; omega
      by_cases a2 : c.toNat = 92
      · obtain ⟨d, q', rfl, hcl2⟩ := cl_two hcl hd a2
        have hdn := drop_next hd
        have hsg : sgF (c :: d :: q') = sgE (d :: q') := by rw [sgF_cons, if_neg (by simp [a1', h34]), if_neg (by simp [a2])]
        have hd34' : (a ++ [34]).drop (k + 1 - 1) = d :: (q' ++ [34]) := by rw [drop_34 (by have := congrArg List.length hd; simp at this; have := HN.out; omega), show k + 1 - 1 = k - 1 + 1 from by omega, hdn]; rfl
        obtain ⟨hi', hg'⟩ := HAT.out (k + 1) d _ (by omega) hd34'
        have hyl := d.toNat_lt
        have hkk : k + 1 < n + 1 := by have := congrArg List.length hd; simp at this; have := HN.out; omega
        rw [a2] at hg
        rw [sgE_cons] at hsg
        have hidx : k - 1 + 2 = k + 2 - 1 := by omega
        rw [hidx, hnn] at hcl2
        have hstep := fun y => un_step (y := y) (z := 2) hun hd
        have hstop := un_stop hun hd
        rw [hidx] at hstep
        have HSTEP := hid hstep
        have HSTOP := hid hstop
        have HCL2 := hid hcl2
        have HSG := hid hsg
        have HDN := hid hdn
        have HUN := hid hun
        have HDD := hid hd
        have HBY := hid (fun (z : Nat) (hz : z < 256) => (bv_b8 z hz).symm)
        clear hd hd34 hd34' hdn hcl2 hstep hstop hsg hrow hun hcl a1 a1' q5 h34
        generalize hy : d.toNat = y at *
        by_cases b1 : y = 34
        · have hs2 := HSG.out
          rw [if_pos (.inl b1), b1] at hs2
          have HU := hid (HSTEP.out 34 hs2 (by omega))
          have HY : Hid ((Value.int .u8 34) = bv (b8 34)) := hid (HBY.out 34 (by omega))
          subst b1
          clear hs2 HSG HSTEP HSTOP HUN HDN HDD HBY hy
          go_wp2_with (at_builtin; refine wpList_append_rd rfl (.tmp 63) (.tmp 67) 51 rfl w.heap.size 5 i0 (.int .u8 0) 1 1 Tryd.underlying51 hi0 hz0 hz1 hz2 rfl (by decide) _ _ _ rfl (HR.out.alloc _) (some ⟨wr.heap.size, 0, none⟩) 1 1 [.int .u8 34] rfl rfl (Rd.new wr 5 #[.int .u8 34]) (fun h => by cases h) (by simp [Value.oneCell']) (by simp only [maxLen]; omega) (by omega) (by simp; omega) ?_; intro v2 w2 hown2 hgrow2)
          have HO := hid hown2
          have hb2 : Below w.heap.size w w2 := hbr.trans (bw_new hszr HR.out hgrow2)
          clear hown2 hgrow2
          go_wp2
          go_roundw
          case rel =>
            refine ⟨k + 2, out ++ [b8 34], by omega, by omega, by simp; omega, by go_num, ?_, hb2, HCL2.out, HU.out⟩
            have h := HO.out
            rw [HY.out] at h
            simpa using h
          case measure => simp [intOf] <;> omega
        by_cases b2 : y = 92
        · have hs2 := HSG.out
          rw [if_pos (.inr b2), b2] at hs2
          have HU := hid (HSTEP.out 92 hs2 (by omega))
          have HY : Hid ((Value.int .u8 92) = bv (b8 92)) := hid (HBY.out 92 (by omega))
          subst b2
          clear hs2 HSG HSTEP HSTOP HUN HDN HDD HBY hy
          go_wp2_with (at_builtin; refine wpList_append_rd rfl (.tmp 63) (.tmp 67) 51 rfl w.heap.size 5 i0 (.int .u8 0) 1 1 Tryd.underlying51 hi0 hz0 hz1 hz2 rfl (by decide) _ _ _ rfl (HR.out.alloc _) (some ⟨wr.heap.size, 0, none⟩) 1 1 [.int .u8 92] rfl rfl (Rd.new wr 5 #[.int .u8 92]) (fun h => by cases h) (by simp [Value.oneCell']) (by simp only [maxLen]; omega) (by omega) (by simp; omega) ?_; intro v2 w2 hown2 hgrow2)
          have HO := hid hown2
          have hb2 : Below w.heap.size w w2 := hbr.trans (bw_new hszr HR.out hgrow2)
          clear hown2 hgrow2
          go_wp2
          go_roundw
          case rel =>
            refine ⟨k + 2, out ++ [b8 92], by omega, by omega, by simp; omega, by go_num, ?_, hb2, HCL2.out, HU.out⟩
            have h := HO.out
            rw [HY.out] at h
            simpa using h
          case measure => simp [intOf] <;> omega
        have p1 : ((y : Int) == 34) = false := by simp; omega
        have p2 : ((y : Int) == 92) = false := by simp; omega
        have b12 : ¬ (y = 34 ∨ y = 92) := by omega
        by_cases b3 : y = 110
        · have hs2 := HSG.out
          rw [if_neg b12, if_pos b3] at hs2
          have HU := hid (HSTEP.out 10 hs2 (by omega))
          have HY : Hid ((Value.int .u8 10) = bv (b8 10)) := hid (HBY.out 10 (by omega))
          subst b3
          clear hs2 HSG HSTEP HSTOP HUN HDN HDD HBY hy
          go_wp2_with (at_builtin; refine wpList_append_rd rfl (.tmp 71) (.tmp 72) 51 rfl w.heap.size 5 i0 (.int .u8 0) 1 1 Tryd.underlying51 hi0 hz0 hz1 hz2 rfl (by decide) _ _ _ rfl (HR.out.alloc _) (some ⟨wr.heap.size, 0, none⟩) 1 1 [.int .u8 10] rfl rfl (Rd.new wr 5 #[.int .u8 10]) (fun h => by cases h) (by simp [Value.oneCell']) (by simp only [maxLen]; omega) (by omega) (by simp; omega) ?_; intro v2 w2 hown2 hgrow2)
          have HO := hid hown2
          have hb2 : Below w.heap.size w w2 := hbr.trans (bw_new hszr HR.out hgrow2)
          clear hown2 hgrow2
          go_wp2
          go_roundw
          case rel =>
            refine ⟨k + 2, out ++ [b8 10], by omega, by omega, by simp; omega, by go_num, ?_, hb2, HCL2.out, HU.out⟩
            have h := HO.out
            rw [HY.out] at h
            simpa using h
          case measure => simp [intOf] <;> omega
        have p3 : ((y : Int) == 110) = false := by simp; omega
        by_cases b4 : y = 116
        · have hs2 := HSG.out
          rw [if_neg b12, if_neg b3, if_pos b4] at hs2
          have HU := hid (HSTEP.out 9 hs2 (by omega))
          have HY : Hid ((Value.int .u8 9) = bv (b8 9)) := hid (HBY.out 9 (by omega))
          subst b4
          clear hs2 HSG HSTEP HSTOP HUN HDN HDD HBY hy
          go_wp2_with (at_builtin; refine wpList_append_rd rfl (.tmp 76) (.tmp 77) 51 rfl w.heap.size 5 i0 (.int .u8 0) 1 1 Tryd.underlying51 hi0 hz0 hz1 hz2 rfl (by decide) _ _ _ rfl (HR.out.alloc _) (some ⟨wr.heap.size, 0, none⟩) 1 1 [.int .u8 9] rfl rfl (Rd.new wr 5 #[.int .u8 9]) (fun h => by cases h) (by simp [Value.oneCell']) (by simp only [maxLen]; omega) (by omega) (by simp; omega) ?_; intro v2 w2 hown2 hgrow2)
          have HO := hid hown2
          have hb2 : Below w.heap.size w w2 := hbr.trans (bw_new hszr HR.out hgrow2)
          clear hown2 hgrow2
          go_wp2
          go_roundw
          case rel =>
            refine ⟨k + 2, out ++ [b8 9], by omega, by omega, by simp; omega, by go_num, ?_, hb2, HCL2.out, HU.out⟩
            have h := HO.out
            rw [HY.out] at h
            simpa using h
          case measure => simp [intOf] <;> omega
        have p4 : ((y : Int) == 116) = false := by simp; omega
        by_cases b5 : y = 120
        · have HEX : Hid (∀ (n : Nat) (w : World), n < 256 → Calls Tryd.prog 49 #[.int .u8 (n : Int)] w fun e w' => e = .returned (.int .i64 (hxI n)) ∧ w = w') := hid fun n w h => (hex_any n w h).mono fun e w' ⟨h1, h2⟩ => ⟨h1, h2.symm⟩
          have hs2 := HSG.out
          rw [if_neg b12, if_neg b3, if_neg b4, if_pos b5] at hs2
          have hql : n = k + 1 + q'.length := by have := congrArg List.length HDD.out; simp at this; have := HN.out; omega
          have HQL := hid hql
          clear hql
          subst b5
          match q', hs2, HQL, HSTEP, HSTOP, HDN, HDD with
          | [], hs2, HQL, HSTEP, HSTOP, HDN, HDD =>
            clear hidx hnn
            have HST := hid (HSTOP.out (by rw [hs2]; rfl))
            have hnk1 : n ≤ k + 1 := by have hql := HQL.out; simp at hql; omega
            have hnk2 : k + 1 ≤ n := by have hql := HQL.out; simp at hql; omega
            clear hs2
            clear HSG HSTEP HSTOP HUN HDN HDD HBY hy HCL2
            go_wp2_with (go_at_call 49; refine (HEX.out _ _ (by first | assumption | omega | exact UInt8.toNat_lt _)).mono ?_; rintro e w1 ⟨rfl, rfl⟩)
            go_ret2
            exact ⟨rdR_none HST.out rfl, hbr⟩
          | [h1], hs2, HQL, HSTEP, HSTOP, HDN, HDD =>
            clear hidx hnn
            have HST := hid (HSTOP.out (by rw [hs2]; rfl))
            have hnk1 : n ≤ k + 2 := by have hql := HQL.out; simp at hql; omega
            have hnk2 : k + 2 ≤ n := by have hql := HQL.out; simp at hql; omega
            clear hs2
            clear HSG HSTEP HSTOP HUN HDN HDD HBY hy HCL2
            go_wp2_with (go_at_call 49; refine (HEX.out _ _ (by first | assumption | omega | exact UInt8.toNat_lt _)).mono ?_; rintro e w1 ⟨rfl, rfl⟩)
            go_ret2
            exact ⟨rdR_none HST.out rfl, hbr⟩
          | h1 :: m1 :: q2, hs2, HQL, HSTEP, HSTOP, HDN, HDD =>
            have hnk1 : k + 3 ≤ n := by have hql := HQL.out; simp only [List.length_cons] at hql; omega
            have hdr2 : a.drop (k + 2 - 1) = h1 :: m1 :: q2 := by rw [← hidx, show k - 1 + 2 = k - 1 + 1 + 1 from rfl]; exact drop_next HDN.out
            have he2 : (a ++ [34]).drop (k + 2 - 1) = h1 :: (m1 :: q2 ++ [34]) := by rw [drop_34 (by have := HN.out; omega), hdr2]; rfl
            have he3 : (a ++ [34]).drop (k + 3 - 1) = m1 :: (q2 ++ [34]) := by rw [drop_34 (by have := HN.out; omega), show k + 3 - 1 = k + 2 - 1 + 1 from by omega, drop_next hdr2]; rfl
            obtain ⟨hj2, hg2⟩ := HAT.out (k + 2) h1 _ (by omega) he2
            obtain ⟨hj3, hg3⟩ := HAT.out (k + 3) m1 _ (by omega) he3
            have hxh : h1.toNat < 256 := h1.toNat_lt
            have hxm : m1.toNat < 256 := m1.toNat_lt
            have htd : tdF (h1 :: m1 :: q2) = (match hxN h1.toNat, hxN m1.toNat with | some a, some b => if a < 8 then (16 * a + b, 4) else (0, 0) | _, _ => (0, 0)) := rfl
            rw [htd] at hs2
            have hIh : hxI h1.toNat = (match hxN h1.toNat with | some a => (a : Int) | none => -1) := rfl
            have hIm : hxI m1.toNat = (match hxN m1.toNat with | some a => (a : Int) | none => -1) := rfl
            have hlh := @hxN_lt h1.toNat
            have hlm := @hxN_lt m1.toNat
            have hfour : h1.toNat ≠ 92 → m1.toNat ≠ 92 → clF false (k + 4 - 1) (a.drop (k + 4 - 1) ++ [34]) = n + 2 := by
              intro e1 e2
              have h := HCL2.out
              rw [← hnn] at h
              have := cl_four h hdr2 e1 e2
              rw [hnn] at this
              rw [show k + 4 - 1 = k + 2 - 1 + 2 from by omega]; exact this
            have HSTEP4 := hid fun y hs => un_step (y := y) (z := 4) HUN.out HDD.out hs (by omega)
            clear htd he2 he3 hdr2
            generalize h1.toNat = xh at *
            generalize m1.toNat = xm at *
            generalize hxN xh = fh at *
            generalize hxN xm = fm at *
            cases fh with
            | none =>
              simp only at hs2 hIh
              have HST := hid (HSTOP.out (by rw [hs2]))
              clear hs2 hIm hlh hlm hfour HSTEP4
              clear HSG HSTEP HSTOP HUN HDN HDD HBY hy HCL2
              go_wp2_with (go_at_call 49; refine (HEX.out _ _ (by first | assumption | omega | exact UInt8.toNat_lt _)).mono ?_; rintro e w1 ⟨rfl, rfl⟩)
              go_ret2
              exact ⟨rdR_none HST.out rfl, hbr⟩
            | some ih =>
              have hih := hlh rfl
              simp only at hIh
              by_cases h8 : ih < 8
              · cases fm with
                | none =>
                  simp only at hs2 hIm
                  have HST := hid (HSTOP.out (by rw [hs2]))
                  obtain ⟨hih, -, -⟩ := hih
                  clear hs2 hlh hlm hfour HSTEP4
                  clear HSG HSTEP HSTOP HUN HDN HDD HBY hy HCL2
                  go_wp2_with (go_at_call 49; refine (HEX.out _ _ (by first | assumption | omega | exact UInt8.toNat_lt _)).mono ?_; rintro e w1 ⟨rfl, rfl⟩)
                  go_ret2
                  exact ⟨rdR_none HST.out rfl, hbr⟩
                | some jm =>
                  have hjm := hlm rfl
                  simp only at hs2 hIm
                  rw [if_pos h8] at hs2
                  have hu4 := HSTEP4.out _ hs2
                  rw [show k - 1 + 4 = k + 4 - 1 from by omega] at hu4
                  have HU := hid hu4
                  clear hu4
                  have HC4 := hid (hfour hih.2.2 hjm.2.2)
                  have HY : Hid (Value.int .u8 (16 * (ih : Int) + (jm : Int)) = bv (b8 (16 * ih + jm))) := hid (by rw [bv_b8 _ (by omega)]; simp)
                  obtain ⟨hih, -, -⟩ := hih
                  obtain ⟨hjm, -, -⟩ := hjm
                  have hw1 : IntKind.i64.wrap ((k : Int) + 1 + 1) = (k : Int) + 2 := by rw [IntWalk.i64_in _ (by omega)]; omega
                  have hw1' : IntKind.i64.wrap ((k : Int) + 2) = (k : Int) + 2 := by rw [IntWalk.i64_in _ (by omega)]
                  have hw2 : IntKind.i64.wrap ((k : Int) + 1 + 2) = (k : Int) + 3 := by rw [IntWalk.i64_in _ (by omega)]; omega
                  have hw2' : IntKind.i64.wrap ((k : Int) + 3) = (k : Int) + 3 := by rw [IntWalk.i64_in _ (by omega)]
                  have hw3 : IntKind.i64.wrap (16 * (ih : Int)) = 16 * (ih : Int) := IntWalk.i64_in _ (by omega)
                  have hw4 : IntKind.i64.wrap (16 * (ih : Int) + (jm : Int)) = 16 * (ih : Int) + (jm : Int) := IntWalk.i64_in _ (by omega)
                  have hw5 : IntKind.u8.wrap (16 * (ih : Int) + (jm : Int)) = 16 * (ih : Int) + (jm : Int) := IntWalk.u8_in _ (by omega)
                  have hT1 : ((k : Int) + 2).toNat = k + 2 := by omega
                  have hT2 : ((k : Int) + 3).toNat = k + 3 := by omega
                  clear hs2 hlh hlm hfour HSTEP4 HSG HSTEP HSTOP HUN HDN HDD HBY hy HCL2
                  go_wp2_with (go_at_call 49; refine (HEX.out _ _ (by first | assumption | omega | exact UInt8.toNat_lt _)).mono ?_; rintro e w1 ⟨rfl, rfl⟩)
                  go_region_held3 (fun w' => wr.heap.size ≤ w'.heap.size) (first | assumption | (simp; omega) | (have := hgrow2.size; simp at this; omega) | go_keep) (first | (go_at_call 49; refine (HEX.out _ _ (by first | assumption | omega | exact UInt8.toNat_lt _)).mono ?_; rintro e w1 ⟨rfl, rfl⟩) | ((refine step_append_lies _ (by rfl) _ _ _ (by rfl) w.heap.size 5 i0 _ 1 1 Tryd.underlying51 hi0 hz0 hz1 hz2 rfl (by omega) _ out.length (out.map bv) (by rfl) ((HR.out.alloc _).drew) ⟨wr.heap.size, 0, none⟩ 1 1 [.int .u8 (16 * (ih : Int) + (jm : Int))] (by rfl) (by rfl) (World.news_of_block (cs := #[.int .u8 (16 * (ih : Int) + (jm : Int))]) (t := 5) (fr := (0, 0)) (heap_alloc_new wr _)) (by simp [Value.oneCell']) (by omega) (by simp only [maxLen]; omega) (by omega) (by simp; omega) (wr.heap.size + 1) (by simp) ?_; intro gg cap w2 hown2 hgrow2 hat2 hlt2)))
                  all_goals
                    have HO := hid hown2
                    have hb2 : Below w.heap.size w w2 := hbr.trans ((((Below.refl w.heap.size wr).alloc hszr _).trans ⟨rfl, rfl, rfl, Nat.le_refl _, fun _ _ => rfl⟩ : Below w.heap.size wr (wr.alloc (.cells #[.int .u8 (16 * (ih : Int) + (jm : Int))] 5)).drew).grown hgrow2 (by simp; omega) fun k ek => (HR.out.lt k ek).1)
                    clear hown2 hgrow2
                    go_wp2_with fail
                    go_roundw
                    case rel =>
                      refine ⟨k + 4, out ++ [b8 (16 * ih + jm)], by omega, by omega, by simp; omega, by go_num, ?_, hb2, HC4.out, HU.out⟩
                      have h := HO.out
                      rw [HY.out] at h
                      simpa using h
                    case measure => simp [intOf] <;> omega
              · have hs3 : (sgF (c :: d :: h1 :: m1 :: q2)).2 = 0 := by
                  rw [hs2]; cases fm <;> simp [h8]
                have HST := hid (HSTOP.out hs3)
                obtain ⟨hih, -, -⟩ := hih
                clear hs2 hs3 hlh hlm hfour HSTEP4 hIm
                clear HSG HSTEP HSTOP HUN HDN HDD HBY hy HCL2
                go_wp2_with (go_at_call 49; refine (HEX.out _ _ (by first | assumption | omega | exact UInt8.toNat_lt _)).mono ?_; rintro e w1 ⟨rfl, rfl⟩)
                go_ret2
                exact ⟨rdR_none HST.out rfl, hbr⟩
        · have p5 : ((y : Int) == 120) = false := by simp; omega
          have hs2 := HSG.out
          rw [if_neg b12, if_neg b3, if_neg b4, if_neg b5] at hs2
          have HST := hid (HSTOP.out (by rw [hs2]))
          clear hs2 HSG HSTEP HSTOP HUN HDN HDD HBY hy
          go_wp2
          go_ret2
          exact ⟨rdR_none HST.out rfl, hbr⟩
      · have q2 : ((c.toNat : Int) == 92) = false := by simp; omega
        have q3 : ((c.toNat : Int) != 92) = true := by simp; omega
        have hst := un_step hun hd (sgF_one a1' h34 a2) (by omega)
        have hcn := cl_one hcl hd a2
        rw [show k - 1 + 1 = k + 1 - 1 from by omega] at hst hcn
        rw [hnn] at hcn
        have HU := hid hst
        have HCN := hid hcn
        have HY := hid (bv_b8 c.toNat hx).symm
        clear hst hcn a1 a1' hun hd hd34 hcl hrow hnn h34
        generalize c.toNat = x at *
        go_wp2_with (at_builtin; refine wpList_append_rd rfl (.tmp 51) (.tmp 53) 51 rfl w.heap.size 5 i0 (.int .u8 0) 1 1 Tryd.underlying51 hi0 hz0 hz1 hz2 rfl (by decide) _ _ _ rfl (HR.out.alloc _) (some ⟨wr.heap.size, 0, none⟩) 1 1 [.int .u8 (x : Int)] rfl rfl (Rd.new wr 5 #[.int .u8 (x : Int)]) (fun h => by cases h) (by simp [Value.oneCell']) (by simp only [maxLen]; omega) (by omega) (by simp; omega) ?_; intro v2 w2 hown2 hgrow2)
        have HO := hid hown2
        have hb2 : Below w.heap.size w w2 := hbr.trans (bw_new hszr HR.out hgrow2)
        clear hown2 hgrow2
        go_wp2
        go_roundw
        case rel =>
          refine ⟨k + 1, out ++ [b8 x], by omega, by omega, by simp; omega, by go_num, ?_, hb2, HCN.out, HU.out⟩
          have h := HO.out
          rw [HY.out] at h
          simpa using h
        case measure => simp [intOf] <;> omega
    · obtain rfl : k = n + 1 := by omega
      have hfin : unF a = some out := by rw [hun, List.drop_eq_nil_of_le (by have := HN.out; omega), unF_nil]; simp
      have HF := hid hfin
      obtain ⟨t, ht1, ht2⟩ := conv_ow (P := Tryd.prog) HR.out Tryd.underlying51 Tryd.underlying5 Tryd.underlying9
      have HCK := hid fun w => rcheck_any t out 4096 w ht1 (by omega) (by omega) (by omega)
      have HT := hid (str_mk t out ht1)
      clear hfin ht1 hun hcl hrow hnn
      have hr : ∀ e, (e = .returned (.tuple #[.string ⟨(if checkI out.length (scan out 0).2 4096 = 0 then out else []).toArray⟩, .int .i64 (checkI out.length (scan out 0).2 4096)])) → rdR a e := by
        intro e he; unfold rdR; rw [HF.out]; exact he
      have HRR := hid hr
      clear hr
      generalize checkI out.length (scan out 0).2 4096 = ch at *
      by_cases h0 : ch = 0
      · subst h0
        go_wp2_with (go_at_call 50; refine (HCK.out _).mono ?_; rintro e w3 ⟨rfl, rfl⟩)
        go_ret2
        exact ⟨HRR.out _ (by simp only [if_true]; rw [← HT.out]; rfl), hbr⟩
      · have t0 : (ch == 0) = false := by simpa using h0
        have t1 : (ch != 0) = true := by simpa using h0
        go_wp2_with (go_at_call 50; refine (HCK.out _).mono ?_; rintro e w3 ⟨rfl, rfl⟩)
        go_ret2
        exact ⟨HRR.out _ (by rw [if_neg h0]; rfl), hbr⟩
end Go.Proofs.YtihkjopplmdkkaaDoor
