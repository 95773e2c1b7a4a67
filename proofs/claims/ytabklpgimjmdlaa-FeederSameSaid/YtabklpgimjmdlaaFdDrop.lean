/- A feeder lets bytes go. -/
import Derived.Test.YtabklpgimjmdlaaFdA
import Derived.Laws.CopyOwn
import Derived.Deep.RegionLaw
import Derived.BigRegion
set_option linter.unusedVariables false
namespace Go.Proofs.Ytabklpgimjmdlaa
open Go.RowKit
theorem step_copy_none {P : Program} {w : World} {ops : Array Oper} {o : Oper} {a : Act} {K : Act → World → Prop} {Q : Exit → Act → World → Prop} {E : Prop} (hgd : o.guard = none) (d s : Operand) (dT sT : TypeId)
    (ho : o.op = .call { callee := .builtin .copy, args := #[d, s], argTypes := #[dT, sT] }) (elem : TypeId) (hu : P.underlying dT = some (.slice elem)) (hsz : (P.info? elem).map (·.size) = some 1)
    (dp sp : Option Addr) (dLen dCap sLen sCap : Nat) (hd : a.eval d = .slice dp dLen dCap) (hs : a.eval s = .slice sp sLen sCap) (hn : Nat.min sLen dLen = 0)
    (h : K (a.put o.dst (goInt 0)) w) :
    if Region.wanted o (yielded ops a.tmps) = true then Oper.wp P o a w K Q else E := by
  have hw : Region.wanted o (yielded ops a.tmps) = true := by simp [Region.wanted, hgd]
  rw [if_pos hw]
  have hrun := run_copy_none (P := P) w dT sT o.type elem dp sp dLen dCap sLen sCap hu hsz hn
  unfold Oper.wp
  simp [execOp, ho, resolve, invoke, builtin, hd, hs, hrun, Result.andThen]
  exact h
theorem Blk.drewN' {w : World} {g : Nat} {t : TypeId} {cs : Array Value} (h : Blk w g t cs) (n : Nat) : Blk (w.drewN n) g t cs := h
theorem step_copy_chg {P : Program} {w : World} {ops : Array Oper} {o : Oper} {a : Act} {K : Act → World → Prop} {Q : Exit → Act → World → Prop} {E : Prop} (hgd : o.guard = none) (d s : Operand) (dT sT : TypeId)
    (ho : o.op = .call { callee := .builtin .copy, args := #[d, s], argTypes := #[dT, sT] }) (elem : TypeId) (hu : P.underlying dT = some (.slice elem)) (hsz : (P.info? elem).map (·.size) = some 1)
    (dp sp : Option Addr) (dLen dCap sLen sCap : Nat) (hd : a.eval d = .slice dp dLen dCap) (hs : a.eval s = .slice sp sLen sCap)
    (g off : Nat) (cur : List Value) (t : TypeId) (hg : Blk w g t cur.toArray) (cs : List Value) (hn : cs.length = Nat.min sLen dLen)
    (hpos : 0 < cs.length → dp = some ⟨g, off, none⟩ ∧ ∃ ad, sp = some ad ∧ ∀ j v, cs[j]? = some v → w.cell? (ad.add j) = some v)
    (hfit : off + cs.length ≤ cur.length) (h1 : ∀ v ∈ cs, v.oneCell' = true)
    (h : ∀ w', Hid (Blk w' g t (splice cur off cs).toArray) → Chg (fun q => q = g) w w' → K (a.put o.dst (goInt cs.length)) w') :
    if Region.wanted o (yielded ops a.tmps) = true then Oper.wp P o a w K Q else E := by
  have hw : Region.wanted o (yielded ops a.tmps) = true := by simp [Region.wanted, hgd]
  rw [if_pos hw]
  by_cases h0 : cs.length = 0
  · obtain rfl : cs = [] := List.eq_nil_of_length_eq_zero h0
    have hrun := run_copy_none (P := P) w dT sT o.type elem dp sp dLen dCap sLen sCap hu hsz (by simpa using hn.symm)
    unfold Oper.wp
    simp [execOp, ho, resolve, invoke, builtin, hd, hs, hrun, Result.andThen]
    exact h w (hid (by simpa [splice] using hg)) (Chg.refl _ w)
  · obtain ⟨rfl, ad, rfl, hsrc⟩ := hpos (by omega)
    have hrun := run_copy_row (P := P) w dT sT o.type elem g off dLen dCap ad sLen sCap cur.toArray t cs hu hsz hg hn hsrc (by simpa using hfit) h1
    unfold Oper.wp
    simp [execOp, ho, resolve, invoke, builtin, hd, hs, hrun, Result.andThen]
    exact h _ (hid (show _ = _ by simpa [splice] using setRow_heap w g _ _ t _ hg)) ⟨rfl, rfl, rfl, by simp [World.setRow], fun k hk hne => setRow_other w g k _ hne⟩
set_option maxRecDepth 100000 in
set_option maxHeartbeats 2000000 in
theorem fdrop_some (B g : Nat) (H : List UInt8) (came : Nat) (over : Bool) (n hl kk gb cb : Nat) (w : World) (cur : List Value) (hk : Blk w g 69 #[.slice (some ⟨gb, 0, none⟩) hl cb, .int .i64 (came : Int), .bool over]) (hgB : g < B) (hBg : B ≤ gb) (hr : Blk w gb 5 cur.toArray) (hH : H.length = hl) (hcb : hl ≤ cb) (hcm : cb ≤ 9223372036854775807) (hcs : cur.length = cb) (htk : cur.take hl = H.map bv) (hn : n ≤ hl) (hkk : hl - n = kk) (hsp : n < cb) :
    Calls Try.prog 40 #[.pointer (some ⟨g, 0, none⟩), .int .i64 (n : Int)] w fun e w' => (∃ v, e = .returned v) ∧ Blk w' g 69 #[.slice (some ⟨gb, 0, none⟩) kk cb, .int .i64 (came : Int), .bool over] ∧ Blk w' gb 5 (splice cur 0 ((H.drop n).map bv)).toArray ∧ Chg (fun q => q = g ∨ q = gb) w w' := by
  obtain ⟨cs, hcse⟩ : ∃ cs, (H.drop n).map bv = cs := ⟨_, rfl⟩
  have hlen : cs.length = kk := by rw [← hcse, List.length_map, List.length_drop]; omega
  rw [hcse]
  have hmn : cs.length = Nat.min kk hl := by rw [hlen]; exact (Nat.min_eq_left (by omega)).symm
  have hsrc : ∀ W, Blk W gb 5 cur.toArray → ∀ j v, cs[j]? = some v → W.cell? ((⟨gb, n, none⟩ : Addr).add j) = some v := by
    intro W hW j v hj
    rw [addr_add, hW.cell]
    have hjl : j < cs.length := (List.getElem?_eq_some_iff.1 hj).1
    rw [← hcse, List.map_drop, ← htk, List.getElem?_drop, List.getElem?_take] at hj
    rw [if_pos (by omega)] at hj
    simpa using hj
  have hfit : 0 + cs.length ≤ cur.length := by omega
  have hone : ∀ v ∈ cs, v.oneCell' = true := by rw [← hcse]; exact bv_one _
  have hne : ¬ g = gb := by omega
  have hni : (n : Int) ≤ (hl : Int) := by omega
  have hn0 : (0 : Int) ≤ (n : Int) := by omega
  have hki : (kk : Int) ≤ (cb : Int) := by omega
  have hcn : ¬ cb = n := by omega
  have HMN := hid hmn
  have HSRC := hid hsrc
  have HFIT := hid hfit
  have HONE := hid hone
  have HNE := hid hne
  have HKK := hid hlen
  have HK := hid hk
  have HR := hid hr
  clear hmn hsrc hfit hone hne hlen hk hr hcse htk hcs hH
  have c0 := HK.out.cell 0
  have f0 := HK.out.frozen 0
  simp only [List.getElem?_toArray, List.getElem?_cons_zero, List.getElem?_cons_succ] at c0
  have hlg := HK.out.lt
  go_enter Try.func40, Try.ntmps40
  go_wp2_with fail
  go_region_law (refine step_copy_chg rfl (.tmp 12) (.tmp 18) 22 22 rfl 5 Try.underlying22 (by kernel_rfl) (some ⟨gb, 0, none⟩) (some ⟨gb, n, none⟩) hl cb kk (cb - n) rfl rfl gb 0 cur 5 (by (first | exact HR.out | exact HR.out.drewN' _)) cs HMN.out (fun hp => ⟨rfl, _, rfl, HSRC.out _ (by (first | exact HR.out | exact HR.out.drewN' _))⟩) HFIT.out HONE.out ?_; intro w9 hr9 hc9; have hkg9 := hc9.blk (by first | exact HK.out | exact HK.out.drewN' _) HNE.out; have d0 := hkg9.cell 0; have g0 := hkg9.frozen 0; simp only [List.getElem?_toArray, List.getElem?_cons_zero, List.getElem?_cons_succ] at d0; rw [HKK.out]; have HG9 := hid hkg9; have HC9 := hid hc9; clear hkg9 hc9)
  all_goals
    go_end0
    have hcn := (Chg.refl (fun q => q = g) w9).set_ (.inl rfl) 0 (.slice (some ⟨gb, 0, none⟩) kk cb)
    have hch : Chg (fun q => q = gb) w w9 := by first | exact HC9.out | exact (Chg.drewN (Chg.refl _ w) _).trans HC9.out
    exact ⟨⟨_, rfl⟩, by simpa using HG9.out.set_ 0 (.slice (some ⟨gb, 0, none⟩) kk cb), hcn.blk hr9.out (fun e => HNE.out e.symm), (hch.mono (fun q _ h => .inr h)).trans (hcn.mono (fun q _ h => .inl h))⟩
set_option maxRecDepth 100000 in
set_option maxHeartbeats 2000000 in
theorem fdrop_all (B g : Nat) (came : Nat) (over : Bool) (hl gb : Nat) (w : World) (cur : List Value) (hk : Blk w g 69 #[.slice (some ⟨gb, 0, none⟩) hl hl, .int .i64 (came : Int), .bool over]) (hgB : g < B) (hBg : B ≤ gb) (hr : Blk w gb 5 cur.toArray) (hcm : hl ≤ 9223372036854775807) (hcs : cur.length = hl) :
    Calls Try.prog 40 #[.pointer (some ⟨g, 0, none⟩), .int .i64 (hl : Int)] w fun e w' => (∃ v, e = .returned v) ∧ Blk w' g 69 #[.slice (some ⟨gb, 0, none⟩) 0 hl, .int .i64 (came : Int), .bool over] ∧ Blk w' gb 5 cur.toArray ∧ Chg (fun q => q = g ∨ q = gb) w w' := by
  have hcu : (splice cur 0 ([] : List Value)) = cur := by simp [splice]
  have hne : ¬ g = gb := by omega
  have hn0 : (0 : Int) ≤ (hl : Int) := by omega
  have HNE := hid hne
  have HK := hid hk
  have HR := hid hr
  have HCU := hid hcu
  have HKK := hid (show ([] : List Value).length = 0 from rfl)
  clear hne hk hr hcs hcu
  have c0 := HK.out.cell 0
  have f0 := HK.out.frozen 0
  simp only [List.getElem?_toArray, List.getElem?_cons_zero, List.getElem?_cons_succ] at c0
  have hlg := HK.out.lt
  go_enter Try.func40, Try.ntmps40
  go_wp2_with fail
  go_region_law (refine step_copy_chg rfl (.tmp 12) (.tmp 18) 22 22 rfl 5 Try.underlying22 (by kernel_rfl) (some ⟨gb, 0, none⟩) (some ⟨gb, 0, none⟩) hl hl 0 0 rfl rfl gb 0 cur 5 (by (first | exact HR.out | exact HR.out.drewN' _)) [] (by simp) (fun hp => by simp at hp) (by simp) (by simp) ?_; intro w9 hr9 hc9; have hkg9 := hc9.blk (by first | exact HK.out | exact HK.out.drewN' _) HNE.out; have d0 := hkg9.cell 0; have g0 := hkg9.frozen 0; simp only [List.getElem?_toArray, List.getElem?_cons_zero, List.getElem?_cons_succ] at d0; rw [HKK.out]; rw [HCU.out] at hr9; have HG9 := hid hkg9; have HC9 := hid hc9; clear hkg9 hc9)
  all_goals
    go_end0
    have hcn := (Chg.refl (fun q => q = g) w9).set_ (.inl rfl) 0 (.slice (some ⟨gb, 0, none⟩) 0 hl)
    have hch : Chg (fun q => q = gb) w w9 := by first | exact HC9.out | exact (Chg.drewN (Chg.refl _ w) _).trans HC9.out
    exact ⟨⟨_, rfl⟩, by simpa using HG9.out.set_ 0 (.slice (some ⟨gb, 0, none⟩) 0 hl), hcn.blk hr9.out (fun e => HNE.out e.symm), (hch.mono (fun q _ h => .inr h)).trans (hcn.mono (fun q _ h => .inl h))⟩
set_option maxRecDepth 100000 in
set_option maxHeartbeats 2000000 in
theorem fdrop_none (g came : Nat) (over : Bool) (w : World) (hk : Blk w g 69 #[.slice none 0 0, .int .i64 (came : Int), .bool over]) :
    Calls Try.prog 40 #[.pointer (some ⟨g, 0, none⟩), .int .i64 0] w fun e w' => (∃ v, e = .returned v) ∧ Blk w' g 69 #[.slice none 0 0, .int .i64 (came : Int), .bool over] ∧ Chg (fun q => q = g) w w' := by
  have HK := hid hk
  clear hk
  have c0 := HK.out.cell 0
  have f0 := HK.out.frozen 0
  simp only [List.getElem?_toArray, List.getElem?_cons_zero, List.getElem?_cons_succ] at c0
  have hlg := HK.out.lt
  go_enter Try.func40, Try.ntmps40
  go_wp2_with fail
  go_region_law (refine step_copy_none rfl (.tmp 12) (.tmp 18) 22 22 rfl 5 Try.underlying22 (by kernel_rfl) none none 0 0 0 0 rfl rfl rfl ?_)
  all_goals
    go_end0
    exact ⟨⟨_, rfl⟩, (show Blk (w.setCell ⟨g, 0, none⟩ (.slice none 0 0)) g _ _ from by simpa using HK.out.set_ 0 (.slice none 0 0)), (by first | exact Chg.drewN ((Chg.refl (fun q => q = g) w).set_ (.inl rfl) 0 (.slice none 0 0)) 1 | exact (Chg.refl (fun q => q = g) w).set_ (.inl rfl) 0 (.slice none 0 0))⟩
/-- drop: what is held, without its first bytes. -/
theorem fdrop_any (B g : Nat) (H : List UInt8) (came : Nat) (over : Bool) (vb : Value) (n : Nat) (w : World) (h : FdS B g H came over vb w) (hgB : g < B) (hn : n ≤ H.length) :
    Calls Try.prog 40 #[.pointer (some ⟨g, 0, none⟩), .int .i64 (n : Int)] w fun e w' => (∃ v, e = .returned v) ∧ ∃ vb', FdS B g (H.drop n) came over vb' w' ∧ Chg (fun q => q = g ∨ vb.ownBlock = some q) w w' ∧ vb'.ownBlock = vb.ownBlock := by
  obtain ⟨hk, hl0, hr⟩ := h
  rcases hr with ⟨rfl, hz⟩ | ⟨gb, cap, cur, rfl, hB, hg, hnc, hcm, hcs, htk⟩
  · have hH : H = [] := List.eq_nil_of_length_eq_zero hz
    subst hH
    obtain rfl : n = 0 := by simpa using hn
    refine (fdrop_none g came over w hk).mono ?_
    rintro e w' ⟨he, h1, h2⟩
    exact ⟨he, _, ⟨h1, by simpa using World.ownsRow_nil _ _ _ _⟩, h2.mono fun q _ h => .inl h, rfl⟩
  · rw [Nat.mul_one] at hcs htk
    simp only [maxLen] at hcm
    have hc : cur.toList.toArray = cur := by simp
    by_cases hnc2 : n < cap
    rotate_left
    · obtain rfl : n = cap := by omega
      have hln : H.length = n := by omega
      refine (fdrop_all B g came over n gb w cur.toList (by rw [← hln]; rw [hln] at hk ⊢; exact hk) hgB hB (by unfold Blk; rw [hc]; exact hg) (by omega) (by simpa using hcs)).mono ?_
      rintro e w' ⟨he, h1, h2, h3⟩
      have hd : H.drop n = [] := List.drop_eq_nil_of_le (by omega)
      refine ⟨he, _, ⟨h1, by rw [hd]; exact ⟨rfl, .inr ⟨gb, n, cur, rfl, hB, by rw [hc] at h2; exact h2, by simp, by simp only [maxLen]; omega, by simpa using hcs, by simp⟩⟩⟩, h3.mono fun q _ h => h.imp id fun h => by rw [h]; rfl, rfl⟩
    refine (fdrop_some B g H came over n H.length (H.length - n) gb cap w cur.toList hk hgB hB (by unfold Blk; rw [hc]; exact hg) rfl hnc (by omega) (by simpa using hcs) htk hn rfl hnc2).mono ?_
    rintro e w' ⟨he, h1, h2, h3⟩
    refine ⟨he, _, ⟨h1, ?_⟩, h3.mono fun q _ h => h.imp id fun h => by rw [h]; rfl, rfl⟩
    have hlen : ((H.drop n).map bv).length = H.length - n := by simp
    refine ⟨by simp, .inr ⟨gb, cap, (splice cur.toList 0 ((H.drop n).map bv)).toArray, by rw [List.length_drop], hB, h2, by rw [List.length_drop]; omega, by simp only [maxLen]; omega, ?_, ?_⟩⟩
    · simp only [List.size_toArray, Nat.mul_one]
      rw [length_splice _ _ _ (by rw [hlen]; simp; omega)]
      simpa using hcs
    · rw [Nat.mul_one, List.length_drop]
      unfold splice
      simp only [List.take_zero, List.nil_append]
      rw [List.take_append_of_le_length (by rw [hlen]; exact Nat.le_refl _), List.take_of_length_le (by rw [hlen]; exact Nat.le_refl _)]
end Go.Proofs.Ytabklpgimjmdlaa
