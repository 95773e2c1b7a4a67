/- The parts of a feeder: deaf, add, placed. -/
import Derived.Test.YtnfodgjihdoncaaRsAll
import Derived.Test.YtnfodgjihdoncaaFd0
import Derived.Laws.OwnMore
set_option linter.unusedVariables false
namespace Go.Proofs.Ytnfodgjihdoncaa
open Go.RowKit
/-- What a feeder holds, in its block: a row of its own. -/
structure FdS (B g : Nat) (H : List UInt8) (came : Nat) (over : Bool) (vb : Value) (w : World) : Prop where
  blk : Blk w g 105 #[vb, .int .i64 (came : Int), .bool over]
  row : w.ownsRow B 5 1 vb H.length (H.map bv)
theorem FdS.chg {B g : Nat} {H : List UInt8} {came : Nat} {over : Bool} {vb : Value} {w w' : World} {S : Nat → Prop} (h : FdS B g H came over vb w) (hc : Chg S w w') (hg : ¬ S g) (hv : ∀ q, vb.ownBlock = some q → ¬ S q) : FdS B g H came over vb w' := ⟨hc.blk h.blk hg, own_chgS h.row hc hv⟩
theorem FdS.below {B g : Nat} {H : List UInt8} {came : Nat} {over : Bool} {vb : Value} {w w' : World} (h : FdS B g H came over vb w) (hb : Below w.heap.size w w') : FdS B g H came over vb w' := h.chg (S := fun _ => False) (Chg.of_new hb) (fun h => h) (fun _ _ h => h)
set_option maxRecDepth 100000 in
set_option maxHeartbeats 1000000 in
theorem fdeaf_nil (w : World) : Calls Try.prog 54 #[.pointer none] w fun e w' => e = .returned (.bool true) ∧ w' = w := by
  go_enter Try.func54, Try.ntmps54
  go_wp2_with fail
  go_ret
  exact ⟨rfl, rfl⟩
set_option maxRecDepth 100000 in
set_option maxHeartbeats 1000000 in
theorem fdeaf_any (g : Nat) (vb : Value) (came : Nat) (over : Bool) (w : World) (hk : Blk w g 105 #[vb, .int .i64 (came : Int), .bool over]) : Calls Try.prog 54 #[.pointer (some ⟨g, 0, none⟩)] w fun e w' => e = .returned (.bool over) ∧ w' = w := by
  have c2 := hk.cell 2
  simp only [List.getElem?_toArray, List.getElem?_cons_zero, List.getElem?_cons_succ] at c2
  clear hk
  go_enter Try.func54, Try.ntmps54
  go_wp2_with fail
  go_ret
  exact ⟨rfl, rfl⟩
theorem bstep {B g : Nat} {came came' : Nat} {over : Bool} {vb v : Value} {w : World} (h : Blk w g 105 #[vb, .int .i64 (came : Int), .bool over]) : Blk ((w.setCell ⟨g, 0, none⟩ v).setCell ⟨g, 1, none⟩ (.int .i64 (came' : Int))) g 105 #[v, .int .i64 (came' : Int), .bool over] := by
  have := (h.set_ 0 v).set_ 1 (.int .i64 (came' : Int))
  simpa using this
set_option maxRecDepth 100000 in
set_option maxHeartbeats 2000000 in
theorem fadd_any (B g : Nat) (H : List UInt8) (came : Nat) (over : Bool) (vb : Value) (p : List UInt8) (n : Nat) (A : Option Addr) (c : Nat) (w : World) (h : FdS B g H came over vb w) (hgB : g < B) (hBw : B ≤ w.heap.size) (hn : p.length = n) (hs : Sl w A c (p.map bv)) (hH : H.length ≤ 10000000) (hnl : n ≤ 10000000) (hc : came ≤ 1000000000000) :
    Calls Try.prog 58 #[.pointer (some ⟨g, 0, none⟩), .slice A n c] w fun e w' => (∃ v, e = .returned v) ∧ ∃ vb', FdS B g (H ++ p) (came + n) over vb' w' ∧ Chg (fun q => q = g ∨ vb.ownBlock = some q) w w' ∧ (vb'.ownBlock = vb.ownBlock ∨ ∀ q, vb'.ownBlock = some q → w.heap.size ≤ q) := by
  obtain ⟨i0, hi, hz0, hz1, hz2⟩ := info_parts Try.info5
  obtain ⟨hk, hr⟩ := h
  obtain ⟨hl, hhl⟩ : ∃ hl, H.length = hl := ⟨_, rfl⟩
  rw [hhl] at hr hH
  have hng : ∀ q, vb.ownBlock = some q → q ≠ g := fun q hq e => by have := (hr.lt q hq).1; omega
  have hco : (came : Int) + (n : Int) = ((came + n : Nat) : Int) := by omega
  have hcw : IntKind.i64.wrap ((came : Int) + (n : Int)) = ((came + n : Nat) : Int) := by rw [IntWalk.i64_in _ (by omega)]; omega
  clear hco
  have c0 := hk.cell 0
  have c1 := hk.cell 1
  have f0 := hk.frozen 0
  have f1 := hk.frozen 1
  simp only [List.getElem?_toArray, List.getElem?_cons_zero, List.getElem?_cons_succ] at c0 c1
  have HK := hid hk
  have HR := hid hr
  have HS := hid hs
  have HN := hid hn
  have HHL := hid hhl
  have HNG := hid hng
  clear hk hr hs hn hhl hng
  go_enter Try.func58, Try.ntmps58
  go_wp2_with (at_builtin; refine wpList_append_rd2 rfl (.tmp 8) (.tmp 9) 30 rfl B 5 i0 (.int .u8 0) 1 1 Try.underlying30 hi hz0 hz1 hz2 rfl (by decide) _ _ _ rfl HR.out A n c (p.map bv) rfl (by rw [List.length_map, HN.out, Nat.mul_one]) HS.out.rd HS.out.nil0 (bv_one _) (by simp only [maxLen]; omega) (by omega) hBw ?_; intro v1 w1 hown1 hgrow1 hwh1; have HWH := hid hwh1; clear hwh1; obtain ⟨A1, c1', rfl⟩ := row_slice_g hown1; have hc1 := Chg.of_grown (S := fun q => vb.ownBlock = some q) hgrow1 (fun k e => e); have hk1 := hc1.blk HK.out (fun e => HNG.out g e rfl); have d0 := hk1.cell 0; have d1 := hk1.cell 1; have g0 := hk1.frozen 0; have g1 := hk1.frozen 1; simp only [List.getElem?_toArray, List.getElem?_cons_zero, List.getElem?_cons_succ] at d0 d1; have HO1 := hid hown1; have HC1 := hid hc1; have HK1 := hid hk1; clear hown1 hgrow1 hc1 hk1 c0 c1 f0 f1)
  go_end0
  have hown := HO1.out
  have hne : ∀ q, (Value.slice A1 (hl + n) c1').ownBlock = some q → q ≠ g := fun q hq e => by have := (hown.lt q hq).1; omega
  have hcs : Chg (fun q => q = g) w1 ((w1.setCell ⟨g, 0, none⟩ (.slice A1 (hl + n) c1')).setCell ⟨g, 1, none⟩ (.int .i64 ((came + n : Nat) : Int))) := ((Chg.refl (fun q => q = g) w1).set_ (.inl rfl) 0 _).set_ (.inl rfl) 1 _
  refine ⟨⟨_, rfl⟩, .slice A1 (hl + n) c1', ⟨bstep (B := B) HK1.out, ?_⟩, (HC1.out.mono (fun q _ h => .inr h)).trans (hcs.mono (fun q _ h => .inl h)), HWH.out⟩
  have h2 := own_chgS hown hcs (fun q hq e => hne q hq e)
  rw [List.length_append, HHL.out, HN.out, List.map_append]
  exact h2
/-- A frame that was found, further on. -/
def FdV.shift (k : Nat) (f : FdV) : FdV := { f with f := f.f.shift k }
theorem flat3 (l : List FdV) : (l.flatMap fdC).length = 3 * l.length := by
  induction l with
  | nil => rfl
  | cons x l ih => rw [List.flatMap_cons, List.length_append, ih]; simp [fdC]; omega
theorem flat3_get (l : List FdV) (i : Nat) (hi : i < l.length) : (l.flatMap fdC)[3 * i]? = some (.int .i64 (l[i].f.at_ : Int)) := by
  induction l generalizing i with
  | nil => simp at hi
  | cons x l ih =>
    rw [List.flatMap_cons]
    cases i with
    | zero => simp [fdC]
    | succ i =>
      rw [List.getElem?_append_right (by simp [fdC]; omega)]
      have : 3 * (i + 1) - (fdC x).length = 3 * i := by simp [fdC]; omega
      rw [this, ih i (by simpa using hi)]
      simp
theorem flat3_set (l : List FdV) (k i : Nat) (hi : i < l.length) : (l.flatMap fdC).set (3 * i) (.int .i64 ((k + l[i].f.at_ : Nat) : Int)) = (l.set i (l[i].shift k)).flatMap fdC := by
  induction l generalizing i with
  | nil => simp at hi
  | cons x l ih =>
    rw [List.flatMap_cons]
    cases i with
    | zero => simp [fdC, FdV.shift, Fnd.shift]
    | succ i =>
      rw [List.set_append_right _ _ (by simp [fdC]; omega)]
      have : 3 * (i + 1) - (fdC x).length = 3 * i := by simp [fdC]; omega
      rw [this]
      have h2 := ih i (by simpa using hi)
      simp only [List.getElem_cons_succ, List.set_cons_succ, List.flatMap_cons]
      rw [h2]
/-- The first ones moved on. -/
def mvd (k i : Nat) (l : List FdV) : List FdV := (l.take i).map (FdV.shift k) ++ l.drop i
theorem mvd_len (k i : Nat) (l : List FdV) : (mvd k i l).length = l.length := by simp [mvd]; omega
theorem mvd_at (k i : Nat) (l : List FdV) (hi : i < l.length) : (mvd k i l)[i]'(by rw [mvd_len]; exact hi) = l[i] := by
  unfold mvd
  rw [List.getElem_append_right (by simp; omega)]
  simp [Nat.min_eq_left (Nat.le_of_lt hi)]
theorem mvd_next (k i : Nat) (l : List FdV) (hi : i < l.length) : (mvd k i l).set i (l[i].shift k) = mvd k (i + 1) l := by
  unfold mvd
  rw [List.set_append_right _ _ (by simp; omega), List.length_map, List.length_take, Nat.min_eq_left (Nat.le_of_lt hi), Nat.sub_self, List.drop_eq_getElem_cons hi, List.set_cons_zero, List.take_succ_eq_append_getElem hi, List.map_append]
  simp
theorem mvd_all (k : Nat) (l : List FdV) : mvd k l.length l = l.map (FdV.shift k) := by simp [mvd]
set_option maxRecDepth 100000 in
set_option maxHeartbeats 4000000 in
theorem fplaced_any (B2 g : Nat) (hl came : Nat) (vb : Value) (Ab : Option Addr) (cb : Nat) (fs : List FdV) (L : Nat) (Al : Option Addr) (cl : Nat) (w : World) (hvb : vb = .slice Ab hl cb) (hk : Blk w g 105 #[vb, .int .i64 (came : Int), .bool false]) (hr : w.ownsRow B2 80 3 (.slice Al L cl) L (fs.flatMap fdC)) (hL : fs.length = L) (hgB : g < B2) (hle : hl ≤ came) (hc : came ≤ 1000000000000) (hat : ∀ f ∈ fs, f.f.at_ ≤ hl) :
    Calls Try.prog 55 #[.pointer (some ⟨g, 0, none⟩), .slice Al L cl] w fun e w' => e = .returned (.slice Al L cl) ∧ w'.ownsRow B2 80 3 (.slice Al L cl) L ((fs.map (FdV.shift (came - hl))).flatMap fdC) ∧ Chg (fun q => (Value.slice Al L cl).ownBlock = some q) w w' := by
  subst hvb
  have c0 := hk.cell 0
  have c1 := hk.cell 1
  simp only [List.getElem?_toArray, List.getElem?_cons_zero, List.getElem?_cons_succ] at c0 c1
  obtain ⟨k, hkk⟩ : ∃ k, came - hl = k := ⟨_, rfl⟩
  rw [hkk]
  have hsub : IntKind.i64.wrap ((came : Int) - (hl : Int)) = (k : Int) := by rw [IntWalk.i64_in _ (by omega)]; omega
  have hLl : L ≤ 9223372036854775807 := by
    rcases hr.2 with ⟨h1, h2⟩ | ⟨g', cap, cur, h1, -, -, h2, h3, -⟩
    · omega
    · simp only [maxLen] at h3; omega
  have HK := hid hk
  have HR := hid hr
  have HL := hid hL
  have HAT := hid hat
  have HKK := hid hkk
  clear hk hr hL hat hkk
  go_enter Try.func55, Try.ntmps55
  go_wp2_with fail
  go_quiet (fail)
  go_wp2_with fail
  go_loopw [19] (fun i wr => ∃ j : Nat, j ≤ L ∧ i = .int .i64 j ∧ wr.ownsRow B2 80 3 (.slice Al L cl) L ((mvd k j fs).flatMap fdC) ∧ Chg (fun q => (Value.slice Al L cl).ownBlock = some q) w wr) (fun i _ => L - (intOf i).toNat)
  case atStart => exact ⟨0, by omega, rfl, by simpa [mvd] using own_chgS HR.out (Chg.drewN (Chg.refl (fun _ => False) w) _) (fun _ _ h => h), Chg.drewN (Chg.refl _ w) _⟩
  case round =>
    obtain ⟨j, hj, rfl, ho, hch⟩ := hrel
    have HO := hid ho
    have HCH := hid hch
    clear ho hch
    by_cases hlt : j < L
    · have hji : (j : Int) < (L : Int) := by omega
      have hjf : j < fs.length := by have := HL.out; omega
      obtain ⟨gr, rfl⟩ : ∃ gr, Al = some ⟨gr, 0, none⟩ := by
        rcases HO.out.2 with ⟨h1, h2⟩ | ⟨g', cap, cur, h1, -⟩
        · omega
        · injection h1 with h1; exact ⟨g', h1⟩
      have hget := flat3_get (mvd k j fs) j (by rw [mvd_len]; exact hjf)
      rw [mvd_at k j fs hjf] at hget
      have hcell := (HO.out.cellAt (3 * j) (by omega)).trans hget
      rw [Nat.mul_comm 3 j] at hcell
      have hfro := HO.out.frozenAt (j * 3)
      have hst := HO.out.stored (j * 3) (.int .i64 ((k + fs[j].f.at_ : Nat) : Int))
      have hset := flat3_set (mvd k j fs) k j (by rw [mvd_len]; exact hjf)
      rw [mvd_at k j fs hjf, mvd_next k j fs hjf] at hset
      rw [Nat.mul_comm 3 j] at hset
      rw [hset, Int.natCast_add] at hst
      have hle2 := HAT.out fs[j] (List.getElem_mem hjf)
      generalize fs[j].f.at_ = p at *
      have hadd : IntKind.i64.wrap ((p : Int) + (k : Int)) = ((k + p : Nat) : Int) := by have := HKK.out; rw [IntWalk.i64_in _ (by omega)]; omega
      have HST := hid hst
      clear hget hset hst
      go_wp2_with fail
      refine ⟨⟨j + 1, by omega, by go_num, HST.out.1, HCH.out.trans (Chg.of_grown HST.out.2 (fun q e => e))⟩, ?_⟩
      simp [intOf]; omega
    · have hji : ¬ (j : Int) < (L : Int) := by omega
      obtain rfl : j = L := by omega
      go_wp2_with fail
      go_ret
      refine ⟨rfl, ?_, HCH.out⟩
      have := HO.out
      rw [← HL.out, mvd_all] at this
      rw [← HL.out]
      exact this
end Go.Proofs.Ytnfodgjihdoncaa
