/- append, and where what it gives lies: in the row's own block, or in new memory. · A stream that comes in pieces: mathematics. · The parts of a feeder: deaf, add, placed. · slices.Chunk of bytes. · A feeder's small functions, and its end. · A feeder's end. -/
import Derived.Test.YtabklpgimjmdlaaM1
import Derived.Test.YtabklpgimjmdlaaRsM4
import Derived.Test.YtabklpgimjmdlaaRsAll
import Derived.Laws.OwnMore
import Derived.Sort.QuietIn
import Derived.Deep.RegionHeld3
set_option linter.unusedVariables false
namespace Go.Proofs.Ytabklpgimjmdlaa
open Go.RowKit
theorem append_where {P : Program} {w : World} (base : Nat) (t ty e : TypeId) (i : TypeInfo) (z : Value) (size bytes : Nat) (ht : P.underlying t = some (.slice e)) (hi : P.info? e = some i) (hz : i.zero = some z)
    (hsize : i.size = size) (hby : i.bytes = bytes) (hzs : z.cells.size = size) (hsz : 0 < size)
    (v : Value) (n : Nat) (xs : List Value) (hown : w.ownsRow base e size v n xs)
    (a : Addr) (m c : Nat) (news : List Value) (hl : news.length = m * size) (hnews : ∀ j u, news[j]? = some u → w.cell? (a.add j) = some u) (h1 : ∀ u ∈ news, u.oneCell' = true)
    (h63 : n + m ≤ maxLen) (hbytes : (n + m) * bytes ≤ 140737488355328) (v' : Value) (w' : World)
    (hr : (Builtin.append_ #[t, t] ty #[v, .slice (some a) m c]).run P w = .ok v' w') : v'.ownBlock = v.ownBlock ∨ ∀ q, v'.ownBlock = some q → w.heap.size ≤ q := by
  rcases hown.2 with ⟨rfl, rfl⟩ | ⟨g, cap, cur, rfl, hbg, hg, hnc, hcm, hcs, htake⟩
  · have hx : xs = [] := List.eq_nil_of_length_eq_zero (by simpa using hown.1)
    subst hx
    obtain ⟨v2, w2, hr2, h2, -, -⟩ := run_append_own (P := P) (w := w) w.heap.size t ty e i z size bytes ht hi hz hsize hby hzs hsz (.slice none 0 0) 0 [] (World.ownsRow_nil _ _ _ _) a m c news hl hnews h1 h63 hbytes (Nat.le_refl _)
    rw [hr] at hr2
    injection hr2 with e1 e2
    subst e1
    exact .inr fun q hq => (h2.lt q hq).1
  · subst hsize
    by_cases hroom : n + m ≤ cap
    · have hfit : n * i.size + news.length ≤ cur.size := by rw [hl, hcs, ← Nat.add_mul]; exact Nat.mul_le_mul_right _ hroom
      have hr2 := run_append_room (P := P) w t ty e i ht hi g n cap cur hg a m c news hl hnews h1 hroom hfit
      rw [hr] at hr2
      injection hr2 with e1 e2
      subst e1
      exact .inl rfl
    · subst hby
      have hsmall : n + m ≤ 9223372036854775807 := by simp only [maxLen] at h63; omega
      have holds : ∀ j u, xs[j]? = some u → w.cell? ((⟨g, 0, none⟩ : Addr).add j) = some u := hown.cells (g := g) rfl
      have hr2 := run_append_grow (P := P) w t ty e i z ht hi hz ⟨g, 0, none⟩ n cap xs hown.1 holds a m c news hl hnews (by omega) (by omega) (growslice_fits (by omega) hbytes)
      rw [hr] at hr2
      injection hr2 with e1 e2
      subst e1
      exact .inr fun q hq => by injection hq with hq; rw [← hq]; exact Nat.le_refl _
/-- wpList_append_rd, and where the row lies. -/
theorem wpList_append_rd2 {P : Program} {w : World} {ops : Array Oper} {rest : List Oper} {o : Oper} {a : Act} {Q : Exit → Act → World → Prop} (hgd : o.guard = none) (s x : Operand) (t : TypeId)
    (ho : o.op = .call { callee := .builtin .append, args := #[s, x], argTypes := #[t, t] })
    (base : Nat) (e : TypeId) (i : TypeInfo) (z : Value) (size bytes : Nat) (ht : P.underlying t = some (.slice e)) (hi : P.info? e = some i) (hz : i.zero = some z)
    (hsize : i.size = size) (hby : i.bytes = bytes) (hzs : z.cells.size = size) (hsz : 0 < size)
    (v : Value) (n : Nat) (xs : List Value) (hs : a.eval s = v) (hown : w.ownsRow base e size v n xs)
    (A : Option Addr) (m c : Nat) (news : List Value) (hx : a.eval x = .slice A m c) (hl : news.length = m * size) (hr : Rd w A news) (hn : A = none → c = 0) (h1 : ∀ u ∈ news, u.oneCell' = true)
    (h63 : n + m ≤ maxLen) (hbytes : (n + m) * bytes ≤ 140737488355328) (hbase : base ≤ w.heap.size)
    (h : ∀ v' w', w'.ownsRow base e size v' (n + m) (xs ++ news) → w.grownBy w' v.ownBlock → (v'.ownBlock = v.ownBlock ∨ ∀ q, v'.ownBlock = some q → w.heap.size ≤ q) → wpList P ops Q rest (a.put o.dst v') w') : wpList P ops Q (o :: rest) a w := by
  cases A with
  | none =>
    obtain rfl := hr.none_nil
    obtain rfl := hn rfl
    have hm : m = 0 := by
      have h0 : m * size = 0 := by simpa using hl.symm
      rcases Nat.mul_eq_zero.1 h0 with q | q <;> omega
    subst hm
    exact wpList_append_own_none hgd s x t ho base e i size ht hi v n xs hs hown hx (h v w (by simpa using hown) ⟨rfl, rfl, rfl, Nat.le_refl _, fun _ _ _ => rfl⟩ (.inl rfl))
  | some ad =>
    refine wpList_plain hgd fun K hK => ?_
    obtain ⟨v', w', hrun, h2, h3, -⟩ := run_append_own (P := P) (w := w) base t o.type e i z size bytes ht hi hz hsize hby hzs hsz v n xs hown ad m c news hl hr.addr h1 h63 hbytes hbase
    have h5 := append_where base t o.type e i z size bytes ht hi hz hsize hby hzs hsz v n xs hown ad m c news hl hr.addr h1 h63 hbytes v' w' hrun
    unfold Oper.wp execOp
    simp only [ho, resolve, invoke, builtin, Sem.run_bind, Sem.run_pure, Result.andThen_ok, List.map_toArray, List.map_cons, List.map_nil, hs, hx, hrun]
    exact hK _ _ (h v' w' h2 h3 h5)
end Go.Proofs.Ytabklpgimjmdlaa
set_option linter.unusedVariables false
namespace Go.Proofs.Ytabklpgimjmdlaa
open Go.RowKit
theorem Fd.le (S : List UInt8) : (Rs.wk false S 0).2 ≤ S.length := (Rs.wk_facts false S 0).2.2 (by omega)
/-- What is told of a stream that goes on: what was told, and what is found in what was held, and the piece. -/
theorem Fd.step (S p : List UInt8) : Rs.wk false (S ++ p) 0 = ((Rs.wk false S 0).1 ++ (Rs.wk false (S.drop (Rs.wk false S 0).2 ++ p) 0).1.map (Fnd.shift (Rs.wk false S 0).2), (Rs.wk false S 0).2 + (Rs.wk false (S.drop (Rs.wk false S 0).2 ++ p) 0).2) := by
  have hk := Fd.le S
  have h1 := Rs.grow S p 0 (by omega)
  have h2 := Rs.shift false (S.take (Rs.wk false S 0).2) (S.drop (Rs.wk false S 0).2 ++ p) 0
  rw [List.length_take, Nat.min_eq_left hk, ← List.append_assoc, List.take_append_drop, Nat.add_zero] at h2
  rw [h1, h2]
/-- What is held behind a piece more. -/
theorem Fd.held (S p : List UInt8) : (S ++ p).drop (Rs.wk false (S ++ p) 0).2 = (S.drop (Rs.wk false S 0).2 ++ p).drop (Rs.wk false (S.drop (Rs.wk false S 0).2 ++ p) 0).2 := by
  have hk := Fd.le S
  rw [Fd.step, ← List.drop_drop]
  congr 1
  rw [List.drop_append_of_le_length hk]
theorem Fd.news (S p : List UInt8) : (Rs.wk false (S ++ p) 0).1.drop (Rs.wk false S 0).1.length = (Rs.wk false (S.drop (Rs.wk false S 0).2 ++ p) 0).1.map (Fnd.shift (Rs.wk false S 0).2) := by
  rw [Fd.step]; simp
theorem Fd.len (S p : List UInt8) : (Rs.wk false S 0).1.length ≤ (Rs.wk false (S ++ p) 0).1.length := by
  rw [Fd.step]; simp
theorem Fd.pre (S p : List UInt8) : (Rs.wk false (S ++ p) 0).1.take (Rs.wk false S 0).1.length = (Rs.wk false S 0).1 := by
  rw [Fd.step]; simp
/-- It holds less than a frame may have at most. -/
theorem Fd.less (S : List UInt8) : S.length - (Rs.wk false S 0).2 < 8201 := by
  rcases Rs.wk_known S 0 (by omega) with h | ⟨h1, h2⟩
  · omega
  · have := Fr.rE_short h2
    rw [List.length_drop] at this
    exact this
end Go.Proofs.Ytabklpgimjmdlaa
set_option linter.unusedVariables false
namespace Go.Proofs.Ytabklpgimjmdlaa
open Go.RowKit
/-- What a feeder holds, in its block: a row of its own. -/
structure FdS (B g : Nat) (H : List UInt8) (came : Nat) (over : Bool) (vb : Value) (w : World) : Prop where
  blk : Blk w g 69 #[vb, .int .i64 (came : Int), .bool over]
  row : w.ownsRow B 5 1 vb H.length (H.map bv)
theorem FdS.chg {B g : Nat} {H : List UInt8} {came : Nat} {over : Bool} {vb : Value} {w w' : World} {S : Nat → Prop} (h : FdS B g H came over vb w) (hc : Chg S w w') (hg : ¬ S g) (hv : ∀ q, vb.ownBlock = some q → ¬ S q) : FdS B g H came over vb w' := ⟨hc.blk h.blk hg, own_chgS h.row hc hv⟩
theorem FdS.below {B g : Nat} {H : List UInt8} {came : Nat} {over : Bool} {vb : Value} {w w' : World} (h : FdS B g H came over vb w) (hb : Below w.heap.size w w') : FdS B g H came over vb w' := h.chg (S := fun _ => False) (Chg.of_new hb) (fun h => h) (fun _ _ h => h)
set_option maxRecDepth 100000 in
set_option maxHeartbeats 1000000 in
theorem fdeaf_nil (w : World) : Calls Try.prog 36 #[.pointer none] w fun e w' => e = .returned (.bool true) ∧ w' = w := by
  go_enter Try.func36, Try.ntmps36
  go_wp2_with fail
  go_ret
  exact ⟨rfl, rfl⟩
set_option maxRecDepth 100000 in
set_option maxHeartbeats 1000000 in
theorem fdeaf_any (g : Nat) (vb : Value) (came : Nat) (over : Bool) (w : World) (hk : Blk w g 69 #[vb, .int .i64 (came : Int), .bool over]) : Calls Try.prog 36 #[.pointer (some ⟨g, 0, none⟩)] w fun e w' => e = .returned (.bool over) ∧ w' = w := by
  have c2 := hk.cell 2
  simp only [List.getElem?_toArray, List.getElem?_cons_zero, List.getElem?_cons_succ] at c2
  clear hk
  go_enter Try.func36, Try.ntmps36
  go_wp2_with fail
  go_ret
  exact ⟨rfl, rfl⟩
theorem bstep {B g : Nat} {came came' : Nat} {over : Bool} {vb v : Value} {w : World} (h : Blk w g 69 #[vb, .int .i64 (came : Int), .bool over]) : Blk ((w.setCell ⟨g, 0, none⟩ v).setCell ⟨g, 1, none⟩ (.int .i64 (came' : Int))) g 69 #[v, .int .i64 (came' : Int), .bool over] := by
  have := (h.set_ 0 v).set_ 1 (.int .i64 (came' : Int))
  simpa using this
set_option maxRecDepth 100000 in
set_option maxHeartbeats 2000000 in
theorem fadd_any (B g : Nat) (H : List UInt8) (came : Nat) (over : Bool) (vb : Value) (p : List UInt8) (n : Nat) (A : Option Addr) (c : Nat) (w : World) (h : FdS B g H came over vb w) (hgB : g < B) (hBw : B ≤ w.heap.size) (hn : p.length = n) (hs : Sl w A c (p.map bv)) (hH : H.length ≤ 10000000) (hnl : n ≤ 10000000) (hc : came ≤ 1000000000000) :
    Calls Try.prog 38 #[.pointer (some ⟨g, 0, none⟩), .slice A n c] w fun e w' => (∃ v, e = .returned v) ∧ ∃ vb', FdS B g (H ++ p) (came + n) over vb' w' ∧ Chg (fun q => q = g ∨ vb.ownBlock = some q) w w' ∧ (vb'.ownBlock = vb.ownBlock ∨ ∀ q, vb'.ownBlock = some q → w.heap.size ≤ q) := by
  obtain ⟨i0, hi, hz0, hz1, hz2⟩ := info_parts Try.info5
  obtain ⟨hk, hr⟩ := h
  obtain ⟨hl, hhl⟩ : ∃ hl, H.length = hl := ⟨_, rfl⟩
  rw [hhl] at hr hH
  have hng : ∀ q, vb.ownBlock = some q → q ≠ g := fun q hq e => by have := (hr.lt q hq).1; omega
  have hco : (came : Int) + (n : Int) = ((came + n : Nat) : Int) := by omega
  have hcw : IntKind.i64.wrap ((came : Int) + (n : Int)) = ((came + n : Nat) : Int) := by rw [IntWalk.i64_in _ (by omega)]; omega
  clear hco
  have c0 := hk.cell 0
  have c1 := hk.cell 1
  have f0 := hk.frozen 0
  have f1 := hk.frozen 1
  simp only [List.getElem?_toArray, List.getElem?_cons_zero, List.getElem?_cons_succ] at c0 c1
  have HK := hid hk
  have HR := hid hr
  have HS := hid hs
  have HN := hid hn
  have HHL := hid hhl
  have HNG := hid hng
  clear hk hr hs hn hhl hng
  go_enter Try.func38, Try.ntmps38
  go_wp2_with (at_builtin; refine wpList_append_rd2 rfl (.tmp 8) (.tmp 9) 22 rfl B 5 i0 (.int .u8 0) 1 1 Try.underlying22 hi hz0 hz1 hz2 rfl (by decide) _ _ _ rfl HR.out A n c (p.map bv) rfl (by rw [List.length_map, HN.out, Nat.mul_one]) HS.out.rd HS.out.nil0 (bv_one _) (by simp only [maxLen]; omega) (by omega) hBw ?_; intro v1 w1 hown1 hgrow1 hwh1; have HWH := hid hwh1; clear hwh1; obtain ⟨A1, c1', rfl⟩ := row_slice_g hown1; have hc1 := Chg.of_grown (S := fun q => vb.ownBlock = some q) hgrow1 (fun k e => e); have hk1 := hc1.blk HK.out (fun e => HNG.out g e rfl); have d0 := hk1.cell 0; have d1 := hk1.cell 1; have g0 := hk1.frozen 0; have g1 := hk1.frozen 1; simp only [List.getElem?_toArray, List.getElem?_cons_zero, List.getElem?_cons_succ] at d0 d1; have HO1 := hid hown1; have HC1 := hid hc1; have HK1 := hid hk1; clear hown1 hgrow1 hc1 hk1 c0 c1 f0 f1)
  go_end0
  have hown := HO1.out
  have hne : ∀ q, (Value.slice A1 (hl + n) c1').ownBlock = some q → q ≠ g := fun q hq e => by have := (hown.lt q hq).1; omega
  have hcs : Chg (fun q => q = g) w1 ((w1.setCell ⟨g, 0, none⟩ (.slice A1 (hl + n) c1')).setCell ⟨g, 1, none⟩ (.int .i64 ((came + n : Nat) : Int))) := ((Chg.refl (fun q => q = g) w1).set_ (.inl rfl) 0 _).set_ (.inl rfl) 1 _
  refine ⟨⟨_, rfl⟩, .slice A1 (hl + n) c1', ⟨bstep (B := B) HK1.out, ?_⟩, (HC1.out.mono (fun q _ h => .inr h)).trans (hcs.mono (fun q _ h => .inl h)), HWH.out⟩
  have h2 := own_chgS hown hcs (fun q hq e => hne q hq e)
  rw [List.length_append, HHL.out, HN.out, List.map_append]
  exact h2
/-- A frame that was found, further on. -/
def FdV.shift (k : Nat) (f : FdV) : FdV := { f with f := f.f.shift k }
theorem flat3 (l : List FdV) : (l.flatMap fdC).length = 3 * l.length := by
  induction l with
  | nil => rfl
  | cons x l ih => rw [List.flatMap_cons, List.length_append, ih]; simp [fdC]; omega
theorem flat3_get (l : List FdV) (i : Nat) (hi : i < l.length) : (l.flatMap fdC)[3 * i]? = some (.int .i64 (l[i].f.at_ : Int)) := by
  induction l generalizing i with
  | nil => simp at hi
  | cons x l ih =>
    rw [List.flatMap_cons]
    cases i with
    | zero => simp [fdC]
    | succ i =>
      rw [List.getElem?_append_right (by simp [fdC]; omega)]
      have : 3 * (i + 1) - (fdC x).length = 3 * i := by simp [fdC]; omega
      rw [this, ih i (by simpa using hi)]
      simp
theorem flat3_set (l : List FdV) (k i : Nat) (hi : i < l.length) : (l.flatMap fdC).set (3 * i) (.int .i64 ((k + l[i].f.at_ : Nat) : Int)) = (l.set i (l[i].shift k)).flatMap fdC := by
  induction l generalizing i with
  | nil => simp at hi
  | cons x l ih =>
    rw [List.flatMap_cons]
    cases i with
    | zero => simp [fdC, FdV.shift, Fnd.shift]
    | succ i =>
      rw [List.set_append_right _ _ (by simp [fdC]; omega)]
      have : 3 * (i + 1) - (fdC x).length = 3 * i := by simp [fdC]; omega
      rw [this]
      have h2 := ih i (by simpa using hi)
      simp only [List.getElem_cons_succ, List.set_cons_succ, List.flatMap_cons]
      rw [h2]
/-- The first ones moved on. -/
def mvd (k i : Nat) (l : List FdV) : List FdV := (l.take i).map (FdV.shift k) ++ l.drop i
theorem mvd_len (k i : Nat) (l : List FdV) : (mvd k i l).length = l.length := by simp [mvd]; omega
theorem mvd_at (k i : Nat) (l : List FdV) (hi : i < l.length) : (mvd k i l)[i]'(by rw [mvd_len]; exact hi) = l[i] := by
  unfold mvd
  rw [List.getElem_append_right (by simp; omega)]
  simp [Nat.min_eq_left (Nat.le_of_lt hi)]
theorem mvd_next (k i : Nat) (l : List FdV) (hi : i < l.length) : (mvd k i l).set i (l[i].shift k) = mvd k (i + 1) l := by
  unfold mvd
  rw [List.set_append_right _ _ (by simp; omega), List.length_map, List.length_take, Nat.min_eq_left (Nat.le_of_lt hi), Nat.sub_self, List.drop_eq_getElem_cons hi, List.set_cons_zero, List.take_succ_eq_append_getElem hi, List.map_append]
  simp
theorem mvd_all (k : Nat) (l : List FdV) : mvd k l.length l = l.map (FdV.shift k) := by simp [mvd]
set_option maxRecDepth 100000 in
set_option maxHeartbeats 4000000 in
theorem fplaced_any (B2 g : Nat) (hl came : Nat) (vb : Value) (Ab : Option Addr) (cb : Nat) (fs : List FdV) (L : Nat) (Al : Option Addr) (cl : Nat) (w : World) (hvb : vb = .slice Ab hl cb) (hk : Blk w g 69 #[vb, .int .i64 (came : Int), .bool false]) (hr : w.ownsRow B2 61 3 (.slice Al L cl) L (fs.flatMap fdC)) (hL : fs.length = L) (hgB : g < B2) (hle : hl ≤ came) (hc : came ≤ 1000000000000) (hat : ∀ f ∈ fs, f.f.at_ ≤ hl) :
    Calls Try.prog 39 #[.pointer (some ⟨g, 0, none⟩), .slice Al L cl] w fun e w' => e = .returned (.slice Al L cl) ∧ w'.ownsRow B2 61 3 (.slice Al L cl) L ((fs.map (FdV.shift (came - hl))).flatMap fdC) ∧ Chg (fun q => (Value.slice Al L cl).ownBlock = some q) w w' := by
  subst hvb
  have c0 := hk.cell 0
  have c1 := hk.cell 1
  simp only [List.getElem?_toArray, List.getElem?_cons_zero, List.getElem?_cons_succ] at c0 c1
  obtain ⟨k, hkk⟩ : ∃ k, came - hl = k := ⟨_, rfl⟩
  rw [hkk]
  have hsub : IntKind.i64.wrap ((came : Int) - (hl : Int)) = (k : Int) := by rw [IntWalk.i64_in _ (by omega)]; omega
  have hLl : L ≤ 9223372036854775807 := by
    rcases hr.2 with ⟨h1, h2⟩ | ⟨g', cap, cur, h1, -, -, h2, h3, -⟩
    · omega
    · simp only [maxLen] at h3; omega
  have HK := hid hk
  have HR := hid hr
  have HL := hid hL
  have HAT := hid hat
  have HKK := hid hkk
  clear hk hr hL hat hkk
  go_enter Try.func39, Try.ntmps39
  go_wp2_with fail
  go_quiet (fail)
  go_wp2_with fail
  go_loopw [19] (fun i wr => ∃ j : Nat, j ≤ L ∧ i = .int .i64 j ∧ wr.ownsRow B2 61 3 (.slice Al L cl) L ((mvd k j fs).flatMap fdC) ∧ Chg (fun q => (Value.slice Al L cl).ownBlock = some q) w wr) (fun i _ => L - (intOf i).toNat)
  case atStart => exact ⟨0, by omega, rfl, by simpa [mvd] using own_chgS HR.out (Chg.drewN (Chg.refl (fun _ => False) w) _) (fun _ _ h => h), Chg.drewN (Chg.refl _ w) _⟩
  case round =>
    obtain ⟨j, hj, rfl, ho, hch⟩ := hrel
    have HO := hid ho
    have HCH := hid hch
    clear ho hch
    by_cases hlt : j < L
    · have hji : (j : Int) < (L : Int) := by omega
      have hjf : j < fs.length := by have := HL.out; omega
      obtain ⟨gr, rfl⟩ : ∃ gr, Al = some ⟨gr, 0, none⟩ := by
        rcases HO.out.2 with ⟨h1, h2⟩ | ⟨g', cap, cur, h1, -⟩
        · omega
        · injection h1 with h1; exact ⟨g', h1⟩
      have hget := flat3_get (mvd k j fs) j (by rw [mvd_len]; exact hjf)
      rw [mvd_at k j fs hjf] at hget
      have hcell := (HO.out.cellAt (3 * j) (by omega)).trans hget
      rw [Nat.mul_comm 3 j] at hcell
      have hfro := HO.out.frozenAt (j * 3)
      have hst := HO.out.stored (j * 3) (.int .i64 ((k + fs[j].f.at_ : Nat) : Int))
      have hset := flat3_set (mvd k j fs) k j (by rw [mvd_len]; exact hjf)
      rw [mvd_at k j fs hjf, mvd_next k j fs hjf] at hset
      rw [Nat.mul_comm 3 j] at hset
      rw [hset, Int.natCast_add] at hst
      have hle2 := HAT.out fs[j] (List.getElem_mem hjf)
      generalize fs[j].f.at_ = p at *
      have hadd : IntKind.i64.wrap ((p : Int) + (k : Int)) = ((k + p : Nat) : Int) := by have := HKK.out; rw [IntWalk.i64_in _ (by omega)]; omega
      have HST := hid hst
      clear hget hset hst
      go_wp2_with fail
      refine ⟨⟨j + 1, by omega, by go_num, HST.out.1, HCH.out.trans (Chg.of_grown HST.out.2 (fun q e => e))⟩, ?_⟩
      simp [intOf]; omega
    · have hji : ¬ (j : Int) < (L : Int) := by omega
      obtain rfl : j = L := by omega
      go_wp2_with fail
      go_ret
      refine ⟨rfl, ?_, HCH.out⟩
      have := HO.out
      rw [← HL.out, mvd_all] at this
      rw [← HL.out]
      exact this
end Go.Proofs.Ytabklpgimjmdlaa
set_option linter.unusedVariables false
namespace Go.Proofs.Ytabklpgimjmdlaa
open Go.RowKit Go.Shelf
attribute [local go_sem] Oper.semAt_some
set_option maxRecDepth 100000 in
set_option maxHeartbeats 1000000 in
theorem fchunk_in (m : Nat) (A : Option Addr) (n c : Nat) (q : Nat) (hq : 1 ≤ q) (w : World) :
    CallsIn Fence.wide m Try.prog 37 #[.slice A n c, .int .i64 (q : Int)] w fun e w' => e = .returned (.func (.func 50) #[] #[.pointer (some ⟨w.heap.size, 0, none⟩), .pointer (some ⟨w.heap.size + 1, 0, none⟩)]) ∧ w' = (w.alloc (.cells #[.slice A n c] 22)).alloc (.cells #[.int .i64 (q : Int)] 3) := by
  have hq1 : ¬ (q : Int) < 1 := by omega
  refine callsIn_of_wp Try.func37 rfl trivial ?_ rfl
  simp only [Try.ntmps37, List.size_toArray, List.length_cons, List.length_nil, Nat.reduceAdd, Nat.reduceSub, Array.replicate_succ, Array.replicate_zero, List.push_toArray, List.append_toArray, List.nil_append, List.cons_append]
  gi_wp2
  go_ret
  exact ⟨rfl, rfl⟩
/-- How many pieces there are. -/
def ckN (n q : Nat) : Nat := (n + q - 1) / q
/-- A piece. -/
def ckV (b off n q j : Nat) : Array Value := #[.slice (some ⟨b, off + q * j, none⟩) (min q (n - q * j)) (min q (n - q * j))]
theorem ck_in {n q j : Nat} (hq : 1 ≤ q) : j < ckN n q ↔ q * j < n := by
  unfold ckN
  rw [Nat.lt_div_iff_mul_lt (by omega), Nat.mul_comm j q]
  omega
set_option maxRecDepth 100000 in
set_option maxHeartbeats 4000000 in
theorem fchunk1_in (m : Nat) (hm : 1 ≤ m) (l Bs Bn : Nat) (b off n c q : Nat) (hq : 1 ≤ q) (hq2 : q ≤ 100000) (hnc : n ≤ c) (hc : c ≤ 9223372036854775807) (hn2 : n ≤ 1000000) (J : Nat → World → Prop) (Jx : World → Prop) (hJc : ∀ j W, J j W → W.cell? ⟨Bs, 0, none⟩ = some (.slice (some ⟨b, off, none⟩) n c) ∧ W.cell? ⟨Bn, 0, none⟩ = some (.int .i64 (q : Int))) (hJd : ∀ j W k, J j W → J j (W.drewN k))
    (hY : ∀ j W, j < ckN n q → J j W → YieldAt Fence.wide (m - 1) Try.prog l (ckV b off n q j) W fun e W' => (e = .returned (.bool true) ∧ J (j + 1) W') ∨ (e = .returned (.bool false) ∧ Jx W'))
    (W : World) (h0 : J 0 W) :
    CallsIn Fence.wide m Try.prog 50 #[.func (.yield l) #[] #[], .pointer (some ⟨Bs, 0, none⟩), .pointer (some ⟨Bn, 0, none⟩)] W fun e W' => (∃ v, e = .returned v) ∧ (J (ckN n q) W' ∨ Jx W') := by
  have HY := hid hY
  have HJC := hid hJc
  have HJD := hid hJd
  clear hY hJc hJd
  refine callsIn_of_wp Try.func50 rfl trivial ?_ rfl
  simp only [Try.ntmps50, List.size_toArray, List.length_cons, List.length_nil, Nat.reduceAdd, Nat.reduceSub, Array.replicate_succ, Array.replicate_zero, List.push_toArray, List.append_toArray, List.nil_append, List.cons_append]
  gi_wp2
  gi_loopw [4] (fun p wr => ∃ (j i : Nat), p = .int .i64 (i : Int) ∧ i = q * j ∧ j ≤ ckN n q ∧ J j wr) (fun p _ => n - (intOf p).toNat)
  case atStart => exact ⟨0, 0, rfl, by simp, by omega, h0⟩
  case round =>
    obtain ⟨j, i, rfl, hij, hj, hJ⟩ := hrel
    have hc := HJC.out j wr hJ
    have hc3 := fun k => HJC.out j _ (HJD.out j wr k hJ)
    obtain ⟨hc1, hc2⟩ := hc
    have HJ := hid hJ
    have HIJ := hid hij
    clear hJ hij
    by_cases hlt : i < n
    · have hjn : j < ckN n q := (ck_in hq).2 (by rw [← HIJ.out]; exact hlt)
      have hi1 : (i : Int) < (n : Int) := by omega
      have hi2 : (i : Int) ≤ (c : Int) := by omega
      have hi3 : ¬ (i : Int) = (c : Int) := by omega
      have hi4 : ¬ i = c := by omega
      have hi5 : i ≤ c := by omega
      gi_wp2
      gi_quiet (fail)
      have he : (min (q : Int) ((n - i : Nat) : Int)) = ((min q (n - i) : Nat) : Int) := by omega
      rw [he]
      obtain ⟨fn, tmps, assign, body, hy, hR⟩ := HY.out j _ hjn (HJD.out j wr nq HJ.out)
      unfold ckV at hy
      rw [← HIJ.out] at hy
      have he1 : 1 ≤ min q (n - i) := by omega
      have he2 : i + min q (n - i) ≤ n := by omega
      generalize min q (n - i) = e at *
      clear he
      have hs1 : IntKind.i64.wrap ((i : Int) + (e : Int)) = ((i + e : Nat) : Int) := by rw [IntWalk.i64_in _ (by omega)]; omega
      obtain ⟨hc3, hc4⟩ := hc3 nq
      gi_wp2
      refine hR.mono ?_
      rintro e0 W3 (⟨rfl, hJ3⟩ | ⟨rfl, hJx3⟩)
      · obtain ⟨hc5, hc6⟩ := HJC.out (j + 1) W3 hJ3
        have hs2 : IntKind.i64.wrap ((i : Int) + (q : Int)) = ((i + q : Nat) : Int) := by rw [IntWalk.i64_in _ (by omega)]; omega
        have HJ3 := hid hJ3
        clear hJ3
        gi_wp2
        go_roundw
        case rel => exact ⟨j + 1, i + q, by go_num, by rw [HIJ.out, Nat.mul_succ], by omega, HJ3.out⟩
        case measure => simp [intOf]; omega
      · have HJX := hid hJx3
        clear hJx3
        gi_wp2
        refine bodyPost_ret (results_none rfl _ _ _) rfl ?_
        exact ⟨⟨_, rfl⟩, .inr HJX.out⟩
    · have hi1 : ¬ (i : Int) < (n : Int) := by omega
      have hjn : j = ckN n q := by
        have : ¬ j < ckN n q := fun h => by have := (ck_in hq).1 h; have := HIJ.out; omega
        omega
      subst hjn
      gi_wp2
      go_end0
      exact ⟨⟨_, rfl⟩, .inl HJ.out⟩
end Go.Proofs.Ytabklpgimjmdlaa
set_option linter.unusedVariables false
namespace Go.Proofs.Ytabklpgimjmdlaa
open Go.RowKit
set_option maxRecDepth 100000 in
set_option maxHeartbeats 1000000 in
theorem fnew_any (w : World) : Calls Try.prog 11 #[] w fun e w' => e = .returned (.pointer (some ⟨w.heap.size, 0, none⟩)) ∧ w' = w.alloc (.cells #[.slice none 0 0, .int .i64 0, .bool false] 69) := by
  go_enter Try.func11, Try.ntmps11
  go_wp2_with fail
  go_ret
  exact ⟨rfl, rfl⟩
theorem fnew_st (w : World) (B : Nat) : FdS B w.heap.size [] 0 false (.slice none 0 0) (w.alloc (.cells #[.slice none 0 0, .int .i64 0, .bool false] 69)) := ⟨Blk.new w _ _, World.ownsRow_nil _ _ _ _⟩
set_option maxRecDepth 100000 in
set_option maxHeartbeats 1000000 in
theorem fheld_any (g hl : Nat) (A : Option Addr) (c came : Nat) (over : Bool) (w : World) (hk : Blk w g 69 #[.slice A hl c, .int .i64 (came : Int), .bool over]) : Calls Try.prog 15 #[.pointer (some ⟨g, 0, none⟩)] w fun e w' => e = .returned (.int .i64 (hl : Int)) ∧ w' = w := by
  have c0 := hk.cell 0
  simp only [List.getElem?_toArray, List.getElem?_cons_zero, List.getElem?_cons_succ] at c0
  clear hk
  go_enter Try.func15, Try.ntmps15
  go_wp2_with fail
  go_ret
  exact ⟨rfl, rfl⟩
set_option maxRecDepth 100000 in
set_option maxHeartbeats 1000000 in
theorem fheld_nil (w : World) : Calls Try.prog 15 #[.pointer none] w fun e w' => e = .returned (.int .i64 0) ∧ w' = w := by
  go_enter Try.func15, Try.ntmps15
  go_wp2_with fail
  go_ret
  exact ⟨rfl, rfl⟩
set_option maxRecDepth 100000 in
set_option maxHeartbeats 1000000 in
theorem fcame_any (g : Nat) (vb : Value) (came : Nat) (over : Bool) (w : World) (hk : Blk w g 69 #[vb, .int .i64 (came : Int), .bool over]) : Calls Try.prog 16 #[.pointer (some ⟨g, 0, none⟩)] w fun e w' => e = .returned (.int .i64 (came : Int)) ∧ w' = w := by
  have c1 := hk.cell 1
  simp only [List.getElem?_toArray, List.getElem?_cons_zero, List.getElem?_cons_succ] at c1
  clear hk
  go_enter Try.func16, Try.ntmps16
  go_wp2_with fail
  go_ret
  exact ⟨rfl, rfl⟩
set_option maxRecDepth 100000 in
set_option maxHeartbeats 1000000 in
theorem fcame_nil (w : World) : Calls Try.prog 16 #[.pointer none] w fun e w' => e = .returned (.int .i64 0) ∧ w' = w := by
  go_enter Try.func16, Try.ntmps16
  go_wp2_with fail
  go_ret
  exact ⟨rfl, rfl⟩
set_option maxRecDepth 100000 in
set_option maxHeartbeats 1000000 in
theorem fover_any (g : Nat) (vb : Value) (came : Nat) (over : Bool) (w : World) (hk : Blk w g 69 #[vb, .int .i64 (came : Int), .bool over]) : Calls Try.prog 35 #[.pointer (some ⟨g, 0, none⟩)] w fun e w' => e = .returned (.bool over) ∧ w' = w := by
  have c2 := hk.cell 2
  simp only [List.getElem?_toArray, List.getElem?_cons_zero, List.getElem?_cons_succ] at c2
  clear hk
  go_enter Try.func35, Try.ntmps35
  go_wp2_with fail
  go_ret
  exact ⟨rfl, rfl⟩
set_option maxRecDepth 100000 in
set_option maxHeartbeats 1000000 in
theorem fover_nil (w : World) : Calls Try.prog 35 #[.pointer none] w fun e w' => e = .returned (.bool false) ∧ w' = w := by
  go_enter Try.func35, Try.ntmps35
  go_wp2_with fail
  go_ret
  exact ⟨rfl, rfl⟩
/-- Frames found in the tail, at their places in the whole stream. -/
theorem fplaced_row (B2 g hl came : Nat) (Ab : Option Addr) (cb : Nat) (l : List Fnd) (L : Nat) (Al : Option Addr) (cl : Nat) (w : World) (hk : Blk w g 69 #[.slice Ab hl cb, .int .i64 (came : Int), .bool false]) (hr : FdRow B2 w (.slice Al L cl) l) (hL : l.length = L) (hgB : g < B2) (hle : hl ≤ came) (hc : came ≤ 1000000000000) (hat : ∀ f ∈ l, f.at_ ≤ hl) :
    Calls Try.prog 39 #[.pointer (some ⟨g, 0, none⟩), .slice Al L cl] w fun e w' => e = .returned (.slice Al L cl) ∧ FdRow B2 w' (.slice Al L cl) (l.map (Fnd.shift (came - hl))) ∧ Chg (fun q => (Value.slice Al L cl).ownBlock = some q) w w' := by
  obtain ⟨fs, h1, h2, h3⟩ := hr
  have hfl : fs.length = L := by rw [← hL, ← h1, List.length_map]
  rw [hfl] at h2
  refine (fplaced_any B2 g hl came _ Ab cb fs L Al cl w rfl hk h2 hfl hgB hle hc (fun f hf => hat f.f (by rw [← h1]; exact List.mem_map_of_mem hf))).mono ?_
  rintro e w' ⟨he, ho, hch⟩
  refine ⟨he, ⟨fs.map (FdV.shift (came - hl)), ?_, ?_, ?_⟩, hch⟩
  · rw [← h1, List.map_map, List.map_map]; rfl
  · rw [List.length_map, hfl]; exact ho
  · intro f hf
    obtain ⟨f0, hf0, rfl⟩ := List.mem_map.1 hf
    refine Pay.chg (h3 f0 hf0) hch fun b cs k hb hbk hs => ?_
    rcases h2.2 with ⟨h4, -⟩ | ⟨g2, cap, cur, h4, -, hg2, -⟩
    · rw [h4] at hs; cases hs
    · rw [h4] at hs
      injection hs with hs
      simp only at hs
      subst hs
      rw [hg2] at hbk
      injection hbk with hbk
      injection hbk with _ h6
      exact absurd h6 (by decide)
end Go.Proofs.Ytabklpgimjmdlaa
set_option linter.unusedVariables false
namespace Go.Proofs.Ytabklpgimjmdlaa
open Go.RowKit
theorem Blk.dn {w : World} {g : Nat} {t : TypeId} {cs : Array Value} (h : Blk w g t cs) (n : Nat) : Blk (w.drewN n) g t cs := h
theorem FdRow.dn {B : Nat} {w : World} {v : Value} {l : List Fnd} (h : FdRow B w v l) (n : Nat) : FdRow B (w.drewN n) v l := h.chg (Chg.drewN (Chg.refl (fun _ => False) w) n) (fun _ _ h => h)
theorem fend_blk {g came : Nat} {vb : Value} {w : World} (h : Blk w g 69 #[vb, .int .i64 (came : Int), .bool false]) : Blk ((w.setCell ⟨g, 0, none⟩ (.slice none 0 0)).setCell ⟨g, 2, none⟩ (.bool true)) g 69 #[.slice none 0 0, .int .i64 (came : Int), .bool true] ∧ Chg (fun q => q = g) w ((w.setCell ⟨g, 0, none⟩ (.slice none 0 0)).setCell ⟨g, 2, none⟩ (.bool true)) := by
  refine ⟨?_, ((Chg.refl (fun q => q = g) w).set_ (.inl rfl) 0 _).set_ (.inl rfl) 2 _⟩
  have := (h.set_ 0 (.slice none 0 0)).set_ 2 (.bool true)
  simpa using this
set_option maxRecDepth 100000 in
set_option maxHeartbeats 4000000 in
theorem fend_any (B g : Nat) (H : List UInt8) (came : Nat) (vb : Value) (w : World) (h : FdS B g H came false vb w) (hg : g < w.heap.size) (hle : H.length ≤ came) (hc : came ≤ 1000000000000) (hH : H.length ≤ 1000000) :
    Calls Try.prog 17 #[.pointer (some ⟨g, 0, none⟩)] w fun e w' => ∃ v, e = .returned v ∧ FdRow w.heap.size w' v ((Rs.wk true H 0).1.map (Fnd.shift (came - H.length))) ∧ Blk w' g 69 #[.slice none 0 0, .int .i64 (came : Int), .bool true] ∧ Chg (fun q => q = g) w w' := by
  obtain ⟨hk, hr⟩ := h
  obtain ⟨A, c, rfl⟩ := row_slice_g hr
  have hsl := Sl.of_own' hr
  have hfa := (Rs.wk_facts true H 0)
  have hat : ∀ f ∈ (Rs.wk true H 0).1, f.at_ ≤ H.length := fun f hf => by
    have h1 := (hfa.1 f hf).2.2
    have h2 := hfa.2.2 (by omega)
    omega
  have hen := fun W (hW : Sl W A c (H.map bv)) => sended_any H H.length A c W rfl hH hW
  generalize (Rs.wk true H 0).1 = l at *
  obtain ⟨L, hL⟩ : ∃ L, l.length = L := ⟨_, rfl⟩
  obtain ⟨hl, hhl⟩ : ∃ hl, H.length = hl := ⟨_, rfl⟩
  rw [hL, hhl] at hen
  rw [hhl] at hk hat hle ⊢
  have hpl := fun B2 Al cl W (h1 : Blk W g 69 #[.slice A hl c, .int .i64 (came : Int), .bool false]) (h2 : FdRow B2 W (.slice Al L cl) l) (h3 : g < B2) => fplaced_row B2 g hl came A c l L Al cl W h1 h2 hL h3 hle hc hat
  have hde := fun W h1 => fdeaf_any g (.slice A hl c) came false W h1
  obtain ⟨s, hs⟩ : ∃ s, w.heap.size = s := ⟨_, rfl⟩
  have c0 := hk.cell 0
  simp only [List.getElem?_toArray, List.getElem?_cons_zero, List.getElem?_cons_succ] at c0
  have HK := hid hk
  have HSL := hid hsl
  have HEN := hid hen
  have HPL := hid hpl
  have HDE := hid hde
  have HG := hid hg
  clear hk hr hsl hfa hen hpl hde hat hL hhl hH hg
  go_enter Try.func17, Try.ntmps17
  go_wp2_with fail
  refine (HDE.out _ HK.out).mono ?_
  rintro e w1 ⟨rfl, rfl⟩
  go_wp2_with fail
  go_region_held3 (fun w' => w'.cell? ⟨g, 0, none⟩ = some (.slice A hl c)) (first | exact HK9.out.cell 0 | exact HK8.out.cell 0 | exact c0 | go_keep) (first | (go_at_call 33; refine (HEN.out _ (by first | exact HSL.out | exact Sl.drewN HSL.out _)).mono ?_; rintro e w8 ⟨A8, c8, rfl, hf8, hb8⟩; have HF8 := hid hf8; have HB8 := hid hb8; have HK8 := hid (Blk.below (by first | exact HK.out | exact Blk.dn HK.out _) hb8 (Blk.lt (by first | exact HK.out | exact Blk.dn HK.out _))); clear hf8 hb8) | (go_at_call 39; refine (HPL.out _ _ _ _ (by first | exact HK8.out | exact Blk.dn HK8.out _) (by first | exact HF8.out | exact FdRow.dn HF8.out _) (by first | exact HG.out | omega)).mono ?_; rintro e w9 ⟨rfl, hf9, hc9⟩; have HF9 := hid hf9; have HC9 := hid hc9; have HK9 := hid (hc9.blk (by first | exact HK8.out | exact Blk.dn HK8.out _) (fun hq => by obtain ⟨fs, -, h2, -⟩ := HF8.out; exact absurd (Nat.lt_of_lt_of_le HG.out (h2.lt _ hq).1) (Nat.lt_irrefl _))); clear hf9 hc9))
  have hbk := fend_blk HK9.out
  have c0 := HK9.out.cell 0
  have c2 := HK9.out.cell 2
  have f0 := HK9.out.frozen 0
  have f2 := HK9.out.frozen 2
  simp only [List.getElem?_toArray, List.getElem?_cons_zero, List.getElem?_cons_succ] at c0 c2
  have HBK := hid hbk
  clear hbk
  go_wp2_with fail
  go_ret
  have hg := HG.out
  refine ⟨_, rfl, FdRow.chg HF9.out HBK.out.2 (fun b hb e => ?_), HBK.out.1, ?_⟩
  · subst e
    exact absurd (Nat.lt_of_lt_of_le hg hb) (Nat.lt_irrefl _)
  · have h8 := HB8.out
    have h9 : Chg (fun q => q = g) _ _ := HBK.out.2
    have h10 := (Chg.of_new (S := fun q => q = g ∨ (Value.slice A8 L c8).ownBlock = some q) h8).trans ((HC9.out.mono (fun q _ h => .inr h)).trans (h9.mono (fun q _ h => .inl h)))
    refine Chg.mono (S := fun q => q = g ∨ (Value.slice A8 L c8).ownBlock = some q) (by first | exact h10 | exact (Chg.drewN (Chg.refl _ w1) _).trans h10) (fun q hq h => ?_)
    rcases h with h | h
    · exact h
    · obtain ⟨fs, -, h2, -⟩ := HF8.out
      exact absurd (Nat.lt_of_lt_of_le hq (h2.lt _ h).1) (Nat.lt_irrefl _)
end Go.Proofs.Ytabklpgimjmdlaa
