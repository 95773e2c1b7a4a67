/- What is asked of a feeder: rows of asks; are they few, and short? · The walk of FeederTells. · Parts of what came in. · The walk of FeederHolds. -/
import Derived.Test.YtnfodgjihdoncaaFdLive
import Derived.Test.YtnfodgjihdoncaaOpen13
set_option linter.unusedVariables false
namespace Go.Proofs.Ytnfodgjihdoncaa
open Go.ChangeShapes Go.WideShapes Go.ChangeAt Go.RowKit
structure AskV where
  e : Bool
  s : SlV UInt8
def askC (a : AskV) : List Value := [.bool a.e, .slice a.s.A a.s.xs.length a.s.c]
def AskOk (W : World) (a : AskV) : Prop := Sl W a.s.A a.s.c (a.s.xs.map bv)
theorem openAsk (W : World) : Opens Try.prog W 48 askC (AskOk W) :=
  (opens_struct2 (k0 := 1) (k1 := 1) (enc0 := fun b : Bool => [.bool b]) (enc1 := fun s : SlV UInt8 => [.slice s.A s.xs.length s.c])
    Try.underlying48 rfl rfl (by kernel_rfl) (by kernel_rfl) (by kernel_rfl) (opens_bool Try.underlying4) (opens_bytes Try.underlying30 Try.underlying5 (by kernel_rfl))).map
    (fun p => ⟨p.1, p.2⟩) fun p hp => ⟨by simp only [askC]; rfl, hp.2⟩
theorem askRow_get {w : World} {A : Option Addr} {n c : Nat} {l : List AskV} (hn : l.length = n) (h : SlN w A n c 2 (l.flatMap askC)) (j : Nat) (hj : j < l.length) :
    ∃ b off, A = some ⟨b, off, none⟩ ∧ b < w.heap.size ∧ w.cell? ⟨b, off + j * 2, none⟩ = some (.bool l[j].e) ∧ w.cell? ⟨b, off + j * 2 + 1, none⟩ = some (.slice l[j].s.A l[j].s.xs.length l[j].s.c) := by
  have hn0 : (l.flatMap askC)[j * 2 + 0]? = _ := flatMap_get askC 2 l j 0 hj (fun _ _ => rfl) (by omega)
  have hn1 : (l.flatMap askC)[j * 2 + 1]? = _ := flatMap_get askC 2 l j 1 hj (fun _ _ => rfl) (by omega)
  obtain ⟨b, off, rfl, hb, t0⟩ := h.rd (j * 2) (.bool l[j].e) (by simpa [askC] using hn0)
  obtain ⟨b', off', he, -, t1⟩ := h.rd (j * 2 + 1) (.slice l[j].s.A l[j].s.xs.length l[j].s.c) (by simpa [askC] using hn1)
  injection he with he
  injection he with h1 h2
  subst h1; subst h2
  exact ⟨b, off, rfl, hb, t0, by rw [Nat.add_assoc]; exact t1⟩
def askSum (l : List AskV) : Nat := (l.map fun a => min a.s.xs.length 5000).sum
def askSm (l : List AskV) : Bool := decide (l.length ≤ 40) && decide (askSum l ≤ 3000)
theorem askSum_snoc (l : List AskV) (j : Nat) (hj : j < l.length) : askSum (l.take (j + 1)) = askSum (l.take j) + min l[j].s.xs.length 5000 := by
  unfold askSum
  rw [List.take_succ_eq_append_getElem hj, List.map_append, List.sum_append]
  simp
theorem askSum_le (l : List AskV) (j : Nat) : askSum (l.take j) ≤ askSum l := by
  have h : askSum l = askSum (l.take j) + askSum (l.drop j) := by
    unfold askSum
    rw [← List.sum_append, ← List.map_append, List.take_append_drop]
  omega
theorem askSum_max (l : List AskV) : askSum l ≤ 5000 * l.length := by
  unfold askSum
  induction l with
  | nil => simp
  | cons x l ih => simp only [List.map_cons, List.sum_cons, List.length_cons]; omega
theorem askSum_mem {l : List AskV} {a : AskV} (h : a ∈ l) : min a.s.xs.length 5000 ≤ askSum l := by
  obtain ⟨j, hj, rfl⟩ := List.getElem_of_mem h
  have h1 := askSum_snoc l j hj
  have h2 := askSum_le l (j + 1)
  omega
set_option maxRecDepth 100000 in
set_option maxHeartbeats 2000000 in
theorem small15_any (l : List AskV) (n : Nat) (A : Option Addr) (c : Nat) (w : World) (hn : l.length = n) (hl : n ≤ 9223372036854775807) (hs : SlN w A n c 2 (l.flatMap askC)) :
    Calls Try.prog 19 #[.slice A n c] w fun e w' => e = .returned (.bool (askSm l)) ∧ Below w.heap.size w w' := by
  by_cases hbig : 40 < n
  · have hf : askSm l = false := by unfold askSm; rw [hn]; simp; omega
    rw [hf]
    clear hn hs
    go_enter Try.func19, Try.ntmps19
    go_wp2_with fail
    go_ret
    exact ⟨rfl, Below.refl _ _⟩
  have hf : askSm l = decide (askSum l ≤ 3000) := by unfold askSm; rw [hn]; simp; omega
  rw [hf]
  have hcap : n ≤ c := hs.cap
  have HN := hid hn
  have HS := hid hs
  have HMX := hid (askSum_max l)
  clear hn hs hf
  go_enter Try.func19, Try.ntmps19
  go_wp2_with fail
  go_loopw [3, 4] (fun sm i wr => wr = w ∧ ∃ k : Nat, k ≤ n ∧ i = .int .i64 (k : Int) ∧ sm = .int .i64 ((askSum (l.take k) : Nat) : Int)) (fun _ i _ => n - (intOf i).toNat)
  case atStart => exact ⟨rfl, 0, by omega, rfl, rfl⟩
  case round =>
    obtain ⟨rfl, k, hk, rfl, rfl⟩ := hrel
    by_cases hlt : k < n
    · have hkl : k < l.length := by have := HN.out; omega
      obtain ⟨b, off, rfl, hb, s0, s1⟩ := askRow_get HN.out HS.out k hkl
      have hsn := askSum_snoc l k hkl
      have hle := askSum_le l (k + 1)
      have hmx := HMX.out
      rw [HN.out] at hmx
      have hki : (k : Int) < (n : Int) := by omega
      have hk0 : (0 : Int) ≤ (k : Int) := by omega
      generalize l[k] = x at *
      obtain ⟨xe, xA, xc, xs⟩ := x
      simp only at s0 s1 hsn
      generalize askSum (l.take k) = S at *
      generalize xs.length = xn at *
      obtain ⟨mn, hmn⟩ : ∃ mn, min xn 5000 = mn := ⟨_, rfl⟩
      have hmi : min (xn : Int) 5000 = (mn : Int) := by omega
      rw [hmn] at hsn
      have hw1 : IntKind.i64.wrap ((S : Int) + (mn : Int)) = ((S + mn : Nat) : Int) := by rw [IntWalk.i64_in _ (by omega)]; omega
      have HSN := hid hsn
      clear hsn hle hmx hmn
      go_wp2_with fail
      exact ⟨⟨trivial, k + 1, by omega, by go_num, by rw [HSN.out]; try simp⟩, by simp [intOf] <;> omega⟩
    · obtain rfl : k = n := by omega
      have hki : ¬ (k : Int) < (k : Int) := by omega
      have hall : askSum (l.take k) = askSum l := by rw [← HN.out, List.take_length]
      rw [hall]
      obtain ⟨S, hSS⟩ : ∃ S, askSum l = S := ⟨_, rfl⟩
      have HSS := hid hSS
      rw [hSS]
      clear hSS
      by_cases hS : S ≤ 3000
      · have hSi : (S : Int) ≤ 3000 := by omega
        go_wp2_with fail
        go_ret
        exact ⟨by rw [HSS.out]; simp [hS], Below.refl _ _⟩
      · have hSi : ¬ (S : Int) ≤ 3000 := by omega
        go_wp2_with fail
        go_ret
        exact ⟨by rw [HSS.out]; simp [hS], Below.refl _ _⟩
end Go.Proofs.Ytnfodgjihdoncaa
set_option linter.unusedVariables false
namespace Go.Proofs.Ytnfodgjihdoncaa
open Go.RowKit
theorem bw_dq15 {a b : World} {B : Nat} (h : Below B a b) (n : Nat) : Below B a (b.drewN n) := ⟨h.os, h.tape, h.output, h.size, h.block⟩
theorem RfS.chg {B g : Nat} {T : List UInt8} {told : Nat} {over : Bool} {A : Option Addr} {n c : Nat} {w w' : World} {S : Nat → Prop} (h : RfS B g T told over A n c w) (hc : Chg S w w') (hg : ¬ S g) (hv : ∀ q, (Value.slice A n c).ownBlock = some q → ¬ S q) : RfS B g T told over A n c w' := ⟨hc.blk h.blk hg, own_chgS h.row hc hv⟩
/-- Both feeders, as far as they have come. -/
def JT (g : Nat) (T : List UInt8) (ov : Bool) (W : World) : Prop :=
  (ov = false ∧ ∃ vb A n c, FdS (g + 2) g (hldT T) T.length false vb W ∧ RfS (g + 2) (g + 1) T (Rs.wk false T 0).1.length false A n c W ∧ ∀ q, vb.ownBlock = some q → (Value.slice A n c).ownBlock ≠ some q) ∨
  (ov = true ∧ ∃ told A n c, Blk W g 105 #[.slice none 0 0, .int .i64 (T.length : Int), .bool true] ∧ RfS (g + 2) (g + 1) T told true A n c W)
theorem JT.below {g : Nat} {T : List UInt8} {ov : Bool} {W W' : World} (h : JT g T ov W) (hb : Below W.heap.size W W') : JT g T ov W' := by
  rcases h with ⟨rfl, vb, A, n, c, h1, h2, h3⟩ | ⟨rfl, told, A, n, c, h1, h2⟩
  · exact .inl ⟨rfl, vb, A, n, c, h1.below hb, h2.below hb, h3⟩
  · exact .inr ⟨rfl, told, A, n, c, h1.below hb h1.lt, h2.below hb⟩
theorem newsT_bd {T U : List UInt8} {f : Fnd} (h : f ∈ newsT T U) : f.at_ ≤ U.length ∧ f.pl.length ≤ U.length := by
  have h1 := (Rs.wk_facts false U 0).1 f (List.mem_of_mem_drop h)
  have h2 := (Rs.wk_facts false U 0).2.2 (by omega)
  have h3 := h1.2.2
  unfold Fnd.size at h3
  exact ⟨by omega, by omega⟩
/-- What is found at the end. -/
def lastT (T : List UInt8) : List Fnd := (Rs.wk true (hldT T) 0).1.map (Fnd.shift (Rs.wk false T 0).2)
theorem lastT_bd {T : List UInt8} {f : Fnd} (h : f ∈ lastT T) : f.at_ ≤ T.length ∧ f.pl.length ≤ T.length := by
  unfold lastT at h
  obtain ⟨f0, hf0, rfl⟩ := List.mem_map.1 h
  have h1 := (Rs.wk_facts true (hldT T) 0).1 f0 hf0
  have h2 := (Rs.wk_facts true (hldT T) 0).2.2 (by omega)
  have h3 := h1.2.2
  have h4 := hldT_len T
  unfold Fnd.size at h3
  simp only [Fnd.shift]
  exact ⟨by omega, by omega⟩
theorem lastT_len (T : List UInt8) : (lastT T).length ≤ T.length := by
  unfold lastT
  rw [List.length_map]
  have h1 := Rs.wk_len true (hldT T) 0
  have h4 := hldT_len T
  omega
set_option maxRecDepth 100000 in
set_option maxHeartbeats 1000000 in
theorem ffeed_over (g came n : Nat) (vb : Value) (A : Option Addr) (c : Nat) (w : World) (hk : Blk w g 105 #[vb, .int .i64 (came : Int), .bool true]) : Calls Try.prog 23 #[.pointer (some ⟨g, 0, none⟩), .slice A n c] w fun e w' => e = .returned (.slice none 0 0) ∧ Below w.heap.size w w' := by
  have HD := hid (fdeaf_any g vb came true _ (hk.alloc (.cells #[.pointer (some ⟨g, 0, none⟩)] 41)))
  have c0 := (Blk.new w 41 #[.pointer (some ⟨g, 0, none⟩)]).cell 0
  simp only [List.getElem?_toArray, List.getElem?_cons_zero] at c0
  have HB := hid (bw_a (Below.refl _ w) (.cells #[.pointer (some ⟨g, 0, none⟩)] 41))
  clear hk
  go_enter Try.func23, Try.ntmps23
  go_wp2_with fail
  refine HD.out.mono ?_
  rintro e w1 ⟨rfl, rfl⟩
  go_wp2_with fail
  go_ret
  exact ⟨rfl, HB.out⟩
set_option maxRecDepth 100000 in
set_option maxHeartbeats 1000000 in
theorem fend_over (g came : Nat) (vb : Value) (w : World) (hk : Blk w g 105 #[vb, .int .i64 (came : Int), .bool true]) : Calls Try.prog 21 #[.pointer (some ⟨g, 0, none⟩)] w fun e w' => e = .returned (.slice none 0 0) ∧ w' = w := by
  have HD := hid (fdeaf_any g vb came true _ hk)
  clear hk
  go_enter Try.func21, Try.ntmps21
  go_wp2_with fail
  refine HD.out.mono ?_
  rintro e w1 ⟨rfl, rfl⟩
  go_wp2_with fail
  go_ret
  exact ⟨rfl, rfl⟩
/-- Both fed: what is told, and how far they have come. -/
structure TF (g : Nat) (s0 : Nat) (w : World) (T U : List UInt8) (N : Nat) (A5 A6 : Option Addr) (c5 c6 : Nat) (W : World) : Prop where
  jt : JT g U false W
  bel : Below s0 w W
  a : FdSl W A5 N c5 (newsT T U)
  b : FdSl W A6 N c6 (newsT T U)
theorem FdO.sl {B : Nat} {w : World} {A : Option Addr} {n c : Nat} {vb : Value} {l : List Fnd} (h : FdO B w (.slice A n c) l vb) (hn : l.length = n) : FdSl w A n c l := h.row.sl hn
/-- The program's feeder first, then the document's. -/
theorem tf_pr {g s0 N n1 : Nat} {w W0 w5 w6 : World} {T U : List UInt8} {vb vb5 : Value} {A5 A6 A1 : Option Addr} {c5 c6 c1 : Nat} (hgs : s0 ≤ g) (hb : Below s0 w W0) (hg0 : g + 2 ≤ W0.heap.size) (hN : (newsT T U).length = N)
    (hvb : ∀ q, vb.ownBlock = some q → g + 2 ≤ q) (ho : FdO W0.heap.size w5 (.slice A5 N c5) (newsT T U) vb5) (hf : FdS (g + 2) g (hldT U) U.length false vb5 w5) (hc5 : Chg (fun q => q = g ∨ vb.ownBlock = some q) W0 w5)
    (h6 : ∀ W2 (S : Nat → Prop), Chg S w6 W2 → (∀ q, S q → q < w5.heap.size) → FdSl W2 A6 N c6 (newsT T U)) (hr : RfS w5.heap.size (g + 1) U (Rs.wk false U 0).1.length false A1 n1 c1 w6) (hc6 : Chg (fun q => q = g + 1) w5 w6) : TF g s0 w T U N A5 A6 c5 c6 w6 := by
  have hs5 := hc5.size
  have hsz : s0 ≤ W0.heap.size := by omega
  refine ⟨.inl ⟨rfl, vb5, A1, n1, c1, hf.chg hc6 (by omega) (fun q hq e => by have := (hf.row.lt q hq).1; omega), ⟨hr.blk, own_mono hr.row (by omega)⟩, fun q hq e => ?_⟩, ?_, ?_, h6 w6 (fun _ => False) (Chg.refl _ _) (fun _ h => h.elim)⟩
  · have h1 := (hf.row.lt q hq).2
    have h2 := (hr.row.lt q e).1
    omega
  · have h1 : Chg (fun q => s0 ≤ q) W0 w6 := (hc5.mono (fun q _ h => by rcases h with h | h; omega; have := hvb q h; omega)).trans (hc6.mono (fun q _ h => by omega))
    exact hb.trans (h1.below (fun q h => h) hsz)
  · exact (ho.chg hc6 (vb' := vb5) (fun q hq e => by obtain ⟨fs, -, h2, -⟩ := ho; have := (h2.lt q hq).1; omega) (fun b cs k hb _ e => by omega) (.inl rfl)).sl hN
/-- The document's feeder first. -/
theorem tf_rp {g s0 N n1 : Nat} {w W0 w5 w6 : World} {T U : List UInt8} {vb vb6 : Value} {A5 A6 A1 : Option Addr} {c5 c6 c1 : Nat} (hgs : s0 ≤ g) (hb : Below s0 w W0) (hg0 : g + 2 ≤ W0.heap.size) (hN : (newsT T U).length = N)
    (hvb : ∀ q, vb.ownBlock = some q → g + 2 ≤ q ∧ q < W0.heap.size) (h5 : ∀ W2 (S : Nat → Prop), Chg S w5 W2 → (∀ q, S q → q < W0.heap.size) → FdSl W2 A6 N c6 (newsT T U)) (hr : RfS W0.heap.size (g + 1) U (Rs.wk false U 0).1.length false A1 n1 c1 w5) (hc5 : Chg (fun q => q = g + 1) W0 w5)
    (ho : FdO w5.heap.size w6 (.slice A5 N c5) (newsT T U) vb6) (hf : FdS (g + 2) g (hldT U) U.length false vb6 w6) (hc6 : Chg (fun q => q = g ∨ vb.ownBlock = some q) w5 w6) (hv6 : vb6.ownBlock = vb.ownBlock ∨ ∀ q, vb6.ownBlock = some q → w5.heap.size ≤ q) : TF g s0 w T U N A5 A6 c5 c6 w6 := by
  have hs5 := hc5.size
  have hsz : s0 ≤ W0.heap.size := by omega
  have hS : ∀ q, (q = g ∨ vb.ownBlock = some q) → q < W0.heap.size := fun q h => by rcases h with h | h; omega; exact (hvb q h).2
  refine ⟨.inl ⟨rfl, vb6, A1, n1, c1, hf, ⟨hc6.blk hr.blk (fun h => by rcases h with h | h; omega; have := hvb _ h; omega), own_mono (own_chgS hr.row hc6 (fun q hq h => by have h1 := (hr.row.lt q hq).1; have h2 := hS q h; omega)) (by omega)⟩, fun q hq e => ?_⟩, ?_, ho.sl hN, h5 w6 _ hc6 hS⟩
  · have h2 := hr.row.lt q e
    rcases hv6 with h | h
    · rw [h] at hq; have := hvb q hq; omega
    · have := h q hq; omega
  · have h1 : Chg (fun q => s0 ≤ q) W0 w6 := (hc5.mono (fun q _ h => by omega)).trans (hc6.mono (fun q _ h => by rcases h with h | h; omega; have := hvb q h; omega))
    exact hb.trans (h1.below (fun q h => h) hsz)
def FSW (g s0 : Nat) (w : World) (T : List UInt8) (vb : Value) (W : World) : Prop := FdS (g + 2) g (hldT T) T.length false vb W ∧ Below s0 w W ∧ g + 2 ≤ W.heap.size
def RSW (g s0 : Nat) (w : World) (T : List UInt8) (Ar : Option Addr) (nr cr : Nat) (W : World) : Prop := RfS (g + 2) (g + 1) T (Rs.wk false T 0).1.length false Ar nr cr W ∧ Below s0 w W ∧ g + 2 ≤ W.heap.size
/-- The program's feeder was fed, the document's not yet. -/
def PrD (g s0 N : Nat) (w : World) (T U : List UInt8) (vb : Value) (A5 : Option Addr) (c5 : Nat) (w5 : World) : Prop :=
  ∃ W0 vb5, Below s0 w W0 ∧ g + 2 ≤ W0.heap.size ∧ FdO W0.heap.size w5 (.slice A5 N c5) (newsT T U) vb5 ∧ FdS (g + 2) g (hldT U) U.length false vb5 w5 ∧ Chg (fun q => q = g ∨ vb.ownBlock = some q) W0 w5
/-- The document's feeder was fed, the program's not yet. -/
def RfD (g s0 N : Nat) (w : World) (T U : List UInt8) (A6 : Option Addr) (c6 : Nat) (vb : Value) (w5 : World) : Prop :=
  ∃ W0 A1 n1 c1, Below s0 w W0 ∧ g + 2 ≤ W0.heap.size ∧ (∀ q, vb.ownBlock = some q → q < W0.heap.size) ∧ (∀ W2 (S : Nat → Prop), Chg S w5 W2 → (∀ q, S q → q < W0.heap.size) → FdSl W2 A6 N c6 (newsT T U)) ∧ RfS W0.heap.size (g + 1) U (Rs.wk false U 0).1.length false A1 n1 c1 w5 ∧ Chg (fun q => q = g + 1) W0 w5
def FDR (g N : Nat) (T U : List UInt8) (vb : Value) (W : World) (e : Ending) (w' : World) : Prop :=
  ∃ A5 c5 vb5, e = .returned (.slice A5 N c5) ∧ FdO W.heap.size w' (.slice A5 N c5) (newsT T U) vb5 ∧ FdS (g + 2) g (hldT U) U.length false vb5 w' ∧ Chg (fun q => q = g ∨ vb.ownBlock = some q) W w' ∧ (vb5.ownBlock = vb.ownBlock ∨ ∀ q, vb5.ownBlock = some q → W.heap.size ≤ q)
def RDR (g N : Nat) (T U : List UInt8) (W : World) (e : Ending) (w' : World) : Prop :=
  ∃ A6 c6, e = .returned (.slice A6 N c6) ∧ (∀ W2 (S : Nat → Prop), Chg S w' W2 → (∀ q, S q → q < W.heap.size) → FdSl W2 A6 N c6 (newsT T U)) ∧ (∃ A1 n1 c1, RfS W.heap.size (g + 1) U (Rs.wk false U 0).1.length false A1 n1 c1 w') ∧ Chg (fun q => q = g + 1) W w'
theorem pr_first {g s0 N nr cr c5 : Nat} {w W0 w5 : World} {T U : List UInt8} {vb vb5 : Value} {Ar A5 : Option Addr} (hgs : s0 ≤ g) (hr : RSW g s0 w T Ar nr cr W0) (hap : ∀ q, vb.ownBlock = some q → (Value.slice Ar nr cr).ownBlock ≠ some q) (hvb : ∀ q, vb.ownBlock = some q → g + 2 ≤ q)
    (ho : FdO W0.heap.size w5 (.slice A5 N c5) (newsT T U) vb5) (hf : FdS (g + 2) g (hldT U) U.length false vb5 w5) (hc : Chg (fun q => q = g ∨ vb.ownBlock = some q) W0 w5) : PrD g s0 N w T U vb A5 c5 w5 ∧ RSW g s0 w T Ar nr cr w5 := by
  obtain ⟨h1, h2, h3⟩ := hr
  refine ⟨⟨W0, vb5, h2, h3, ho, hf, hc⟩, h1.chg hc (fun h => by rcases h with h | h; omega; have := hvb _ h; omega) (fun q hq h => by rcases h with h | h; (have := (h1.row.lt q hq).1; omega); exact hap q h hq), ?_, by have := hc.size; omega⟩
  exact h2.trans ((hc.mono (T := fun q => s0 ≤ q) (fun q _ h => by rcases h with h | h; omega; have := hvb q h; omega)).below (fun q h => h) (by omega))
theorem rf_first {g s0 N c6 : Nat} {w W0 w5 : World} {T U : List UInt8} {vb : Value} {A6 : Option Addr} (hgs : s0 ≤ g) (hf : FSW g s0 w T vb W0)
    (h5 : ∀ W2 (S : Nat → Prop), Chg S w5 W2 → (∀ q, S q → q < W0.heap.size) → FdSl W2 A6 N c6 (newsT T U)) (hr : ∃ A1 n1 c1, RfS W0.heap.size (g + 1) U (Rs.wk false U 0).1.length false A1 n1 c1 w5) (hc : Chg (fun q => q = g + 1) W0 w5) : RfD g s0 N w T U A6 c6 vb w5 ∧ FSW g s0 w T vb w5 := by
  obtain ⟨h1, h2, h3⟩ := hf
  obtain ⟨A1, n1, c1, hr⟩ := hr
  refine ⟨⟨W0, A1, n1, c1, h2, h3, fun q hq => (h1.row.lt q hq).2, h5, hr, hc⟩, h1.chg hc (by omega) (fun q hq h => by have := (h1.row.lt q hq).1; omega), ?_, by have := hc.size; omega⟩
  exact h2.trans ((hc.mono (T := fun q => s0 ≤ q) (fun q _ h => by omega)).below (fun q h => h) (by omega))
theorem fin_pr {g s0 N c5 c6 : Nat} {w w5 w6 : World} {T U : List UInt8} {vb : Value} {A5 A6 : Option Addr} (hgs : s0 ≤ g) (hN : (newsT T U).length = N) (hvb : ∀ q, vb.ownBlock = some q → g + 2 ≤ q) (h : PrD g s0 N w T U vb A5 c5 w5)
    (h6 : ∀ W2 (S : Nat → Prop), Chg S w6 W2 → (∀ q, S q → q < w5.heap.size) → FdSl W2 A6 N c6 (newsT T U)) (hr : ∃ A1 n1 c1, RfS w5.heap.size (g + 1) U (Rs.wk false U 0).1.length false A1 n1 c1 w6) (hc : Chg (fun q => q = g + 1) w5 w6) : TF g s0 w T U N A5 A6 c5 c6 w6 := by
  obtain ⟨W0, vb5, h1, h2, h3, h4, h5⟩ := h
  obtain ⟨A1, n1, c1, hr⟩ := hr
  exact tf_pr hgs h1 h2 hN hvb h3 h4 h5 h6 hr hc
theorem fin_rp {g s0 N c5 c6 : Nat} {w w5 w6 : World} {T U : List UInt8} {vb vb6 : Value} {A5 A6 : Option Addr} (hgs : s0 ≤ g) (hN : (newsT T U).length = N) (hvb : ∀ q, vb.ownBlock = some q → g + 2 ≤ q) (h : RfD g s0 N w T U A6 c6 vb w5)
    (ho : FdO w5.heap.size w6 (.slice A5 N c5) (newsT T U) vb6) (hf : FdS (g + 2) g (hldT U) U.length false vb6 w6) (hc : Chg (fun q => q = g ∨ vb.ownBlock = some q) w5 w6) (hv : vb6.ownBlock = vb.ownBlock ∨ ∀ q, vb6.ownBlock = some q → w5.heap.size ≤ q) : TF g s0 w T U N A5 A6 c5 c6 w6 := by
  obtain ⟨W0, A1, n1, c1, h1, h2, h3, h4, h5, h6⟩ := h
  exact tf_rp hgs h1 h2 hN (fun q hq => ⟨hvb q hq, h3 q hq⟩) h4 h5 h6 ho hf hc hv
theorem FSW.of {g s0 : Nat} {w wr W : World} {T : List UInt8} {vb : Value} (hgs : s0 ≤ g) (h : FSW g s0 w T vb wr) (hc : Chg (fun _ => False) wr W) : FSW g s0 w T vb W :=
  ⟨h.1.chg hc (fun h => h) (fun _ _ h => h), h.2.1.trans (hc.below (fun _ h => h.elim) (by have := h.2.2; omega)), Nat.le_trans h.2.2 hc.size⟩
theorem RSW.of {g s0 : Nat} {w wr W : World} {T : List UInt8} {Ar : Option Addr} {nr cr : Nat} (hgs : s0 ≤ g) (h : RSW g s0 w T Ar nr cr wr) (hc : Chg (fun _ => False) wr W) : RSW g s0 w T Ar nr cr W :=
  ⟨h.1.chg hc (fun h => h) (fun _ _ h => h), h.2.1.trans (hc.below (fun _ h => h.elim) (by have := h.2.2; omega)), Nat.le_trans h.2.2 hc.size⟩
set_option maxRecDepth 100000 in
set_option maxHeartbeats 8000000 in
theorem feederTells_any (l : List AskV) (n : Nat) (A : Option Addr) (c : Nat) (w : World) (hn : l.length = n) (hok : ∀ a ∈ l, AskOk w a) (hM : SlN w A n c 2 (l.flatMap askC)) :
    Calls Try.prog 4 #[.slice A n c] w fun e w' => e = .returned (.bool true) ∧ Below w.heap.size w w' := by
  have hcapm : n ≤ 9223372036854775807 := by have h1 := hM.cap; have h2 := hM.small; omega
  have HL := hid (live15_any w)
  have hsm := fun W (hW : Below w.heap.size w W) => small15_any l n A c W hn hcapm (hM.below hW)
  by_cases hfew : askSm l = true
  rotate_left
  · have hfe : askSm l = false := by simpa using hfew
    rw [hfe] at hsm
    have HSMA := hid hsm
    clear hn hok hM hsm hfew hfe
    go_enter Try.func4, Try.ntmps4
    go_wp2_with fail
    refine HL.out.mono ?_
    rintro e w1 ⟨rfl, hb1⟩
    go_wp2_with fail
    refine (HSMA.out _ hb1).mono ?_
    rintro e w2 ⟨rfl, hb2⟩
    go_wp2_with fail
    go_ret
    exact ⟨rfl, bw_t hb1 hb2⟩
  have hf2 : l.length ≤ 40 ∧ askSum l ≤ 3000 := by
    unfold askSm at hfew
    simpa using hfew
  have hpl : ∀ a ∈ l, a.s.xs.length ≤ 3000 := fun a ha => by have := askSum_mem ha; omega
  rw [hfew] at hsm
  obtain ⟨s0, hs0⟩ : ∃ s0, w.heap.size = s0 := ⟨_, rfl⟩
  have hn40 : n ≤ 40 := by omega
  have HSMA := hid hsm
  have HPL := hid hpl
  have HOK := hid hok
  have HM := hid hM
  have HN := hid hn
  clear hn hok hM hsm hfew hf2 hpl
  rw [hs0] at HL HSMA ⊢
  go_enter Try.func4, Try.ntmps4
  go_wp2_with fail
  refine HL.out.mono ?_
  rintro e w1 ⟨rfl, hb1⟩
  go_wp2_with fail
  refine (HSMA.out _ hb1).mono ?_
  rintro e w2 ⟨rfl, hb2⟩
  have HB2 := hid (hb1.trans (hb2.mono (by have := hb1.size; omega)))
  clear hb1 hb2
  go_wp2_with fail
  refine (fnew_any w2).mono ?_
  rintro e w3 ⟨rfl, rfl⟩
  obtain ⟨g, hg⟩ : ∃ g, w2.heap.size = g := ⟨_, rfl⟩
  have hst := (fnew_st w2 (g + 2)).below (bw_a (Below.refl _ _) (.cells #[.slice none 0 0, .int .i64 0, .bool false] 45))
  have hkr := Blk.new (w2.alloc (.cells #[.slice none 0 0, .int .i64 0, .bool false] 105)) 45 #[.slice none 0 0, .int .i64 0, .bool false]
  rw [World.size_alloc] at hkr
  rw [hg] at hst hkr ⊢
  have hsg : s0 ≤ g := by have := HB2.out.size; omega
  have hb0 := HB2.out.trans ((bw_a (bw_a (Below.refl w2.heap.size w2) (.cells #[.slice none 0 0, .int .i64 0, .bool false] 105)) (.cells #[.slice none 0 0, .int .i64 0, .bool false] 45)).mono (by omega))
  have hz : ((w2.alloc (.cells #[.slice none 0 0, .int .i64 0, .bool false] 105)).alloc (.cells #[.slice none 0 0, .int .i64 0, .bool false] 45)).heap.size = g + 2 := by simp [hg]
  have hz1 : (w2.alloc (.cells #[.slice none 0 0, .int .i64 0, .bool false] 105)).heap.size = g + 1 := by simp [hg]
  have hjt : JT g [] false ((w2.alloc (.cells #[.slice none 0 0, .int .i64 0, .bool false] 105)).alloc (.cells #[.slice none 0 0, .int .i64 0, .bool false] 45)) :=
    .inl ⟨rfl, .slice none 0 0, none, 0, 0, hst, ⟨hkr, World.ownsRow_nil _ _ _ _⟩, fun q h => by cases h⟩
  go_wp2_with fail
  generalize ((w2.alloc (.cells #[.slice none 0 0, .int .i64 0, .bool false] 105)).alloc (.cells #[.slice none 0 0, .int .i64 0, .bool false] 45)) = w4 at *
  have HB4 := hid hb0
  have HJT := hid hjt
  clear hb0 hjt hst hkr
  go_loopw [5, 6] (fun cm i wr => ∃ k : Nat, k ≤ n ∧ i = .int .i64 (k : Int) ∧ ∃ T ov, cm = .int .i64 (T.length : Int) ∧ T.length ≤ 3000 * k ∧ JT g T ov wr ∧ Below s0 w wr ∧ g + 2 ≤ wr.heap.size) (fun _ i _ => n - (intOf i).toNat)
  case atStart => exact ⟨0, by omega, rfl, [], false, rfl, by simp, HJT.out, HB4.out, by omega⟩
  case round =>
    obtain ⟨k, hk, rfl, T, ov, rfl, hTk, hjt, hB, hgw⟩ := hrel
    by_cases hlt : k < n
    rotate_left
    · obtain rfl : k = n := by omega
      have hki : ¬ (k : Int) < (k : Int) := by omega
      have HBE := hid hB
      clear hB hjt
      go_wp2_with fail
      go_ret
      exact ⟨rfl, HBE.out⟩
    have hkl : k < l.length := by have := HN.out; omega
    obtain ⟨b, off, rfl, hbA0, s0w, s1w⟩ := askRow_get HN.out HM.out k hkl
    have hap := HPL.out _ (List.getElem_mem hkl)
    have haok := HOK.out _ (List.getElem_mem hkl)
    unfold AskOk at haok
    generalize l[k] = x at *
    obtain ⟨xe, xA, xc, xs⟩ := x
    simp only at s0w s1w hap haok
    obtain ⟨pn, hpn⟩ : ∃ pn, xs.length = pn := ⟨_, rfl⟩
    rw [hpn] at s1w hap
    obtain ⟨tl, htl⟩ : ∃ tl, T.length = tl := ⟨_, rfl⟩
    have hbA : b < s0 := by omega
    have hTk2 : tl ≤ 3000 * k := by omega
    have s0r := (hB.cell (p := ⟨b, off + k * 2, none⟩) hbA).trans s0w
    have s1r := (hB.cell (p := ⟨b, off + k * 2 + 1, none⟩) hbA).trans s1w
    have hki : (k : Int) < (n : Int) := by omega
    have hk0 : (0 : Int) ≤ (k : Int) := by omega
    have HAOK := hid haok
    have HPN := hid hpn
    have HBR := hid hB
    clear haok hpn hB
    rcases hjt with ⟨rfl, vb, Ar, nr, cr, hfs, hrs, hap2⟩ | ⟨rfl, told, Ar, nr, cr, hkg, hrs⟩
    · have c2 := hrs.blk.cell 2
      simp only [List.getElem?_toArray, List.getElem?_cons_zero, List.getElem?_cons_succ] at c2
      cases xe
      · have hvb : ∀ q, vb.ownBlock = some q → g + 2 ≤ q := fun q hq => (hfs.row.lt q hq).1
        have hfar : FarS xA pn (fun q => q = g ∨ vb.ownBlock = some q) := fun hp b' o' e h => by
          obtain ⟨b2, o2, he, hb2, -⟩ := BRd.at_ HAOK.out.rd (k := 0) (by have := HPN.out; omega)
          rw [he] at e
          injection e with e
          injection e with e1
          rcases h with h | h
          · omega
          · have := hvb _ h; omega
        obtain ⟨U, hU⟩ : ∃ U, T ++ xs = U := ⟨_, rfl⟩
        have hUl : U.length = tl + pn := by rw [← hU, List.length_append, HPN.out, htl]
        obtain ⟨N, hN⟩ : ∃ N, (newsT T U).length = N := ⟨_, rfl⟩
        have hN2 : (Rs.wk false U 0).1.length - (Rs.wk false T 0).1.length = N := by rw [← hN]; unfold newsT; rw [List.length_drop]
        have hnl := newsT_le T U
        have hnr := hrs.len
        have hto : (Rs.wk false T 0).1.length ≤ (Rs.wk false U 0).1.length := by rw [← hU]; exact Fd.len T xs
        have HFD := hid (fun W (h : FSW g s0 w T vb W) => (show Calls Try.prog 23 #[.pointer (some ⟨g, 0, none⟩), .slice xA pn xc] W (FDR g N T U vb W) from by
          have h0 := ffeed_any (g + 2) g T vb xs pn xA xc W h.1 (by omega) h.2.2 HPN.out (HAOK.out.below (by rw [hs0]; exact h.2.1)) hfar (by omega) (by omega)
          rw [hU, hN] at h0
          exact h0))
        have HRD := hid (fun W (h : RSW g s0 w T Ar nr cr W) => (show Calls Try.prog 24 #[.pointer (some ⟨g + 1, 0, none⟩), .slice xA pn xc] W (RDR g N T U W) from by
          have h0 := rffeed_any (g + 2) (g + 1) T xs _ Ar nr cr xA pn xc W h.1 (by omega) h.2.2 HPN.out (HAOK.out.below (by rw [hs0]; exact h.2.1)) (by omega) (by rw [hU]; exact hto)
          rw [hU, hN2] at h0
          refine h0.mono ?_
          rintro e w' ⟨⟨A6, c6, h1, h2⟩, ⟨A1, c1, h3⟩, h4⟩
          exact ⟨A6, c6, h1, h2, ⟨A1, _, c1, h3⟩, h4⟩))
        have HFW : Hid (FSW g s0 w T vb wr) := hid ⟨hfs, HBR.out, hgw⟩
        have HRW : Hid (RSW g s0 w T Ar nr cr wr) := hid ⟨hrs, HBR.out, hgw⟩
        have HAP := hid hap2
        have HVB := hid hvb
        have HNN := hid hN
        have HUL := hid hUl
        have hbr : b < wr.heap.size := by have := HBR.out.size; omega
        clear hfs hrs hap2 hvb hfar hN hN2 hnr hto hU
        go_wp2_with fail
        go_region_held3 (fun w' => w'.cell? ⟨b, off + k * 2 + 1, none⟩ = some (.slice xA pn xc)) (first | exact s1r | exact q1 | go_keep) (first | (go_at_call 23; first | (refine (HFD.out _ HQ1.out.2).mono ?_; rintro e w6 ⟨A5, c5, vb6, rfl, ho6, hf6, hch6, hv6⟩; have HFIN := hid (fin_rp hsg HNN.out HVB.out HQ1.out.1 ho6 hf6 hch6 hv6); have q1 := (HFIN.out.bel.cell (p := ⟨b, off + k * 2 + 1, none⟩) hbA).trans s1w; clear ho6 hf6 hch6 hv6) | (refine (HFD.out _ (FSW.of hsg HFW.out (by first | exact Chg.drewN (Chg.refl _ _) _ | exact Chg.drew (Chg.refl _ _) | exact Chg.refl _ _))).mono ?_; rintro e w5 ⟨A5, c5, vb5, rfl, ho5, hf5, hch5, hv5⟩; have HQ2 := hid (pr_first hsg (RSW.of hsg HRW.out (by first | exact Chg.drewN (Chg.refl _ _) _ | exact Chg.drew (Chg.refl _ _) | exact Chg.refl _ _)) HAP.out HVB.out ho5 hf5 hch5); have q1 := (HQ2.out.2.2.1.cell (p := ⟨b, off + k * 2 + 1, none⟩) hbA).trans s1w; clear ho5 hf5 hch5 hv5)) | (go_at_call 24; first | (refine (HRD.out _ HQ2.out.2).mono ?_; rintro e w6 ⟨A6, c6, rfl, hsl6, hr6, hch6⟩; have HFIN := hid (fin_pr hsg HNN.out HVB.out HQ2.out.1 hsl6 hr6 hch6); have q1 := (HFIN.out.bel.cell (p := ⟨b, off + k * 2 + 1, none⟩) hbA).trans s1w; clear hsl6 hr6 hch6) | (refine (HRD.out _ (RSW.of hsg HRW.out (by first | exact Chg.drewN (Chg.refl _ _) _ | exact Chg.drew (Chg.refl _ _) | exact Chg.refl _ _))).mono ?_; rintro e w5 ⟨A6, c6, rfl, hsl5, hr5, hch5⟩; have HQ1 := hid (rf_first hsg (FSW.of hsg HFW.out (by first | exact Chg.drewN (Chg.refl _ _) _ | exact Chg.drew (Chg.refl _ _) | exact Chg.refl _ _)) hsl5 hr5 hch5); have q1 := (HQ1.out.2.2.1.cell (p := ⟨b, off + k * 2 + 1, none⟩) hbA).trans s1w; clear hsl5 hr5 hch5)))
        all_goals
          obtain ⟨hjt, hbf, hsa, hsb⟩ := HFIN.out
          obtain ⟨wf, hwf⟩ : ∃ wf, wf = w6 := ⟨_, rfl⟩
          subst hwf
          have HSM := hid (fun W' (hW : Below wf.heap.size wf W') => rsame14_sl (newsT T U) N A5 A6 c5 c6 W' HNN.out (by have := HNN.out; have := HUL.out; omega) (fun f hf => by have := newsT_bd hf; have := HUL.out; omega) (hsa.below hW) (hsb.below hW))
          have HNX := hid hjt
          rcases hjt with ⟨-, vb9, A9, n9, c9, hf9, hr9, -⟩ | ⟨h, -⟩
          rotate_left
          · cases h
          obtain ⟨hl, hhl⟩ : ∃ hl, (hldT U).length = hl := ⟨_, rfl⟩
          obtain ⟨Ah, ch, rfl⟩ := row_slice_g hf9.row
          rw [hhl] at hf9
          have hr9l := hr9.len
          have hheld : n9 - (Rs.wk false U 0).2 = hl := by rw [← hhl, (hldT_len U).1, hr9l]
          have HRH := hid (fun W' (hW : Below wf.heap.size wf W') => (show Calls Try.prog 27 #[.pointer (some ⟨g + 1, 0, none⟩)] W' fun e w' => e = .returned (.int .i64 ((hl : Nat) : Int)) ∧ Below W'.heap.size W' w' from by
            have h0 := rfheld_any (g + 2) (g + 1) U _ A9 n9 c9 W' (hr9.below hW) (by have := HUL.out; omega)
            rw [hheld] at h0
            exact h0))
          obtain ⟨cm, hcm⟩ : ∃ cm, tl + pn = cm := ⟨_, rfl⟩
          have hblk9 := hf9.blk
          rw [HUL.out, hcm] at hblk9
          have HKG := hid hblk9
          have HKR := hid hr9.blk
          have HBF := hid hbf
          have hul := HUL.out
          rw [hcm] at hul
          have HUL := hid hul
          have hgf : g + 2 ≤ wf.heap.size := by have := hr9.blk.lt; omega
          clear hbf hsa hsb hf9 hr9 hr9l hheld hblk9 hul hhl HFIN q1
          have g2 := HKR.out.cell 2
          simp only [List.getElem?_toArray, List.getElem?_cons_zero, List.getElem?_cons_succ] at g2
          have hg2l := HKR.out.lt
          have HHD := hid (fun W' (hW : Below wf.heap.size wf W') => fheld_any g hl Ah ch cm false W' (HKG.out.below hW HKG.out.lt))
          have HCM := hid (fun W' (hW : Below wf.heap.size wf W') => fcame_any g (.slice Ah hl ch) cm false W' (HKG.out.below hW HKG.out.lt))
          have HOV := hid (fun W' (hW : Below wf.heap.size wf W') => fover_any g (.slice Ah hl ch) cm false W' (HKG.out.below hW HKG.out.lt))
          have HB0 := hid (Below.refl wf.heap.size wf)
          have s1 := (HBF.out.cell (p := ⟨b, off + k * 2 + 1, none⟩) hbA).trans s1w
          have hwc : IntKind.i64.wrap ((tl : Int) + (pn : Int)) = (cm : Int) := by rw [IntWalk.i64_in _ (by omega)]; omega
          go_wp2_with fail
          go_region_held3 (fun w' => w'.cell? ⟨g + 1, 2, none⟩ = some (.bool false)) (first | exact g2 | exact q2 | go_keep) (first | (go_at_call 25; refine (HSM.out _ (by first | exact HB0.out | exact bw_dq15 HB0.out _ | exact below_drew' HB0.out)).mono ?_; rintro e w1 ⟨rfl, hb1⟩; have HB1 := hid (bw_t (by first | exact HB0.out | exact bw_dq15 HB0.out _ | exact below_drew' HB0.out) hb1); have q2 := (HB1.out.cell (p := ⟨g + 1, 2, none⟩) hg2l).trans g2; clear hb1) | (go_at_call 26; refine (HHD.out _ (by first | exact HB2.out | exact HB1.out)).mono ?_; rintro e w2 ⟨rfl, rfl⟩) | (go_at_call 27; refine (HRH.out _ (by first | exact HB1.out)).mono ?_; rintro e w3 ⟨rfl, hb3⟩; have HB2 := hid (bw_t HB1.out hb3); have q2 := (HB2.out.cell (p := ⟨g + 1, 2, none⟩) hg2l).trans g2; clear hb3) | (go_at_call 28; refine (HCM.out _ (by first | exact HB2.out)).mono ?_; rintro e w4 ⟨rfl, rfl⟩) | (go_at_call 29; refine (HOV.out _ (by first | exact HB2.out)).mono ?_; rintro e w5 ⟨rfl, rfl⟩))
          go_wp2_with fail
          go_roundw
          case rel => exact ⟨k + 1, by omega, by go_num, U, false, by rw [HUL.out], by rw [HUL.out]; omega, HNX.out.below HB2.out, HBF.out.trans (HB2.out.mono (by have := HBF.out.size; have := HB4.out.size; omega)), by have := HB2.out.size; omega⟩
          case measure => simp [intOf]; omega
      · have hh := hldT_len T
        have hnr := hrs.len
        obtain ⟨N, hN⟩ : ∃ N, (lastT T).length = N := ⟨_, rfl⟩
        have HFE := hid ((fend_any (g + 2) g (hldT T) T.length vb wr hfs (by omega) (by omega) (by omega) (by omega)).mono (fun e w' ⟨v, h1, h2, h3, h4⟩ => (show ∃ A5 c5, e = Ending.returned (.slice A5 N c5) ∧ FdRow wr.heap.size w' (.slice A5 N c5) (lastT T) ∧ Blk w' g 105 #[.slice none 0 0, .int .i64 (tl : Int), .bool true] ∧ Chg (fun q => q = g) wr w' from by
          rw [show T.length - (hldT T).length = (Rs.wk false T 0).2 by omega] at h2
          change FdRow _ _ _ (lastT T) at h2
          rw [htl] at h3
          obtain ⟨A5, c5, rfl⟩ := h2.slice
          rw [hN] at h1 h2
          exact ⟨A5, c5, h1, h2, h3, h4⟩)))
        have HRE := hid (fun W' (hc : Chg (fun q => q = g) wr W') => (rfend_any (g + 2) (g + 1) T (Rs.wk false T 0).1.length Ar nr cr W' (hrs.chg hc (by omega) (fun q hq e => by have := (hrs.row.lt q hq).1; omega)) (by have := hc.size; omega) (by omega) (by omega)).mono (fun e w' ⟨A6, c6, h1, h2, h3, h4⟩ => (show ∃ A6 c6, e = Ending.returned (.slice A6 N c6) ∧ FdRow W'.heap.size w' (.slice A6 N c6) (lastT T) ∧ RfS (g + 2) (g + 1) T (Rs.wk false T 0).1.length true Ar nr cr w' ∧ Chg (fun q => q = g + 1) W' w' from by
          change FdRow _ _ _ (lastT T) at h2
          rw [show (Rs.wk true (T.drop (Rs.wk false T 0).2) 0).1.length = N by rw [← hN]; unfold lastT; rw [List.length_map]; rfl] at h1 h2
          exact ⟨A6, c6, h1, h2, h3, h4⟩)))
        have HNN := hid hN
        have hll := lastT_len T
        clear hfs hrs hap2 hh hnr hN
        go_wp2_with fail
        refine HFE.out.mono ?_
        rintro e w5 ⟨A5, c5, rfl, hrow5, hkg5, hch5⟩
        have HR5 := hid hrow5
        have HK5 := hid hkg5
        have HC5 := hid hch5
        clear hrow5 hkg5 hch5
        go_wp2_with fail
        refine (HRE.out _ HC5.out).mono ?_
        rintro e wf ⟨A6, c6, rfl, hrow6, hrs6, hch6⟩
        have hrow5 := HR5.out.chg hch6 (fun b hb e => by omega)
        have hs5 := HC5.out.size
        have hbf : Below s0 w wf := HBR.out.trans (((HC5.out.mono (T := fun q => s0 ≤ q) (fun q _ h => by omega)).trans (hch6.mono (fun q _ h => by omega))).below (fun q h => h) (by have := HBR.out.size; omega))
        obtain ⟨U, hU⟩ : ∃ U, U = T := ⟨_, rfl⟩
        have HSM := hid (fun W' (hW : Below wf.heap.size wf W') => rsame14_sl (lastT T) N A5 A6 c5 c6 W' HNN.out (by have := HNN.out; omega) (fun f hf => by have := lastT_bd hf; omega) ((hrow5.below hW).sl HNN.out) ((hrow6.below hW).sl HNN.out))
        have HRH := hid (fun W' (hW : Below wf.heap.size wf W') => rfheld_over (g + 1) (.slice Ar nr cr) _ W' (hrs6.below hW).blk)
        have hkg6 := hch6.blk HK5.out (by omega)
        have HKR := hid hrs6.blk
        have HNX : Hid (JT g U true wf) := hid (.inr ⟨rfl, _, Ar, nr, cr, by rw [hU, htl]; exact hkg6, by rw [hU]; exact hrs6⟩)
        have HKG := hid hkg6
        have HBF := hid hbf
        have hgf : g + 2 ≤ wf.heap.size := by have := hch6.size; omega
        rw [← hU] at htl
        have HUL := hid htl
        clear hrow5 hrow6 hrs6 hch6 hbf hkg6 hU
        have g2 := HKR.out.cell 2
        simp only [List.getElem?_toArray, List.getElem?_cons_zero, List.getElem?_cons_succ] at g2
        have hg2l := HKR.out.lt
        have HHD := hid (fun W' (hW : Below wf.heap.size wf W') => fheld_any g 0 none 0 tl true W' (HKG.out.below hW HKG.out.lt))
        have HCM := hid (fun W' (hW : Below wf.heap.size wf W') => fcame_any g (.slice none 0 0) tl true W' (HKG.out.below hW HKG.out.lt))
        have HOV := hid (fun W' (hW : Below wf.heap.size wf W') => fover_any g (.slice none 0 0) tl true W' (HKG.out.below hW HKG.out.lt))
        have HB0 := hid (Below.refl wf.heap.size wf)
        go_wp2_with fail
        go_region_held3 (fun w' => w'.cell? ⟨g + 1, 2, none⟩ = some (.bool true)) (first | exact g2 | exact q2 | go_keep) (first | (go_at_call 25; refine (HSM.out _ (by first | exact HB0.out | exact bw_dq15 HB0.out _ | exact below_drew' HB0.out)).mono ?_; rintro e w1 ⟨rfl, hb1⟩; have HB1 := hid (bw_t (by first | exact HB0.out | exact bw_dq15 HB0.out _ | exact below_drew' HB0.out) hb1); have q2 := (HB1.out.cell (p := ⟨g + 1, 2, none⟩) hg2l).trans g2; clear hb1) | (go_at_call 26; refine (HHD.out _ (by first | exact HB2.out | exact HB1.out)).mono ?_; rintro e w2 ⟨rfl, rfl⟩) | (go_at_call 27; refine (HRH.out _ (by first | exact HB1.out)).mono ?_; rintro e w3 ⟨rfl, hb3⟩; have HB2 := hid (bw_t HB1.out hb3); have q2 := (HB2.out.cell (p := ⟨g + 1, 2, none⟩) hg2l).trans g2; clear hb3) | (go_at_call 28; refine (HCM.out _ (by first | exact HB2.out)).mono ?_; rintro e w4 ⟨rfl, rfl⟩) | (go_at_call 29; refine (HOV.out _ (by first | exact HB2.out)).mono ?_; rintro e w5 ⟨rfl, rfl⟩))
        go_wp2_with fail
        go_roundw
        case rel => exact ⟨k + 1, by omega, by go_num, U, true, by rw [HUL.out], by rw [HUL.out]; omega, HNX.out.below HB2.out, HBF.out.trans (HB2.out.mono (by have := HBF.out.size; have := HB4.out.size; omega)), by have := HB2.out.size; omega⟩
        case measure => simp [intOf]; omega
    · have c2 := hrs.blk.cell 2
      simp only [List.getElem?_toArray, List.getElem?_cons_zero, List.getElem?_cons_succ] at c2
      cases xe
      · have HRE := hid (fun W' (hW : Below wr.heap.size wr W') => rffeed_over (g + 1) (.slice Ar nr cr) told pn xA xc W' (hrs.below hW).blk)
        have HFE := hid (fun W' (hW : Below wr.heap.size wr W') => ffeed_over g T.length pn (.slice none 0 0) xA xc W' (hkg.below hW hkg.lt))
        have HKG := hid hkg
        have HRS := hid hrs
        rw [htl] at HKG
        have HBX := hid (Below.refl wr.heap.size wr)
        have hbr : b < wr.heap.size := by have := HBR.out.size; omega
        clear hkg hrs
        go_wp2_with fail
        go_region_held3 (fun w' => w'.cell? ⟨b, off + k * 2 + 1, none⟩ = some (.slice xA pn xc)) (first | exact s1r | exact q1 | go_keep) (first | (go_at_call 23; refine (HFE.out _ (by first | exact HX1.out | exact bw_dq15 HBX.out _ | exact below_drew' HBX.out | exact HBX.out)).mono ?_; rintro e wf ⟨rfl, hx⟩; have HX1 := hid (bw_t (by first | exact HX1.out | exact bw_dq15 HBX.out _ | exact below_drew' HBX.out | exact HBX.out) hx); have q1 := (HX1.out.cell (p := ⟨b, off + k * 2 + 1, none⟩) hbr).trans s1r; clear hx) | (go_at_call 24; refine (HRE.out _ (by first | exact HX1.out | exact bw_dq15 HBX.out _ | exact below_drew' HBX.out | exact HBX.out)).mono ?_; rintro e wf ⟨rfl, hx⟩; have HX1 := hid (bw_t (by first | exact HX1.out | exact bw_dq15 HBX.out _ | exact below_drew' HBX.out | exact HBX.out) hx); have q1 := (HX1.out.cell (p := ⟨b, off + k * 2 + 1, none⟩) hbr).trans s1r; clear hx))
        all_goals
          have hbf := HX1.out
          have hkg2 := HKG.out.below hbf HKG.out.lt
          have hrs2 := HRS.out.below hbf
          have HRH := hid (fun W' (hW : Below wf.heap.size wf W') => rfheld_over (g + 1) (.slice Ar nr cr) told W' (hrs2.below hW).blk)
          have HKR := hid hrs2.blk
          have HNX : Hid (JT g T true wf) := hid (.inr ⟨rfl, told, Ar, nr, cr, by rw [htl]; exact hkg2, hrs2⟩)
          have HKG := hid hkg2
          have HBF := hid (HBR.out.trans (hbf.mono (by have := HBR.out.size; omega)))
          have hgf : g + 2 ≤ wf.heap.size := by have := hbf.size; omega
          obtain ⟨U, hU⟩ : ∃ U, U = T := ⟨_, rfl⟩
          rw [← hU] at HNX htl
          have HUL := hid htl
          have HSM := hid (fun W' (hW : Below wf.heap.size wf W') => rsame14_sl [] 0 none none 0 0 W' rfl (by omega) (by simp) (FdSl.nil_ W') (FdSl.nil_ W'))
          have g2 := HKR.out.cell 2
          simp only [List.getElem?_toArray, List.getElem?_cons_zero, List.getElem?_cons_succ] at g2
          have hg2l := HKR.out.lt
          have HHD := hid (fun W' (hW : Below wf.heap.size wf W') => fheld_any g 0 none 0 tl true W' (HKG.out.below hW HKG.out.lt))
          have HCM := hid (fun W' (hW : Below wf.heap.size wf W') => fcame_any g (.slice none 0 0) tl true W' (HKG.out.below hW HKG.out.lt))
          have HOV := hid (fun W' (hW : Below wf.heap.size wf W') => fover_any g (.slice none 0 0) tl true W' (HKG.out.below hW HKG.out.lt))
          have HB0 := hid (Below.refl wf.heap.size wf)
          go_wp2_with fail
          go_region_held3 (fun w' => w'.cell? ⟨g + 1, 2, none⟩ = some (.bool true)) (first | exact g2 | exact q2 | go_keep) (first | (go_at_call 25; refine (HSM.out _ (by first | exact HB0.out | exact bw_dq15 HB0.out _ | exact below_drew' HB0.out)).mono ?_; rintro e w1 ⟨rfl, hb1⟩; have HB1 := hid (bw_t (by first | exact HB0.out | exact bw_dq15 HB0.out _ | exact below_drew' HB0.out) hb1); have q2 := (HB1.out.cell (p := ⟨g + 1, 2, none⟩) hg2l).trans g2; clear hb1) | (go_at_call 26; refine (HHD.out _ (by first | exact HB2.out | exact HB1.out)).mono ?_; rintro e w2 ⟨rfl, rfl⟩) | (go_at_call 27; refine (HRH.out _ (by first | exact HB1.out)).mono ?_; rintro e w3 ⟨rfl, hb3⟩; have HB2 := hid (bw_t HB1.out hb3); have q2 := (HB2.out.cell (p := ⟨g + 1, 2, none⟩) hg2l).trans g2; clear hb3) | (go_at_call 28; refine (HCM.out _ (by first | exact HB2.out)).mono ?_; rintro e w4 ⟨rfl, rfl⟩) | (go_at_call 29; refine (HOV.out _ (by first | exact HB2.out)).mono ?_; rintro e w5 ⟨rfl, rfl⟩))
          go_wp2_with fail
          go_roundw
          case rel => exact ⟨k + 1, by omega, by go_num, U, true, by rw [HUL.out], by rw [HUL.out]; omega, HNX.out.below HB2.out, HBF.out.trans (HB2.out.mono (by have := HBF.out.size; have := HB4.out.size; omega)), by have := HB2.out.size; omega⟩
          case measure => simp [intOf]; omega
      · have HRE := hid (rfend_over (g + 1) (.slice Ar nr cr) told wr hrs.blk)
        have HFE := hid (fend_over g T.length (.slice none 0 0) wr hkg)
        have HKG := hid hkg
        have HRS := hid hrs
        rw [htl] at HKG
        clear hkg hrs
        go_wp2_with fail
        refine HFE.out.mono ?_
        rintro e wf0 ⟨rfl, rfl⟩
        go_wp2_with fail
        refine HRE.out.mono ?_
        rintro e wf ⟨rfl, hbf⟩
        have hkg2 := HKG.out.below hbf HKG.out.lt
        have hrs2 := HRS.out.below hbf
        have HRH := hid (fun W' (hW : Below wf.heap.size wf W') => rfheld_over (g + 1) (.slice Ar nr cr) told W' (hrs2.below hW).blk)
        have HKR := hid hrs2.blk
        have HNX : Hid (JT g T true wf) := hid (.inr ⟨rfl, told, Ar, nr, cr, by rw [htl]; exact hkg2, hrs2⟩)
        have HKG := hid hkg2
        have HBF := hid (HBR.out.trans (hbf.mono (by have := HBR.out.size; omega)))
        have hgf : g + 2 ≤ wf.heap.size := by have := hbf.size; omega
        obtain ⟨U, hU⟩ : ∃ U, U = T := ⟨_, rfl⟩
        rw [← hU] at HNX htl
        have HUL := hid htl
        have HSM := hid (fun W' (hW : Below wf.heap.size wf W') => rsame14_sl [] 0 none none 0 0 W' rfl (by omega) (by simp) (FdSl.nil_ W') (FdSl.nil_ W'))
        have g2 := HKR.out.cell 2
        simp only [List.getElem?_toArray, List.getElem?_cons_zero, List.getElem?_cons_succ] at g2
        have hg2l := HKR.out.lt
        have HHD := hid (fun W' (hW : Below wf.heap.size wf W') => fheld_any g 0 none 0 tl true W' (HKG.out.below hW HKG.out.lt))
        have HCM := hid (fun W' (hW : Below wf.heap.size wf W') => fcame_any g (.slice none 0 0) tl true W' (HKG.out.below hW HKG.out.lt))
        have HOV := hid (fun W' (hW : Below wf.heap.size wf W') => fover_any g (.slice none 0 0) tl true W' (HKG.out.below hW HKG.out.lt))
        have HB0 := hid (Below.refl wf.heap.size wf)
        go_wp2_with fail
        go_region_held3 (fun w' => w'.cell? ⟨g + 1, 2, none⟩ = some (.bool true)) (first | exact g2 | exact q2 | go_keep) (first | (go_at_call 25; refine (HSM.out _ (by first | exact HB0.out | exact bw_dq15 HB0.out _ | exact below_drew' HB0.out)).mono ?_; rintro e w1 ⟨rfl, hb1⟩; have HB1 := hid (bw_t (by first | exact HB0.out | exact bw_dq15 HB0.out _ | exact below_drew' HB0.out) hb1); have q2 := (HB1.out.cell (p := ⟨g + 1, 2, none⟩) hg2l).trans g2; clear hb1) | (go_at_call 26; refine (HHD.out _ (by first | exact HB2.out | exact HB1.out)).mono ?_; rintro e w2 ⟨rfl, rfl⟩) | (go_at_call 27; refine (HRH.out _ (by first | exact HB1.out)).mono ?_; rintro e w3 ⟨rfl, hb3⟩; have HB2 := hid (bw_t HB1.out hb3); have q2 := (HB2.out.cell (p := ⟨g + 1, 2, none⟩) hg2l).trans g2; clear hb3) | (go_at_call 28; refine (HCM.out _ (by first | exact HB2.out)).mono ?_; rintro e w4 ⟨rfl, rfl⟩) | (go_at_call 29; refine (HOV.out _ (by first | exact HB2.out)).mono ?_; rintro e w5 ⟨rfl, rfl⟩))
        go_wp2_with fail
        go_roundw
        case rel => exact ⟨k + 1, by omega, by go_num, U, true, by rw [HUL.out], by rw [HUL.out]; omega, HNX.out.below HB2.out, HBF.out.trans (HB2.out.mono (by have := HBF.out.size; have := HB4.out.size; omega)), by have := HB2.out.size; omega⟩
        case measure => simp [intOf]; omega
end Go.Proofs.Ytnfodgjihdoncaa
set_option linter.unusedVariables false
namespace Go.Proofs.Ytnfodgjihdoncaa
open Go.RowKit
theorem far_arg {w : World} {A : Option Addr} {c m : Nat} {ps : List UInt8} {S : Nat → Prop} (h : Sl w A c (ps.map bv)) (hm : ps.length = m) (hS : ∀ q, S q → w.heap.size ≤ q) : FarS A m S := fun hp b o e hs => by
  obtain ⟨b2, o2, he, hb2, -⟩ := BRd.at_ h.rd (k := 0) (by omega)
  rw [he] at e
  injection e with e
  injection e with e1
  have := hS b hs
  omega
/-- A part of what came in. -/
theorem sl_part {w : World} {A : Option Addr} {c n : Nat} {bs : List UInt8} (h : Sl w A c (bs.map bv)) (hn : bs.length = n) (lo hi : Nat) (h1 : lo ≤ hi) (h2 : hi ≤ n) : Sl w (cutA A c lo) (c - lo) (((bs.drop lo).take (hi - lo)).map bv) ∧ ((bs.drop lo).take (hi - lo)).length = hi - lo :=
  ⟨sl_take (h.cut lo (by omega)) _, by rw [List.length_take, List.length_drop]; omega⟩
theorem cutA_none (c p : Nat) : cutA none c p = none := by unfold cutA; split <;> rfl
theorem cutA_eq (A : Option Addr) (c : Nat) : cutA A c c = A := by unfold cutA; rw [if_pos rfl]
theorem cutA_ne (a : Addr) {c p : Nat} (h : ¬ c = p) : cutA (some a) c p = some (a.add p) := by unfold cutA; rw [if_neg h]; rfl
end Go.Proofs.Ytnfodgjihdoncaa
set_option linter.unusedVariables false
namespace Go.Proofs.Ytnfodgjihdoncaa
open Go.RowKit
set_option maxRecDepth 100000 in
set_option maxHeartbeats 8000000 in
theorem feederHolds_any (bs : List UInt8) (n : Nat) (A : Option Addr) (c tm : Nat) (pc : Int) (w : World) (hn : bs.length = n) (hS : Sl w A c (bs.map bv)) (htm : tm ≤ 255) (hp1 : -9223372036854775808 ≤ pc) (hp2 : pc ≤ 9223372036854775807) :
    Calls Try.prog 6 #[.slice A n c, .int .u8 (tm : Int), .int .i64 pc] w fun e w' => e = .returned (.bool true) ∧ Below w.heap.size w w' := by
  have hcap := hS.cap
  have hsma := hS.small
  rw [List.length_map, hn] at hcap
  have HL := hid (live15_any w)
  by_cases hbig : 2000 < n ∨ pc < 1 ∨ 20 < tm
  · clear hn hS
    by_cases h1 : 2000 < n
    · have h1i : (2000 : Int) < (n : Int) := by omega
      clear hbig
      go_enter Try.func6, Try.ntmps6
      go_wp2_with fail
      refine HL.out.mono ?_
      rintro e w1 ⟨rfl, hb1⟩
      go_wp2_with fail
      go_ret
      exact ⟨rfl, hb1⟩
    by_cases h2 : pc < 1
    · have h1i : ¬ (2000 : Int) < (n : Int) := by omega
      clear hbig
      go_enter Try.func6, Try.ntmps6
      go_wp2_with fail
      refine HL.out.mono ?_
      rintro e w1 ⟨rfl, hb1⟩
      go_wp2_with fail
      go_ret
      exact ⟨rfl, hb1⟩
    have h3 : (20 : Int) < (tm : Int) := by omega
    have h1i : ¬ (2000 : Int) < (n : Int) := by omega
    clear hbig
    go_enter Try.func6, Try.ntmps6
    go_wp2_with fail
    refine HL.out.mono ?_
    rintro e w1 ⟨rfl, hb1⟩
    go_wp2_with fail
    go_ret
    exact ⟨rfl, hb1⟩
  have h1i : ¬ (2000 : Int) < (n : Int) := by omega
  have h2i : ¬ pc < 1 := by omega
  have h3i : ¬ (20 : Int) < (tm : Int) := by omega
  obtain ⟨pm, hpm⟩ : ∃ pm : Nat, min pc 2000 = (pm : Int) := ⟨(min pc 2000).toNat, by omega⟩
  have hpm2 : pm ≤ 2000 := by omega
  obtain ⟨s0, hs0⟩ : ∃ s0, w.heap.size = s0 := ⟨_, rfl⟩
  have HS := hid hS
  have HN := hid hn
  clear hn hS
  have hnl : n ≤ 2000 := by omega
  have htl2 : tm ≤ 20 := by omega
  rw [hs0] at HL ⊢
  go_enter Try.func6, Try.ntmps6
  go_wp2_with fail
  refine HL.out.mono ?_
  rintro e w2 ⟨rfl, hb2⟩
  go_wp2_with fail
  refine (fnew_any w2).mono ?_
  rintro e w3 ⟨rfl, rfl⟩
  obtain ⟨g, hg⟩ : ∃ g, w2.heap.size = g := ⟨_, rfl⟩
  have hst := fnew_st w2 (g + 1)
  rw [hg] at hst ⊢
  have hsg : s0 ≤ g := by have := hb2.size; omega
  have hb0 := hb2.trans ((bw_a (Below.refl w2.heap.size w2) (.cells #[.slice none 0 0, .int .i64 0, .bool false] 105)).mono (by omega))
  have hz : (w2.alloc (.cells #[.slice none 0 0, .int .i64 0, .bool false] 105)).heap.size = g + 1 := by simp [hg]
  generalize (w2.alloc (.cells #[.slice none 0 0, .int .i64 0, .bool false] 105)) = w4 at *
  have HB4 := hid hb0
  have HST := hid hst
  clear hb0 hst hb2
  go_wp2_with fail
  go_loopw [8] (fun t wr => ∃ k : Nat, k ≤ tm ∧ t = .int .u8 (k : Int) ∧ ∃ T vb, FdS (g + 1) g (hldT T) T.length false vb wr ∧ T.length ≤ 2000 * k ∧ Below s0 w wr ∧ g + 1 ≤ wr.heap.size) (fun t _ => tm - (intOf t).toNat)
  case atStart => exact ⟨0, by omega, rfl, [], .slice none 0 0, by simpa [hldT] using HST.out, by simp, HB4.out, by omega⟩
  case round =>
    obtain ⟨k, hk, rfl, T0, vb0, hfs0, hT0, hB0, hgw0⟩ := hrel
    by_cases hlt : k < tm
    · have hki : (k : Int) < (tm : Int) := by omega
      obtain ⟨wo, rfl⟩ : ∃ x, x = wr := ⟨_, rfl⟩
      have HF0 := hid hfs0
      have HBR0 := hid hB0
      clear hfs0 hB0
      go_wp2_with fail
      go_loopw [9, 10] (fun p i wq => ∃ j a : Nat, j ≤ 2000 ∧ a ≤ n ∧ i = .int .i64 (j : Int) ∧ p = .int .i64 (a : Int) ∧ ∃ T vb, FdS (g + 1) g (hldT T) T.length false vb wq ∧ T.length ≤ 2000 * k + a ∧ Below s0 w wq ∧ g + 1 ≤ wq.heap.size) (fun _ i _ => 2000 - (intOf i).toNat)
      case atStart => exact ⟨0, 0, by omega, by omega, rfl, rfl, T0, vb0, HF0.out, by omega, HBR0.out, by omega⟩
      case round =>
        obtain ⟨j, a, hj, ha, rfl, rfl, T, vb, hfs, hT, hB, hgw⟩ := hrel
        by_cases hgo : j < 2000 ∧ a < n
        · obtain ⟨hj2, ha2⟩ := hgo
          have hji : (j : Int) < 2000 := by omega
          have hai : (a : Int) < (n : Int) := by omega
          obtain ⟨to, hto⟩ : ∃ to, min (a + pm) n = to := ⟨_, rfl⟩
          have hw1 : IntKind.i64.wrap ((a : Int) + (pm : Int)) = (a : Int) + (pm : Int) := by rw [IntWalk.i64_in _ (by omega)]
          have hmi : min ((a : Int) + (pm : Int)) (n : Int) = (to : Int) := by omega
          have i1 : (a : Int) ≤ (to : Int) := by omega
          have i2 : (to : Int) ≤ (c : Int) := by omega
          have i3 : (0 : Int) ≤ (a : Int) := by omega
          have i4 : (0 : Int) ≤ (to : Int) := by omega
          have i5 : ¬ c = a := by omega
          obtain ⟨b, off, rfl, hbl, -⟩ := BRd.at_ HS.out.rd (k := a) (by rw [HN.out]; exact ha2)
          obtain ⟨hps, hpl⟩ := sl_part HS.out HN.out a to (by omega) (by omega)
          rw [cutA_ne _ i5, addr_add] at hps
          generalize (bs.drop a).take (to - a) = ps at *
          have hfd := ffeed_any (g + 1) g T vb ps (to - a) _ _ wr hfs (by omega) hgw hpl (hps.below (by rw [hs0]; exact hB)) (far_arg hps hpl (fun q hq => by
            rcases hq with h | h
            · omega
            · have := (hfs.row.lt q h).1; omega)) (by omega) (by omega)
          have hvb : ∀ q, vb.ownBlock = some q → g + 1 ≤ q := fun q hq => (hfs.row.lt q hq).1
          have HFD := hid hfd
          have HVB := hid hvb
          have HBR := hid hB
          have HPL := hid hpl
          clear hfd hvb hfs hB hps hpl
          have i6 : ¬ a = c := by omega
          go_wp2_with fail
          refine HFD.out.mono ?_
          rintro e w5 ⟨A5, c5, vb5, rfl, -, hf5, hch5, -⟩
          have hb5 : Below s0 w w5 := HBR.out.trans ((hch5.mono (T := fun q => s0 ≤ q) (fun q _ h => by rcases h with h | h; omega; have := HVB.out q h; omega)).below (fun q h => h) (by omega))
          have hs5 := hch5.size
          obtain ⟨Ah, ch, rfl⟩ := row_slice_g hf5.row
          have hTl : (T ++ ps).length ≤ 2000 * k + to := by rw [List.length_append, HPL.out]; omega
          have hhl := hldT_len (T ++ ps)
          generalize T ++ ps = U at *
          obtain ⟨hl, hhe⟩ : ∃ hl, (hldT U).length = hl := ⟨_, rfl⟩
          obtain ⟨cm, hcm⟩ : ∃ cm, U.length = cm := ⟨_, rfl⟩
          have HF5 := hid hf5
          rw [hhe] at hhl hf5
          rw [hcm] at hhl hTl hf5
          have hk5 := hf5.blk
          have HHD := hid (fheld_any g hl Ah ch cm false w5 hk5)
          have HCM := hid (fcame_any g (.slice Ah hl ch) cm false w5 hk5)
          have HBE := hid hb5
          have HCQ := hid hcm
          have j1 : ¬ (8201 : Int) ≤ (hl : Int) := by omega
          have j2 : ¬ (cm : Int) < (hl : Int) := by omega
          clear hf5 hch5 hb5 hk5 hhe hcm hhl
          go_wp2_with fail
          refine HHD.out.mono ?_
          rintro e w6 ⟨rfl, rfl⟩
          go_wp2_with fail
          refine HHD.out.mono ?_
          rintro e w7 ⟨rfl, rfl⟩
          go_wp2_with fail
          refine HCM.out.mono ?_
          rintro e w8 ⟨rfl, rfl⟩
          go_wp2_with fail
          go_roundw
          case rel => exact ⟨j + 1, to, by omega, by omega, by go_num, rfl, U, _, HF5.out, by rw [HCQ.out]; exact hTl, HBE.out, by omega⟩
          case measure => simp [intOf]; omega
        · have HFS := hid hfs
          have HBR := hid hB
          clear hfs hB
          by_cases hj2 : j < 2000
          · have hji : (j : Int) < 2000 := by omega
            have hai : ¬ (a : Int) < (n : Int) := by omega
            go_wp2_with fail
            go_roundw
            case rel => exact ⟨k + 1, by omega, by go_num, T, vb, HFS.out, by omega, HBR.out, by omega⟩
            case measure => simp [intOf]; omega
          · have hji : ¬ (j : Int) < 2000 := by omega
            go_wp2_with fail
            go_roundw
            case rel => exact ⟨k + 1, by omega, by go_num, T, vb, HFS.out, by omega, HBR.out, by omega⟩
            case measure => simp [intOf]; omega
    · obtain rfl : k = tm := by omega
      have hki : ¬ (k : Int) < (k : Int) := by omega
      have hhl := hldT_len T0
      have HFE := hid (fend_any (g + 1) g (hldT T0) T0.length vb0 wr hfs0 (by omega) (by omega) (by omega) (by omega))
      have HBR := hid hB0
      clear hfs0 hB0 hhl
      go_wp2_with fail
      refine HFE.out.mono ?_
      rintro e w5 ⟨v5, rfl, -, hk5, hch5⟩
      have HB5 := hid (HBR.out.trans ((hch5.mono (T := fun q => s0 ≤ q) (fun q _ h => by omega)).below (fun q h => h) (by omega)))
      have HK5 := hid hk5
      clear hk5 hch5
      go_wp2_with fail
      refine (fheld_any g 0 none 0 T0.length true w5 HK5.out).mono ?_
      rintro e w6 ⟨rfl, rfl⟩
      go_wp2_with fail
      refine (fover_any g (.slice none 0 0) T0.length true _ HK5.out).mono ?_
      rintro e w7 ⟨rfl, rfl⟩
      go_wp2_with fail
      refine (ffeed_over g T0.length n (.slice none 0 0) A c _ HK5.out).mono ?_
      rintro e w8 ⟨rfl, hb8⟩
      have HB8 := hid (HB5.out.trans (hb8.mono (by have := HB5.out.size; omega)))
      clear hb8
      go_wp2_with fail
      go_ret
      exact ⟨by simp, HB8.out⟩
end Go.Proofs.Ytnfodgjihdoncaa
