/- A feeder is fed: walked. -/
import Derived.Test.YtabklpgimjmdlaaFdA
import Derived.Test.YtabklpgimjmdlaaFdDrop
import Derived.Test.YtabklpgimjmdlaaRg
import Derived.Test.YtabklpgimjmdlaaFdSame
import Derived.Test.YtabklpgimjmdlaaFrU
import Derived.Test.YtabklpgimjmdlaaRsLive
set_option linter.unusedVariables false
namespace Go.Proofs.Ytabklpgimjmdlaa
open Go.RowKit Go.Shelf
attribute [local go_sem] Oper.semAt_some
/-- What is held of all that came. -/
def hldT (T : List UInt8) : List UInt8 := T.drop (Rs.wk false T 0).2
/-- What is found in U, and wasn't in T. -/
def newsT (T U : List UInt8) : List Fnd := (Rs.wk false U 0).1.drop (Rs.wk false T 0).1.length
theorem hldT_len (T : List UInt8) : (hldT T).length = T.length - (Rs.wk false T 0).2 ∧ (Rs.wk false T 0).2 ≤ T.length ∧ (hldT T).length < 8201 := by
  have h1 := Fd.le T
  have h2 := Fd.less T
  unfold hldT
  rw [List.length_drop]
  exact ⟨rfl, h1, h2⟩
theorem hldT_step (T P : List UInt8) : hldT (T ++ P) = (hldT T ++ P).drop (Rs.wk false (hldT T ++ P) 0).2 := Fd.held T P
theorem newsT_self (T : List UInt8) : newsT T T = [] := by unfold newsT; simp
theorem newsT_step (T U P : List UInt8) (h : (Rs.wk false T 0).1.length ≤ (Rs.wk false U 0).1.length) : newsT T (U ++ P) = newsT T U ++ (Rs.wk false (hldT U ++ P) 0).1.map (Fnd.shift (Rs.wk false U 0).2) := by
  unfold newsT hldT
  rw [Fd.step U P]
  simp only
  rw [List.drop_append_of_le_length h]
theorem newsT_le (T U : List UInt8) : (newsT T U).length ≤ U.length := by
  unfold newsT
  have := Rs.wk_len false U 0
  rw [List.length_drop]
  omega
/-- Frames that are told, none of which lies where bytes are held. -/
def FdO (B : Nat) (w : World) (v : Value) (l : List Fnd) (vb : Value) : Prop := ∃ fs : List FdV, fs.map FdV.f = l ∧ w.ownsRow B 61 3 v l.length (fs.flatMap fdC) ∧ ∀ f ∈ fs, Pay B w f.A f.c f.f.pl ∧ ∀ b o, f.A = some ⟨b, o, none⟩ → vb.ownBlock ≠ some b
theorem FdO.row {B : Nat} {w : World} {v vb : Value} {l : List Fnd} (h : FdO B w v l vb) : FdRow B w v l := by
  obtain ⟨fs, h1, h2, h3⟩ := h
  exact ⟨fs, h1, by rw [← h1, List.length_map] at h2; exact h2, fun f hf => (h3 f hf).1⟩
theorem FdO.nil_ (B : Nat) (w : World) (vb : Value) : FdO B w (.slice none 0 0) [] vb := ⟨[], rfl, World.ownsRow_nil _ _ _ _, by simp⟩
theorem FdO.mono {B B' : Nat} {w : World} {v vb : Value} {l : List Fnd} (h : FdO B w v l vb) (hb : B' ≤ B) : FdO B' w v l vb := by
  obtain ⟨fs, h1, h2, h3⟩ := h
  exact ⟨fs, h1, own_mono h2 hb, fun f hf => ⟨(h3 f hf).1.mono hb, (h3 f hf).2⟩⟩
/-- Kept, where nothing but what is held, boxes, and rows of other kinds change; and what is held may have come into new memory. -/
theorem FdO.chg {B : Nat} {w w' : World} {v vb vb' : Value} {l : List Fnd} {S : Nat → Prop} (h : FdO B w v l vb) (hc : Chg S w w') (hv : ∀ q, v.ownBlock = some q → ¬ S q)
    (hS : ∀ b cs k, B ≤ b → w.heap[b]? = some (.cells cs 5 k) → S b → vb.ownBlock = some b) (hb : vb'.ownBlock = vb.ownBlock ∨ ∀ q, vb'.ownBlock = some q → w.heap.size ≤ q) : FdO B w' v l vb' := by
  obtain ⟨fs, h1, h2, h3⟩ := h
  refine ⟨fs, h1, own_chgS h2 hc hv, fun f hf => ?_⟩
  obtain ⟨hp, hne⟩ := h3 f hf
  rcases hp.own with e | ⟨b, o, cs, k, e, hB, hk⟩
  · refine ⟨⟨hc.sl hp.sl (n := f.f.pl.length) (fun _ b' o' e' => by rw [e] at e'; cases e') (by simp), .inl e⟩, fun b' o' e' => by rw [e] at e'; cases e'⟩
  · have hlt := (Array.getElem?_eq_some_iff.1 hk).1
    have hns : ¬ S b := fun hs => hne b o e (hS b cs k hB hk hs)
    refine ⟨⟨hc.sl hp.sl (n := f.f.pl.length) (fun _ b' o' e' => ?_) (by simp), .inr ⟨b, o, cs, k, e, hB, (hc.block b hlt hns).trans hk⟩⟩, fun b' o' e' => ?_⟩
    · rw [e] at e'
      injection e' with e'
      injection e' with e1
      subst e1
      exact hns
    · rw [e] at e'
      injection e' with e'
      injection e' with e1
      subst e1
      rcases hb with hb | hb
      · rw [hb]; exact hne b o e
      · intro hq
        have := hb b hq
        omega
/-- What holds between two rounds. -/
structure FI (s g B : Nat) (vb : Value) (w : World) (T p : List UInt8) (A : Option Addr) (n c j : Nat) (W : World) : Prop where
  bf : Blk W s 24 #[.pointer (some ⟨g, 0, none⟩)]
  bo : ∃ vo vh, Blk W (s + 1) 26 #[vo] ∧ FdS B g (hldT (T ++ p.take (8201 * j))) (T ++ p.take (8201 * j)).length false vh W ∧ FdO (s + 6) W vo (newsT T (T ++ p.take (8201 * j))) vh ∧ (vh.ownBlock = vb.ownBlock ∨ ∀ q, vh.ownBlock = some q → s + 6 ≤ q)
  b2 : Blk W (s + 2) 22 #[.slice A n c]
  b3 : Blk W (s + 3) 3 #[.int .i64 8201]
  ch : Chg (fun q => q = g ∨ vb.ownBlock = some q) w W
theorem FI.keep {s g B : Nat} {vb : Value} {w W W' : World} {T p : List UInt8} {A : Option Addr} {n c j : Nat} {S : Nat → Prop} (h : FI s g B vb w T p A n c j W) (hs : w.heap.size = s) (hg : g < s) (hv : ∀ q, vb.ownBlock = some q → q < s) (hc : Chg S W W') (hS : ∀ q, S q → q = s + 4 ∨ q = s + 5) : FI s g B vb w T p A n c j W' := by
  obtain ⟨bf, ⟨vo, vh, o1, o2, o3, o4⟩, b2, b3, ch⟩ := h
  have hvh : ∀ q, vh.ownBlock = some q → ¬ S q := fun q hq hs2 => by
    have h5 := hS q hs2
    rcases o4 with h4 | h4
    · have := hv q (by rw [← h4]; exact hq); omega
    · have := h4 q hq; omega
  refine ⟨hc.blk bf (fun hx => by have := hS _ hx; omega), ⟨vo, vh, hc.blk o1 (fun hx => by have := hS _ hx; omega), o2.chg hc (fun hx => by have := hS _ hx; omega) hvh, ?_, o4⟩, hc.blk b2 (fun hx => by have := hS _ hx; omega), hc.blk b3 (fun hx => by have := hS _ hx; omega), ?_⟩
  · refine o3.chg hc (fun q hq hx => ?_) (fun b cs k hb _ hx => ?_) (.inl rfl)
    · obtain ⟨fs, -, h2, -⟩ := o3
      have := (h2.lt q hq).1
      have := hS _ hx
      omega
    · have := hS _ hx; omega
  · exact ⟨hc.os.trans ch.os, hc.tape.trans ch.tape, hc.output.trans ch.output, Nat.le_trans ch.size hc.size, fun k hk hq => (hc.block k (Nat.lt_of_lt_of_le hk ch.size) (fun hx => by have := hS _ hx; omega)).trans (ch.block k hk hq)⟩
set_option maxRecDepth 100000 in
set_option maxHeartbeats 4000000 in
/-- A piece of no bytes, of no memory. -/
theorem fchunk1_none (m : Nat) (hm : 1 ≤ m) (l Bs Bn : Nat) (q : Nat) (W : World) (A : Option Addr) (c : Nat) (hc1 : W.cell? ⟨Bs, 0, none⟩ = some (.slice A 0 c)) (hc2 : W.cell? ⟨Bn, 0, none⟩ = some (.int .i64 (q : Int))) :
    CallsIn Fence.wide m Try.prog 50 #[.func (.yield l) #[] #[], .pointer (some ⟨Bs, 0, none⟩), .pointer (some ⟨Bn, 0, none⟩)] W fun e W' => (∃ v, e = .returned v) ∧ W' = W := by
  refine callsIn_of_wp Try.func50 rfl trivial ?_ rfl
  simp only [Try.ntmps50, List.size_toArray, List.length_cons, List.length_nil, Nat.reduceAdd, Nat.reduceSub, Array.replicate_succ, Array.replicate_zero, List.push_toArray, List.append_toArray, List.nil_append, List.cons_append]
  gi_wp2
  gi_loopw [4] (fun p wr => p = .int .i64 0 ∧ wr = W) (fun p _ => 0)
  case atStart => exact ⟨rfl, rfl⟩
  case round =>
    obtain ⟨rfl, rfl⟩ := hrel
    gi_wp2
    go_end0
    exact ⟨⟨_, rfl⟩, rfl⟩
theorem FdRow.toO {B : Nat} {w : World} {v vb : Value} {l : List Fnd} (h : FdRow B w v l) (hv : ∀ q, vb.ownBlock = some q → q < B) : FdO B w v l vb := by
  obtain ⟨fs, h1, h2, h3⟩ := h
  refine ⟨fs, h1, by rw [← h1, List.length_map]; exact h2, fun f hf => ⟨h3 f hf, fun b o e hq => ?_⟩⟩
  rcases (h3 f hf).own with e' | ⟨b', o', cs, k, e', hB, -⟩
  · rw [e'] at e; cases e
  · rw [e'] at e
    injection e with e
    injection e with e1
    have := hv b hq
    omega
theorem FdO.join {B Bq : Nat} {w w' : World} {v v' vb : Value} {N r : List Fnd} {fs gs : List FdV} (h1 : fs.map FdV.f = N) (h2 : w.ownsRow B 61 3 v N.length (fs.flatMap fdC)) (h3 : ∀ f ∈ fs, Pay B w f.A f.c f.f.pl ∧ ∀ b o, f.A = some ⟨b, o, none⟩ → vb.ownBlock ≠ some b)
    (g1 : gs.map FdV.f = r) (g3 : ∀ f ∈ gs, Pay Bq w f.A f.c f.f.pl ∧ ∀ b o, f.A = some ⟨b, o, none⟩ → vb.ownBlock ≠ some b) (hB : B ≤ Bq)
    (ho : w'.ownsRow B 61 3 v' (N.length + r.length) (fs.flatMap fdC ++ gs.flatMap fdC)) (hg : w.grownBy w' v.ownBlock) : FdO B w' v' (N ++ r) vb := by
  have hcg : Chg (fun q => some q = v.ownBlock) w w' := Chg.of_grown hg (fun g e => e.symm)
  have hty : ∀ b cs kk, B ≤ b → w.heap[b]? = some (.cells cs 5 kk) → ¬ (some b = v.ownBlock) := by
    rintro b cs kk hb hcs h
    rcases h2.2 with ⟨rfl, -⟩ | ⟨g, cap, cur, rfl, -, hg1, -⟩
    · cases h
    · simp only [Value.ownBlock] at h
      injection h with h
      subst h
      rw [hcs] at hg1
      injection hg1 with hg1
      injection hg1 with _ hg1
      exact absurd hg1 (by decide)
  refine ⟨fs ++ gs, by rw [List.map_append, h1, g1], by rw [List.length_append, List.flatMap_append]; exact ho, fun f hf => ?_⟩
  rcases List.mem_append.1 hf with hf | hf
  · exact ⟨(h3 f hf).1.chg hcg hty, (h3 f hf).2⟩
  · exact ⟨((g3 f hf).1.mono hB).chg hcg hty, (g3 f hf).2⟩
theorem fdC_one (fs : List FdV) : ∀ u ∈ fs.flatMap fdC, u.oneCell' = true := by
  intro u hu
  obtain ⟨f, -, hf⟩ := List.mem_flatMap.1 hu
  simp only [fdC, List.mem_cons, List.not_mem_nil, or_false] at hf
  rcases hf with rfl | rfl | rfl <;> rfl
theorem found_ne {w : World} {B n : Nat} {v : Value} {xs : List Value} (h : w.ownsRow B 61 3 v n xs) : ∀ b cs k, w.heap[b]? = some (.cells cs 5 k) → ¬ v.ownBlock = some b := by
  intro b cs k hk hq
  rcases h.2 with ⟨rfl, -⟩ | ⟨g, cap, cur, rfl, -, hg, -⟩
  · cases hq
  · injection hq with hq
    subst hq
    rw [hk] at hg
    injection hg with hg
    injection hg with _ h6
    exact absurd h6 (by decide)
def FdR8 (s g : Nat) (vo vb : Value) (A4 : Option Addr) (L c4 : Nat) (l N : List Fnd) (k Bq NL : Nat) (a0 : Act) (w0 : World) (f : Nat → Bool) (a : Act) (w : World) : Prop := ∃ x0 x1 x2 x3 x4 x5 x6 : Value, a = (((((((a0.put (some 28) x0).put (some 29) x1).put (some 30) x2).put (some 31) x3).put (some 32) x4).put (some 33) x5).put (some 34) x6) ∧ (f 0 = true → x0 = vo) ∧ (f 1 = true → x1 = .pointer (some ⟨g, 0, none⟩)) ∧ (f 2 = true → x2 = .pointer (some ⟨g, 0, none⟩)) ∧ (f 3 = true → x3 = .pointer (some ⟨g, 0, none⟩)) ∧ (f 4 = true → x4 = .slice A4 L c4) ∧ (f 5 = true → x5 = .slice A4 L c4) ∧ ((f 5 = false ∧ f 6 = false ∧ f 7 = false ∧ (Chg (fun _ => False) w0 w)) ∨ (f 5 = true ∧ f 6 = false ∧ f 7 = false ∧ (Chg (fun q => (Value.slice A4 L c4).ownBlock = some q) w0 w ∧ FdRow Bq w (.slice A4 L c4) (l.map (Fnd.shift k)))) ∨ (f 5 = true ∧ f 6 = true ∧ f 7 = false ∧ f 0 = true ∧ (Chg (fun q => (Value.slice A4 L c4).ownBlock = some q ∨ vo.ownBlock = some q) w0 w ∧ (∃ A6 c6, x6 = .slice A6 NL c6) ∧ FdO (s + 6) w x6 (N ++ l.map (Fnd.shift k)) vb)) ∨ (f 5 = true ∧ f 6 = true ∧ f 7 = true ∧ f 0 = true ∧ (Chg (fun q => q = s + 1 ∨ (Value.slice A4 L c4).ownBlock = some q ∨ vo.ownBlock = some q) w0 w ∧ ∃ vo2, Blk w (s + 1) 26 #[vo2] ∧ FdO (s + 6) w vo2 (N ++ l.map (Fnd.shift k)) vb)))
set_option maxRecDepth 100000 in
set_option maxHeartbeats 8000000 in
theorem ffeed_in (m : Nat) (hm : 6 ≤ m) (B g : Nat) (T : List UInt8) (vb : Value) (p : List UInt8) (n : Nat) (A : Option Addr) (c : Nat) (w : World) (h : FdS B g (hldT T) T.length false vb w) (hgB : g < B) (hBw : B ≤ w.heap.size) (hn : p.length = n) (hs : Sl w A c (p.map bv)) (hfar : FarS A n (fun q => q = g ∨ vb.ownBlock = some q)) (hT : T.length ≤ 100000000) (hnl : n ≤ 1000000) :
    CallsIn Fence.wide m Try.prog 12 #[.pointer (some ⟨g, 0, none⟩), .slice A n c] w fun e w' => ∃ A' c' vb', e = .returned (.slice A' (newsT T (T ++ p)).length c') ∧ FdO w.heap.size w' (.slice A' (newsT T (T ++ p)).length c') (newsT T (T ++ p)) vb' ∧ FdS B g (hldT (T ++ p)) (T ++ p).length false vb' w' ∧ Chg (fun q => q = g ∨ vb.ownBlock = some q) w w' ∧ (vb'.ownBlock = vb.ownBlock ∨ ∀ q, vb'.ownBlock = some q → w.heap.size ≤ q) := by
  obtain ⟨i0, hi, hz0, hz1, hz2⟩ := info_parts Try.info61
  obtain ⟨s, hws⟩ : ∃ s, w.heap.size = s := ⟨_, rfl⟩
  have hgs : g < s := by omega
  have hvs : ∀ q, vb.ownBlock = some q → q < s := fun q hq => by have := (h.row.lt q hq).2; omega
  have hk1 := Blk.new w 24 #[.pointer (some ⟨g, 0, none⟩)]
  rw [hws] at hk1 hBw
  have hcapA := hs.cap
  have hsmA := hs.small
  rw [List.length_map, hn] at hcapA
  have hde := fun W h1 => fdeaf_any g vb T.length false W h1
  have hk0 : Blk w g 69 #[vb, .int .i64 (T.length : Int), .bool false] := h.blk
  have HDE := hid hde
  have HK1 := hid hk1
  have HH := hid h
  have HS := hid hs
  have HN := hid hn
  have HFAR := hid hfar
  obtain ⟨R, hR⟩ : ∃ R : Ending → World → Prop, R = fun e w' => ∃ A' c' vb', e = .returned (.slice A' (newsT T (T ++ p)).length c') ∧ FdO s w' (.slice A' (newsT T (T ++ p)).length c') (newsT T (T ++ p)) vb' ∧ FdS B g (hldT (T ++ p)) (T ++ p).length false vb' w' ∧ Chg (fun q => q = g ∨ vb.ownBlock = some q) w w' ∧ (vb'.ownBlock = vb.ownBlock ∨ ∀ q, vb'.ownBlock = some q → s ≤ q) := ⟨_, rfl⟩
  rw [hws, ← hR]
  have HR := hid hR
  have HVS := hid hvs
  clear h hs hn hfar hde hk1 hR hvs
  have h1 : 1 ≤ m := by omega
  have c0 := HK1.out.cell 0
  simp only [List.getElem?_toArray, List.getElem?_cons_zero] at c0
  have HK0 := hid (hk0.alloc (.cells #[.pointer (some ⟨g, 0, none⟩)] 24))
  clear hk0
  refine callsIn_of_wp_marks Try.func12 rfl trivial ?_ rfl
  simp only [Try.ntmps12, List.size_toArray, List.length_cons, List.length_nil, Nat.reduceAdd, Nat.reduceSub, Array.replicate_succ, Array.replicate_zero, List.push_toArray, List.append_toArray, List.nil_append, List.cons_append]
  gi_wp2
  refine ⟨trivial, ?_⟩
  refine ((callsIn_wide (n := m - 1)).2 (HDE.out _ HK0.out)).mono ?_
  rintro e w3 ⟨rfl, rfl⟩
  gi_wp2
  refine ⟨trivial, ?_⟩
  refine (fchunk_in (m - 1) _ _ _ 8201 (by omega) _).mono ?_
  rintro e w4 ⟨rfl, rfl⟩
  gi_wp2
  have hz : ((((w.alloc (.cells #[.pointer (some ⟨g, 0, none⟩)] 24)).alloc (.cells #[.slice none 0 0] 26)).alloc (.cells #[.slice A n c] 22)).alloc (.cells #[.int .i64 8201] 3)).heap.size = s + 4 := by simp only [World.size_alloc, hws]
  have hb0 : Below w.heap.size w ((((w.alloc (.cells #[.pointer (some ⟨g, 0, none⟩)] 24)).alloc (.cells #[.slice none 0 0] 26)).alloc (.cells #[.slice A n c] 22)).alloc (.cells #[.int .i64 8201] 3)) := bw_a (bw_a (bw_a (bw_a (Below.refl _ w) _) _) _) _
  have hli : FI s g B vb w T p A n c 0 ((((w.alloc (.cells #[.pointer (some ⟨g, 0, none⟩)] 24)).alloc (.cells #[.slice none 0 0] 26)).alloc (.cells #[.slice A n c] 22)).alloc (.cells #[.int .i64 8201] 3)) := by
    refine ⟨?_, ⟨.slice none 0 0, vb, ?_, ?_, ?_, .inl rfl⟩, ?_, ?_, Chg.of_new hb0⟩
    · exact ((HK1.out.alloc _).alloc _).alloc _
    · have := (Blk.new (w.alloc (.cells #[.pointer (some ⟨g, 0, none⟩)] 24)) 26 #[.slice none 0 0]).alloc (.cells #[.slice A n c] 22) |>.alloc (.cells #[.int .i64 8201] 3)
      rw [World.size_alloc, hws] at this; exact this
    · simpa using HH.out.below hb0
    · simpa [newsT_self] using FdO.nil_ (s + 6) _ vb
    · have := (Blk.new ((w.alloc (.cells #[.pointer (some ⟨g, 0, none⟩)] 24)).alloc (.cells #[.slice none 0 0] 26)) 22 #[.slice A n c]).alloc (.cells #[.int .i64 8201] 3)
      rw [World.size_alloc, World.size_alloc, hws] at this; exact this
    · have := Blk.new (((w.alloc (.cells #[.pointer (some ⟨g, 0, none⟩)] 24)).alloc (.cells #[.slice none 0 0] 26)).alloc (.cells #[.slice A n c] 22)) 3 #[.int .i64 8201]
      rw [World.size_alloc, World.size_alloc, World.size_alloc, hws] at this; exact this
  generalize ((((w.alloc (.cells #[.pointer (some ⟨g, 0, none⟩)] 24)).alloc (.cells #[.slice none 0 0] 26)).alloc (.cells #[.slice A n c] 22)).alloc (.cells #[.int .i64 8201] 3)) = W0 at *
  have HLI := hid hli
  have HZ := hid hz
  clear hz hli hb0 HK0 HDE c0 HK1
  have hnN : 8201 * ckN n 8201 ≥ n := by unfold ckN; omega
  refine range_wide m (by omega) (s + 4) HZ.out (gf := 50) (lb := #[.pointer (some ⟨s + 2, 0, none⟩), .pointer (some ⟨s + 3, 0, none⟩)]) (by first | rfl | simp [hws]) (enters_of Try.func50 (by kernel_rfl) rfl) (ckN n 8201) (fun j => match A with | some ⟨b, off, none⟩ => ckV b off n 8201 j | _ => #[.slice none 0 0]) (fun _ => by rcases A with _ | ⟨b, off, _ | _⟩ <;> rfl) 0
    (fun j W' => FI s g B vb w T p A n c j W') (fun _ _ => False) ?_ ?_ ?_ ?_ ?_ ?_ ?_
  · rintro j W1 W2 g1 hc
    exact g1.keep hws hgs HVS.out hc (fun q hq => by omega)
  · rintro c W1 W2 g1 hc
    exact g1
  · exact HLI.out
  · intro l2 J2 Jx2 W1 hw1 hJI hJn2 _ hJ0 hy
    by_cases hn0 : n = 0
    · subst hn0
      have hf := (hJI 0 W1 hJ0).1
      refine (fchunk1_none (m - 1) (by omega) l2 (s + 2) (s + 3) 8201 W1 A c (by simpa using hf.b2.cell 0) (by simpa using hf.b3.cell 0)).mono ?_
      rintro e W' ⟨hv, rfl⟩
      exact ⟨hv, .inl (by have : ckN 0 8201 = 0 := by decide
                          rw [this]; exact hJ0)⟩
    · obtain ⟨b, off, rfl, -, -⟩ := BRd.at_ HS.out.rd (k := 0) (by have := HN.out; omega)
      refine fchunk1_in (m - 1) (by omega) l2 (s + 2) (s + 3) b off n c 8201 (by omega) (by omega) hcapA hsmA (by omega) J2 Jx2 (fun j W h => ?_) (fun j W k h => hJn2 j _ _ h ((Chg.refl _ W).drewN k)) (fun j W hj h => ?_) W1 hJ0
      · have hf := (hJI j W h).1
        exact ⟨by simpa using hf.b2.cell 0, by simpa using hf.b3.cell 0⟩
      · obtain ⟨fn, tm, as1, bd, e1, e2⟩ := hy j W hj h (hJI j W h).2
        refine ⟨fn, tm, as1, bd, e1, e2.mono ?_⟩
        rintro e W' (⟨g1, g2, -⟩ | ⟨g1, g2, -⟩)
        · exact .inl ⟨g1, g2⟩
        · exact .inr ⟨g1, g2⟩
  · rintro l2 j W1 hj hli hsz1
    have hjn : 8201 * j < n := (ck_in (by omega)).1 hj
    obtain ⟨b, off, rfl, -, -⟩ := BRd.at_ HS.out.rd (k := 0) (by have := HN.out; omega)
    have hm3 : 1 ≤ m - 1 - 1 := by omega
    obtain ⟨P, hP⟩ : ∃ P, (p.drop (8201 * j)).take 8201 = P := ⟨_, rfl⟩
    obtain ⟨pn, hpn⟩ : ∃ pn, min 8201 (n - 8201 * j) = pn := ⟨_, rfl⟩
    have hPn : P.length = pn := by rw [← hP, List.length_take, List.length_drop, HN.out]; exact hpn
    have hnext : p.take (8201 * (j + 1)) = p.take (8201 * j) ++ P := by
      rw [← hP, Nat.mul_succ, List.take_add]
    have HLI1 := hid hli
    show Code.wpIn _ _ _ _ _ { tmps := (#[13].zip (ckV b off n 8201 j)).foldl (fun t (p, v) => t.setIfInBounds p v) _, defers := [] } W1
    unfold ckV
    rw [hpn]
    clear hli hj
    gi_wp2
    refine ⟨KN.refl _ _ _, by omega, fun W2 hc2 => ?_⟩
    have hli2 := HLI1.out.keep hws hgs HVS.out hc2 (fun q hq => by omega)
    have hsz2 := hc2.size
    obtain ⟨U, hU⟩ : ∃ U, T ++ p.take (8201 * j) = U := ⟨_, rfl⟩
    have hUl : U.length ≤ 200000000 := by rw [← hU, List.length_append, List.length_take, HN.out]; omega
    have hUU : T ++ p.take (8201 * (j + 1)) = U ++ P := by rw [hnext, ← List.append_assoc, hU]
    have hUT : (Rs.wk false T 0).1.length ≤ (Rs.wk false U 0).1.length := by rw [← hU]; exact Fd.len T _
    obtain ⟨bf, ⟨vo, vh, o1, o2, o3, o4⟩, b2, b3, ch⟩ := hli2
    rw [hU] at o2 o3
    -- the piece, to be read
    have hpc : Sl W2 (some ⟨b, off + 8201 * j, none⟩) pn (P.map bv) := by
      have h0 := (ch.sl HS.out HFAR.out (by rw [List.length_map]; exact HN.out))
      have h2 := h0.cut (8201 * j) (by rw [HN.out]; omega)
      unfold cutA at h2
      rw [if_neg (by omega)] at h2
      have h3 := h2.rd.take 8201
      rw [← List.map_take, hP] at h3
      exact ⟨by rw [List.length_map]; omega, by omega, (fun h => by cases h), by simpa [addr_add] using h3⟩
    have hhl := hldT_len U
    have hadd := fadd_any B g (hldT U) U.length false vh P pn (some ⟨b, off + 8201 * j, none⟩) pn W2 o2 hgB (by omega) hPn hpc (by omega) (by omega) (by omega)
    have c0 := bf.cell 0
    simp only [List.getElem?_toArray, List.getElem?_cons_zero] at c0
    have HADD := hid hadd
    have HUU := hid hUU
    have HUT := hid hUT
    have HPN := hid hPn
    have BF := hid bf
    have O1 := hid o1
    have O2 := hid o2
    have O3 := hid o3
    have O4 := hid o4
    have B2 := hid b2
    have B3 := hid b3
    have CH := hid ch
    have HHL := hid hhl
    have HUL := hid hUl
    clear hadd hUU hUT hPn bf o1 o2 o3 o4 b2 b3 ch hP hpc hnext hU HLI1 hhl hUl hc2
    gi_wp2
    refine ⟨trivial, ?_⟩
    refine (CallsIn.inRound l2 ((callsIn_wide (n := m - 1 - 1 - 1)).2 HADD.out)).mono ?_
    rintro e W3 ⟨⟨v, rfl⟩, vb3, hfd3, hch3, hwh3⟩
    have hv3 : vb3.ownBlock = vb.ownBlock ∨ ∀ q, vb3.ownBlock = some q → s + 6 ≤ q := by
      rcases hwh3 with h | h
      · rw [h]; exact O4.out
      · exact .inr fun q hq => by have := h q hq; omega
    have hvhs : ∀ q, vh.ownBlock = some q → q < s ∨ s + 6 ≤ q := fun q hq => by
      rcases O4.out with h | h
      · exact .inl (HVS.out q (by rw [← h]; exact hq))
      · exact .inr (h q hq)
    have hv3s : ∀ q, vb3.ownBlock = some q → q < s ∨ s + 6 ≤ q := fun q hq => by
      rcases hv3 with h | h
      · exact .inl (HVS.out q (by rw [← h]; exact hq))
      · exact .inr (h q hq)
    have hvo6 : ∀ q, vo.ownBlock = some q → s + 6 ≤ q := fun q hq => by obtain ⟨fs, -, h2, -⟩ := O3.out; exact (h2.lt q hq).1
    have hbf3 := hch3.blk BF.out (fun h => h.elim (fun h => by omega) (fun h => by have := hvhs _ h; omega))
    have hbo3 := hch3.blk O1.out (fun h => h.elim (fun h => by omega) (fun h => by have := hvhs _ h; omega))
    have hfo3 : FdO (s + 6) W3 vo (newsT T U) vb3 := O3.out.chg hch3 (fun q hq h => h.elim (fun h => by have := hvo6 q hq; omega) (fun h => by
      obtain ⟨fs, -, h2, -⟩ := O3.out
      rcases own_two O2.out.row h2 (by decide) with h5 | h5
      · rw [h5] at h; cases h
      · exact h5 (h.trans hq.symm))) (fun b cs k hb _ h => h.elim (fun h => by omega) id) hwh3
    obtain ⟨A3, c3, rfl⟩ := row_slice_g hfd3.row
    have hsl3 := Sl.of_own' hfd3.row
    obtain ⟨n3, hn3⟩ : ∃ n3, (hldT U ++ P).length = n3 := ⟨_, rfl⟩
    rw [hn3] at hfd3 hfo3 hv3 hv3s hwh3
    have hn3l : n3 ≤ 20000 := by rw [← hn3, List.length_append, HPN.out]; have := HHL.out; omega
    have hal := fun W (hW : Sl W A3 c3 ((hldT U ++ P).map bv)) => (sall_any (hldT U ++ P) n3 A3 c3 W hn3 (by omega) hW).mono (fun e w' h => AllR.go h (l := (Rs.wk false (hldT U ++ P) 0).1) (k := (Rs.wk false (hldT U ++ P) 0).2) rfl rfl)
    have hnews := newsT_step T U P HUT.out
    have hheld := hldT_step U P
    have hkl : (Rs.wk false (hldT U ++ P) 0).2 ≤ (hldT U ++ P).length := Fd.le _
    have hfa := Rs.wk_facts false (hldT U ++ P) 0
    have hat : ∀ f ∈ (Rs.wk false (hldT U ++ P) 0).1, f.at_ ≤ n3 := fun f hf => by
      have h1 := (hfa.1 f hf).2.2
      rw [hn3] at hkl
      omega
    have hll := Rs.wk_len false (hldT U ++ P) 0
    have hkk : U.length + pn - n3 = (Rs.wk false U 0).2 := by
      have h5 := HHL.out
      rw [← hn3, List.length_append, HPN.out]; omega
    have hn3c : n3 ≤ U.length + pn := by
      have h5 := HHL.out
      rw [← hn3, List.length_append, HPN.out]; omega
    generalize (Rs.wk false (hldT U ++ P) 0).1 = l at *
    generalize (Rs.wk false (hldT U ++ P) 0).2 = K4 at *
    generalize (Rs.wk false U 0).2 = k at *
    obtain ⟨L, hL⟩ : ∃ L, l.length = L := ⟨_, rfl⟩
    rw [hL, hn3] at hll
    rw [hL] at hal
    have hkg3 := hfd3.blk
    have hpl := fun Bq A4 c4 W (h1 : Blk W g 69 #[.slice A3 n3 c3, .int .i64 ((U.length + pn : Nat) : Int), .bool false]) (h2 : FdRow Bq W (.slice A4 L c4) l) (h3 : g < Bq) => fplaced_row Bq g n3 (U.length + pn) A3 c3 l L A4 c4 W h1 h2 hL h3 hn3c (by have := HUL.out; omega) hat
    rw [hkk] at hpl
    have y0 := hbf3.cell 0
    have y1 := hkg3.cell 0
    simp only [List.getElem?_toArray, List.getElem?_cons_zero] at y0 y1
    have HSL3 := hid hsl3
    have HAL := hid hal
    have HNEWS := hid hnews
    have HHELD := hid hheld
    have HKL := hid hkl
    have HPL0 := hid hpl
    have HLL := hid hL
    have HBF3 := hid hbf3
    have HBO3 := hid hbo3
    have HFO3 := hid hfo3
    have HFS3 := hid hfd3
    have HCH3 := hid hch3
    have HVO6 := hid hvo6
    have HVHS := hid hvhs
    have HV3S := hid hv3s
    have HV3 := hid hv3
    have HN3 := hid hn3
    have hsz3 := hch3.size
    clear hsl3 hal hnews hheld hkl hpl hL hbf3 hbo3 hfo3 hfd3 hch3 hvo6 hvhs hv3s hv3 hwh3 hkk hat hfa hkg3 hn3 c0 hn3c
    gi_wp2
    refine ⟨trivial, ?_⟩
    refine (CallsIn.inRound l2 ((callsIn_wide (n := m - 1 - 1 - 1)).2 (HAL.out _ HSL3.out))).mono ?_
    rintro e W4 ⟨A4, c4, rfl, hrow4, hb4⟩
    obtain ⟨Bq, hBq⟩ : ∃ Bq, W3.heap.size = Bq := ⟨_, rfl⟩
    rw [hBq] at hrow4
    have hsz4 := hb4.size
    have hBq6 : s + 6 ≤ Bq := by omega
    have hbf4 := HBF3.out.below hb4 HBF3.out.lt
    have hbo4 := HBO3.out.below hb4 HBO3.out.lt
    have hfs4 := HFS3.out.below hb4
    have hfo4 := HFO3.out.chg (Chg.of_new hb4) (S := fun _ => False) (vb' := .slice A3 n3 c3) (fun _ _ h => h) (fun _ _ _ _ _ h => h.elim) (.inl rfl)
    have ha4 : ∀ q, (Value.slice A4 L c4).ownBlock = some q → Bq ≤ q := fun q hq => by obtain ⟨fs, -, h2, -⟩ := hrow4; exact (h2.lt q hq).1
    have hv3q : ∀ q, (Value.slice A3 n3 c3).ownBlock = some q → q < Bq := fun q hq => by have := (HFS3.out.row.lt q hq).2; omega
    have hvoq : ∀ q, vo.ownBlock = some q → q < Bq := fun q hq => by obtain ⟨fs, -, h2, -⟩ := HFO3.out; have := (h2.lt q hq).2; omega
    have hfn : ∀ b cs kk, W4.heap[b]? = some (.cells cs 5 kk) → ¬ (Value.slice A4 L c4).ownBlock = some b := fun b cs kk hk => by obtain ⟨fs, -, h2, -⟩ := hrow4; exact found_ne h2 b cs kk hk
    have HPL := hid (fun W h1 h2 => HPL0.out Bq A4 c4 W h1 h2 (by omega))
    have HBF := hid hbf4
    have HBF4 := hid hbf4
    have HBO := hid hbo4
    have HKG := hid hfs4.blk
    have HRW := hid hrow4
    have HON := hid hfo4
    have HN4 := hid (fun q hq (h : q = s ∨ q = s + 1) => by have := ha4 q hq; omega : ∀ q, (Value.slice A4 L c4).ownBlock = some q → ¬ (q = s ∨ q = s + 1))
    have HNV := hid (fun q hq (h : q = s ∨ q = s + 1) => by have := HVO6.out q hq; omega : ∀ q, vo.ownBlock = some q → ¬ (q = s ∨ q = s + 1))
    have HNN := hid (fun q hq h => by have := ha4 q h; have := hvoq q hq; omega : ∀ q, vo.ownBlock = some q → ¬ (Value.slice A4 L c4).ownBlock = some q)
    have HFN := hid hfn
    have HVQ := hid hv3q
    have HVQ2 := hid (fun q hq => by have := HV3S.out q hq; omega : ∀ q, (Value.slice A3 n3 c3).ownBlock = some q → q ≠ s + 1)
    have HBQ := hid hBq6
    have HFS4 := hid hfs4
    have HNG := hid (fun h => by have := ha4 g h; omega : ¬ (Value.slice A4 L c4).ownBlock = some g)
    have HNVg := hid (fun h => by have := HVO6.out g h; omega : ¬ vo.ownBlock = some g)
    have HNQ := hid (fun q hq h => by have := ha4 q h; have := hv3q q hq; omega : ∀ q, (Value.slice A3 n3 c3).ownBlock = some q → ¬ (Value.slice A4 L c4).ownBlock = some q)
    have HNVq := hid (fun q hq h => by
      obtain ⟨fs, -, h2, -⟩ := hfo4
      rcases own_two hfs4.row h2 (by decide) with h5 | h5
      · rw [h5] at hq; cases hq
      · exact h5 (hq.trans h.symm) : ∀ q, (Value.slice A3 n3 c3).ownBlock = some q → ¬ vo.ownBlock = some q)
    have HHB4 := hid hb4
    have HA4 := hid ha4
    have hNl : (newsT T U).length ≤ 200000000 := by have := newsT_le T U; have := HUL.out; omega
    generalize hNe : newsT T U = N at *
    have HNE := hid hNe
    obtain ⟨NL, hNL⟩ : ∃ NL, (N ++ l.map (Fnd.shift k)).length = NL := ⟨_, rfl⟩
    have HNL := hid hNL
    clear hNL
    clear hrow4 hb4 hbf4 hbo4 hfs4 hfo4 ha4 hv3q hvoq hfn hBq hNe y0 y1
    gi_wp2
    refine wpIn_region_invB (by kernel_rfl) (by kernel_rfl) (FdR8 s g vo (.slice A3 n3 c3) A4 L c4 l N k Bq NL) ?_ ?_ ?_
    · exact ⟨undef, undef, undef, undef, undef, undef, undef, (by first | (simp only [Act.put, List.setIfInBounds_toArray, List.set_cons_succ, List.set_cons_zero]; done) | rfl), by simp, by simp, by simp, by simp, by simp, by simp, (Or.inl (⟨by simp, by simp, by simp, ((Chg.refl (fun _ => False) _).drewN 1)⟩))⟩
    · intro f a' wx i o ho hf hdep hI
      have hi : i < 8 := (Array.getElem?_eq_some_iff.1 ho).1
      have hcase : i = 0 ∨ i = 1 ∨ i = 2 ∨ i = 3 ∨ i = 4 ∨ i = 5 ∨ i = 6 ∨ i = 7 := by omega
      clear hi
      rcases hcase with rfl | rfl | rfl | rfl | rfl | rfl | rfl | rfl
      all_goals
        simp only [List.getElem?_toArray, List.getElem?_cons_zero, List.getElem?_cons_succ, Option.some.injEq] at ho
        subst ho
      · -- 0
        obtain ⟨x0, x1, x2, x3, x4, x5, x6, rfl, h0, h1, h2, h3, h4, h5, hP⟩ := hI
        have y0 : wx.cell? ⟨s + 1, 0, none⟩ = some vo := by
          rcases hP with haP | hbP | hcP | hdP
          · have hP := haP.2.2.2; simpa using (hP.blk HBO.out (fun h => h)).cell 0
          · have hP := hbP.2.2.2; simpa using (hP.1.blk HBO.out (fun h => HN4.out _ h (.inr rfl))).cell 0
          · exact absurd hcP.2.2.2.1 (by simp [hf])
          · exact absurd hdP.2.2.2.1 (by simp [hf])
        have H0' := hid h0; have H1' := hid h1; have H2' := hid h2; have H3' := hid h3; have H4' := hid h4; have H5' := hid h5; clear h0 h1 h2 h3 h4 h5
        have HPP := hid hP; clear hP
        try simp only [Act.put, List.setIfInBounds_toArray, List.set_cons_succ, List.set_cons_zero]
        gi_wp2
        have h0 := H0'.out; have h1 := H1'.out; have h2 := H2'.out; have h3 := H3'.out; have h4 := H4'.out; have h5 := H5'.out
        refine ⟨_, x1, x2, x3, x4, x5, x6, (by first | (simp only [Act.put, List.setIfInBounds_toArray, List.set_cons_succ, List.set_cons_zero]; done) | rfl), (fun _ => rfl), (fun h => h1 (by simpa using h)), (fun h => h2 (by simpa using h)), (fun h => h3 (by simpa using h)), (fun h => h4 (by simpa using h)), (fun h => h5 (by simpa using h)), ?_⟩
        rcases HPP.out with h | h | h | h
        · exact (Or.inl (⟨(by simpa using h.1), (by simpa using h.2.1), (by simpa using h.2.2.1), h.2.2.2⟩))
        · exact (Or.inr (Or.inl (⟨(by simpa using h.1), (by simpa using h.2.1), (by simpa using h.2.2.1), h.2.2.2⟩)))
        · exact absurd h.2.2.2.1 (by simp [hf])
        · exact absurd h.2.2.2.1 (by simp [hf])
      · -- 1
        obtain ⟨x0, x1, x2, x3, x4, x5, x6, rfl, h0, h1, h2, h3, h4, h5, hP⟩ := hI
        have y1 : wx.cell? ⟨s, 0, none⟩ = some (.pointer (some ⟨g, 0, none⟩)) := by
          rcases hP with haP | hbP | hcP | hdP
          · have hP := haP.2.2.2; simpa using (hP.blk HBF.out (fun h => h)).cell 0
          · have hP := hbP.2.2.2; simpa using (hP.1.blk HBF.out (fun h => HN4.out _ h (.inl rfl))).cell 0
          · have hP := hcP.2.2.2.2; simpa using (hP.1.blk HBF.out (fun h => h.elim (fun h => HN4.out _ h (.inl rfl)) (fun h => HNV.out _ h (.inl rfl)))).cell 0
          · have hP := hdP.2.2.2.2; simpa using (hP.1.blk HBF.out (fun h => h.elim (fun h => by omega) (fun h => h.elim (fun h => HN4.out _ h (.inl rfl)) (fun h => HNV.out _ h (.inl rfl))))).cell 0
        have H0' := hid h0; have H1' := hid h1; have H2' := hid h2; have H3' := hid h3; have H4' := hid h4; have H5' := hid h5; clear h0 h1 h2 h3 h4 h5
        have HPP := hid hP; clear hP
        try simp only [Act.put, List.setIfInBounds_toArray, List.set_cons_succ, List.set_cons_zero]
        gi_wp2
        have h0 := H0'.out; have h1 := H1'.out; have h2 := H2'.out; have h3 := H3'.out; have h4 := H4'.out; have h5 := H5'.out
        refine ⟨x0, _, x2, x3, x4, x5, x6, (by first | (simp only [Act.put, List.setIfInBounds_toArray, List.set_cons_succ, List.set_cons_zero]; done) | rfl), (fun h => h0 (by simpa using h)), (fun _ => rfl), (fun h => h2 (by simpa using h)), (fun h => h3 (by simpa using h)), (fun h => h4 (by simpa using h)), (fun h => h5 (by simpa using h)), ?_⟩
        rcases HPP.out with h | h | h | h
        · exact (Or.inl (⟨(by simpa using h.1), (by simpa using h.2.1), (by simpa using h.2.2.1), h.2.2.2⟩))
        · exact (Or.inr (Or.inl (⟨(by simpa using h.1), (by simpa using h.2.1), (by simpa using h.2.2.1), h.2.2.2⟩)))
        · exact (Or.inr (Or.inr (Or.inl (⟨(by simpa using h.1), (by simpa using h.2.1), (by simpa using h.2.2.1), (by simpa using h.2.2.2.1), h.2.2.2.2⟩))))
        · exact (Or.inr (Or.inr (Or.inr (⟨(by simpa using h.1), (by simpa using h.2.1), (by simpa using h.2.2.1), (by simpa using h.2.2.2.1), h.2.2.2.2⟩))))
      · -- 2
        obtain ⟨x0, x1, x2, x3, x4, x5, x6, rfl, h0, h1, h2, h3, h4, h5, hP⟩ := hI
        try simp [Region.binds] at hdep
        obtain rfl := h1 (by first | exact hdep | exact hdep.1 | exact hdep.2 | exact hdep.2.1 | exact hdep.2.2 | exact hdep.2.2.1 | exact hdep.2.2.2 | simp_all)
        have H0' := hid h0; have H1' := hid h1; have H2' := hid h2; have H3' := hid h3; have H4' := hid h4; have H5' := hid h5; clear h0 h1 h2 h3 h4 h5
        have HPP := hid hP; clear hP
        try simp only [Act.put, List.setIfInBounds_toArray, List.set_cons_succ, List.set_cons_zero]
        gi_wp2
        have h0 := H0'.out; have h1 := H1'.out; have h2 := H2'.out; have h3 := H3'.out; have h4 := H4'.out; have h5 := H5'.out
        refine ⟨x0, _, _, x3, x4, x5, x6, (by first | (simp only [Act.put, List.setIfInBounds_toArray, List.set_cons_succ, List.set_cons_zero]; done) | rfl), (fun h => h0 (by simpa using h)), (fun _ => rfl), (fun _ => rfl), (fun h => h3 (by simpa using h)), (fun h => h4 (by simpa using h)), (fun h => h5 (by simpa using h)), ?_⟩
        rcases HPP.out with h | h | h | h
        · exact (Or.inl (⟨(by simpa using h.1), (by simpa using h.2.1), (by simpa using h.2.2.1), h.2.2.2⟩))
        · exact (Or.inr (Or.inl (⟨(by simpa using h.1), (by simpa using h.2.1), (by simpa using h.2.2.1), h.2.2.2⟩)))
        · exact (Or.inr (Or.inr (Or.inl (⟨(by simpa using h.1), (by simpa using h.2.1), (by simpa using h.2.2.1), (by simpa using h.2.2.2.1), h.2.2.2.2⟩))))
        · exact (Or.inr (Or.inr (Or.inr (⟨(by simpa using h.1), (by simpa using h.2.1), (by simpa using h.2.2.1), (by simpa using h.2.2.2.1), h.2.2.2.2⟩))))
      · -- 3
        obtain ⟨x0, x1, x2, x3, x4, x5, x6, rfl, h0, h1, h2, h3, h4, h5, hP⟩ := hI
        try simp [Region.binds] at hdep
        obtain rfl := h2 (by first | exact hdep | exact hdep.1 | exact hdep.2 | exact hdep.2.1 | exact hdep.2.2 | exact hdep.2.2.1 | exact hdep.2.2.2 | simp_all)
        have H0' := hid h0; have H1' := hid h1; have H2' := hid h2; have H3' := hid h3; have H4' := hid h4; have H5' := hid h5; clear h0 h1 h2 h3 h4 h5
        have HPP := hid hP; clear hP
        try simp only [Act.put, List.setIfInBounds_toArray, List.set_cons_succ, List.set_cons_zero]
        gi_wp2
        have h0 := H0'.out; have h1 := H1'.out; have h2 := H2'.out; have h3 := H3'.out; have h4 := H4'.out; have h5 := H5'.out
        refine ⟨x0, x1, _, _, x4, x5, x6, (by first | (simp only [Act.put, List.setIfInBounds_toArray, List.set_cons_succ, List.set_cons_zero]; done) | rfl), (fun h => h0 (by simpa using h)), (fun h => h1 (by simpa using h)), (fun _ => rfl), (fun _ => rfl), (fun h => h4 (by simpa using h)), (fun h => h5 (by simpa using h)), ?_⟩
        rcases HPP.out with h | h | h | h
        · exact (Or.inl (⟨(by simpa using h.1), (by simpa using h.2.1), (by simpa using h.2.2.1), h.2.2.2⟩))
        · exact (Or.inr (Or.inl (⟨(by simpa using h.1), (by simpa using h.2.1), (by simpa using h.2.2.1), h.2.2.2⟩)))
        · exact (Or.inr (Or.inr (Or.inl (⟨(by simpa using h.1), (by simpa using h.2.1), (by simpa using h.2.2.1), (by simpa using h.2.2.2.1), h.2.2.2.2⟩))))
        · exact (Or.inr (Or.inr (Or.inr (⟨(by simpa using h.1), (by simpa using h.2.1), (by simpa using h.2.2.1), (by simpa using h.2.2.2.1), h.2.2.2.2⟩))))
      · -- 4
        obtain ⟨x0, x1, x2, x3, x4, x5, x6, rfl, h0, h1, h2, h3, h4, h5, hP⟩ := hI
        have H0' := hid h0; have H1' := hid h1; have H2' := hid h2; have H3' := hid h3; have H4' := hid h4; have H5' := hid h5; clear h0 h1 h2 h3 h4 h5
        have HPP := hid hP; clear hP
        try simp only [Act.put, List.setIfInBounds_toArray, List.set_cons_succ, List.set_cons_zero]
        gi_wp2
        have h0 := H0'.out; have h1 := H1'.out; have h2 := H2'.out; have h3 := H3'.out; have h4 := H4'.out; have h5 := H5'.out
        refine ⟨x0, x1, x2, x3, _, x5, x6, (by first | (simp only [Act.put, List.setIfInBounds_toArray, List.set_cons_succ, List.set_cons_zero]; done) | rfl), (fun h => h0 (by simpa using h)), (fun h => h1 (by simpa using h)), (fun h => h2 (by simpa using h)), (fun h => h3 (by simpa using h)), (fun _ => rfl), (fun h => h5 (by simpa using h)), ?_⟩
        rcases HPP.out with h | h | h | h
        · exact (Or.inl (⟨(by simpa using h.1), (by simpa using h.2.1), (by simpa using h.2.2.1), h.2.2.2⟩))
        · exact (Or.inr (Or.inl (⟨(by simpa using h.1), (by simpa using h.2.1), (by simpa using h.2.2.1), h.2.2.2⟩)))
        · exact (Or.inr (Or.inr (Or.inl (⟨(by simpa using h.1), (by simpa using h.2.1), (by simpa using h.2.2.1), (by simpa using h.2.2.2.1), h.2.2.2.2⟩))))
        · exact (Or.inr (Or.inr (Or.inr (⟨(by simpa using h.1), (by simpa using h.2.1), (by simpa using h.2.2.1), (by simpa using h.2.2.2.1), h.2.2.2.2⟩))))
      · -- 5
        obtain ⟨x0, x1, x2, x3, x4, x5, x6, rfl, h0, h1, h2, h3, h4, h5, hP⟩ := hI
        try simp [Region.binds] at hdep
        rcases hP with hP | hP | hP | hP
        rotate_left
        · exact absurd hP.1 (by simp [hf])
        · exact absurd hP.1 (by simp [hf])
        · exact absurd hP.1 (by simp [hf])
        have hQ := hP
        have hfl6 : f 6 = false := hQ.2.1
        have hfl7 : f 7 = false := hQ.2.2.1
        have hP := hQ.2.2.2
        clear hQ
        obtain rfl := h3 (by first | exact hdep | exact hdep.1 | exact hdep.2 | exact hdep.2.1 | exact hdep.2.2 | exact hdep.2.2.1 | exact hdep.2.2.2 | simp_all)
        obtain rfl := h4 (by first | exact hdep | exact hdep.1 | exact hdep.2 | exact hdep.2.1 | exact hdep.2.2 | exact hdep.2.2.1 | exact hdep.2.2.2 | simp_all)
        have H0' := hid h0; have H1' := hid h1; have H2' := hid h2; have H3' := hid h3; have H4' := hid h4; have H5' := hid h5; clear h0 h1 h2 h3 h4 h5
        try simp only [Act.put, List.setIfInBounds_toArray, List.set_cons_succ, List.set_cons_zero]
        have hkg := hP.blk HKG.out (fun h => h)
        have hrw := HRW.out.chg hP (fun _ _ h => h)
        have HKG2 := hid hkg
        have HRW2 := hid hrw
        have HCH0 := hid hP
        clear hkg hrw hP
        gi_wp2
        refine ⟨trivial, ?_⟩
        refine (CallsIn.inRound l2 ((callsIn_wide (n := m - 1 - 1 - 1)).2 (HPL.out _ HKG2.out HRW2.out))).mono ?_
        rintro e w5 ⟨rfl, hf5, hc5⟩
        have HF5 := hid hf5
        have HC5 := hid hc5
        clear hf5 hc5
        gi_wp2
        have h0 := H0'.out; have h1 := H1'.out; have h2 := H2'.out; have h3 := H3'.out; have h4 := H4'.out; have h5 := H5'.out
        exact ⟨x0, x1, x2, _, _, .slice A4 L c4, x6, (by first | (simp only [Act.put, List.setIfInBounds_toArray, List.set_cons_succ, List.set_cons_zero]; done) | rfl), (fun h => h0 (by simpa using h)), (fun h => h1 (by simpa using h)), (fun h => h2 (by simpa using h)), (fun _ => rfl), (fun _ => rfl), (fun _ => rfl), (Or.inr (Or.inl (⟨(by simp), (by simp only [Bool.or_eq_false_iff]; exact ⟨by decide, hfl6⟩), (by simp only [Bool.or_eq_false_iff]; exact ⟨by decide, hfl7⟩), (⟨(HCH0.out.mono (fun _ _ h => h.elim)).trans HC5.out, HF5.out⟩)⟩)))⟩
      · -- 6
        obtain ⟨x0, x1, x2, x3, x4, x5, x6, rfl, h0, h1, h2, h3, h4, h5, hP⟩ := hI
        try simp [Region.binds] at hdep
        rcases hP with hP | hP | hP | hP
        · exact absurd hP.1 (by simp [hdep])
        rotate_left
        · exact absurd hP.2.1 (by simp [hf])
        · exact absurd hP.2.1 (by simp [hf])
        have hQ := hP
        have hfl7 : f 7 = false := hQ.2.2.1
        have hkn5 : f 5 = true := hQ.1
        have hP := hQ.2.2.2
        clear hQ
        have hn0 : f 0 = true := (by first | exact hdep | exact hdep.1 | exact hdep.2 | exact hdep.2.1 | exact hdep.2.2 | exact hdep.2.2.1 | exact hdep.2.2.2 | simp_all)
        obtain rfl := h0 (by first | exact hdep | exact hdep.1 | exact hdep.2 | exact hdep.2.1 | exact hdep.2.2 | exact hdep.2.2.1 | exact hdep.2.2.2 | simp_all)
        obtain rfl := h5 (by first | exact hdep | exact hdep.1 | exact hdep.2 | exact hdep.2.1 | exact hdep.2.2 | exact hdep.2.2.1 | exact hdep.2.2.2 | simp_all)
        have H0' := hid h0; have H1' := hid h1; have H2' := hid h2; have H3' := hid h3; have H4' := hid h4; have H5' := hid h5; clear h0 h1 h2 h3 h4 h5
        try simp only [Act.put, List.setIfInBounds_toArray, List.set_cons_succ, List.set_cons_zero]
        obtain ⟨hPc, hPr⟩ := hP
        have hoN := HON.out.chg hPc (fun q h1 h2 => HNN.out q h1 h2) (fun b cs kk hb hk hx => absurd hx (HFN.out b cs kk hk)) (.inl rfl)
        obtain ⟨fs, fs1, fs2, fs3⟩ := hoN
        obtain ⟨gs, gs1, gs2, gs3⟩ := hPr.toO HVQ.out
        rw [List.length_map, HLL.out] at gs2
        have hgl := own_slg (by omega) gs2
        have hglen := hgl.len
        have HFS1 := hid fs1
        have HFS2 := hid fs2
        have HFS3 := hid fs3
        have HGS1 := hid gs1
        have HGS3 := hid gs3
        have HGL := hid hgl
        have HPC := hid hPc
        have hsz := hPc.size
        clear fs1 fs2 fs3 gs1 gs2 gs3 hgl hPc hPr
        refine wpListIn_append_slg _ rfl _ _ 26 rfl (s + 6) 61 i0 (.agg #[.int .i64 0, .int .u8 0, .slice none 0 0]) 3 40 Try.underlying26 hi hz0 hz1 hz2 rfl (by decide) _ N.length (fs.flatMap fdC) rfl HFS2.out A4 L c4 (gs.flatMap fdC) rfl (by rw [hglen]) HGL.out.rd HGL.out.nil0 (fdC_one gs) (by simp only [maxLen]; omega) (by omega) (by omega) ?_
        intro v6 w6 ho6 hg6
        rw [show N.length + L = NL by have := HNL.out; rw [List.length_append, List.length_map, HLL.out] at this; exact this] at ho6
        obtain ⟨A6, c6, rfl⟩ := row_slice_g ho6
        have HO6 := hid ho6
        have HG6 := hid hg6
        clear ho6 hg6
        gi_wp2
        have h0 := H0'.out; have h1 := H1'.out; have h2 := H2'.out; have h3 := H3'.out; have h4 := H4'.out; have h5 := H5'.out
        exact ⟨_, x1, x2, x3, x4, _, .slice A6 NL c6, (by first | (simp only [Act.put, List.setIfInBounds_toArray, List.set_cons_succ, List.set_cons_zero]; done) | rfl), (fun _ => rfl), (fun h => h1 (by simpa using h)), (fun h => h2 (by simpa using h)), (fun h => h3 (by simpa using h)), (fun h => h4 (by simpa using h)), (fun _ => rfl), (Or.inr (Or.inr (Or.inl (⟨(by simp [hkn5]), (by simp), (by simp only [Bool.or_eq_false_iff]; exact ⟨by decide, hfl7⟩), (by simp [hn0]), (⟨(HPC.out.mono (fun _ _ h => .inl h)).trans (Chg.of_grown HG6.out (fun g e => .inr e)), ⟨A6, c6, rfl⟩, FdO.join HFS1.out HFS2.out HFS3.out HGS1.out HGS3.out HBQ.out (by rw [show N.length + (l.map (Fnd.shift k)).length = NL by have := HNL.out; rw [List.length_append] at this; exact this]; exact HO6.out) HG6.out⟩)⟩))))⟩
      · -- 7
        obtain ⟨x0, x1, x2, x3, x4, x5, x6, rfl, h0, h1, h2, h3, h4, h5, hP⟩ := hI
        try simp [Region.binds] at hdep
        rcases hP with hP | hP | hP | hP
        · exact absurd hP.1 (by simp [hdep])
        · exact absurd hP.2.1 (by simp [hdep])
        rotate_left
        · exact absurd hP.2.2.1 (by simp [hf])
        have hQ := hP
        have hkn5 : f 5 = true := hQ.1
        have hkn6 : f 6 = true := hQ.2.1
        have hkn0 : f 0 = true := hQ.2.2.2.1
        have hP := hQ.2.2.2.2
        clear hQ
        have H0' := hid h0; have H1' := hid h1; have H2' := hid h2; have H3' := hid h3; have H4' := hid h4; have H5' := hid h5; clear h0 h1 h2 h3 h4 h5
        try simp only [Act.put, List.setIfInBounds_toArray, List.set_cons_succ, List.set_cons_zero]
        obtain ⟨hPc, ⟨A6, c6, rfl⟩, hPo⟩ := hP
        have hbo := hPc.blk HBO.out (fun h => h.elim (fun h => HN4.out _ h (.inr rfl)) (fun h => HNV.out _ h (.inr rfl)))
        have y0 := hbo.cell 0
        have z0 := hbo.frozen 0
        simp only [List.getElem?_toArray, List.getElem?_cons_zero] at y0
        have hst : Blk (wx.setCell ⟨s + 1, 0, none⟩ (.slice A6 NL c6)) (s + 1) 26 #[.slice A6 NL c6] := by simpa using hbo.set_ 0 (.slice A6 NL c6)
        have hcs : Chg (fun q => q = s + 1) wx (wx.setCell ⟨s + 1, 0, none⟩ (.slice A6 NL c6)) := (Chg.refl (fun q => q = s + 1) wx).set_ (.inl rfl) 0 _
        have hfo := hPo.chg hcs (fun q hq e => by obtain ⟨fs, -, h2, -⟩ := hPo; have := (h2.lt q hq).1; omega) (fun b cs kk hb hk e => by omega) (.inl rfl)
        have HST := hid hst
        have HCS := hid hcs
        have HFO := hid hfo
        have HPC := hid hPc
        clear hst hcs hfo hPc hPo hbo
        gi_wp2
        have h0 := H0'.out; have h1 := H1'.out; have h2 := H2'.out; have h3 := H3'.out; have h4 := H4'.out; have h5 := H5'.out
        exact ⟨x0, x1, x2, x3, x4, x5, _, (by first | (simp only [Act.put, List.setIfInBounds_toArray, List.set_cons_succ, List.set_cons_zero]; done) | rfl), (fun h => h0 (by simpa using h)), (fun h => h1 (by simpa using h)), (fun h => h2 (by simpa using h)), (fun h => h3 (by simpa using h)), (fun h => h4 (by simpa using h)), (fun h => h5 (by simpa using h)), (Or.inr (Or.inr (Or.inr (⟨(by simp [hkn5]), (by simp [hkn6]), (by simp), (by simp [hkn0]), (⟨(HPC.out.mono (fun q _ h => .inr h)).trans (HCS.out.mono (fun q _ h => .inl h)), _, HST.out, HFO.out⟩)⟩))))⟩
    · intro f a' wx hall hI
      obtain ⟨x0, x1, x2, x3, x4, x5, x6, rfl, h0, h1, h2, h3, h4, h5, hP⟩ := hI
      obtain rfl := h0 (hall 0 (by simp))
      obtain rfl := h1 (hall 1 (by simp))
      obtain rfl := h2 (hall 2 (by simp))
      obtain rfl := h3 (hall 3 (by simp))
      obtain rfl := h4 (hall 4 (by simp))
      obtain rfl := h5 (hall 5 (by simp))
      rcases hP with hP | hP | hP | hP
      · exact absurd hP.1 (by simp [hall 5 (by simp)])
      · exact absurd hP.2.1 (by simp [hall 6 (by simp)])
      · exact absurd hP.2.2.1 (by simp [hall 7 (by simp)])
      replace hP := hP.2.2.2.2
      clear h0 h1 h2 h3 h4 h5 hall f
      try simp only [Act.put, List.setIfInBounds_toArray, List.set_cons_succ, List.set_cons_zero]
      obtain ⟨hC8, vo2, hbo2, hfo2⟩ := hP
      have y0 := (hC8.blk HBF4.out (fun h => h.elim (fun h => by omega) (fun h => h.elim (fun h => HN4.out _ h (.inl rfl)) (fun h => HNV.out _ h (.inl rfl))))).cell 0
      simp only [List.getElem?_toArray, List.getElem?_cons_zero] at y0
      have hfs8 := HFS4.out.chg hC8 (fun h => h.elim (fun h => by omega) (fun h => h.elim (fun h => HNG.out h) (fun h => HNVg.out h))) (fun q hq h => h.elim (fun h => by have := HVQ2.out q hq; omega) (fun h => h.elim (fun h => HNQ.out q hq h) (fun h => HNVq.out q hq h)))
      have HFS8 := hid hfs8
      have HC8 := hid hC8
      have HBO8 := hid hbo2
      have HFO8 := hid hfo2
      clear hfs8 hC8 hbo2 hfo2
      gi_wp2
      refine ⟨trivial, ?_⟩
      refine (CallsIn.inRound l2 ((callsIn_wide (n := m - 1 - 1 - 1)).2 (fdrop_any B g (hldT U ++ P) _ false _ K4 _ HFS8.out hgB HKL.out))).mono ?_
      rintro e w9 ⟨⟨v9, rfl⟩, vb9, hfs9, hch9, hvb9⟩
      have HFS9 := hid hfs9
      have HCH9 := hid hch9
      have HVB9 := hid hvb9
      clear hfs9 hch9 hvb9
      gi_wp2
      have hc29 : Chg (fun q => q = g ∨ vb.ownBlock = some q ∨ q = s + 1 ∨ s + 6 ≤ q) W2 w9 := by
        refine (((HCH3.out.mono (fun q _ h => ?_)).trans (Chg.of_new HHB4.out)).trans (HC8.out.mono (fun q _ h => ?_))).trans (HCH9.out.mono (fun q _ h => ?_))
        · rcases h with h | h
          · exact .inl h
          · rcases O4.out with h4 | h4
            · exact .inr (.inl (by rw [← h4]; exact h))
            · exact .inr (.inr (.inr (h4 q h)))
        · rcases h with h | h | h
          · exact .inr (.inr (.inl h))
          · exact .inr (.inr (.inr (by have := HA4.out q h; omega)))
          · exact .inr (.inr (.inr (HVO6.out q h)))
        · rcases h with h | h
          · exact .inl h
          · rcases HV3.out with h4 | h4
            · exact .inr (.inl (by rw [← h4]; exact h))
            · exact .inr (.inr (.inr (h4 q h)))
      have hno : ∀ q, (q = s ∨ q = s + 2 ∨ q = s + 3 ∨ q = s + 4 ∨ q = s + 5) → ¬ (q = g ∨ vb.ownBlock = some q ∨ q = s + 1 ∨ s + 6 ≤ q) := fun q hq h => by
        rcases h with h | h | h | h
        · omega
        · have := HVS.out q h; omega
        · omega
        · omega
      refine ⟨KN.of_chg hc29 (by omega) (fun q g1 g2 h => hno q (by omega) h), ⟨hc29.blk BF.out (hno _ (by omega)), ⟨vo2, vb9, HCH9.out.blk HBO8.out (fun h => h.elim (fun h => by omega) (fun h => HVQ2.out _ h rfl)), ?_, ?_, ?_⟩, hc29.blk B2.out (hno _ (by omega)), hc29.blk B3.out (hno _ (by omega)), ?_⟩⟩
      · rw [HUU.out, HHELD.out, List.length_append, HPN.out]; exact HFS9.out
      · rw [HUU.out, HNEWS.out]
        exact HFO8.out.chg HCH9.out (fun q hq h => h.elim (fun h => by obtain ⟨fs, -, h2, -⟩ := HFO8.out; have := (h2.lt q hq).1; omega) (fun h => by
          obtain ⟨fs, -, h2, -⟩ := HFO8.out
          rcases own_two HFS8.out.row h2 (by decide) with h5 | h5
          · rw [h5] at h; cases h
          · exact h5 (h.trans hq.symm))) (fun b cs k hb _ h => h.elim (fun h => by omega) id) (.inl HVB9.out)
      · rw [HVB9.out]; exact HV3.out
      · have hch := CH.out
        exact ⟨hc29.os.trans hch.os, hc29.tape.trans hch.tape, hc29.output.trans hch.output, Nat.le_trans hch.size hc29.size, fun q hq hs => (hc29.block q (Nat.lt_of_lt_of_le hq hch.size) (fun h => by
          rcases h with h | h | h | h
          · exact hs (.inl h)
          · exact hs (.inr h)
          · omega
          · omega)).trans (hch.block q hq hs)⟩

  · rintro W1 hli hd
    obtain ⟨bf, ⟨vo, vh, o1, o2, o3, o4⟩, b2, b3, ch⟩ := hli
    rw [show p.take (8201 * ckN n 8201) = p from List.take_of_length_le (by rw [HN.out]; omega)] at o2 o3
    obtain ⟨A', c', rfl⟩ : ∃ A' c', vo = .slice A' (newsT T (T ++ p)).length c' := by
      obtain ⟨fs, -, h2, -⟩ := o3
      exact row_slice_g h2
    have y0 := o1.cell 0
    simp only [List.getElem?_toArray, List.getElem?_cons_zero] at y0
    have hzd := (Array.getElem?_eq_some_iff.1 hd).1
    have O2 := hid o2
    have O3 := hid o3
    have O4 := hid o4
    have CH := hid ch
    have HD1 := hid hd
    clear bf o1 o2 o3 o4 b2 b3 ch hd
    generalize hNe : newsT T (T ++ p) = N at *
    gi_wp2
    have hM : Marks (s + 4) W1 [s + 4] := (Marks.nil_ _ _).cons_ (Nat.le_refl _) (by simp) HD1.out
    refine leaves_marks (s + 4) [s + 4] W1 hM fun W6 h6 => ?_
    refine ⟨.slice A' N.length c', by simp [results, Try.results12, go_sem], ?_⟩
    rw [HR.out]
    have hvh : ∀ q, vh.ownBlock = some q → q ≠ s + 4 := fun q hq => by
      rcases O4.out with h | h
      · have := HVS.out q (by rw [← h]; exact hq); omega
      · have := h q hq; omega
    have hfo := (O3.out.chg h6 (vb' := vh) (fun q hq h => by obtain ⟨fs, -, h2, -⟩ := O3.out; have := (h2.lt q hq).1; simp at h; omega) (fun b cs k hb _ h => by simp at h; omega) (.inl rfl)).mono (show s ≤ s + 6 by omega)
    have hfs := O2.out.chg h6 (fun h => by simp at h; omega) (fun q hq h => by have := hvh q hq; simp at h; omega)
    refine ⟨A', c', vh, rfl, hfo, hfs, ?_, O4.out.imp_right fun h q hq => by have := h q hq; omega⟩
    have hch := CH.out
    exact ⟨h6.os.trans hch.os, h6.tape.trans hch.tape, h6.output.trans hch.output, Nat.le_trans hch.size h6.size, fun q hq hs => (h6.block q (Nat.lt_of_lt_of_le hq hch.size) (fun h => by simp at h; omega)).trans (hch.block q hq hs)⟩
  · rintro c W1 h
    exact h.elim
theorem ffeed_any (B g : Nat) (T : List UInt8) (vb : Value) (p : List UInt8) (n : Nat) (A : Option Addr) (c : Nat) (w : World) (h : FdS B g (hldT T) T.length false vb w) (hgB : g < B) (hBw : B ≤ w.heap.size) (hn : p.length = n) (hs : Sl w A c (p.map bv)) (hfar : FarS A n (fun q => q = g ∨ vb.ownBlock = some q)) (hT : T.length ≤ 100000000) (hnl : n ≤ 1000000) :
    Calls Try.prog 12 #[.pointer (some ⟨g, 0, none⟩), .slice A n c] w fun e w' => ∃ A' c' vb', e = .returned (.slice A' (newsT T (T ++ p)).length c') ∧ FdO w.heap.size w' (.slice A' (newsT T (T ++ p)).length c') (newsT T (T ++ p)) vb' ∧ FdS B g (hldT (T ++ p)) (T ++ p).length false vb' w' ∧ Chg (fun q => q = g ∨ vb.ownBlock = some q) w w' ∧ (vb'.ownBlock = vb.ownBlock ∨ ∀ q, vb'.ownBlock = some q → w.heap.size ≤ q) := (callsIn_wide (n := 8)).1 (ffeed_in 8 (by omega) B g T vb p n A c w h hgB hBw hn hs hfar hT hnl)

end Go.Proofs.Ytabklpgimjmdlaa
