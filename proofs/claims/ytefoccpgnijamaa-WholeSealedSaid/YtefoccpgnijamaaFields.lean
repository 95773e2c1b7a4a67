/- skip.Fields in one piece. -/
import Derived.Test.YtefoccpgnijamaaEach
import Derived.Test.YtefoccpgnijamaaM6
import Derived.RangeFuncOwn
import Derived.RangeFuncLeaves
import Derived.RangeFuncNested
import Derived.RangeFuncCalls
import Derived.Shelf.RegionOpen
set_option linter.unusedVariables false
namespace Go.Proofs.Ytefoccpgnijamaa
open Go.RowKit Go.Shelf
attribute [local go_sem] Oper.semAt_some
theorem Try.infoField : (Try.prog.info? 41).map (fun i => (i.zero, i.size, i.bytes)) = some (some (.agg #[.int .i64 0, .int .u8 0, .int .u64 0, .slice none 0 0, .int .i64 0]), 5, 56) := by kernel_rfl
/-- What Fields keeps beside its loop's record. -/
structure JB (s b : Nat) (w : World) (pre : List FV) (W : World) : Prop where
  le : s + 6 ≤ b
  dfr : W.heap[s + 4]? = some (.deferred (some []))
  r0 : Blk W s 36 #[.slice none 0 0]
  r1 : Blk W (s + 1) 51 #[.int .i64 0, .int .i64 0]
  row : ∃ v, Blk W (s + 2) 36 #[v] ∧ W.ownsRow b 41 5 v pre.length (pre.flatMap fvC)
  bel : Below s w W
theorem JB.keep {s b : Nat} {w W W' : World} {pre : List FV} {S : Nat → Prop} (h : JB s b w pre W) (hc : Chg S W W') (hS : ∀ k, S k → k = s + 5 ∨ (s + 6 ≤ k ∧ k < b) ∨ W.heap.size ≤ k) : JB s b w pre W' := by
  have h4 : s + 4 < W.heap.size := (Array.getElem?_eq_some_iff.1 h.dfr).1
  obtain ⟨v, hv, ho⟩ := h.row
  have hn : ∀ k, k < s + 5 → ¬ S k := fun k hk hs => by have := hS k hs; omega
  refine ⟨h.le, (hc.block _ h4 (hn _ (by omega))).trans h.dfr, hc.blk h.r0 (hn _ (by omega)), hc.blk h.r1 (hn _ (by omega)), ⟨v, hc.blk hv (hn _ (by omega)), own_chgS ho hc fun g hg hs => ?_⟩, h.bel.trans (hc.below (fun k hk => by have := hS k hk; omega) (by omega))⟩
  have := ho.lt g hg
  have := hS g hs
  have := h.le
  omega
theorem Chg.putObj {S : Nat → Prop} {W : World} {l : Nat} (o : Obj) (hl : S l) : Chg S W (W.putObj l o) := Chg.of_grown (grownBy_putObj' W l o) fun g e => by cases e; exact hl
theorem JB.step {s b : Nat} {w W w1 : World} {pre : List FV} {f : FV} {v v' : Value} {o : Obj} (h : JB s b w pre W) (hv : Blk W (s + 2) 36 #[v]) (ho : W.ownsRow b 41 5 v pre.length (pre.flatMap fvC)) (hg : (W.alloc o).grownBy w1 v.ownBlock)
    (ho' : w1.ownsRow b 41 5 v' (pre.length + 1) (pre.flatMap fvC ++ fvC f)) : JB s b w (pre ++ [f]) (w1.setCell ⟨s + 2, 0, none⟩ v') ∧ Chg (fun k => k = s + 2 ∨ b ≤ k) W (w1.setCell ⟨s + 2, 0, none⟩ v') := by
  have hle := h.le
  have hc1 : Chg (fun k => k = s + 2 ∨ b ≤ k) W w1 := ((Chg.refl _ W).alloc o).trans (Chg.of_grown hg fun g e => .inr (ho.lt g e).1)
  have hb1 : Chg (fun k => b ≤ k) W w1 := ((Chg.refl _ W).alloc o).trans (Chg.of_grown hg fun g e => (ho.lt g e).1)
  have hc : Chg (fun k => k = s + 2 ∨ b ≤ k) W (w1.setCell ⟨s + 2, 0, none⟩ v') := hc1.set_ (.inl (.inl rfl)) 0 v'
  have hv1 : Blk w1 (s + 2) 36 #[v] := hb1.blk hv (by omega)
  have h4 : s + 4 < W.heap.size := (Array.getElem?_eq_some_iff.1 h.dfr).1
  have hv2 := hv1.set_ 0 v'
  refine ⟨⟨hle, (hc.block _ h4 (by omega)).trans h.dfr, hc.blk h.r0 (by omega), hc.blk h.r1 (by omega), ⟨v', by simpa using hv2, ?_⟩, h.bel.trans (hc.below (fun k hk => by omega) (by omega))⟩, hc⟩
  have h2 := own_chgS ho' ((Chg.refl (fun k => k = s + 2) w1).set_ (.inl rfl) 0 v') (fun g hg' hk => by have := (ho'.lt g hg').1; omega)
  rw [List.length_append, List.flatMap_append]
  simpa using h2
theorem JB.fin {s b : Nat} {w W : World} {pre : List FV} (h : JB s b w pre W) (v x y : Value) : Chg (fun k => k = s ∨ k = s + 1) W (((W.setCell ⟨s, 0, none⟩ v).setCell ⟨s + 1, 0, none⟩ x).setCell ⟨s + 1, 1, none⟩ y) ∧
    Blk (((W.setCell ⟨s, 0, none⟩ v).setCell ⟨s + 1, 0, none⟩ x).setCell ⟨s + 1, 1, none⟩ y) s 36 #[v] ∧
    Blk (((W.setCell ⟨s, 0, none⟩ v).setCell ⟨s + 1, 0, none⟩ x).setCell ⟨s + 1, 1, none⟩ y) (s + 1) 51 #[x, y] := by
  refine ⟨(((Chg.refl _ W).set_ (.inl (.inl rfl)) 0 _).set_ (.inl (.inr rfl)) 0 _).set_ (.inl (.inr rfl)) 1 _, ?_, ?_⟩
  · have h1 := ((h.r0.set_ 0 v).far (p := ⟨s + 1, 0, none⟩) (by simp) x).far (p := ⟨s + 1, 1, none⟩) (by simp) y
    simpa using h1
  · have h1 := ((h.r1.far (p := ⟨s, 0, none⟩) (by simp) v).set_ 0 x).set_ 1 y
    simpa using h1
theorem JB.stop {s b : Nat} {w W : World} {pre : List FV} (h : JB s b w pre W) (x y : Value) : Chg (fun k => k = s ∨ k = s + 1) W (((W.setCell ⟨s, 0, none⟩ (.slice none 0 0)).setCell ⟨s + 1, 0, none⟩ x).setCell ⟨s + 1, 1, none⟩ y).drew ∧
    Blk (((W.setCell ⟨s, 0, none⟩ (.slice none 0 0)).setCell ⟨s + 1, 0, none⟩ x).setCell ⟨s + 1, 1, none⟩ y).drew s 36 #[.slice none 0 0] ∧
    Blk (((W.setCell ⟨s, 0, none⟩ (.slice none 0 0)).setCell ⟨s + 1, 0, none⟩ x).setCell ⟨s + 1, 1, none⟩ y).drew (s + 1) 51 #[x, y] := ⟨(h.fin _ x y).1.drew, (h.fin _ x y).2.1, (h.fin _ x y).2.2⟩
set_option maxRecDepth 100000 in
set_option maxHeartbeats 2000000 in
theorem fields_in (m : Nat) (hm : 4 ≤ m) (bs : List UInt8) (n : Nat) (A : Option Addr) (c : Nat) (w : World) (hn : bs.length = n) (hl : n ≤ 100000) (hs : Sl w A c (bs.map bv)) :
    CallsIn Fence.wide m Try.prog 32 #[.slice A n c] w fun e W' => (((flds bs n 0).2.1 = 0 ∧ ∃ v b pre, e = .returned (.tuple #[v, .agg #[.int .i64 0, .int .i64 0]]) ∧ w.heap.size ≤ b ∧ W'.ownsRow b 41 5 v pre.length (pre.flatMap fvC) ∧ fvAll pre (flds bs n 0).1 ∧ ∀ f ∈ pre, Sl W' f.s.A f.s.c (f.s.xs.map bv) ∧ FarS f.s.A f.s.xs.length (fun k => k < w.heap.size ∨ b ≤ k)) ∨
      ((flds bs n 0).2.1 ≠ 0 ∧ e = .returned (.tuple #[.slice none 0 0, .agg #[.int .i64 ((flds bs n 0).2.1 : Nat), .int .i64 ((flds bs n 0).2.2 : Nat)]]))) ∧ Below w.heap.size w W' := by
  have h1 : 1 ≤ m := by omega
  obtain ⟨i5, hi5, hi50, hi51, hi52⟩ := info_parts Try.infoField
  have HS := hid hs
  clear hs
  refine callsIn_of_wp_marks Try.func32 rfl trivial ?_ rfl
  simp only [Try.ntmps32, List.size_toArray, List.length_cons, List.length_nil, Nat.reduceAdd, Nat.reduceSub, Array.replicate_succ, Array.replicate_zero, List.push_toArray, List.append_toArray, List.nil_append, List.cons_append]
  gi_wp2_with (refine ⟨trivial, ?_⟩; gi_at_call 54; refine (each_in (m - 1) A n c _).mono ?_; rintro e w' ⟨rfl, rfl⟩)
  obtain ⟨s, hsz⟩ : ∃ s, w.heap.size = s := ⟨_, rfl⟩
  obtain ⟨Wa, hWa⟩ : ∃ Wa, (((w.alloc (.cells #[.slice none 0 0] 36)).alloc (.cells #[.int .i64 0, .int .i64 0] 51)).alloc (.cells #[.slice none 0 0] 36)).alloc (.cells #[.slice A n c] 32) = Wa := ⟨_, rfl⟩
  have hza : Wa.heap.size = s + 4 := by rw [← hWa]; simp [hsz]
  have hba : Below s w Wa := by rw [← hWa, ← hsz]; exact bw_a (bw_a (bw_a (bw_a (Below.refl _ w) _) _) _) _
  have hk0 : Blk Wa s 36 #[.slice none 0 0] := by rw [← hWa, ← hsz]; exact (((Blk.new w _ _).alloc _).alloc _).alloc _
  have hk1 : Blk Wa (s + 1) 51 #[.int .i64 0, .int .i64 0] := by
    have h := ((Blk.new (w.alloc (.cells #[.slice none 0 0] 36)) 51 #[.int .i64 0, .int .i64 0]).alloc (.cells #[.slice none 0 0] 36)).alloc (.cells #[.slice A n c] 32)
    rw [hWa, World.size_alloc, hsz] at h; exact h
  have hk2 : Blk Wa (s + 2) 36 #[.slice none 0 0] := by
    have h := (Blk.new ((w.alloc (.cells #[.slice none 0 0] 36)).alloc (.cells #[.int .i64 0, .int .i64 0] 51)) 36 #[.slice none 0 0]).alloc (.cells #[.slice A n c] 32)
    rw [hWa, World.size_alloc, World.size_alloc, hsz] at h; exact h
  have hk3 : Blk Wa (s + 3) 32 #[.slice A n c] := by
    have h := Blk.new (((w.alloc (.cells #[.slice none 0 0] 36)).alloc (.cells #[.int .i64 0, .int .i64 0] 51)).alloc (.cells #[.slice none 0 0] 36)) 32 #[.slice A n c]
    rw [hWa, World.size_alloc, World.size_alloc, World.size_alloc, hsz] at h; exact h
  have hsa : Sl Wa A c (bs.map bv) := HS.out.below (by rw [hsz]; exact hba)
  rw [hWa, hsz]
  refine wpIn_rangeFunc fun fn _ => ?_
  generalize hasg : (Code.seq _ _ : Code) = asg
  generalize hbdy : (Code.block 1 _ : Code) = bdy
  obtain ⟨tm, htm⟩ : ∃ tm : Array Value, #[.slice A n c, undef, .pointer (some ⟨s, 0, none⟩), .pointer (some ⟨s + 1, 0, none⟩), .pointer (some ⟨s + 1 + 1, 0, none⟩), undef, undef, .slice A n c, .func (.func 63) #[] #[.pointer (some ⟨s + 1 + 1 + 1, 0, none⟩)], undef, undef, undef, undef, undef, undef, undef, undef, undef, undef, undef, undef] = tm := ⟨_, rfl⟩
  rw [htm]
  obtain ⟨rec, hrec⟩ : ∃ rec : LoopState → Option Code → Loop, rec = fun st pe => { state := st, pending := pe, fn, tmps := tm, params := #[9, 10], assign := asg, body := bdy, defers := s + 4 } := ⟨_, rfl⟩
  obtain ⟨W1, hW1⟩ : ∃ W1, (Wa.alloc (.deferred (some []))).alloc (.loop (rec .ready none)) = W1 := ⟨_, rfl⟩
  have hz1 : W1.heap.size = s + 6 := by rw [← hW1]; simp [hza]
  have hL1 : W1.heap[s + 5]? = some (.loop (rec .ready none)) := by
    rw [← hW1]; have := World.alloc_heap_new (Wa.alloc (.deferred (some []))) (.loop (rec .ready none)); rwa [World.size_alloc, hza] at this
  have hK1 : W1.heap[s + 4]? = some (.deferred (some [])) := by
    have h := World.alloc_heap_new Wa (.deferred (some []))
    rw [hza] at h
    rw [← hW1]; exact (Below.heap_alloc _ _ _ (by simp [hza])).trans h
  have hB1 : Below (s + 4) Wa W1 := by rw [← hW1, ← hza]; exact bw_a (bw_a (Below.refl _ Wa) _) _
  have hsW : Sl W1 A c (bs.map bv) := hsa.below (by rw [hza]; exact hB1)
  have hJ0 : ∀ b W', s + 6 ≤ b → Below (s + 6) W1 W' → W'.heap[s + 5]? = some (.loop (rec .ready none)) ∧ JB s b w [] W' := fun b W' hb hB => by
    have hB2 := (hB1.trans (hB.mono (by omega)))
    exact ⟨(hB.block _ (by omega)).trans hL1, hb, (hB.block _ (by omega)).trans hK1, hk0.below hB2 (by omega), hk1.below hB2 (by omega), ⟨_, hk2.below hB2 (by omega), World.ownsRow_nil _ _ _ _⟩, hba.trans (hB2.mono (by omega))⟩
  refine ⟨s + 5, [{ target := .collected (s + 4), args := #[] }], W1, { target := .fn (.func 63) #[.pointer (some ⟨s + 1 + 1 + 1, 0, none⟩)], args := #[.func (.yield (s + 5)) #[] #[]] }, W1, 63,
    #[.func (.yield (s + 5)) #[] #[]] ++ #[.pointer (some ⟨s + 1 + 1 + 1, 0, none⟩)], W1, ?_, ?_, fun _ _ => trivial, ?_, fun _ => h1, ?_⟩
  · have h := run_enterLoop_outer (P := Try.prog) (w := Wa) fn tm #[9, 10] asg bdy
    rw [hza] at h
    rw [← hW1, hrec]
    exact h
  · simp only [resolve]
    simp [go_sem, ← htm]
  · simp [invoke, go_sem]
  · have hy : ∀ (W : World) (x y : Value), W.heap[s + 5]? = some (.loop (rec .ready none)) → (Instr.yield (s + 5) #[x, y]).run Try.prog W = .ok (.round (s + 5) fn ((tm.setIfInBounds 9 x).setIfInBounds 10 y) asg bdy) W := fun W x y h => by
      have h := run_yield (P := Try.prog) (args := #[x, y]) h (by rw [hrec]; rfl)
      rw [hrec] at h
      simpa using h
    refine (each1_in (m - 1) (by omega) bs n A c (s + 5) (s + 1 + 1 + 1) (s + 6) (fun b pre W => W.heap[s + 5]? = some (.loop (rec .ready none)) ∧ JB s b w pre W)
      (fun er ep W => W.heap[s + 5]? = some (.loop (rec .done (some .ret))) ∧ W.heap[s + 4]? = some (.deferred (some [])) ∧ Blk W s 36 #[.slice none 0 0] ∧ Blk W (s + 1) 51 #[.int .i64 (er : Nat), .int .i64 (ep : Nat)] ∧ Below s w W)
      W1 hn hl (by rw [(hk3.below hB1 (by omega)).cell]; rfl) hsW hz1 hJ0 ?hJ ?hY ?hE).mono ?fin
    case hJ =>
      rintro b pre W q p Aq cq W' hq hqb ⟨hr, hj⟩ hR hO
      have hlt : s + 5 < W.heap.size := (Array.getElem?_eq_some_iff.1 hr).1
      exact ⟨(hO.block _ hlt (by omega)).trans hr, hj.keep (Chg.of_only (S := fun k => k = q) hO rfl) fun k hk => by omega⟩
    case hY =>
      rintro b pre f W ⟨hr, hj⟩ hpl hbW
      refine ⟨fn, _, asg, bdy, hy W _ _ hr, roundIn_of_wpIn trivial ?_⟩
      rw [← hasg, ← htm]
      simp only [List.setIfInBounds_toArray, List.set_cons_succ, List.set_cons_zero]
      obtain ⟨fnum, fw, fn_, ⟨fA, fc, fxs⟩, fat⟩ := f
      simp only [fvC]
      gi_wp2
      obtain ⟨W3, hW3⟩ : ∃ W3, (W.alloc (.cells #[.int .i64 fnum, .int .u8 fw, .int .u64 (fn_ : Int), .slice fA fxs.length fc, .int .i64 fat] 41)).alloc (.cells #[.int .i64 0, .int .i64 0] 51) = W3 := ⟨_, rfl⟩
      obtain ⟨z, hz⟩ : ∃ z, W.heap.size = z := ⟨_, rfl⟩
      have hlt : s + 5 < W.heap.size := (Array.getElem?_eq_some_iff.1 hr).1
      have hc3 : ∀ S, Chg S W W3 := fun S => by rw [← hW3]; exact ((Chg.refl S W).alloc _).alloc _
      have hr3 := ((hc3 (fun _ => False)).block _ hlt (fun h => h)).trans hr
      have hj3 := hj.keep (hc3 (fun _ => False)) (fun k hk => hk.elim)
      have hkf : Blk W3 z 41 #[.int .i64 fnum, .int .u8 fw, .int .u64 (fn_ : Int), .slice fA fxs.length fc, .int .i64 fat] := by rw [← hW3, ← hz]; exact (Blk.new W _ _).alloc _
      have hkg : Blk W3 (z + 1) 51 #[.int .i64 0, .int .i64 0] := by
        have h := Blk.new (W.alloc (.cells #[.int .i64 fnum, .int .u8 fw, .int .u64 (fn_ : Int), .slice fA fxs.length fc, .int .i64 fat] 41)) 51 #[.int .i64 0, .int .i64 0]
        rw [World.size_alloc, hz, hW3] at h
        exact h
      rw [hW3, hz]
      have hbr := run_beginRound (P := Try.prog) hr3 (by rw [hrec])
      obtain ⟨W4, hW4⟩ : ∃ W4, W3.putObj (s + 5) (.loop { rec .ready none with state := .busy }) = W4 := ⟨_, rfl⟩
      have hlt3 : s + 5 < W3.heap.size := (Array.getElem?_eq_some_iff.1 hr3).1
      have hc4 : ∀ S : Nat → Prop, S (s + 5) → Chg S W3 W4 := fun S hS => by rw [← hW4]; exact Chg.putObj _ hS
      have hr4 : W4.heap[s + 5]? = some (.loop { rec .ready none with state := .busy }) := by rw [← hW4]; exact World.putObj_heap_same hlt3
      have hj4 := hj3.keep (hc4 (fun k => k = s + 5) rfl) (fun k hk => .inl hk)
      have hkf4 := (hc4 (fun k => k = s + 5) rfl).blk hkf (by omega)
      have hkg4 := (hc4 (fun k => k = s + 5) rfl).blk hkg (by omega)
      have hcW : Chg (fun k => k < s + 6 ∨ b ≤ k) W W4 := (hc3 _).trans (hc4 _ (by omega))
      have hzb : b ≤ z := by omega
      have hz4 : z + 2 ≤ W4.heap.size := hkg4.lt
      rw [hW4] at hbr
      refine ⟨W4, hbr, ?_⟩
      obtain ⟨v, hv, ho⟩ := hj4.row
      have HJ4 := hid hj4
      have HV := hid hv
      have HO := hid ho
      have HR4 := hid hr4
      have HCW := hid hcW
      have hc0 := hv.cell 0
      have hf0 := hv.frozen 0
      have d0 := hkf4.cell 0
      have d1 := hkf4.cell 1
      have d2 := hkf4.cell 2
      have d3 := hkf4.cell 3
      have d4 := hkf4.cell 4
      have e0 := hkg4.cell 0
      simp only [List.getElem?_toArray, List.getElem?_cons_zero, List.getElem?_cons_succ] at hc0 d0 d1 d2 d3 d4 e0
      clear hj4 hv ho hr4 hcW hkf4 hkg4 hkf hkg hj3 hr3 hc3 hc4 hbr hW4 hW3 hlt3 hj hr hlt hJ0 hsW hB1 hK1 hL1 hz1 hsa hk0 hk1 hk2 hk3 hba hza
      rw [← hbdy]
      gi_wp2_with (gi_at_builtin; refine wpListIn_append_rd _ rfl _ _ 36 rfl b 41 i5 (.agg #[.int .i64 0, .int .u8 0, .int .u64 0, .slice none 0 0, .int .i64 0]) 5 56 Try.underlying36 hi5 hi50 hi51 hi52 rfl (by decide) v pre.length (pre.flatMap fvC) rfl (HO.out.alloc _) ⟨W4.heap.size, 0, none⟩ 1 1 [.int .i64 fnum, .int .u8 fw, .int .u64 (fn_ : Int), .slice fA fxs.length fc, .int .i64 fat] rfl rfl (Rd.new W4 41 #[.int .i64 fnum, .int .u8 fw, .int .u64 (fn_ : Int), .slice fA fxs.length fc, .int .i64 fat]) (by simp [Value.oneCell']) (by simp only [maxLen]; omega) (by omega) (by simp; omega) ?_; intro v' w1 hown' hgrow; obtain ⟨g', cap', rfl⟩ := ownsRow_succ hown'; have hst := JB.step (f := ⟨fnum, fw, fn_, ⟨fA, fc, fxs⟩, fat⟩) HJ4.out HV.out HO.out hgrow hown'; have hg1 : some (s + 2) ≠ v.ownBlock := (fun e => by have := (HO.out.lt _ e.symm).1; have := HJ4.out.le; omega); have hw1 := (hgrow.block (s + 2) (by have := HV.out.lt; simp; omega) hg1).trans (HV.out.alloc _); have hc1 := Blk.cell hw1 0; have hf1 := Blk.frozen hw1 0; simp only [List.getElem?_toArray, List.getElem?_cons_zero] at hc1)
      obtain ⟨hj5, hc5⟩ := hst
      have hle := hj5.le
      have hlt5 := (Array.getElem?_eq_some_iff.1 HR4.out).1
      have hr5 := (hc5.block _ hlt5 (by omega)).trans HR4.out
      simp only [hrec] at hr5
      have hend := run_endRound (P := Try.prog) none hr5
      refine ⟨_, _, hend, rfl, ⟨World.putObj_heap_same (Array.getElem?_eq_some_iff.1 hr5).1, hj5.keep (Chg.putObj (S := fun k => k = s + 5) _ rfl) (fun k hk => .inl hk)⟩, ?_⟩
      exact (HCW.out.trans (hc5.mono fun k _ hk => by omega)).trans (Chg.putObj _ (by omega))
    case hE =>
      rintro b pre er ep W ⟨hr, hj⟩ her
      refine ⟨fn, _, asg, bdy, hy W _ _ hr, roundIn_of_wpIn trivial ?_⟩
      rw [← hasg, ← htm]
      simp only [List.setIfInBounds_toArray, List.set_cons_succ, List.set_cons_zero]
      gi_wp2
      obtain ⟨W3, hW3⟩ : ∃ W3, (W.alloc (.cells #[.int .i64 0, .int .u8 0, .int .u64 0, .slice none 0 0, .int .i64 0] 41)).alloc (.cells #[.int .i64 (er : Int), .int .i64 (ep : Int)] 51) = W3 := ⟨_, rfl⟩
      obtain ⟨z, hz⟩ : ∃ z, W.heap.size = z := ⟨_, rfl⟩
      have hlt : s + 5 < W.heap.size := (Array.getElem?_eq_some_iff.1 hr).1
      have hc3 : ∀ S, Chg S W W3 := fun S => by rw [← hW3]; exact ((Chg.refl S W).alloc _).alloc _
      have hr3 := ((hc3 (fun _ => False)).block _ hlt (fun h => h)).trans hr
      have hj3 := hj.keep (hc3 (fun _ => False)) (fun k hk => hk.elim)
      have hkf : Blk W3 z 41 #[.int .i64 0, .int .u8 0, .int .u64 0, .slice none 0 0, .int .i64 0] := by rw [← hW3, ← hz]; exact (Blk.new W _ _).alloc _
      have hkg : Blk W3 (z + 1) 51 #[.int .i64 (er : Int), .int .i64 (ep : Int)] := by
        have h := Blk.new (W.alloc (.cells #[.int .i64 0, .int .u8 0, .int .u64 0, .slice none 0 0, .int .i64 0] 41)) 51 #[.int .i64 (er : Int), .int .i64 (ep : Int)]
        rw [World.size_alloc, hz, hW3] at h
        exact h
      rw [hW3, hz]
      have hbr := run_beginRound (P := Try.prog) hr3 (by rw [hrec])
      obtain ⟨W4, hW4⟩ : ∃ W4, W3.putObj (s + 5) (.loop { rec .ready none with state := .busy }) = W4 := ⟨_, rfl⟩
      have hlt3 : s + 5 < W3.heap.size := (Array.getElem?_eq_some_iff.1 hr3).1
      have hc4 : ∀ S : Nat → Prop, S (s + 5) → Chg S W3 W4 := fun S hS => by rw [← hW4]; exact Chg.putObj _ hS
      have hr4 : W4.heap[s + 5]? = some (.loop { rec .ready none with state := .busy }) := by rw [← hW4]; exact World.putObj_heap_same hlt3
      have hj4 := hj3.keep (hc4 (fun k => k = s + 5) rfl) (fun k hk => .inl hk)
      have hkf4 := (hc4 (fun k => k = s + 5) rfl).blk hkf (by omega)
      have hkg4 := (hc4 (fun k => k = s + 5) rfl).blk hkg (by omega)
      have hz4 : z + 2 ≤ W4.heap.size := hkg4.lt
      rw [hW4] at hbr
      refine ⟨W4, hbr, ?_⟩
      obtain ⟨v, hv, ho⟩ := hj4.row
      have HJ4 := hid hj4
      have HV := hid hv
      have HO := hid ho
      have HR4 := hid hr4
      have k00 := hj4.r0.cell 0
      have k01 := hj4.r0.frozen 0
      have k10 := hj4.r1.cell 0
      have k11 := hj4.r1.cell 1
      have k12 := hj4.r1.frozen 0
      have k13 := hj4.r1.frozen 1
      have e1 := hkg4.cell 1
      have e2 := hkg4.frozen 0
      have e3 := hkg4.frozen 1
      have hsz5 : s + 5 < z := by omega
      have hmx : Try.prog.follows .mixedOrders = true := by kernel_rfl
      have heb : (((er : Nat) : Int) != 0) = true := by simpa using her
      have hc0 := hv.cell 0
      have hf0 := hv.frozen 0
      have d0 := hkf4.cell 0
      have d1 := hkf4.cell 1
      have d2 := hkf4.cell 2
      have d3 := hkf4.cell 3
      have d4 := hkf4.cell 4
      have e0 := hkg4.cell 0
      simp only [List.getElem?_toArray, List.getElem?_cons_zero, List.getElem?_cons_succ] at e0 e1 k00 k10 k11
      clear hj4 hv ho hr4 hkf4 hkg4 hkf hkg hj3 hr3 hc3 hc4 hbr hW4 hW3 hlt3 hj hr hlt hJ0 hsW hB1 hK1 hL1 hz1 hsa hk0 hk1 hk2 hk3 hba hza
      rw [← hbdy]
      gi_wp2
      gi_region_with_o (fail)
      all_goals
        gi_wp2
        obtain ⟨hc5, hb0, hb1⟩ := HJ4.out.stop (.int .i64 (er : Int)) (.int .i64 (ep : Int))
        have hle := HJ4.out.le
        have hlt5 := (Array.getElem?_eq_some_iff.1 HR4.out).1
        have hr5 := (hc5.block _ hlt5 (by omega)).trans HR4.out
        have hd5 := (hc5.block _ (by omega) (by omega)).trans HJ4.out.dfr
        have hbel5 := HJ4.out.bel.trans (hc5.below (B := s) (fun k hk => by omega) (by omega))
        simp only [hrec] at hr5
        have hend := run_endRound (P := Try.prog) (some .ret) hr5
        have hcp := fun o => Chg.putObj (W := (((W4.setCell ⟨s, 0, none⟩ (.slice none 0 0)).setCell ⟨s + 1, 0, none⟩ (.int .i64 (er : Int))).setCell ⟨s + 1, 1, none⟩ (.int .i64 (ep : Int))).drew) (l := s + 5) (S := fun k => k = s + 5) o rfl
        exact ⟨_, _, hend, rfl, by simp only [hrec]; exact World.putObj_heap_same (Array.getElem?_eq_some_iff.1 hr5).1, ((hcp _).block _ (Array.getElem?_eq_some_iff.1 hd5).1 (by omega)).trans hd5, (hcp _).blk hb0 (by omega), (hcp _).blk hb1 (by omega), hbel5.trans ((hcp _).below (fun k hk => by omega) (by have := hb1.lt; omega))⟩
    case fin =>
      clear hy
      rintro e W2 ⟨⟨v, rfl⟩, (⟨he, b, pre, hb, ⟨hr, hj⟩, hfa, hsl⟩ | ⟨he, hr, hd, hr0, hr1, hbel⟩)⟩
      · refine ⟨none, _, by have := run_endLoop (P := Try.prog) hr (by rw [hrec]; simp); rw [hrec] at this; exact this, ?_⟩
        simp only []
        have hcp := fun o => Chg.putObj (W := W2) (l := s + 5) (S := fun k => k = s + 5) o rfl
        have hj3 := hj.keep (hcp (.loop { state := LoopState.exhausted, pending := none, fn := fn, tmps := tm, params := #[9, 10], assign := asg, body := bdy, defers := s + 4 })) (fun k hk => .inl hk)
        have hsl3 := fun f hf => (hcp (.loop { state := LoopState.exhausted, pending := none, fn := fn, tmps := tm, params := #[9, 10], assign := asg, body := bdy, defers := s + 4 })).sl (hsl f hf).1 (n := f.s.xs.length) ((hsl f hf).2.imp fun k hk => by omega) (by simp)
        generalize W2.putObj (s + 5) _ = W3 at *
        obtain ⟨v, hv, ho⟩ := hj3.row
        obtain ⟨vA, vc, rfl⟩ : ∃ vA vc, v = .slice vA pre.length vc := by
          rcases ho.2 with ⟨rfl, h⟩ | ⟨g, cap, cur, rfl, _⟩
          · exact ⟨none, 0, by rw [h]⟩
          · exact ⟨_, _, rfl⟩
        have c2 := hv.cell 0
        have k00 := hj3.r0.cell 0
        have k01 := hj3.r0.frozen 0
        have k10 := hj3.r1.cell 0
        have k11 := hj3.r1.cell 1
        have k12 := hj3.r1.frozen 0
        have k13 := hj3.r1.frozen 1
        simp only [List.getElem?_toArray, List.getElem?_cons_zero, List.getElem?_cons_succ] at c2 k00 k10 k11
        rw [← htm]
        clear hr hj hJ0 hsW hB1 hK1 hL1 hz1 hsa hk0 hk1 hk2 hk3 hba hza hcp hW1
        gi_wp2
        obtain ⟨hc5, hb0, hb1⟩ := hj3.fin (.slice vA pre.length vc) (.int .i64 0) (.int .i64 0)
        have hd5 := (hc5.block _ (Array.getElem?_eq_some_iff.1 hj3.dfr).1 (by omega)).trans hj3.dfr
        have ho5 := own_chgS ho hc5 fun g hg hk => by have := (ho.lt g hg).1; omega
        have hsl5 := fun f hf => hc5.sl (hsl3 f hf) (n := f.s.xs.length) ((hsl f hf).2.imp fun k hk => by omega) (by simp)
        have hbel5 := hj3.bel.trans (hc5.below (B := s) (fun k hk => by omega) (by have := hj3.r0.lt; omega))
        generalize ((W3.setCell _ _).setCell _ _).setCell _ _ = W4 at *
        refine ⟨by simp, .inl ⟨_, _, rfl, run_takeDeferred hd5, ?_⟩⟩
        have hcf := Chg.putObj (W := W4) (l := s + 4) (S := fun k => k = s + 4) (.deferred none) rfl
        have f0 := (hcf.blk hb0 (by omega)).cell 0
        have f1 := (hcf.blk hb1 (by omega)).cell 0
        have f2 := (hcf.blk hb1 (by omega)).cell 1
        have ho6 := own_chgS ho5 hcf fun g hg hk => by have := (ho5.lt g hg).1; omega
        have hsl6 := fun f hf => hcf.sl (hsl5 f hf) (n := f.s.xs.length) ((hsl f hf).2.imp fun k hk => by omega) (by simp)
        have hbel6 := hbel5.trans (hcf.below (B := s) (fun k hk => by omega) (by have := hb0.lt; omega))
        simp only [List.getElem?_toArray, List.getElem?_cons_zero, List.getElem?_cons_succ] at f0 f1 f2
        generalize W4.putObj _ _ = W5 at *
        exact ⟨.tuple #[.slice vA pre.length vc, .agg #[.int .i64 0, .int .i64 0]], by simp [results, Try.results32, go_sem, f0, f1, f2], .inl ⟨he, _, b, pre, rfl, by omega, ho6, hfa, fun f hf => ⟨hsl6 f hf, (hsl f hf).2.imp fun k hk => by omega⟩⟩, by rw [hsz]; exact hbel6⟩
      · refine ⟨some .ret, _, by have := run_endLoop (P := Try.prog) hr (by rw [hrec]; simp); rw [hrec] at this; exact this, ?_⟩
        simp only []
        gi_wp2
        have hcp := Chg.putObj (W := W2) (l := s + 5) (S := fun k => k = s + 5) (.loop { state := LoopState.exhausted, pending := some .ret, fn := fn, tmps := tm, params := #[9, 10], assign := asg, body := bdy, defers := s + 4 }) rfl
        have hd3 := (hcp.block _ (Array.getElem?_eq_some_iff.1 hd).1 (by omega)).trans hd
        have hb0 := hcp.blk hr0 (by omega)
        have hb1 := hcp.blk hr1 (by omega)
        have hbel3 := hbel.trans (hcp.below (B := s) (fun k hk => by omega) (by have := hr0.lt; omega))
        generalize W2.putObj (s + 5) _ = W3 at *
        refine ⟨by simp, .inl ⟨_, _, rfl, run_takeDeferred hd3, ?_⟩⟩
        have hcf := Chg.putObj (W := W3) (l := s + 4) (S := fun k => k = s + 4) (.deferred none) rfl
        have f0 := (hcf.blk hb0 (by omega)).cell 0
        have f1 := (hcf.blk hb1 (by omega)).cell 0
        have f2 := (hcf.blk hb1 (by omega)).cell 1
        have hbel6 := hbel3.trans (hcf.below (B := s) (fun k hk => by omega) (by have := hb0.lt; omega))
        simp only [List.getElem?_toArray, List.getElem?_cons_zero, List.getElem?_cons_succ] at f0 f1 f2
        generalize W3.putObj _ _ = W5 at *
        exact ⟨.tuple #[.slice none 0 0, .agg #[.int .i64 ((flds bs n 0).2.1 : Nat), .int .i64 ((flds bs n 0).2.2 : Nat)]], by simp [results, Try.results32, go_sem, f0, f1, f2, ← htm], .inr ⟨he, rfl⟩, by rw [hsz]; exact hbel6⟩
end Go.Proofs.Ytefoccpgnijamaa
