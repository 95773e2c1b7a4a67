/- line.All: a walk. -/
import Derived.Test.YtepbfgniocjagaaDoorLnN
import Derived.Test.YtepbfgniocjagaaDoorLnS
set_option linter.unusedVariables false
namespace Go.Proofs.YtepbfgniocjagaaDoor
open Go.RowKit Go.Shelf
attribute [local go_sem] Oper.semAt_some
theorem Tryd.infoLn : (Tryd.prog.info? 35).map (fun i => (i.zero, i.size, i.bytes)) = some (some (.agg #[.int .i64 0, .int .i64 0, .string ⟨#[]⟩]), 3, 32) := by kernel_rfl
theorem row_sl {w : World} {B e sz n : Nat} {v : Value} {xs : List Value} (h : w.ownsRow B e sz v n xs) : ∃ A c, v = .slice A n c := by
  rcases h.2 with ⟨rfl, rfl⟩ | ⟨g, cap, cur, rfl, -⟩
  · exact ⟨_, _, rfl⟩
  · exact ⟨_, _, rfl⟩
/-- Both boxes, stored. -/
theorem rst2 {W : World} {s : Nat} {t t' : TypeId} {a b c : Value} (h1 : Blk W s t #[a]) (h2 : Blk W (s + 1) t' #[b, c]) (x y z : Value) :
    ∃ W9, W9 = ((W.setCell ⟨s, 0, none⟩ x).setCell ⟨s + 1, 0, none⟩ y).setCell ⟨s + 1, 1, none⟩ z ∧ Blk W9 s t #[x] ∧ Blk W9 (s + 1) t' #[y, z] ∧ Chg (fun q => q = s ∨ q = s + 1) W W9 := by
  refine ⟨_, rfl, ?_, ?_, ?_⟩
  · have := ((h1.set_ 0 x).far (p := ⟨s + 1, 0, none⟩) (by show ¬ s = s + 1; omega) y).far (p := ⟨s + 1, 1, none⟩) (by show ¬ s = s + 1; omega) z
    simpa using this
  · have := ((h2.far (p := ⟨s, 0, none⟩) (by show ¬ s + 1 = s; omega) x).set_ 0 y).set_ 1 z
    simpa using this
  · exact (((Chg.refl _ W).set_ (.inl (.inl rfl)) 0 x).set_ (.inl (.inr rfl)) 0 y).set_ (.inl (.inr rfl)) 1 z
/-- What holds between two rounds. -/
structure LI (s p : Nat) (w : World) (sv : ByteArray) (l : List (Nat × Nat × List UInt8)) (W : World) : Prop where
  r1 : Blk W s 31 #[.slice none 0 0]
  r2 : Blk W (s + 1) 28 #[.int .i64 0, .int .i64 0]
  ob : ∃ vv, Blk W p 31 #[vv] ∧ W.ownsRow (p + 4) 35 3 vv l.length (l.flatMap lcC)
  bx : Blk W (p + 1) 9 #[.string sv]
  bel : Below s w W
theorem LI.keep {s p : Nat} {w W W' : World} {sv : ByteArray} {l : List (Nat × Nat × List UInt8)} {S : Nat → Prop} (h : LI s p w sv l W) (hp : s + 2 ≤ p) (hc : Chg S W W') (hS : ∀ q, S q → p + 2 ≤ q ∧ q < p + 4) : LI s p w sv l W' := by
  obtain ⟨r1, r2, ⟨vv, o1, o2⟩, bx, bel⟩ := h
  have hs := r1.lt
  exact ⟨hc.blk r1 (fun hx => by have := hS _ hx; omega), hc.blk r2 (fun hx => by have := hS _ hx; omega), ⟨vv, hc.blk o1 (fun hx => by have := hS _ hx; omega), own_chgS o2 hc (fun g hg hx => by have := hS _ hx; have := (o2.lt g hg).1; omega)⟩, hc.blk bx (fun hx => by have := hS _ hx; omega), bel.trans (hc.below (B := s) (fun x hx => by have := hS x hx; omega) (by omega))⟩
/-- What holds where a line was no line. -/
structure LX (s : Nat) (w : World) (j : Nat) (W : World) : Prop where
  r1 : Blk W s 31 #[.slice none 0 0]
  r2 : Blk W (s + 1) 28 #[.int .i64 3, .int .i64 ((j + 1 : Nat) : Int)]
  bel : Below s w W
theorem LX.keep {s j : Nat} {w W W' : World} {S : Nat → Prop} (h : LX s w j W) (hc : Chg S W W') (hS : ∀ q, S q → s + 2 ≤ q) : LX s w j W' := by
  obtain ⟨r1, r2, bel⟩ := h
  have hs := r1.lt
  exact ⟨hc.blk r1 (fun hx => by have := hS _ hx; omega), hc.blk r2 (fun hx => by have := hS _ hx; omega), bel.trans (hc.below (B := s) (fun x hx => by have := hS x hx; omega) (by omega))⟩
/-- What All answers. -/
def LAR (w : World) (bs : List UInt8) (e : Ending) (w' : World) : Prop :=
  ∃ A c, e = .returned (.tuple #[.slice A (allL bs).1.length c, .agg #[.int .i64 (allL bs).2.1, .int .i64 (allL bs).2.2]]) ∧ w'.ownsRow w.heap.size 35 3 (.slice A (allL bs).1.length c) (allL bs).1.length ((allL bs).1.flatMap lcC) ∧ Below w.heap.size w w'
theorem atLn_le (bs : List UInt8) (j : Nat) : (atLn bs j).length ≤ bs.length := by
  unfold atLn
  rw [List.getD_eq_getElem?_getD]
  by_cases h : j < (lnsL bs).length
  · rw [List.getElem?_eq_getElem h]
    show ((lnsL bs)[j]).length ≤ _
    rw [← lft_at bs j h]
    have := lnA_le (lft bs j); have := lft_le bs j; omega
  · rw [List.getElem?_eq_none (by omega)]; simp
theorem LAR_of {w w' : World} {bs : List UInt8} {e : Ending} {rows : List (Nat × Nat × List UInt8)} {er at' : Int} (h : allL bs = (rows, er, at')) (A : Option Addr) (c : Nat) (he : e = .returned (.tuple #[.slice A rows.length c, .agg #[.int .i64 er, .int .i64 at']]))
    (hr : w'.ownsRow w.heap.size 35 3 (.slice A rows.length c) rows.length (rows.flatMap lcC)) (hb : Below w.heap.size w w') : LAR w bs e w' := by
  unfold LAR; rw [h]; exact ⟨A, c, he, hr, hb⟩
set_option maxRecDepth 100000 in
set_option maxHeartbeats 4000000 in
theorem lall_in (m : Nat) (hm : 6 ≤ m) (s0 : ByteArray) (bs : List UInt8) (w : World) (hs : s0.data.toList = bs) (hl : bs.length ≤ 1000000) :
    CallsIn Fence.wide m Tryd.prog 11 #[.string s0] w (LAR w bs) := by
  obtain ⟨i0, hi, hz0, hz1, hz2⟩ := info_parts Tryd.infoLn
  obtain ⟨s, hsz⟩ : ∃ s, w.heap.size = s := ⟨_, rfl⟩
  obtain ⟨Q, hQ⟩ : ∃ Q, Q = LAR w bs := ⟨_, rfl⟩
  rw [← hQ]
  have hsize : s0.size = bs.length := by rw [Lib.size_eq, hs]
  have hlong : ¬ 1048576 < (bs.length : Int) := by omega
  have hfi := fun W => first_any s0 bs W hs (by omega)
  have HF := hid hfi
  have HQ := hid hQ
  have HS := hid hs
  clear hfi hQ hs
  have hk1 := (Blk.new w 31 #[.slice none 0 0]).alloc (.cells #[.int .i64 0, .int .i64 0] 28)
  have hk2 := Blk.new (w.alloc (.cells #[.slice none 0 0] 31)) 28 #[.int .i64 0, .int .i64 0]
  have hb0 := bw_a (bw_a (Below.refl _ w) (.cells #[.slice none 0 0] 31)) (.cells #[.int .i64 0, .int .i64 0] 28)
  rw [World.size_alloc] at hk2
  rw [hsz] at hk1 hk2
  have h1 : 1 ≤ m := by omega
  have HK1 := hid hk1
  have HK2 := hid hk2
  have HB0 := hid hb0
  clear hk1 hk2 hb0
  refine callsIn_of_wp_marks Tryd.func11 rfl trivial ?_ rfl
  simp only [Tryd.ntmps11, List.size_toArray, List.length_cons, List.length_nil, Nat.reduceAdd, Nat.reduceSub, Array.replicate_succ, Array.replicate_zero, List.push_toArray, List.append_toArray, List.nil_append, List.cons_append]
  cases hsc : (scan bs 0).2 with
  | some k =>
    have hkl := spot_lt hsc
    have hal := allL_utf hsc
    have hct := fun W => lcount_any (s0.extract 0 (k + 1)) (bs.take (k + 1)) W (ext_take s0 bs (k + 1) HS.out) (by rw [List.length_take]; omega)
    rw [hsc] at HF
    have HAL := hid hal
    have HCT := hid hct
    clear hct hal hsc
    generalize cntL (bs.take (k + 1)) = cn at *
    generalize bs.length = n at *
    have hw : IntKind.i64.wrap ((k : Int) + 1) = (k : Int) + 1 := IntWalk.i64_in _ (by omega)
    have hw2 : ((k : Int) + 1).toNat = k + 1 := by omega
    have hk1 : 0 ≤ (k : Int) + 1 := by omega
    have hk2 : (k : Int) + 1 ≤ (n : Int) := by omega
    have hk3 : ¬ (n : Int) < (k : Int) + 1 := by omega
    gi_wp2
    refine ⟨trivial, ?_⟩
    refine ((callsIn_wide (n := m - 1)).2 (HF.out _)).mono ?_
    rintro e w3 ⟨rfl, hb3⟩
    have r1 := HK1.out.below hb3 HK1.out.lt
    have r2 := HK2.out.below hb3 HK2.out.lt
    have hb4 := bw_t HB0.out hb3
    have c1 := r1.cell 0
    have c2 := r2.cell 0
    have c3 := r2.cell 1
    have f1 := r1.frozen 0
    have f2 := r2.frozen 0
    have f3 := r2.frozen 1
    simp only [List.getElem?_toArray, List.getElem?_cons_zero, List.getElem?_cons_succ] at c1 c2 c3
    have R1 := hid r1
    have R2 := hid r2
    have HB4 := hid hb4
    clear r1 r2 hb3 hb4
    simp only [placeI]
    gi_wp2
    refine ⟨trivial, ?_⟩
    refine ((callsIn_wide (n := m - 1)).2 (HCT.out _)).mono ?_
    rintro e w4 ⟨rfl, rfl⟩
    gi_wp2
    obtain ⟨W9, hW9, q1, q2, hC⟩ := rst2 R1.out R2.out (.slice none 0 0) (.int .i64 9) (.int .i64 (cn : Int))
    rw [← hW9]
    clear hW9
    have x0 := q1.cell 0
    have y0 := q2.cell 0
    have y1 := q2.cell 1
    simp only [List.getElem?_toArray, List.getElem?_cons_zero, List.getElem?_cons_succ] at x0 y0 y1
    refine ⟨.tuple #[.slice none 0 0, .agg #[.int .i64 9, .int .i64 (cn : Int)]], by simp [results, Tryd.results11, go_sem, x0, y0, y1], ?_⟩
    rw [HQ.out]
    exact LAR_of HAL.out none 0 rfl (World.ownsRow_nil _ _ _ _) (HB4.out.trans (hC.below (fun q hq => by omega) (by have := HB4.out.size; omega)))
  | none =>
    have hdt := fun h => allL_ok (bs := bs) hsc h
    have hdn := fun j h1 h2 h3 => allL_dirt (bs := bs) (j := j) hsc h1 h2 h3
    rw [hsc] at HF
    have HDT := hid hdt
    have HDN := hid hdn
    clear hdt hdn hsc
    gi_wp2
    refine ⟨trivial, ?_⟩
    refine ((callsIn_wide (n := m - 1)).2 (HF.out _)).mono ?_
    rintro e w3 ⟨rfl, hb3⟩
    have r1 := HK1.out.below hb3 HK1.out.lt
    have r2 := HK2.out.below hb3 HK2.out.lt
    have hb4 := bw_t HB0.out hb3
    obtain ⟨p, hp⟩ : ∃ p, w3.heap.size = p := ⟨_, rfl⟩
    have hps : s + 2 ≤ p := by have := r2.lt; omega
    have R1 := hid r1
    have R2 := hid r2
    have HB4 := hid hb4
    clear r1 r2 hb3 hb4
    simp only [placeI]
    gi_wp2
    refine ⟨trivial, ?_⟩
    refine (lines_in (m - 1) _ _).mono ?_
    rintro e w' ⟨rfl, rfl⟩
    gi_wp2
    have hz : ((w3.alloc (.cells #[.slice none 0 0] 31)).alloc (.cells #[.string s0] 9)).heap.size = p + 2 := by simp only [World.size_alloc, hp]
    have hli : LI s p w s0 [] ((w3.alloc (.cells #[.slice none 0 0] 31)).alloc (.cells #[.string s0] 9)) := by
      refine ⟨(R1.out.alloc _).alloc _, (R2.out.alloc _).alloc _, ⟨.slice none 0 0, ?_, World.ownsRow_nil _ _ _ _⟩, ?_, ?_⟩
      · have := (Blk.new w3 31 #[.slice none 0 0]).alloc (.cells #[.string s0] 9); rw [hp] at this; exact this
      · have := Blk.new (w3.alloc (.cells #[.slice none 0 0] 31)) 9 #[.string s0]; rw [World.size_alloc, hp] at this; exact this
      · have := bw_a (bw_a HB4.out (.cells #[.slice none 0 0] 31)) (.cells #[.string s0] 9)
        rw [hsz] at this
        exact this
    have hpi : (w3.alloc (.cells #[.slice none 0 0] 31)).heap.size = p + 1 := by simp only [World.size_alloc, hp]
    generalize ((w3.alloc (.cells #[.slice none 0 0] 31)).alloc (.cells #[.string s0] 9)) = W0 at *
    have HLI := hid hli
    have HZ := hid hz
    have hlb : (lnsL bs).length ≤ 1000001 := by have := cntL_le bs; have := cntL_spl bs.length bs (Nat.le_refl _); omega
    clear hz hli R1 R2 HB4 HF HK1 HK2 HB0
    refine range_wide m (by omega) (p + 2) HZ.out (gf := 47) (lb := #[.pointer (some ⟨p + 1, 0, none⟩)]) rfl (enters_of Tryd.func47 (by kernel_rfl) rfl) (lnsL bs).length (lnV bs) (fun _ => rfl) 0
      (fun j W' => (∀ i, i < j → dirtyL (atLn bs i) = false) ∧ LI s p w s0 (acR bs j) W') (fun c W' => c = .ret ∧ ∃ j, j < (lnsL bs).length ∧ dirtyL (atLn bs j) = true ∧ (∀ i, i < j → dirtyL (atLn bs i) = false) ∧ LX s w j W') ?_ ?_ ?_ ?_ ?_ ?_ ?_
    · rintro j W1 W2 ⟨g1, g2⟩ hc
      exact ⟨g1, g2.keep hps hc (fun q hq => by omega)⟩
    · rintro c W1 W2 ⟨g1, j, g2, g3, g4, g5⟩ hc
      exact ⟨g1, j, g2, g3, g4, g5.keep hc (fun q hq => by omega)⟩
    · exact ⟨fun i hi => absurd hi (Nat.not_lt_zero _), HLI.out⟩
    · intro l2 J2 Jx2 W1 hw1 hJI hJn2 _ hJ0 hy
      refine lines1_in (m - 1) (by omega) l2 (p + 1) s0 bs HS.out (by omega) J2 Jx2 (fun j W h => by have := (hJI j W h).1.2.bx.cell 0; simpa using this) (fun j W W' h hc => hJn2 j W W' h (hc.mono fun q _ hq => hq.elim)) (fun j W hj h => ?_) W1 hJ0
      obtain ⟨fn, tm, as1, bd, e1, e2⟩ := hy j W hj h (hJI j W h).2
      refine ⟨fn, tm, as1, bd, e1, e2.mono ?_⟩
      rintro e W' (⟨g1, g2, -⟩ | ⟨g1, g2, -⟩)
      · exact .inl ⟨g1, g2⟩
      · exact .inr ⟨g1, g2⟩
    · rintro l2 j W1 hj ⟨hno, hli⟩ hsz1
      have hm3 : 1 ≤ m - 1 - 1 := by omega
      have hrl := acR_len bs j
      have hnx : dirtyL (atLn bs j) = false → ∀ W', LI s p w s0 (acR bs j ++ lnOne (j + 1) (atLn bs j)) W' → (∀ i, i < j + 1 → dirtyL (atLn bs i) = false) ∧ LI s p w s0 (acR bs (j + 1)) W' := fun h0 W' h => ⟨fun i hi => by
        rcases Nat.lt_or_ge i j with hlt | hge
        · exact hno i hlt
        · obtain rfl : i = j := by omega
          exact h0, h⟩
      have hst : ∀ W', dirtyL (atLn bs j) = true → LX s w j W' → (∃ j, j < (lnsL bs).length ∧ dirtyL (atLn bs j) = true ∧ (∀ i, i < j → dirtyL (atLn bs i) = false) ∧ LX s w j W') := fun W' hd h => ⟨j, hj, hd, hno, h⟩
      have hjl : j ≤ 1000001 := by omega
      unfold lnV
      rw [show (lnsL bs).getD j [] = atLn bs j from rfl, show ((j + 1 : Nat) : Int) = (j : Int) + 1 from by omega]
      have HLI1 := hid hli
      have HNX := hid hnx
      have HST := hid hst
      clear hnx hst hli hno hj
      gi_wp2
      refine ⟨KN.refl _ _ _, by omega, fun W2 hc2 => ?_⟩
      have hli2 := HLI1.out.keep hps hc2 (fun q hq => by omega)
      have hsz2 := hc2.size
      have hL : (⟨(atLn bs j).toArray⟩ : ByteArray).data.toList = atLn bs j := by simp
      have hLl : (atLn bs j).length ≤ 1000000 := by have := atLn_le bs j; omega
      have hcl := fun W => clean_any ⟨(atLn bs j).toArray⟩ (atLn bs j) W hL (by omega)
      have hstp := fun W => strip_any ⟨(atLn bs j).toArray⟩ (atLn bs j) W hL (by omega)
      have hkl := stripL_le (atLn bs j)
      have htl := fun (t : ByteArray) (ht : t.data.toList = stripL (atLn bs j)) W => trimL_any t (stripL (atLn bs j)) W ht (by omega)
      rw [show ((atLn bs j).any fun c => hidN c.toNat) = dirtyL (atLn bs j) from rfl] at hcl
      obtain ⟨r1, r2, ⟨vv, o1, o2⟩, bx, bel⟩ := hli2
      have c1 := r1.cell 0
      have c2 := r2.cell 0
      have c3 := r2.cell 1
      have c4 := o1.cell 0
      have f1 := r1.frozen 0
      have f2 := r2.frozen 0
      have f3 := r2.frozen 1
      have f4 := o1.frozen 0
      simp only [List.getElem?_toArray, List.getElem?_cons_zero, List.getElem?_cons_succ] at c1 c2 c3 c4
      have HCL := hid hcl
      have HSTP := hid hstp
      have HTL := hid htl
      have R1 := hid r1
      have R2 := hid r2
      have O1 := hid o1
      have O2 := hid o2
      have BX := hid bx
      have BEL := hid bel
      clear hcl hstp htl r1 r2 o1 o2 bx bel hc2 HLI1 hL
      generalize atLn bs j = L at *
      by_cases hd : dirtyL L = true
      · rw [hd] at HCL
        gi_wp2
        refine ⟨trivial, ?_⟩
        refine (CallsIn.inRound l2 ((callsIn_wide (n := m - 1 - 1 - 1)).2 (HCL.out _))).mono ?_
        rintro e w4 ⟨rfl, rfl⟩
        gi_wp2
        obtain ⟨W9, hW9, q1, q2, hC⟩ := rst2 R1.out R2.out (.slice none 0 0) (.int .i64 3) (.int .i64 ((j : Int) + 1))
        rw [← hW9]
        clear hW9
        exact ⟨KN.of_chg hC (by omega) (fun q g1 g2 h => by omega), rfl, HST.out _ hd ⟨q1, by rw [show ((j + 1 : Nat) : Int) = (j : Int) + 1 from by omega]; exact q2, BEL.out.trans (hC.below (B := s) (fun q hq => by omega) (by have := BEL.out.size; omega))⟩⟩
      · have hd0 : dirtyL L = false := by simpa using hd
        have hnx := HNX.out hd0
        rw [hd0] at HCL
        by_cases hk : stripL L = []
        · rw [lnOne_none hk, List.append_nil] at hnx
          rw [hk] at HSTP
          have HNX2 := hid hnx
          clear hnx HNX HST hd hd0 HTL hkl hk
          gi_wp2
          refine ⟨trivial, ?_⟩
          refine (CallsIn.inRound l2 ((callsIn_wide (n := m - 1 - 1 - 1)).2 (HCL.out _))).mono ?_
          rintro e w4 ⟨rfl, rfl⟩
          gi_wp2
          refine ⟨trivial, ?_⟩
          refine (CallsIn.inRound l2 ((callsIn_wide (n := m - 1 - 1 - 1)).2 (HSTP.out _))).mono ?_
          rintro e w5 ⟨t, rfl, ht, rfl⟩
          obtain rfl := str_nil ht
          clear ht
          gi_wp2
          exact ⟨KN.refl _ _ _, HNX2.out _ ⟨R1.out, R2.out, ⟨vv, O1.out, O2.out⟩, BX.out, BEL.out⟩⟩
        · obtain ⟨ch, rh, hk'⟩ : ∃ c r, stripL L = c :: r := by
            cases h : stripL L with
            | nil => exact absurd h hk
            | cons c r => exact ⟨c, r, rfl⟩
          have hbl := tlB_le (stripL L)
          rw [lnOne_some hk] at hnx
          have HNX2 := hid hnx
          have HK' := hid hk'
          clear hnx HNX HST hd hd0 hk hk'
          gi_wp2
          refine ⟨trivial, ?_⟩
          refine (CallsIn.inRound l2 ((callsIn_wide (n := m - 1 - 1 - 1)).2 (HCL.out _))).mono ?_
          rintro e w4 ⟨rfl, rfl⟩
          gi_wp2
          refine ⟨trivial, ?_⟩
          refine (CallsIn.inRound l2 ((callsIn_wide (n := m - 1 - 1 - 1)).2 (HSTP.out _))).mono ?_
          rintro e w5 ⟨t, rfl, ht, rfl⟩
          obtain ⟨h0, h0'⟩ := str_ne0 (ht.trans HK'.out)
          have htz : t.size = (stripL L).length := by rw [Lib.size_eq, ht]
          have htl := fun W => HTL.out t ht W
          have HT := hid htl
          clear ht htl HTL HK'
          gi_wp2
          refine ⟨trivial, ?_⟩
          refine (CallsIn.inRound l2 ((callsIn_wide (n := m - 1 - 1 - 1)).2 (HT.out _))).mono ?_
          rintro e w6 ⟨u, rfl, hu, rfl⟩
          have huz : u.size = (tlB (stripL L)).length := by rw [Lib.size_eq, hu]
          have hum := str_mk u _ hu
          have HUM := hid hum
          clear hu hum HT HCL HSTP
          generalize (stripL L).length = a at *
          generalize (tlB (stripL L)).length = b at *
          have hw : IntKind.i64.wrap ((a : Int) - (b : Int)) = (a : Int) - (b : Int) := IntWalk.i64_in _ (by omega)
          have hab : ((a - b : Nat) : Int) = (a : Int) - (b : Int) := by omega
          have HAB := hid hab
          clear hab
          have HO := hid (own_below O2.out (bw_a (Below.refl _ W2) (.cells #[.int .i64 ((j : Int) + 1), .int .i64 ((a : Int) - (b : Int)), .string u] 35)))
          have HRD := hid (Rd.new W2 35 #[.int .i64 ((j : Int) + 1), .int .i64 ((a : Int) - (b : Int)), .string u])
          gi_wp2_with (gi_at_builtin; refine wpListIn_append_rd _ rfl _ _ 31 rfl (p + 4) 35 i0 (.agg #[.int .i64 0, .int .i64 0, .string ⟨#[]⟩]) 3 32 Tryd.underlying31 hi hz0 hz1 hz2 rfl (by decide) vv (acR bs j).length ((acR bs j).flatMap lcC) rfl HO.out ⟨W2.heap.size, 0, none⟩ 1 1 [.int .i64 ((j : Int) + 1), .int .i64 ((a : Int) - (b : Int)), .string u] rfl rfl HRD.out (by simp [Value.oneCell']) (by simp only [maxLen]; omega) (by omega) (by rw [World.size_alloc]; omega) ?_; intro v'' w4 hown' hgrow; obtain ⟨A', c', rfl⟩ := row_sl hown'; have HOW := hid hown'; have HGR := hid hgrow; have hvv : some p ≠ vv.ownBlock := (fun e => by have := (O2.out.lt _ e.symm).1; omega); have hkw := (hgrow.block p (by rw [World.size_alloc]; have := O1.out.lt; omega) hvv).trans (O1.out.alloc _); have hc4 := Blk.cell hkw 0; have hf4 := Blk.frozen hkw 0; simp only [List.getElem?_toArray, List.getElem?_cons_zero] at hc4; have HKW := hid hkw; clear hown' hgrow hkw)
          have hcg : Chg (fun q => q = p ∨ some q = vv.ownBlock) W2 (w4.setCell ⟨p, 0, none⟩ (.slice A' ((acR bs j).length + 1) c')) := (((Chg.refl _ W2).alloc _).trans (Chg.of_grown HGR.out (fun g e => .inr e.symm))).set_ (.inl (.inl rfl)) 0 (.slice A' ((acR bs j).length + 1) c')
          have hvb : ∀ q, some q = vv.ownBlock → p + 4 ≤ q := fun q e => (O2.out.lt q e.symm).1
          have hS : ∀ q, (q = p ∨ some q = vv.ownBlock) → q = p ∨ p + 4 ≤ q := fun q h => h.imp_right (hvb q)
          refine ⟨KN.of_chg hcg (by omega) (fun q g1 g2 h => by have := hS q h; omega), HNX2.out _ ⟨hcg.blk R1.out (fun h => by have := hS _ h; omega), hcg.blk R2.out (fun h => by have := hS _ h; omega), ⟨.slice A' ((acR bs j).length + 1) c', ?_, ?_⟩, hcg.blk BX.out (fun h => by have := hS _ h; omega), BEL.out.trans (hcg.below (B := s) (fun q hq => by have := hS q hq; omega) (by have := BEL.out.size; omega))⟩⟩
          · have := Blk.set_ HKW.out 0 (.slice A' ((acR bs j).length + 1) c'); exact this
          · have h5 := own_chgS HOW.out ((Chg.refl (fun q => q = p) w4).set_ (.inl rfl) 0 (.slice A' ((acR bs j).length + 1) c')) (fun g hg h => by have := (HOW.out.lt g hg).1; omega)
            rw [List.length_append, List.flatMap_append, List.flatMap_cons, List.flatMap_nil, List.append_nil]
            unfold lcC
            unfold lcC at h5
            simp only
            rw [HAB.out, show ((j + 1 : Nat) : Int) = (j : Int) + 1 from by omega, ← HUM.out]
            exact h5
    · rintro W1 ⟨hno, hli⟩ hd
      obtain ⟨r1, r2, ⟨vv, o1, o2⟩, bx, bel⟩ := hli
      obtain ⟨A', c', rfl⟩ := row_sl o2
      have hal := HDT.out hno
      have c1 := r1.cell 0
      have c2 := r2.cell 0
      have c3 := r2.cell 1
      have c4 := o1.cell 0
      have f1 := r1.frozen 0
      have f2 := r2.frozen 0
      have f3 := r2.frozen 1
      simp only [List.getElem?_toArray, List.getElem?_cons_zero, List.getElem?_cons_succ] at c1 c2 c3 c4
      have hzd := (Array.getElem?_eq_some_iff.1 hd).1
      have R1 := hid r1
      have R2 := hid r2
      have O2 := hid o2
      have BEL := hid bel
      have HD1 := hid hd
      have HAL := hid hal
      clear r1 r2 o1 o2 bx bel hd hno hal
      generalize acR bs (lnsL bs).length = X at *
      gi_wp2
      obtain ⟨W9, hW9, q1, q2, hC⟩ := rst2 R1.out R2.out (.slice A' X.length c') (.int .i64 0) (.int .i64 0)
      rw [← hW9]
      clear hW9
      have hd9 := (hC.block (p + 2) hzd (by omega)).trans HD1.out
      have hM : Marks (p + 2) W9 [p + 2] := (Marks.nil_ _ _).cons_ (Nat.le_refl _) (by simp) hd9
      refine leaves_marks (p + 2) [p + 2] W9 hM fun W6 h6 => ?_
      have k1 := h6.blk q1 (by simp; omega)
      have k2 := h6.blk q2 (by simp; omega)
      have x0 := k1.cell 0
      have y0 := k2.cell 0
      have y1 := k2.cell 1
      simp only [List.getElem?_toArray, List.getElem?_cons_zero, List.getElem?_cons_succ] at x0 y0 y1
      refine ⟨.tuple #[.slice A' X.length c', .agg #[.int .i64 0, .int .i64 0]], by simp [results, Tryd.results11, go_sem, x0, y0, y1], ?_⟩
      rw [HQ.out]
      have hb6 := (BEL.out.trans (hC.below (B := s) (fun q hq => by omega) (by have := BEL.out.size; omega))).trans (h6.below (B := s) (fun q hq => by simp at hq; omega) (by have := hC.size; have := BEL.out.size; omega))
      refine LAR_of HAL.out A' c' rfl (own_mono (base := p + 4) (own_chgS (own_chgS O2.out hC (fun g hg h => by have := (O2.out.lt g hg).1; omega)) h6 (fun g hg h => by have := (O2.out.lt g hg).1; simp at h; omega)) (by omega)) (by rw [hsz]; exact hb6)
    · rintro c W1 ⟨rfl, j, hj, hdj, hno, hX⟩ hd
      have hal := HDN.out j hj hdj hno
      gi_wp2
      have hM : Marks (p + 2) W1 [p + 2] := (Marks.nil_ _ _).cons_ (Nat.le_refl _) (by simp) hd
      refine leaves_marks (p + 2) [p + 2] W1 hM fun W6 h6 => ?_
      have h7 := hX.keep h6 (fun q hq => by simp at hq; omega)
      have x0 := h7.r1.cell 0
      have y0 := h7.r2.cell 0
      have y1 := h7.r2.cell 1
      simp only [List.getElem?_toArray, List.getElem?_cons_zero, List.getElem?_cons_succ] at x0 y0 y1
      refine ⟨.tuple #[.slice none 0 0, .agg #[.int .i64 3, .int .i64 ((j + 1 : Nat) : Int)]], by simp [results, Tryd.results11, go_sem, x0, y0, y1], ?_⟩
      rw [HQ.out]
      exact LAR_of hal none 0 rfl (World.ownsRow_nil _ _ _ _) (by rw [hsz]; exact h7.bel)
theorem lall_any (s0 : ByteArray) (bs : List UInt8) (w : World) (hs : s0.data.toList = bs) (hl : bs.length ≤ 1000000) :
    Calls Tryd.prog 11 #[.string s0] w (LAR w bs) := (callsIn_wide (n := 8)).1 (lall_in 8 (by omega) s0 bs w hs hl)
end Go.Proofs.YtepbfgniocjagaaDoor
