/- Names: behind which steps each one comes: a walk. -/
import Derived.Test.YtejdlhjbakndaaaNmS
import Derived.Test.YtejdlhjbakndaaaRwO
import Derived.Test.YtejdlhjbakndaaaRg
import Derived.Laws.OwnMore
set_option linter.unusedVariables false
namespace Go.Proofs.Ytejdlhjbakndaaa
open Go.RowKit
attribute [local go_sem] Oper.semAt_some
theorem Try.infoI25 : (Try.prog.info? 3).map (fun i => (i.zero, i.size, i.bytes)) = some (some (.int .i64 0), 1, 8) := by kernel_rfl
theorem Try.infoR25 : (Try.prog.info? 37).map (fun i => (i.zero, i.size, i.bytes)) = some (some (.slice none 0 0), 1, 24) := by kernel_rfl
theorem own_blk_ne25 {w : World} {B e s n q : Nat} {t : TypeId} {v : Value} {xs : List Value} {cs : Array Value} (h : w.ownsRow B e s v n xs) (hb : Blk w q t cs) (hne : t ≠ e) : v.ownBlock ≠ some q := by
  rcases h.2 with ⟨rfl, _⟩ | ⟨g, c, cur, rfl, _, hg, _⟩
  · simp [Value.ownBlock]
  · intro he
    have hgq : g = q := by simpa [Value.ownBlock] using he
    subst hgq
    rw [show w.heap[g]? = _ from hb] at hg
    injection hg with hg
    injection hg with _ ht
    exact hne ht
namespace Nm
theorem rfAdd_len (N : List ByteArray) (i : Nat) (acc : List Nat) (s : ByteArray) : (rfAdd N i acc s).length ≤ acc.length + 1 := by unfold rfAdd; split <;> simp
theorem rfFold_len (N : List ByteArray) (i : Nat) : ∀ (l : List ByteArray) (acc : List Nat), (l.foldl (rfAdd N i) acc).length ≤ acc.length + l.length
  | [], acc => by simp
  | x :: l, acc => by
    have h := rfFold_len N i l (rfAdd N i acc x)
    have h2 := rfAdd_len N i acc x
    simp only [List.foldl_cons, List.length_cons] at *
    omega
theorem rfF_small (N : List ByteArray) (X : List StV) (j i : Nat) (h : i < (rfF N X j).length) : (rfF N X j)[i].length ≤ j := by
  have hi : i < X.length := by rw [rfF_len] at h; exact h
  rw [rfF_at N X j i hi]
  have h1 := rfFold_len N i (ahd X j i) []
  have h2 : (ahd X j i).length ≤ j := by
    unfold ahd
    rw [List.length_map]
    refine Nat.le_trans (List.length_filter_le _ _) ?_
    rw [List.length_take]; omega
  unfold rfRow
  simp at h1
  omega
end Nm
theorem made_none (n : Nat) : (madeCells (Value.slice none 0 0).cells (n * 1)).toList = List.replicate n (.slice none 0 0) := by
  rw [Nat.mul_one]; exact toList_madeCells_one _ _
theorem lookup_at {F : Fence} {nF : Nat} {H : Type} {P : Program} (w : World) {ops : Array Oper} {rest : List Oper} {o : Oper} {a : Act} {Q : Exit → Act → World → Prop}
    (hg : o.guard = none) (m x : Operand) (t : TypeId) (hop : o.op = Op.lookup t m x true)
    (k e : TypeId) (q : IntKind) (K : Maps.Keyed P k) (ht : P.underlying t = some (.map k e)) (he : P.underlying e = some (.int q)) (hz : (zeroValue e).run P w = .ok (.int q 0) w) (b n : Nat) (D : DataW H)
    (hm : a.eval m = .map (some b)) (hown : w.ownsMap P k (plainElem P e) b n D) (key : Value) (kl : Lit) (hx : a.eval x = key) (hkey : keyOf P k key = some kl) (c : Int) (hb : Maps.has D kl = true) (hat : D.atKey kl (.lit (.int q 0)) = .lit (.int q c))
    (hK : wpListIn F nF P ops Q rest (a.put o.dst (.tuple #[.int q c, .bool true])) w) :
    wpListIn F nF P ops Q (o :: rest) a w := by
  refine wpListIn_lookup_own_ok_int w hg m x t hop k e q K ht he hz b n D hm hown key kl hx hkey ?_
  intro c' h _
  rw [hat] at h
  injection h with h
  injection h with _ h
  subst h
  rw [hb]
  exact hK
/-- What holds between two rounds. -/
structure RfI (s p : Nat) (w : World) (D : DfV) (R : List (List Nat)) (W : World) : Prop where
  ob : Blk W (s + 2) 32 #[.slice (some ⟨s + 1, 0, none⟩) D.st.xs.length D.st.xs.length]
  rw_ : ∃ vs, W.ownsRow (s + 1) 37 1 (.slice (some ⟨s + 1, 0, none⟩) D.st.xs.length D.st.xs.length) D.st.xs.length vs ∧ RwO W (p + 5) vs R
  mb : Blk W p 55 #[.map (some (s + 4))]
  mp : ∃ Mp, W.ownsMap Try.prog 9 (plainElem (H := Unit) Try.prog 3) (s + 4) D.st.xs.length Mp ∧ PlF (nms D.st.xs) Mp
  ib : Blk W (p + 1) 24 #[.string D.nm, .string D.tx, .slice D.st.A D.st.xs.length D.st.c]
  bel : Below s w W
theorem RfI.keep {s p : Nat} {w W W' : World} {D : DfV} {R : List (List Nat)} {S : Nat → Prop} (h : RfI s p w D R W) (hp : s + 5 ≤ p) (hc : Chg S W W') (hS : ∀ q, S q → p + 2 ≤ q ∧ q < p + 5) : RfI s p w D R W' := by
  obtain ⟨o1, ⟨vs, o2, o3⟩, mb, ⟨Mp, m1, m3⟩, ib, bel⟩ := h
  have hs := mb.lt
  exact ⟨hc.blk o1 (fun hx => by have := hS _ hx; omega), ⟨vs, own_chgS o2 hc (fun g hg hx => by have := hS _ hx; simp [Value.ownBlock] at hg; omega), o3.chg hc (fun i g q hq hx => by have := hS _ hx; have := (o3.lt i g q hq).1; omega)⟩, hc.blk mb (fun hx => by have := hS _ hx; omega), ⟨Mp, ownsMap_kn m1 (hc.block _ (by omega) (fun hx => by have := hS _ hx; omega)), m3⟩, hc.blk ib (fun hx => by have := hS _ hx; omega), bel.trans (hc.below (B := s) (fun x hx => by have := hS x hx; omega) (by omega))⟩
def RfR8 (bo q g n i J Bq : Nat) (vi : Value) (L : List Nat) (a0 : Act) (w0 : World) (f : Nat → Bool) (a : Act) (w : World) : Prop := ∃ x0 x1 x2 x3 x4 x5 x6 x7 x8 x9 x10 x11 : Value, a = ((((((((((((a0.put (some 37) x0).put (some 38) x1).put (some 39) x2).put (some 40) x3).put (some 41) x4).put (some 42) x5).put (some 43) x6).put (some 44) x7).put (some 45) x8).put (some 46) x9).put (some 47) x10).put (some 48) x11) ∧ (f 0 = true → x0 = .slice (some ⟨g, 0, none⟩) n n) ∧ (f 1 = true → x1 = .pointer (some ⟨q, 0, none⟩)) ∧ (f 2 = true → x2 = .int .i64 (i : Int)) ∧ (f 3 = true → x3 = .slice (some ⟨g, 0, none⟩) n n) ∧ (f 4 = true → x4 = .pointer (some ⟨q, 0, none⟩)) ∧ (f 5 = true → x5 = .int .i64 (i : Int)) ∧ (f 6 = true → x6 = .pointer (some ⟨g, i, none⟩)) ∧ (f 7 = true → x7 = vi) ∧ (f 8 = true → x8 = .int .i64 (J : Int)) ∧ (f 9 = true → x9 = .slice (some ⟨w0.heap.size, 0, none⟩) 1 1) ∧ (f 11 = true → x11 = .pointer (some ⟨g, i, none⟩)) ∧ ((f 9 = false ∧ f 10 = false ∧ f 12 = false ∧ (w = w0.drew)) ∨ (f 9 = true ∧ f 10 = false ∧ f 12 = false ∧ (w = (w0.alloc (.cells #[.int .i64 (J : Int)] 3)).drew)) ∨ (f 9 = true ∧ f 10 = true ∧ f 12 = false ∧ f 7 = true ∧ ((∃ A c, x10 = .slice A (L.length + 1) c) ∧ w.ownsRow Bq 3 1 x10 (L.length + 1) (L.flatMap nvC ++ [.int .i64 (J : Int)]) ∧ (w0.alloc (.cells #[.int .i64 (J : Int)] 3)).drew.grownBy w vi.ownBlock ∧ (x10.ownBlock = vi.ownBlock ∨ ∀ qq, x10.ownBlock = some qq → w0.heap.size + 1 ≤ qq))) ∨ (f 9 = true ∧ f 10 = true ∧ f 12 = true ∧ f 7 = true ∧ f 0 = true ∧ f 2 = true ∧ f 3 = true ∧ f 5 = true ∧ (∃ w2, ((∃ A c, x10 = .slice A (L.length + 1) c) ∧ w2.ownsRow Bq 3 1 x10 (L.length + 1) (L.flatMap nvC ++ [.int .i64 (J : Int)]) ∧ (w0.alloc (.cells #[.int .i64 (J : Int)] 3)).drew.grownBy w2 vi.ownBlock ∧ (x10.ownBlock = vi.ownBlock ∨ ∀ qq, x10.ownBlock = some qq → w0.heap.size + 1 ≤ qq)) ∧ w = w2.setCell ⟨g, i, none⟩ x10)))
set_option maxRecDepth 100000 in
set_option maxHeartbeats 8000000 in
theorem refs_in (m : Nat) (hm : 6 ≤ m) (D : DfV) (w : World) (hst : StRow w D) (hX : ∀ x ∈ D.st.xs, TxOk w x.af ∧ x.af.xs.length ≤ 70) (hl : D.st.xs.length ≤ 30) (hz : ∀ x ∈ D.st.xs, x.nm.size ≤ maxLen) :
    CallsIn Fence.wide m Try.prog 16 #[.agg #[.string D.nm, .string D.tx, .slice D.st.A D.st.xs.length D.st.c]] w fun e w' => ∃ v, e = .returned v ∧ RwS w' v (Nm.rfAll (nms D.st.xs) 0 D.st.xs) ∧ Below w.heap.size w w' := by
  obtain ⟨i0, hi0, hz0, hz1, hz2⟩ := info_parts Try.infoI25
  obtain ⟨iR, hiR, hzR, hzR1, hzR2⟩ := info_parts Try.infoR25
  obtain ⟨s, hsz⟩ : ∃ s, w.heap.size = s := ⟨_, rfl⟩
  obtain ⟨n, hn⟩ : ∃ n, D.st.xs.length = n := ⟨_, rfl⟩
  obtain ⟨w1, hw1⟩ : ∃ w1, w.alloc (.cells #[.string D.nm, .string D.tx, .slice D.st.A n D.st.c] 24) = w1 := ⟨_, rfl⟩
  have hz1s : w1.heap.size = s + 1 := by rw [← hw1, World.size_alloc, hsz]
  have hmk := run_make (P := Try.prog) w1 32 37 iR (.slice none 0 0) Try.underlying32 hiR hzR .i64 .i64 (n : Int) (n : Int) (by omega) (Int.le_refl _) (by rw [hzR2]; omega) (by omega)
  rw [hzR1, Int.toNat_natCast, hz1s] at hmk
  have hrow := World.ownsRow_lit (base := s + 1) (e := 37) (size := 1) w1 (madeCells (Value.slice none 0 0).cells (n * 1)) n (by omega) (by unfold maxLen; omega) (size_madeCells _ _)
  rw [made_none, hz1s] at hrow
  obtain ⟨w2, hw2⟩ : ∃ w2, w1.alloc (.cells (madeCells (Value.slice none 0 0).cells (n * 1)) 37) = w2 := ⟨_, rfl⟩
  have hb2 : Below s w w2 := by
    have h1 : Below s w w1 := by rw [← hw1]; have := bw_a (Below.refl _ w) (.cells #[.string D.nm, .string D.tx, .slice D.st.A n D.st.c] 24); rw [hsz] at this; exact this
    rw [← hw2]; exact h1.alloc (by omega) _
  have hz2s : w2.heap.size = s + 2 := by rw [← hw2, World.size_alloc, hz1s]
  have hk1 : Blk w2 s 24 #[.string D.nm, .string D.tx, .slice D.st.A n D.st.c] := by
    have h1 := (Blk.new w 24 #[.string D.nm, .string D.tx, .slice D.st.A n D.st.c]); rw [hsz, hw1] at h1; rw [← hw2]; exact h1.alloc _
  rw [hw2] at hmk hrow
  have hc1 : w1.cell? ⟨s, 2, none⟩ = some (.slice D.st.A n D.st.c) := by
    have h1 := (Blk.new w 24 #[.string D.nm, .string D.tx, .slice D.st.A n D.st.c]).cell 2; rw [hsz, hw1] at h1; simpa using h1
  -- the box of what is told
  obtain ⟨w3, hw3⟩ : ∃ w3, w2.alloc (.cells #[.slice (some ⟨s + 1, 0, none⟩) n n] 32) = w3 := ⟨_, rfl⟩
  have hz3s : w3.heap.size = s + 3 := by rw [← hw3, World.size_alloc, hz2s]
  have hb3 : Below s w w3 := by rw [← hw3]; exact hb2.alloc (by omega) _
  have hk2 : Blk w3 s 24 #[.string D.nm, .string D.tx, .slice D.st.A n D.st.c] := by rw [← hw3]; exact hk1.alloc _
  have hk3 : Blk w3 (s + 2) 32 #[.slice (some ⟨s + 1, 0, none⟩) n n] := by have h1 := Blk.new w2 32 #[.slice (some ⟨s + 1, 0, none⟩) n n]; rw [hz2s, hw3] at h1; exact h1
  have hrow3 := hrow.alloc (.cells #[.slice (some ⟨s + 1, 0, none⟩) n n] 32)
  rw [hw3] at hrow3
  have HST := hid (fun W (h : Below s w W) => StRow.below hst (by rw [hsz]; exact h))
  have HTX := hid (fun W (h : Below s w W) x (hx : x ∈ D.st.xs) => (⟨(hX x hx).1.below (by rw [hsz]; exact h), (hX x hx).2⟩ : TxOk W x.af ∧ x.af.xs.length ≤ 70))
  have HT0 := hid hX
  have hpl := places_any D w3 (HST.out w3 hb3) (by omega) hz
  rw [hz3s, hn] at hpl
  have HPL := hid hpl
  have HMN := hid (fun W => mentions_in (m - 1) D W)
  rw [hn] at HMN
  have HN := hid hn
  have HLL := hid (show n ≤ 30 by omega)
  have h1 : 1 ≤ m := by omega
  have c0 := hk2.cell 0
  have c1 := hk2.cell 1
  have c2 := hk2.cell 2
  simp only [List.getElem?_toArray, List.getElem?_cons_zero, List.getElem?_cons_succ] at c0 c1 c2
  rw [← hw3] at c0 c1 c2
  have HZ2 := hid hz2s
  have HK1 := hid hk2
  have HK3 := hid hk3
  have HROW := hid hrow3
  have HB0 := hid hb3
  have HW1 := hid hw1
  have HW2 := hid hw2
  have HW3 := hid hw3
  have HSZ := hid hsz
  have HC1 := hid hc1
  have HMK := hid hmk
  obtain ⟨Q, hQ⟩ : ∃ Q : Ending → World → Prop, Q = fun e w' => ∃ v, e = .returned v ∧ RwS w' v (Nm.rfAll (nms D.st.xs) 0 D.st.xs) ∧ Below s w w' := ⟨_, rfl⟩
  rw [hsz, hn, ← hQ]
  have HQ := hid hQ
  clear hk1 hk2 hk3 hb2 hb3 hw1 hw2 hw3 hQ hX hz hl hn hpl hrow hrow3 hz1s hz2s hz3s hst hc1 hmk
  refine callsIn_of_wp_marks Try.func16 rfl trivial ?_ rfl
  simp only [Try.ntmps16, List.size_toArray, List.length_cons, List.length_nil, Nat.reduceAdd, Nat.reduceSub, Array.replicate_succ, Array.replicate_zero, List.push_toArray, List.append_toArray, List.nil_append, List.cons_append]
  have hw1' := HW1.out
  have hmk' := HMK.out
  have hc1' := HC1.out
  have hz2' := HZ2.out
  gi_wp2
  rw [HW3.out]
  refine ⟨trivial, ?_⟩
  refine ((callsIn_wide (n := m - 1)).2 HPL.out).mono ?_
  rintro e w4 ⟨Mp, rfl, hmp, hpf, hb4, hz4⟩
  obtain ⟨p, hp⟩ : ∃ p, w4.heap.size = p := ⟨_, rfl⟩
  rw [show s + 3 + 1 = s + 4 by omega] at hmp ⊢
  have r1 := HK1.out.below hb4 (by omega)
  have r2 := HK3.out.below hb4 (by omega)
  have r3 := own_chgS HROW.out (Chg.of_below (S := fun q => s + 3 ≤ q) hb4 (fun k _ h => by omega)) (fun g hg h => by simp [Value.ownBlock] at hg; omega)
  have hb5 := HB0.out.trans (hb4.mono (by omega) : Below s w3 w4)
  clear c0 c1 c2
  have r4 := r1.alloc (.cells #[.map (some (s + 4))] 55)
  have c0 := r4.cell 0
  have c1 := r4.cell 1
  have c2 := r4.cell 2
  simp only [List.getElem?_toArray, List.getElem?_cons_zero, List.getElem?_cons_succ] at c0 c1 c2
  have R1 := hid r1
  have R2 := hid r2
  have R3 := hid r3
  have HB4 := hid hb5
  have HMP := hid hmp
  have HPF := hid hpf
  have HP := hid hp
  have HZ3 := hid (show s + 5 ≤ p by omega)
  clear r1 r2 r3 r4 hb4 hb5 hmp hpf hz4 hp hw1' hmk' hc1' hz2'
  gi_wp2
  refine ⟨trivial, ?_⟩
  refine (HMN.out _).mono ?_
  rintro e w' ⟨rfl, rfl⟩
  rw [World.size_alloc, HP.out]
  gi_wp2
  have hz : ((w4.alloc (.cells #[.map (some (s + 4))] 55)).alloc (.cells #[.string D.nm, .string D.tx, .slice D.st.A n D.st.c] 24)).heap.size = p + 2 := by simp only [World.size_alloc, HP.out]
  have hli : RfI s p w D (Nm.rfF (nms D.st.xs) D.st.xs 0) ((w4.alloc (.cells #[.map (some (s + 4))] 55)).alloc (.cells #[.string D.nm, .string D.tx, .slice D.st.A n D.st.c] 24)) := by
    rw [Nm.rfF_zero, HN.out]
    refine ⟨by rw [HN.out]; exact (R2.out.alloc _).alloc _, ⟨_, by rw [HN.out]; exact (R3.out.alloc _).alloc _, RwO.rep _ _ _⟩, ?_, ⟨Mp, by rw [HN.out]; exact (HMP.out.alloc _).alloc _, HPF.out⟩, ?_, (HB4.out.alloc (by have := HZ3.out; have := HP.out; omega) _).alloc (by have := HZ3.out; have := HP.out; rw [World.size_alloc]; omega) _⟩
    · have := (Blk.new w4 55 #[.map (some (s + 4))]).alloc (.cells #[.string D.nm, .string D.tx, .slice D.st.A n D.st.c] 24); rw [HP.out] at this; exact this
    · rw [HN.out]; have := Blk.new (w4.alloc (.cells #[.map (some (s + 4))] 55)) 24 #[.string D.nm, .string D.tx, .slice D.st.A n D.st.c]; rw [World.size_alloc, HP.out] at this; exact this
  generalize ((w4.alloc (.cells #[.map (some (s + 4))] 55)).alloc (.cells #[.string D.nm, .string D.tx, .slice D.st.A n D.st.c] 24)) = W0 at *
  have HLI := hid hli
  have HZ := hid hz
  clear hz hli R1 R2 R3 HB4 HK1 HK3 HROW HB0 HMP HPF HPL HMN HW1 HW2 HW3 HC1 HMK HZ2 c0 c1 c2
  have hps := HZ3.out
  have HN70 := hid (Nm.mnAll_le D.st.xs 0 (fun x hx => (HT0.out x hx).2))
  refine range_wide m (by omega) (p + 2) HZ.out (gf := 48) (lb := #[.pointer (some ⟨p + 1, 0, none⟩)]) rfl (enters_of Try.func48 (by kernel_rfl) rfl) (Nm.mnAll 0 D.st.xs).length (mnV D.st.xs) (fun _ => rfl) 1
    (fun j W' => RfI s p w D (Nm.rfF (nms D.st.xs) D.st.xs j) W') (fun c W' => False) ?_ ?_ ?_ ?_ ?_ ?_ ?_
  · exact fun j W1 W2 g hc => g.keep hps hc (fun q hq => by omega)
  · exact fun c W1 W2 g _ => g
  · exact HLI.out
  · intro l2 J2 Jx2 W1 hw1 hJI hJn2 _ hJ0 hy
    refine mentions1_in (m - 1) (by omega) l2 (p + 1) (p + 4) D (by rw [HN.out]; exact HLL.out) J2 Jx2 (fun j W h => ?_) (fun j W W' h hc => hJn2 j W W' h (hc.mono fun q _ hq => by omega)) (fun j W hj h hsz' => ?_) W1 (by omega) hJ0
    · have g := (hJI j W h).1
      exact ⟨g.ib, HST.out W g.bel, HTX.out W g.bel⟩
    · exact hy j W hj h (by omega)
  · rintro l2 j W1 hj hli hsz1
    obtain ⟨i, k, hi, hk, hjk, hgd⟩ := Nm.mn_get D.st.xs j hj
    have hnx := Nm.rfF_next (nms D.st.xs) D.st.xs i k hi hk
    rw [← hjk] at hnx
    have hyz := (HTX.out W1 hli.bel _ (List.getElem_mem hi)).1.1 _ (List.getElem_mem hk)
    unfold mnV
    rw [hgd]
    simp only at hnx ⊢
    generalize Nm.inB (D.st.xs[i].af.xs.take k) D.st.xs[i].af.xs[k] = ag at *
    generalize D.st.xs[i].af.xs[k] = y at *
    obtain ⟨R, hR⟩ : ∃ R, Nm.rfF (nms D.st.xs) D.st.xs j = R := ⟨_, rfl⟩
    have hRl : R.length = n := by rw [← hR, Nm.rfF_len, HN.out]
    have hRL : ∀ (i' : Nat) (h : i' < R.length), R[i'].length ≤ j := by subst hR; exact fun i' h => Nm.rfF_small _ _ _ _ _
    have HJ70 := hid (show j ≤ 2100 by have := HN70.out; rw [HN.out] at this; have := HLL.out; omega)
    rw [hR] at hnx hli
    have hin' : i < n := by rw [← HN.out]; exact hi
    have HNX := hid hnx
    have HLI1 := hid hli
    clear hli hnx hR hgd hj hjk hk hi HLI HZ
    gi_wp2
    have hca : Chg (fun _ => False) W1 (W1.alloc (.cells #[.int .i64 (i : Int), .string y] 61)) := (Chg.refl _ W1).alloc _
    refine ⟨KN.of_chg hca (by omega) (fun _ _ _ h => h), by rw [World.size_alloc]; omega, fun W2 hc2 => ?_⟩
    obtain ⟨o1, ⟨vs, o2, o3⟩, mb, ⟨Mp2, m1, m3⟩, ib, bel⟩ := (HLI1.out.keep hps hca (fun q hq => hq.elim)).keep hps hc2 (fun q hq => by omega)
    have hbm := hc2.blk (Blk.new W1 61 #[.int .i64 (i : Int), .string y]) (by omega)
    have hsz2 := hc2.size
    rw [World.size_alloc] at hsz2
    obtain ⟨q, hq⟩ : ∃ q, W1.heap.size = q := ⟨_, rfl⟩
    rw [hq] at hbm hsz1 hsz2 ⊢
    rw [HN.out] at o1 o2 m1
    have c1 := o1.cell 0
    have c2 := mb.cell 0
    have c3 := hbm.cell 0
    have c4 := hbm.cell 1
    simp only [List.getElem?_toArray, List.getElem?_cons_zero, List.getElem?_cons_succ] at c1 c2 c3 c4
    have hkey := plKey y hyz
    obtain ⟨kl, hkl2⟩ : ∃ kl, Lit.string y.data.toList = kl := ⟨_, rfl⟩
    rw [hkl2] at hkey
    obtain ⟨hhas, hat⟩ := m3 y kl hkey
    have O1 := hid o1
    have O2 := hid o2
    have O3 := hid o3
    have MB := hid mb
    have HM := hid m1
    have HPH := hid m3
    have IB := hid ib
    have BEL := hid bel
    have HBM := hid hbm
    have HAT := hid hat
    have hfin : Nm.rfF (nms D.st.xs) D.st.xs (j + 1) = R → (fun j W' => RfI s p w D (Nm.rfF (nms D.st.xs) D.st.xs j) W') (j + 1) W2 := fun e => by
      show RfI s p w D (Nm.rfF (nms D.st.xs) D.st.xs (j + 1)) W2
      rw [e]
      exact ⟨by rw [HN.out]; exact O1.out, ⟨vs, by rw [HN.out]; exact O2.out, O3.out⟩, MB.out, ⟨Mp2, by rw [HN.out]; exact HM.out, HPH.out⟩, IB.out, BEL.out⟩
    have HFIN := hid hfin
    clear o1 o2 o3 mb m1 m3 ib bel hbm hkl2 hca hc2 HLI1 hq hat hfin
    cases hin : Nm.inB (nms D.st.xs) y with
    | false =>
      rw [hin] at hhas
      have hno : ¬ Nm.ix (nms D.st.xs) y < (nms D.st.xs).length := fun h => by rw [Nm.inB_yes (Nm.ix_lt.1 h)] at hin; cases hin
      have hfin := HFIN.out (by rw [HNX.out, if_neg (fun h => hno h.1)])
      have HF := hid hfin
      clear hno hin HFIN HNX HAT hfin
      gi_wp2_with (gi_at_lookup; refine wpListIn_lookup_own_ok_int _ rfl _ _ 55 rfl 9 3 .i64 plKeyed Try.underlying55 Try.underlying3 (plZero _) (s + 4) n Mp2 rfl HM.out _ _ rfl hkey ?_; rw [hhas]; intro cc _ _)
      exact ⟨KN.refl _ _ _, HF.out⟩
    | true =>
      rw [hin] at hhas
      have hyes : Nm.ix (nms D.st.xs) y < (nms D.st.xs).length := Nm.ix_lt.2 (Nm.inB_iff.1 hin)
      have hat := HAT.out hin
      have hjn : Nm.ix (nms D.st.xs) y < n := by rw [nms_len, HN.out] at hyes; exact hyes
      have hnx := HNX.out
      obtain ⟨J, hJ⟩ : ∃ J, Nm.ix (nms D.st.xs) y = J := ⟨_, rfl⟩
      rw [hJ] at hyes hat hjn hnx
      have HNX2 := hid hnx
      have HYES := hid hyes
      clear hnx hyes HNX HAT hin hJ
      by_cases hji : J = i
      · have hfin := HFIN.out (by rw [HNX2.out, if_neg (fun h => h.2.1 hji)])
        have HF := hid hfin
        have hji2 : (J : Int) = (i : Int) := by omega
        clear hfin HFIN HNX2 hji
        gi_wp2_with (gi_at_lookup; refine lookup_at _ rfl _ _ 55 rfl 9 3 .i64 plKeyed Try.underlying55 Try.underlying3 (plZero _) (s + 4) n Mp2 rfl HM.out _ _ rfl hkey (J : Int) hhas hat ?_)
        exact ⟨KN.refl _ _ _, HF.out⟩
      · have hji2 : ¬ (J : Int) = (i : Int) := by omega
        cases ag with
        | true =>
          have hfin := HFIN.out (by rw [HNX2.out, if_neg (fun h => by cases h.2.2)])
          have HF := hid hfin
          clear hfin HFIN HNX2 hji
          gi_wp2_with (gi_at_lookup; refine lookup_at _ rfl _ _ 55 rfl 9 3 .i64 plKeyed Try.underlying55 Try.underlying3 (plZero _) (s + 4) n Mp2 rfl HM.out _ _ rfl hkey (J : Int) hhas hat ?_)
          exact ⟨KN.refl _ _ _, HF.out⟩
        | false =>
          have hnx := HNX2.out
          rw [if_pos ⟨HYES.out, hji, rfl⟩] at hnx
          have HNX3 := hid hnx
          clear hnx HFIN HNX2 hji
          gi_wp2_with (gi_at_lookup; refine lookup_at _ rfl _ _ 55 rfl 9 3 .i64 plKeyed Try.underlying55 Try.underlying3 (plZero _) (s + 4) n Mp2 rfl HM.out _ _ rfl hkey (J : Int) hhas hat ?_)
          -- the region
          have hvl : vs.length = n := by rw [O3.out.len, hRl]
          have hRi : i < R.length := by omega
          have hiv : i < vs.length := by omega
          have hLl := hRL i hRi
          have hcg0 := (O2.out.cellAt i (by omega)).trans (List.getElem?_eq_getElem (by omega : i < vs.length))
          have hfg0 := O2.out.frozenAt i
          have hown := O3.out.own i hiv hRi
          have hgd : R.getD i [] = R[i] := by rw [List.getD_eq_getElem?_getD, List.getElem?_eq_getElem hRi]; rfl
          have hset := fun (W' : World) (v' : Value) (L' : List Nat) (hc : Chg (fun qq => vs[i].ownBlock = some qq) W2 W') (ho : W'.ownsRow (p + 5) 3 1 v' L'.length (L'.flatMap nvC)) (hw : v'.ownBlock = vs[i].ownBlock ∨ ∀ qq, v'.ownBlock = some qq → W2.heap.size ≤ qq) => RwO.set_ O3.out hiv hc ho hw
          have hvb : ∀ qq, vs[i].ownBlock = some qq → p + 5 ≤ qq := fun qq h => (O3.out.lt i hiv qq h).1
          rw [hgd] at HNX3
          obtain ⟨vi, hvi⟩ : ∃ vi, vs[i] = vi := ⟨_, rfl⟩
          obtain ⟨L, hL⟩ : ∃ L, R[i] = L := ⟨_, rfl⟩
          rw [hvi] at hown hcg0 hset hvb
          rw [hL] at hown HNX3 hLl
          have HSET := hid hset
          have HVB := hid hvb
          have hbo := O1.out.lt
          have hqq := HBM.out.lt
          have hne1 : some (s + 2) ≠ vi.ownBlock := fun e => by have := hvb _ e.symm; omega
          have hne2 : some q ≠ vi.ownBlock := fun e => own_blk_ne25 hown HBM.out (by decide) e.symm
          have hne3 : some (s + 1) ≠ vi.ownBlock := fun e => by have := hvb _ e.symm; omega
          have CB0 := hid (show W2.drew.cell? ⟨s + 2, 0, none⟩ = some (.slice (some ⟨s + 1, 0, none⟩) n n) from c1)
          have CQ0 := hid (show W2.drew.cell? ⟨q, 0, none⟩ = some (.int .i64 (i : Int)) from c3)
          have CG0 := hid (show W2.drew.cell? ⟨s + 1, i, none⟩ = some vi from hcg0)
          have hza : ((W2.alloc (.cells #[.int .i64 (J : Int)] 3)).drew).heap.size = W2.heap.size + 1 := World.size_alloc W2 _
          have hg1 : ∀ (B k : Nat) (v : Value), B < W2.heap.size → W2.cell? ⟨B, k, none⟩ = some v → (W2.alloc (.cells #[.int .i64 (J : Int)] 3)).drew.cell? ⟨B, k, none⟩ = some v := fun B k v h1 h2 => ((bw_a (Below.refl _ W2) (.cells #[.int .i64 (J : Int)] 3)).cell h1 : (W2.alloc (.cells #[.int .i64 (J : Int)] 3)).cell? ⟨B, k, none⟩ = _).trans h2
          have hg2 : ∀ (B k : Nat) (v : Value), B < W2.heap.size → some B ≠ vi.ownBlock → W2.cell? ⟨B, k, none⟩ = some v → ∀ w, (W2.alloc (.cells #[.int .i64 (J : Int)] 3)).drew.grownBy w vi.ownBlock → w.cell? ⟨B, k, none⟩ = some v := fun B k v h1 h3 h2 w hg => by
            have e := hg.block B (by rw [hza]; omega) h3
            have h := hg1 B k v h1 h2
            unfold World.cell? at h ⊢
            rw [e]; exact h
          have CB1 := hid (hg1 _ _ _ hbo c1)
          have CQ1 := hid (hg1 _ _ _ hqq c3)
          have CG1 := hid (hg1 _ _ _ (by omega) hcg0)
          have CB2 := hid (hg2 _ _ _ hbo hne1 c1)
          have CQ2 := hid (hg2 _ _ _ hqq hne2 c3)
          have CG2 := hid (hg2 _ _ _ (by omega) hne3 hcg0)
          have CF2 := hid (show ∀ w, (W2.alloc (.cells #[.int .i64 (J : Int)] 3)).drew.grownBy w vi.ownBlock → w.frozen? ⟨s + 1, i, none⟩ = false from fun w hg => by
            have e := hg.block (s + 1) (by rw [hza]; omega) hne3
            have e2 : (W2.alloc (.cells #[.int .i64 (J : Int)] 3)).drew.heap[s + 1]? = W2.heap[s + 1]? := Below.heap_alloc W2 (.cells #[.int .i64 (J : Int)] 3) (s + 1) (show s + 1 < W2.heap.size by omega)
            have h := hfg0
            unfold World.frozen? at h ⊢
            rw [e, e2]; exact h)
          have HOA := hid (own_below hown (bw_d (bw_a (Below.refl _ W2) (.cells #[.int .i64 (J : Int)] 3)) 1))
          have HRD := hid (show Rd (W2.alloc (.cells #[.int .i64 (J : Int)] 3)).drew (some ⟨W2.heap.size, 0, none⟩) [.int .i64 (J : Int)] from Rd.new W2 3 #[.int .i64 (J : Int)])
          have hj21 : L.length ≤ 2100 := by have := HJ70.out; omega
          have HB1 := hid (show L.length + 1 ≤ maxLen by unfold maxLen; omega)
          have HB2 := hid (show (L.length + 1) * 8 ≤ 140737488355328 by omega)
          have HB3 := hid (show p + 5 ≤ (W2.alloc (.cells #[.int .i64 (J : Int)] 3)).drew.heap.size by rw [hza]; omega)
          have HCC := hid (And.intro hbo hqq)
          have hii : (i : Int) < (n : Int) := by omega
          have hi0' : (0 : Int) ≤ (i : Int) := by omega
          clear hza hown hcg0 hfg0 hset hvb hne1 hne2 hne3 hg1 hg2 c1 c2 c3 c4 hbo hqq hL hvi hgd hRL hLl hvl hRi hiv
          refine wpIn_region_invB (by kernel_rfl) (by kernel_rfl) (RfR8 (s + 2) q (s + 1) n i J (p + 5) vi L) ?_ ?_ ?_
          · exact ⟨undef, undef, undef, undef, undef, undef, undef, undef, undef, undef, undef, undef, (by first | (simp only [Act.put, List.setIfInBounds_toArray, List.set_cons_succ, List.set_cons_zero]; done) | rfl), by simp, by simp, by simp, by simp, by simp, by simp, by simp, by simp, by simp, by simp, by simp, (Or.inl (⟨by simp, by simp, by simp, rfl⟩))⟩
          · intro f a' wx i o ho hf hdep hI
            have hi : i < 13 := (Array.getElem?_eq_some_iff.1 ho).1
            have hcase : i = 0 ∨ i = 1 ∨ i = 2 ∨ i = 3 ∨ i = 4 ∨ i = 5 ∨ i = 6 ∨ i = 7 ∨ i = 8 ∨ i = 9 ∨ i = 10 ∨ i = 11 ∨ i = 12 := by omega
            clear hi
            rcases hcase with rfl | rfl | rfl | rfl | rfl | rfl | rfl | rfl | rfl | rfl | rfl | rfl | rfl
            all_goals
              simp only [List.getElem?_toArray, List.getElem?_cons_zero, List.getElem?_cons_succ, Option.some.injEq] at ho
              subst ho
            · -- 0
              obtain ⟨x0, x1, x2, x3, x4, x5, x6, x7, x8, x9, x10, x11, rfl, h0, h1, h2, h3, h4, h5, h6, h7, h8, h9, h11, hP⟩ := hI
              have z0 : wx.cell? ⟨s + 2, 0, none⟩ = some (.slice (some ⟨s + 1, 0, none⟩) n n) := by
                rcases hP with haP | hbP | hcP | hdP
                · have hP := haP.2.2.2; rw [hP]; exact CB0.out
                · have hP := hbP.2.2.2; rw [hP]; exact CB1.out
                · have hP := hcP.2.2.2.2; exact CB2.out _ hP.2.2.1
                · exact absurd hdP.2.2.2.2.1 (by simp [hf])
              have H0' := hid h0; have H1' := hid h1; have H2' := hid h2; have H3' := hid h3; have H4' := hid h4; have H5' := hid h5; have H6' := hid h6; have H7' := hid h7; have H8' := hid h8; have H9' := hid h9; have H11' := hid h11; clear h0 h1 h2 h3 h4 h5 h6 h7 h8 h9 h11
              have HPP := hid hP; clear hP
              try simp only [Act.put, List.setIfInBounds_toArray, List.set_cons_succ, List.set_cons_zero]
              gi_wp2
              have h0 := H0'.out; have h1 := H1'.out; have h2 := H2'.out; have h3 := H3'.out; have h4 := H4'.out; have h5 := H5'.out; have h6 := H6'.out; have h7 := H7'.out; have h8 := H8'.out; have h9 := H9'.out; have h11 := H11'.out
              refine ⟨_, x1, x2, x3, x4, x5, x6, x7, x8, x9, x10, x11, (by first | (simp only [Act.put, List.setIfInBounds_toArray, List.set_cons_succ, List.set_cons_zero]; done) | rfl), (fun _ => rfl), (fun h => h1 (by simpa using h)), (fun h => h2 (by simpa using h)), (fun h => h3 (by simpa using h)), (fun h => h4 (by simpa using h)), (fun h => h5 (by simpa using h)), (fun h => h6 (by simpa using h)), (fun h => h7 (by simpa using h)), (fun h => h8 (by simpa using h)), (fun h => h9 (by simpa using h)), (fun h => h11 (by simpa using h)), ?_⟩
              rcases HPP.out with h | h | h | h
              · exact (Or.inl (⟨(by simpa using h.1), (by simpa using h.2.1), (by simpa using h.2.2.1), h.2.2.2⟩))
              · exact (Or.inr (Or.inl (⟨(by simpa using h.1), (by simpa using h.2.1), (by simpa using h.2.2.1), h.2.2.2⟩)))
              · exact (Or.inr (Or.inr (Or.inl (⟨(by simpa using h.1), (by simpa using h.2.1), (by simpa using h.2.2.1), (by simpa using h.2.2.2.1), h.2.2.2.2⟩))))
              · exact absurd h.2.2.2.2.1 (by simp [hf])
            · -- 1
              obtain ⟨x0, x1, x2, x3, x4, x5, x6, x7, x8, x9, x10, x11, rfl, h0, h1, h2, h3, h4, h5, h6, h7, h8, h9, h11, hP⟩ := hI
              have H0' := hid h0; have H1' := hid h1; have H2' := hid h2; have H3' := hid h3; have H4' := hid h4; have H5' := hid h5; have H6' := hid h6; have H7' := hid h7; have H8' := hid h8; have H9' := hid h9; have H11' := hid h11; clear h0 h1 h2 h3 h4 h5 h6 h7 h8 h9 h11
              have HPP := hid hP; clear hP
              try simp only [Act.put, List.setIfInBounds_toArray, List.set_cons_succ, List.set_cons_zero]
              gi_wp2
              have h0 := H0'.out; have h1 := H1'.out; have h2 := H2'.out; have h3 := H3'.out; have h4 := H4'.out; have h5 := H5'.out; have h6 := H6'.out; have h7 := H7'.out; have h8 := H8'.out; have h9 := H9'.out; have h11 := H11'.out
              refine ⟨x0, _, x2, x3, x4, x5, x6, x7, x8, x9, x10, x11, (by first | (simp only [Act.put, List.setIfInBounds_toArray, List.set_cons_succ, List.set_cons_zero]; done) | rfl), (fun h => h0 (by simpa using h)), (fun _ => rfl), (fun h => h2 (by simpa using h)), (fun h => h3 (by simpa using h)), (fun h => h4 (by simpa using h)), (fun h => h5 (by simpa using h)), (fun h => h6 (by simpa using h)), (fun h => h7 (by simpa using h)), (fun h => h8 (by simpa using h)), (fun h => h9 (by simpa using h)), (fun h => h11 (by simpa using h)), ?_⟩
              rcases HPP.out with h | h | h | h
              · exact (Or.inl (⟨(by simpa using h.1), (by simpa using h.2.1), (by simpa using h.2.2.1), h.2.2.2⟩))
              · exact (Or.inr (Or.inl (⟨(by simpa using h.1), (by simpa using h.2.1), (by simpa using h.2.2.1), h.2.2.2⟩)))
              · exact (Or.inr (Or.inr (Or.inl (⟨(by simpa using h.1), (by simpa using h.2.1), (by simpa using h.2.2.1), (by simpa using h.2.2.2.1), h.2.2.2.2⟩))))
              · exact (Or.inr (Or.inr (Or.inr (⟨(by simpa using h.1), (by simpa using h.2.1), (by simpa using h.2.2.1), (by simpa using h.2.2.2.1), (by simpa using h.2.2.2.2.1), (by simpa using h.2.2.2.2.2.1), (by simpa using h.2.2.2.2.2.2.1), (by simpa using h.2.2.2.2.2.2.2.1), h.2.2.2.2.2.2.2.2⟩))))
            · -- 2
              obtain ⟨x0, x1, x2, x3, x4, x5, x6, x7, x8, x9, x10, x11, rfl, h0, h1, h2, h3, h4, h5, h6, h7, h8, h9, h11, hP⟩ := hI
              try simp [Region.binds] at hdep
              obtain rfl := h1 (by first | exact hdep | exact hdep.1 | exact hdep.2 | exact hdep.2.1 | exact hdep.2.2 | exact hdep.2.2.1 | exact hdep.2.2.2 | simp_all)
              have z1 : wx.cell? ⟨q, 0, none⟩ = some (.int .i64 (i : Int)) := by
                rcases hP with haP | hbP | hcP | hdP
                · have hP := haP.2.2.2; rw [hP]; exact CQ0.out
                · have hP := hbP.2.2.2; rw [hP]; exact CQ1.out
                · have hP := hcP.2.2.2.2; exact CQ2.out _ hP.2.2.1
                · exact absurd hdP.2.2.2.2.2.1 (by simp [hf])
              have H0' := hid h0; have H1' := hid h1; have H2' := hid h2; have H3' := hid h3; have H4' := hid h4; have H5' := hid h5; have H6' := hid h6; have H7' := hid h7; have H8' := hid h8; have H9' := hid h9; have H11' := hid h11; clear h0 h1 h2 h3 h4 h5 h6 h7 h8 h9 h11
              have HPP := hid hP; clear hP
              try simp only [Act.put, List.setIfInBounds_toArray, List.set_cons_succ, List.set_cons_zero]
              gi_wp2
              have h0 := H0'.out; have h1 := H1'.out; have h2 := H2'.out; have h3 := H3'.out; have h4 := H4'.out; have h5 := H5'.out; have h6 := H6'.out; have h7 := H7'.out; have h8 := H8'.out; have h9 := H9'.out; have h11 := H11'.out
              refine ⟨x0, _, _, x3, x4, x5, x6, x7, x8, x9, x10, x11, (by first | (simp only [Act.put, List.setIfInBounds_toArray, List.set_cons_succ, List.set_cons_zero]; done) | rfl), (fun h => h0 (by simpa using h)), (fun _ => rfl), (fun _ => rfl), (fun h => h3 (by simpa using h)), (fun h => h4 (by simpa using h)), (fun h => h5 (by simpa using h)), (fun h => h6 (by simpa using h)), (fun h => h7 (by simpa using h)), (fun h => h8 (by simpa using h)), (fun h => h9 (by simpa using h)), (fun h => h11 (by simpa using h)), ?_⟩
              rcases HPP.out with h | h | h | h
              · exact (Or.inl (⟨(by simpa using h.1), (by simpa using h.2.1), (by simpa using h.2.2.1), h.2.2.2⟩))
              · exact (Or.inr (Or.inl (⟨(by simpa using h.1), (by simpa using h.2.1), (by simpa using h.2.2.1), h.2.2.2⟩)))
              · exact (Or.inr (Or.inr (Or.inl (⟨(by simpa using h.1), (by simpa using h.2.1), (by simpa using h.2.2.1), (by simpa using h.2.2.2.1), h.2.2.2.2⟩))))
              · exact absurd h.2.2.2.2.2.1 (by simp [hf])
            · -- 3
              obtain ⟨x0, x1, x2, x3, x4, x5, x6, x7, x8, x9, x10, x11, rfl, h0, h1, h2, h3, h4, h5, h6, h7, h8, h9, h11, hP⟩ := hI
              have z0 : wx.cell? ⟨s + 2, 0, none⟩ = some (.slice (some ⟨s + 1, 0, none⟩) n n) := by
                rcases hP with haP | hbP | hcP | hdP
                · have hP := haP.2.2.2; rw [hP]; exact CB0.out
                · have hP := hbP.2.2.2; rw [hP]; exact CB1.out
                · have hP := hcP.2.2.2.2; exact CB2.out _ hP.2.2.1
                · exact absurd hdP.2.2.2.2.2.2.1 (by simp [hf])
              have H0' := hid h0; have H1' := hid h1; have H2' := hid h2; have H3' := hid h3; have H4' := hid h4; have H5' := hid h5; have H6' := hid h6; have H7' := hid h7; have H8' := hid h8; have H9' := hid h9; have H11' := hid h11; clear h0 h1 h2 h3 h4 h5 h6 h7 h8 h9 h11
              have HPP := hid hP; clear hP
              try simp only [Act.put, List.setIfInBounds_toArray, List.set_cons_succ, List.set_cons_zero]
              gi_wp2
              have h0 := H0'.out; have h1 := H1'.out; have h2 := H2'.out; have h3 := H3'.out; have h4 := H4'.out; have h5 := H5'.out; have h6 := H6'.out; have h7 := H7'.out; have h8 := H8'.out; have h9 := H9'.out; have h11 := H11'.out
              refine ⟨x0, x1, x2, _, x4, x5, x6, x7, x8, x9, x10, x11, (by first | (simp only [Act.put, List.setIfInBounds_toArray, List.set_cons_succ, List.set_cons_zero]; done) | rfl), (fun h => h0 (by simpa using h)), (fun h => h1 (by simpa using h)), (fun h => h2 (by simpa using h)), (fun _ => rfl), (fun h => h4 (by simpa using h)), (fun h => h5 (by simpa using h)), (fun h => h6 (by simpa using h)), (fun h => h7 (by simpa using h)), (fun h => h8 (by simpa using h)), (fun h => h9 (by simpa using h)), (fun h => h11 (by simpa using h)), ?_⟩
              rcases HPP.out with h | h | h | h
              · exact (Or.inl (⟨(by simpa using h.1), (by simpa using h.2.1), (by simpa using h.2.2.1), h.2.2.2⟩))
              · exact (Or.inr (Or.inl (⟨(by simpa using h.1), (by simpa using h.2.1), (by simpa using h.2.2.1), h.2.2.2⟩)))
              · exact (Or.inr (Or.inr (Or.inl (⟨(by simpa using h.1), (by simpa using h.2.1), (by simpa using h.2.2.1), (by simpa using h.2.2.2.1), h.2.2.2.2⟩))))
              · exact absurd h.2.2.2.2.2.2.1 (by simp [hf])
            · -- 4
              obtain ⟨x0, x1, x2, x3, x4, x5, x6, x7, x8, x9, x10, x11, rfl, h0, h1, h2, h3, h4, h5, h6, h7, h8, h9, h11, hP⟩ := hI
              have H0' := hid h0; have H1' := hid h1; have H2' := hid h2; have H3' := hid h3; have H4' := hid h4; have H5' := hid h5; have H6' := hid h6; have H7' := hid h7; have H8' := hid h8; have H9' := hid h9; have H11' := hid h11; clear h0 h1 h2 h3 h4 h5 h6 h7 h8 h9 h11
              have HPP := hid hP; clear hP
              try simp only [Act.put, List.setIfInBounds_toArray, List.set_cons_succ, List.set_cons_zero]
              gi_wp2
              have h0 := H0'.out; have h1 := H1'.out; have h2 := H2'.out; have h3 := H3'.out; have h4 := H4'.out; have h5 := H5'.out; have h6 := H6'.out; have h7 := H7'.out; have h8 := H8'.out; have h9 := H9'.out; have h11 := H11'.out
              refine ⟨x0, x1, x2, x3, _, x5, x6, x7, x8, x9, x10, x11, (by first | (simp only [Act.put, List.setIfInBounds_toArray, List.set_cons_succ, List.set_cons_zero]; done) | rfl), (fun h => h0 (by simpa using h)), (fun h => h1 (by simpa using h)), (fun h => h2 (by simpa using h)), (fun h => h3 (by simpa using h)), (fun _ => rfl), (fun h => h5 (by simpa using h)), (fun h => h6 (by simpa using h)), (fun h => h7 (by simpa using h)), (fun h => h8 (by simpa using h)), (fun h => h9 (by simpa using h)), (fun h => h11 (by simpa using h)), ?_⟩
              rcases HPP.out with h | h | h | h
              · exact (Or.inl (⟨(by simpa using h.1), (by simpa using h.2.1), (by simpa using h.2.2.1), h.2.2.2⟩))
              · exact (Or.inr (Or.inl (⟨(by simpa using h.1), (by simpa using h.2.1), (by simpa using h.2.2.1), h.2.2.2⟩)))
              · exact (Or.inr (Or.inr (Or.inl (⟨(by simpa using h.1), (by simpa using h.2.1), (by simpa using h.2.2.1), (by simpa using h.2.2.2.1), h.2.2.2.2⟩))))
              · exact (Or.inr (Or.inr (Or.inr (⟨(by simpa using h.1), (by simpa using h.2.1), (by simpa using h.2.2.1), (by simpa using h.2.2.2.1), (by simpa using h.2.2.2.2.1), (by simpa using h.2.2.2.2.2.1), (by simpa using h.2.2.2.2.2.2.1), (by simpa using h.2.2.2.2.2.2.2.1), h.2.2.2.2.2.2.2.2⟩))))
            · -- 5
              obtain ⟨x0, x1, x2, x3, x4, x5, x6, x7, x8, x9, x10, x11, rfl, h0, h1, h2, h3, h4, h5, h6, h7, h8, h9, h11, hP⟩ := hI
              try simp [Region.binds] at hdep
              obtain rfl := h4 (by first | exact hdep | exact hdep.1 | exact hdep.2 | exact hdep.2.1 | exact hdep.2.2 | exact hdep.2.2.1 | exact hdep.2.2.2 | simp_all)
              have z1 : wx.cell? ⟨q, 0, none⟩ = some (.int .i64 (i : Int)) := by
                rcases hP with haP | hbP | hcP | hdP
                · have hP := haP.2.2.2; rw [hP]; exact CQ0.out
                · have hP := hbP.2.2.2; rw [hP]; exact CQ1.out
                · have hP := hcP.2.2.2.2; exact CQ2.out _ hP.2.2.1
                · exact absurd hdP.2.2.2.2.2.2.2.1 (by simp [hf])
              have H0' := hid h0; have H1' := hid h1; have H2' := hid h2; have H3' := hid h3; have H4' := hid h4; have H5' := hid h5; have H6' := hid h6; have H7' := hid h7; have H8' := hid h8; have H9' := hid h9; have H11' := hid h11; clear h0 h1 h2 h3 h4 h5 h6 h7 h8 h9 h11
              have HPP := hid hP; clear hP
              try simp only [Act.put, List.setIfInBounds_toArray, List.set_cons_succ, List.set_cons_zero]
              gi_wp2
              have h0 := H0'.out; have h1 := H1'.out; have h2 := H2'.out; have h3 := H3'.out; have h4 := H4'.out; have h5 := H5'.out; have h6 := H6'.out; have h7 := H7'.out; have h8 := H8'.out; have h9 := H9'.out; have h11 := H11'.out
              refine ⟨x0, x1, x2, x3, _, _, x6, x7, x8, x9, x10, x11, (by first | (simp only [Act.put, List.setIfInBounds_toArray, List.set_cons_succ, List.set_cons_zero]; done) | rfl), (fun h => h0 (by simpa using h)), (fun h => h1 (by simpa using h)), (fun h => h2 (by simpa using h)), (fun h => h3 (by simpa using h)), (fun _ => rfl), (fun _ => rfl), (fun h => h6 (by simpa using h)), (fun h => h7 (by simpa using h)), (fun h => h8 (by simpa using h)), (fun h => h9 (by simpa using h)), (fun h => h11 (by simpa using h)), ?_⟩
              rcases HPP.out with h | h | h | h
              · exact (Or.inl (⟨(by simpa using h.1), (by simpa using h.2.1), (by simpa using h.2.2.1), h.2.2.2⟩))
              · exact (Or.inr (Or.inl (⟨(by simpa using h.1), (by simpa using h.2.1), (by simpa using h.2.2.1), h.2.2.2⟩)))
              · exact (Or.inr (Or.inr (Or.inl (⟨(by simpa using h.1), (by simpa using h.2.1), (by simpa using h.2.2.1), (by simpa using h.2.2.2.1), h.2.2.2.2⟩))))
              · exact absurd h.2.2.2.2.2.2.2.1 (by simp [hf])
            · -- 6
              obtain ⟨x0, x1, x2, x3, x4, x5, x6, x7, x8, x9, x10, x11, rfl, h0, h1, h2, h3, h4, h5, h6, h7, h8, h9, h11, hP⟩ := hI
              try simp [Region.binds] at hdep
              obtain rfl := h3 (by first | exact hdep | exact hdep.1 | exact hdep.2 | exact hdep.2.1 | exact hdep.2.2 | exact hdep.2.2.1 | exact hdep.2.2.2 | simp_all)
              obtain rfl := h5 (by first | exact hdep | exact hdep.1 | exact hdep.2 | exact hdep.2.1 | exact hdep.2.2 | exact hdep.2.2.1 | exact hdep.2.2.2 | simp_all)
              have H0' := hid h0; have H1' := hid h1; have H2' := hid h2; have H3' := hid h3; have H4' := hid h4; have H5' := hid h5; have H6' := hid h6; have H7' := hid h7; have H8' := hid h8; have H9' := hid h9; have H11' := hid h11; clear h0 h1 h2 h3 h4 h5 h6 h7 h8 h9 h11
              have HPP := hid hP; clear hP
              try simp only [Act.put, List.setIfInBounds_toArray, List.set_cons_succ, List.set_cons_zero]
              gi_wp2
              have h0 := H0'.out; have h1 := H1'.out; have h2 := H2'.out; have h3 := H3'.out; have h4 := H4'.out; have h5 := H5'.out; have h6 := H6'.out; have h7 := H7'.out; have h8 := H8'.out; have h9 := H9'.out; have h11 := H11'.out
              refine ⟨x0, x1, x2, _, x4, _, _, x7, x8, x9, x10, x11, (by first | (simp only [Act.put, List.setIfInBounds_toArray, List.set_cons_succ, List.set_cons_zero]; done) | rfl), (fun h => h0 (by simpa using h)), (fun h => h1 (by simpa using h)), (fun h => h2 (by simpa using h)), (fun _ => rfl), (fun h => h4 (by simpa using h)), (fun _ => rfl), (fun _ => rfl), (fun h => h7 (by simpa using h)), (fun h => h8 (by simpa using h)), (fun h => h9 (by simpa using h)), (fun h => h11 (by simpa using h)), ?_⟩
              rcases HPP.out with h | h | h | h
              · exact (Or.inl (⟨(by simpa using h.1), (by simpa using h.2.1), (by simpa using h.2.2.1), h.2.2.2⟩))
              · exact (Or.inr (Or.inl (⟨(by simpa using h.1), (by simpa using h.2.1), (by simpa using h.2.2.1), h.2.2.2⟩)))
              · exact (Or.inr (Or.inr (Or.inl (⟨(by simpa using h.1), (by simpa using h.2.1), (by simpa using h.2.2.1), (by simpa using h.2.2.2.1), h.2.2.2.2⟩))))
              · exact (Or.inr (Or.inr (Or.inr (⟨(by simpa using h.1), (by simpa using h.2.1), (by simpa using h.2.2.1), (by simpa using h.2.2.2.1), (by simpa using h.2.2.2.2.1), (by simpa using h.2.2.2.2.2.1), (by simpa using h.2.2.2.2.2.2.1), (by simpa using h.2.2.2.2.2.2.2.1), h.2.2.2.2.2.2.2.2⟩))))
            · -- 7
              obtain ⟨x0, x1, x2, x3, x4, x5, x6, x7, x8, x9, x10, x11, rfl, h0, h1, h2, h3, h4, h5, h6, h7, h8, h9, h11, hP⟩ := hI
              try simp [Region.binds] at hdep
              obtain rfl := h6 (by first | exact hdep | exact hdep.1 | exact hdep.2 | exact hdep.2.1 | exact hdep.2.2 | exact hdep.2.2.1 | exact hdep.2.2.2 | simp_all)
              have z2 : wx.cell? ⟨s + 1, i, none⟩ = some vi := by
                rcases hP with haP | hbP | hcP | hdP
                · have hP := haP.2.2.2; rw [hP]; exact CG0.out
                · have hP := hbP.2.2.2; rw [hP]; exact CG1.out
                · exact absurd hcP.2.2.2.1 (by simp [hf])
                · exact absurd hdP.2.2.2.1 (by simp [hf])
              have H0' := hid h0; have H1' := hid h1; have H2' := hid h2; have H3' := hid h3; have H4' := hid h4; have H5' := hid h5; have H6' := hid h6; have H7' := hid h7; have H8' := hid h8; have H9' := hid h9; have H11' := hid h11; clear h0 h1 h2 h3 h4 h5 h6 h7 h8 h9 h11
              have HPP := hid hP; clear hP
              try simp only [Act.put, List.setIfInBounds_toArray, List.set_cons_succ, List.set_cons_zero]
              gi_wp2
              have h0 := H0'.out; have h1 := H1'.out; have h2 := H2'.out; have h3 := H3'.out; have h4 := H4'.out; have h5 := H5'.out; have h6 := H6'.out; have h7 := H7'.out; have h8 := H8'.out; have h9 := H9'.out; have h11 := H11'.out
              refine ⟨x0, x1, x2, x3, x4, x5, _, _, x8, x9, x10, x11, (by first | (simp only [Act.put, List.setIfInBounds_toArray, List.set_cons_succ, List.set_cons_zero]; done) | rfl), (fun h => h0 (by simpa using h)), (fun h => h1 (by simpa using h)), (fun h => h2 (by simpa using h)), (fun h => h3 (by simpa using h)), (fun h => h4 (by simpa using h)), (fun h => h5 (by simpa using h)), (fun _ => rfl), (fun _ => rfl), (fun h => h8 (by simpa using h)), (fun h => h9 (by simpa using h)), (fun h => h11 (by simpa using h)), ?_⟩
              rcases HPP.out with h | h | h | h
              · exact (Or.inl (⟨(by simpa using h.1), (by simpa using h.2.1), (by simpa using h.2.2.1), h.2.2.2⟩))
              · exact (Or.inr (Or.inl (⟨(by simpa using h.1), (by simpa using h.2.1), (by simpa using h.2.2.1), h.2.2.2⟩)))
              · exact absurd h.2.2.2.1 (by simp [hf])
              · exact absurd h.2.2.2.1 (by simp [hf])
            · -- 8
              obtain ⟨x0, x1, x2, x3, x4, x5, x6, x7, x8, x9, x10, x11, rfl, h0, h1, h2, h3, h4, h5, h6, h7, h8, h9, h11, hP⟩ := hI
              have H0' := hid h0; have H1' := hid h1; have H2' := hid h2; have H3' := hid h3; have H4' := hid h4; have H5' := hid h5; have H6' := hid h6; have H7' := hid h7; have H8' := hid h8; have H9' := hid h9; have H11' := hid h11; clear h0 h1 h2 h3 h4 h5 h6 h7 h8 h9 h11
              have HPP := hid hP; clear hP
              try simp only [Act.put, List.setIfInBounds_toArray, List.set_cons_succ, List.set_cons_zero]
              gi_wp2
              have h0 := H0'.out; have h1 := H1'.out; have h2 := H2'.out; have h3 := H3'.out; have h4 := H4'.out; have h5 := H5'.out; have h6 := H6'.out; have h7 := H7'.out; have h8 := H8'.out; have h9 := H9'.out; have h11 := H11'.out
              refine ⟨x0, x1, x2, x3, x4, x5, x6, x7, _, x9, x10, x11, (by first | (simp only [Act.put, List.setIfInBounds_toArray, List.set_cons_succ, List.set_cons_zero]; done) | rfl), (fun h => h0 (by simpa using h)), (fun h => h1 (by simpa using h)), (fun h => h2 (by simpa using h)), (fun h => h3 (by simpa using h)), (fun h => h4 (by simpa using h)), (fun h => h5 (by simpa using h)), (fun h => h6 (by simpa using h)), (fun h => h7 (by simpa using h)), (fun _ => rfl), (fun h => h9 (by simpa using h)), (fun h => h11 (by simpa using h)), ?_⟩
              rcases HPP.out with h | h | h | h
              · exact (Or.inl (⟨(by simpa using h.1), (by simpa using h.2.1), (by simpa using h.2.2.1), h.2.2.2⟩))
              · exact (Or.inr (Or.inl (⟨(by simpa using h.1), (by simpa using h.2.1), (by simpa using h.2.2.1), h.2.2.2⟩)))
              · exact (Or.inr (Or.inr (Or.inl (⟨(by simpa using h.1), (by simpa using h.2.1), (by simpa using h.2.2.1), (by simpa using h.2.2.2.1), h.2.2.2.2⟩))))
              · exact (Or.inr (Or.inr (Or.inr (⟨(by simpa using h.1), (by simpa using h.2.1), (by simpa using h.2.2.1), (by simpa using h.2.2.2.1), (by simpa using h.2.2.2.2.1), (by simpa using h.2.2.2.2.2.1), (by simpa using h.2.2.2.2.2.2.1), (by simpa using h.2.2.2.2.2.2.2.1), h.2.2.2.2.2.2.2.2⟩))))
            · -- 9
              obtain ⟨x0, x1, x2, x3, x4, x5, x6, x7, x8, x9, x10, x11, rfl, h0, h1, h2, h3, h4, h5, h6, h7, h8, h9, h11, hP⟩ := hI
              try simp [Region.binds] at hdep
              rcases hP with hP | hP | hP | hP
              rotate_left
              · exact absurd hP.1 (by simp [hf])
              · exact absurd hP.1 (by simp [hf])
              · exact absurd hP.1 (by simp [hf])
              have hQ := hP
              have hfl10 : f 10 = false := hQ.2.1
              have hfl12 : f 12 = false := hQ.2.2.1
              have hP := hQ.2.2.2
              clear hQ
              obtain rfl := h8 (by first | exact hdep | exact hdep.1 | exact hdep.2 | exact hdep.2.1 | exact hdep.2.2 | exact hdep.2.2.1 | exact hdep.2.2.2 | simp_all)
              have H0' := hid h0; have H1' := hid h1; have H2' := hid h2; have H3' := hid h3; have H4' := hid h4; have H5' := hid h5; have H6' := hid h6; have H7' := hid h7; have H8' := hid h8; have H9' := hid h9; have H11' := hid h11; clear h0 h1 h2 h3 h4 h5 h6 h7 h8 h9 h11
              try simp only [Act.put, List.setIfInBounds_toArray, List.set_cons_succ, List.set_cons_zero]
              rw [hP]
              clear hP
              gi_wp2
              have h0 := H0'.out; have h1 := H1'.out; have h2 := H2'.out; have h3 := H3'.out; have h4 := H4'.out; have h5 := H5'.out; have h6 := H6'.out; have h7 := H7'.out; have h8 := H8'.out; have h9 := H9'.out; have h11 := H11'.out
              exact ⟨x0, x1, x2, x3, x4, x5, x6, x7, _, _, x10, x11, (by first | (simp only [Act.put, List.setIfInBounds_toArray, List.set_cons_succ, List.set_cons_zero]; done) | rfl), (fun h => h0 (by simpa using h)), (fun h => h1 (by simpa using h)), (fun h => h2 (by simpa using h)), (fun h => h3 (by simpa using h)), (fun h => h4 (by simpa using h)), (fun h => h5 (by simpa using h)), (fun h => h6 (by simpa using h)), (fun h => h7 (by simpa using h)), (fun _ => rfl), (fun _ => rfl), (fun h => h11 (by simpa using h)), (Or.inr (Or.inl (⟨(by simp), (by simp only [Bool.or_eq_false_iff]; exact ⟨by decide, hfl10⟩), (by simp only [Bool.or_eq_false_iff]; exact ⟨by decide, hfl12⟩), (rfl)⟩)))⟩
            · -- 10
              obtain ⟨x0, x1, x2, x3, x4, x5, x6, x7, x8, x9, x10, x11, rfl, h0, h1, h2, h3, h4, h5, h6, h7, h8, h9, h11, hP⟩ := hI
              try simp [Region.binds] at hdep
              rcases hP with hP | hP | hP | hP
              · exact absurd hP.1 (by simp [hdep])
              rotate_left
              · exact absurd hP.2.1 (by simp [hf])
              · exact absurd hP.2.1 (by simp [hf])
              have hQ := hP
              have hfl12 : f 12 = false := hQ.2.2.1
              have hkn9 : f 9 = true := hQ.1
              have hP := hQ.2.2.2
              clear hQ
              have hn7 : f 7 = true := (by first | exact hdep | exact hdep.1 | exact hdep.2 | exact hdep.2.1 | exact hdep.2.2 | exact hdep.2.2.1 | exact hdep.2.2.2 | simp_all)
              obtain rfl := h7 (by first | exact hdep | exact hdep.1 | exact hdep.2 | exact hdep.2.1 | exact hdep.2.2 | exact hdep.2.2.1 | exact hdep.2.2.2 | simp_all)
              obtain rfl := h9 (by first | exact hdep | exact hdep.1 | exact hdep.2 | exact hdep.2.1 | exact hdep.2.2 | exact hdep.2.2.1 | exact hdep.2.2.2 | simp_all)
              have H0' := hid h0; have H1' := hid h1; have H2' := hid h2; have H3' := hid h3; have H4' := hid h4; have H5' := hid h5; have H6' := hid h6; have H7' := hid h7; have H8' := hid h8; have H9' := hid h9; have H11' := hid h11; clear h0 h1 h2 h3 h4 h5 h6 h7 h8 h9 h11
              try simp only [Act.put, List.setIfInBounds_toArray, List.set_cons_succ, List.set_cons_zero]
              rw [hP]
              clear hP
              refine wpListIn_append_rdw _ rfl (.tmp 44) (.tmp 46) 37 rfl (p + 5) 3 i0 (.int .i64 0) 1 8 Try.underlying37 hi0 hz0 hz1 hz2 rfl (by decide) x7 L.length (L.flatMap nvC) rfl HOA.out ⟨W2.heap.size, 0, none⟩ 1 1 [.int .i64 (J : Int)] rfl rfl HRD.out (by simp [Value.oneCell']) HB1.out HB2.out HB3.out ?_
              intro v2 w2 hown2 hgr2 hwh2
              obtain ⟨A2, k2, hv2, -⟩ := SlN.of_own (by omega) hown2
              have HOW := hid hown2
              have HGR := hid hgr2
              rw [show ((W2.alloc (.cells #[.int .i64 (J : Int)] 3)).drew).heap.size = W2.heap.size + 1 from World.size_alloc W2 _] at hwh2
              have HWH := hid hwh2
              have HV2 := hid hv2
              clear hown2 hgr2 hwh2 hv2
              gi_wp2
              have h0 := H0'.out; have h1 := H1'.out; have h2 := H2'.out; have h3 := H3'.out; have h4 := H4'.out; have h5 := H5'.out; have h6 := H6'.out; have h7 := H7'.out; have h8 := H8'.out; have h9 := H9'.out; have h11 := H11'.out
              exact ⟨x0, x1, x2, x3, x4, x5, x6, _, x8, _, v2, x11, (by first | (simp only [Act.put, List.setIfInBounds_toArray, List.set_cons_succ, List.set_cons_zero]; done) | rfl), (fun h => h0 (by simpa using h)), (fun h => h1 (by simpa using h)), (fun h => h2 (by simpa using h)), (fun h => h3 (by simpa using h)), (fun h => h4 (by simpa using h)), (fun h => h5 (by simpa using h)), (fun h => h6 (by simpa using h)), (fun _ => rfl), (fun h => h8 (by simpa using h)), (fun _ => rfl), (fun h => h11 (by simpa using h)), (Or.inr (Or.inr (Or.inl (⟨(by simp [hkn9]), (by simp), (by simp only [Bool.or_eq_false_iff]; exact ⟨by decide, hfl12⟩), (by simp [hn7]), (⟨⟨A2, k2, HV2.out⟩, HOW.out, HGR.out, HWH.out⟩)⟩))))⟩
            · -- 11
              obtain ⟨x0, x1, x2, x3, x4, x5, x6, x7, x8, x9, x10, x11, rfl, h0, h1, h2, h3, h4, h5, h6, h7, h8, h9, h11, hP⟩ := hI
              try simp [Region.binds] at hdep
              obtain rfl := h0 (by first | exact hdep | exact hdep.1 | exact hdep.2 | exact hdep.2.1 | exact hdep.2.2 | exact hdep.2.2.1 | exact hdep.2.2.2 | simp_all)
              obtain rfl := h2 (by first | exact hdep | exact hdep.1 | exact hdep.2 | exact hdep.2.1 | exact hdep.2.2 | exact hdep.2.2.1 | exact hdep.2.2.2 | simp_all)
              have H0' := hid h0; have H1' := hid h1; have H2' := hid h2; have H3' := hid h3; have H4' := hid h4; have H5' := hid h5; have H6' := hid h6; have H7' := hid h7; have H8' := hid h8; have H9' := hid h9; have H11' := hid h11; clear h0 h1 h2 h3 h4 h5 h6 h7 h8 h9 h11
              have HPP := hid hP; clear hP
              try simp only [Act.put, List.setIfInBounds_toArray, List.set_cons_succ, List.set_cons_zero]
              gi_wp2
              have h0 := H0'.out; have h1 := H1'.out; have h2 := H2'.out; have h3 := H3'.out; have h4 := H4'.out; have h5 := H5'.out; have h6 := H6'.out; have h7 := H7'.out; have h8 := H8'.out; have h9 := H9'.out; have h11 := H11'.out
              refine ⟨_, x1, _, x3, x4, x5, x6, x7, x8, x9, x10, _, (by first | (simp only [Act.put, List.setIfInBounds_toArray, List.set_cons_succ, List.set_cons_zero]; done) | rfl), (fun _ => rfl), (fun h => h1 (by simpa using h)), (fun _ => rfl), (fun h => h3 (by simpa using h)), (fun h => h4 (by simpa using h)), (fun h => h5 (by simpa using h)), (fun h => h6 (by simpa using h)), (fun h => h7 (by simpa using h)), (fun h => h8 (by simpa using h)), (fun h => h9 (by simpa using h)), (fun _ => rfl), ?_⟩
              rcases HPP.out with h | h | h | h
              · exact (Or.inl (⟨(by simpa using h.1), (by simpa using h.2.1), (by simpa using h.2.2.1), h.2.2.2⟩))
              · exact (Or.inr (Or.inl (⟨(by simpa using h.1), (by simpa using h.2.1), (by simpa using h.2.2.1), h.2.2.2⟩)))
              · exact (Or.inr (Or.inr (Or.inl (⟨(by simpa using h.1), (by simpa using h.2.1), (by simpa using h.2.2.1), (by simpa using h.2.2.2.1), h.2.2.2.2⟩))))
              · exact (Or.inr (Or.inr (Or.inr (⟨(by simpa using h.1), (by simpa using h.2.1), (by simpa using h.2.2.1), (by simpa using h.2.2.2.1), (by simpa using h.2.2.2.2.1), (by simpa using h.2.2.2.2.2.1), (by simpa using h.2.2.2.2.2.2.1), (by simpa using h.2.2.2.2.2.2.2.1), h.2.2.2.2.2.2.2.2⟩))))
            · -- 12
              obtain ⟨x0, x1, x2, x3, x4, x5, x6, x7, x8, x9, x10, x11, rfl, h0, h1, h2, h3, h4, h5, h6, h7, h8, h9, h11, hP⟩ := hI
              try simp [Region.binds] at hdep
              rcases hP with hP | hP | hP | hP
              · exact absurd hP.2.1 (by simp [hdep])
              · exact absurd hP.2.1 (by simp [hdep])
              rotate_left
              · exact absurd hP.2.2.1 (by simp [hf])
              have hQ := hP
              have hkn9 : f 9 = true := hQ.1
              have hkn10 : f 10 = true := hQ.2.1
              have hkn7 : f 7 = true := hQ.2.2.2.1
              have hP := hQ.2.2.2.2
              clear hQ
              have hn0 : f 0 = true := (by simp [hdep])
              have hn2 : f 2 = true := (by simp [hdep])
              have hn3 : f 3 = true := (by simp [hdep])
              have hn5 : f 5 = true := (by simp [hdep])
              obtain rfl := h11 (by first | exact hdep | exact hdep.1 | exact hdep.2 | exact hdep.2.1 | exact hdep.2.2 | exact hdep.2.2.1 | exact hdep.2.2.2 | simp_all)
              have H0' := hid h0; have H1' := hid h1; have H2' := hid h2; have H3' := hid h3; have H4' := hid h4; have H5' := hid h5; have H6' := hid h6; have H7' := hid h7; have H8' := hid h8; have H9' := hid h9; have H11' := hid h11; clear h0 h1 h2 h3 h4 h5 h6 h7 h8 h9 h11
              try simp only [Act.put, List.setIfInBounds_toArray, List.set_cons_succ, List.set_cons_zero]
              obtain ⟨⟨A2, k2, rfl⟩, hp1, hp2, hp3⟩ := hP
              have hcg := CG2.out _ hp2
              have hfg := CF2.out _ hp2
              have HP1 := hid hp1
              have HP2 := hid hp2
              have HP3 := hid hp3
              clear hp1 hp2 hp3
              gi_wp2
              have h0 := H0'.out; have h1 := H1'.out; have h2 := H2'.out; have h3 := H3'.out; have h4 := H4'.out; have h5 := H5'.out; have h6 := H6'.out; have h7 := H7'.out; have h8 := H8'.out; have h9 := H9'.out; have h11 := H11'.out
              exact ⟨x0, x1, x2, x3, x4, x5, x6, x7, x8, x9, _, _, (by first | (simp only [Act.put, List.setIfInBounds_toArray, List.set_cons_succ, List.set_cons_zero]; done) | rfl), (fun h => h0 (by simpa using h)), (fun h => h1 (by simpa using h)), (fun h => h2 (by simpa using h)), (fun h => h3 (by simpa using h)), (fun h => h4 (by simpa using h)), (fun h => h5 (by simpa using h)), (fun h => h6 (by simpa using h)), (fun h => h7 (by simpa using h)), (fun h => h8 (by simpa using h)), (fun h => h9 (by simpa using h)), (fun _ => rfl), (Or.inr (Or.inr (Or.inr (⟨(by simp [hkn9]), (by simp [hkn10]), (by simp), (by simp [hkn7]), (by simp [hn0]), (by simp [hn2]), (by simp [hn3]), (by simp [hn5]), (⟨_, ⟨⟨A2, k2, rfl⟩, HP1.out, HP2.out, HP3.out⟩, rfl⟩)⟩))))⟩
          · intro f a' wx hall hI
            obtain ⟨x0, x1, x2, x3, x4, x5, x6, x7, x8, x9, x10, x11, rfl, h0, h1, h2, h3, h4, h5, h6, h7, h8, h9, h11, hP⟩ := hI
            obtain rfl := h0 (hall 0 (by simp))
            obtain rfl := h1 (hall 1 (by simp))
            obtain rfl := h2 (hall 2 (by simp))
            obtain rfl := h3 (hall 3 (by simp))
            obtain rfl := h4 (hall 4 (by simp))
            obtain rfl := h5 (hall 5 (by simp))
            obtain rfl := h6 (hall 6 (by simp))
            obtain rfl := h7 (hall 7 (by simp))
            obtain rfl := h8 (hall 8 (by simp))
            obtain rfl := h9 (hall 9 (by simp))
            obtain rfl := h11 (hall 11 (by simp))
            rcases hP with hP | hP | hP | hP
            · exact absurd hP.1 (by simp [hall 9 (by simp)])
            · exact absurd hP.2.1 (by simp [hall 10 (by simp)])
            · exact absurd hP.2.2.1 (by simp [hall 12 (by simp)])
            replace hP := hP.2.2.2.2.2.2.2.2
            clear h0 h1 h2 h3 h4 h5 h6 h7 h8 h9 h11 hall f
            try simp only [Act.put, List.setIfInBounds_toArray, List.set_cons_succ, List.set_cons_zero]
            obtain ⟨w2, ⟨⟨A2, k2, rfl⟩, hp1, hp2, hp3⟩, rfl⟩ := hP
            have hcgA : Chg (fun qq => x7.ownBlock = some qq) W2 w2 := (((Chg.refl _ W2).alloc (.cells #[.int .i64 (J : Int)] 3)).drew).trans (Chg.of_grown hp2 (fun g e => e))
            have hS2 := HSET.out w2 _ (L ++ [J]) hcgA (by rw [List.length_append, List.flatMap_append]; exact hp1) (hp3.imp_right (fun h qq e => by have := h qq e; omega))
            have hown2 := own_chgS O2.out hcgA (fun g hg h => by simp [Value.ownBlock] at hg; have := HVB.out g h; omega)
            have hst := (hown2.stored i (.slice A2 (L.length + 1) k2)).1
            have hcgB : Chg (fun qq => x7.ownBlock = some qq ∨ qq = s + 1) W2 (w2.setCell ⟨s + 1, i, none⟩ (.slice A2 (L.length + 1) k2)) := (hcgA.mono (fun q _ h => .inl h)).set_ (.inl (.inr rfl)) i (.slice A2 (L.length + 1) k2)
            have hno : ∀ qq, qq ≠ s + 1 → qq < p + 5 → ¬ (x7.ownBlock = some qq ∨ qq = s + 1) := fun qq h1 h2 h => by
              rcases h with h | h
              · have := HVB.out qq h; omega
              · exact h1 h
            have hpB := MB.out.lt
            have HS2 := hid hS2
            have HST2 := hid hst
            have HCB := hid hcgB
            have HNO := hid hno
            clear hp1 hp2 hp3 hcgA hS2 hown2 hst hcgB hno
            gi_wp2
            refine ⟨KN.of_chg HCB.out (by omega) (fun qq g1 g2 => HNO.out qq (by omega) (by omega)), ?_⟩
            show RfI s p w D (Nm.rfF (nms D.st.xs) D.st.xs (j + 1)) _
            rw [HNX3.out]
            exact ⟨by rw [HN.out]; exact HCB.out.blk O1.out (HNO.out _ (by omega) (by omega)), ⟨vs.set i (.slice A2 (L.length + 1) k2), by rw [HN.out]; exact HST2.out, HS2.out.chg ((Chg.refl (fun qq => qq = s + 1) w2).set_ (.inl rfl) i (.slice A2 (L.length + 1) k2)) (fun k g qq hq h => by have := (HS2.out.lt k g qq hq).1; omega)⟩, HCB.out.blk MB.out (HNO.out _ (by omega) (by omega)), ⟨Mp2, by rw [HN.out]; exact ownsMap_kn HM.out (HCB.out.block (s + 4) (by omega) (HNO.out _ (by omega) (by omega))), HPH.out⟩, HCB.out.blk IB.out (HNO.out _ (by omega) (by omega)), BEL.out.trans (HCB.out.below (B := s) (fun qq hq => by rcases hq with h | h; (have := HVB.out qq h; omega); omega) (by omega))⟩
  · rintro W1 hli hd
    rw [Nm.rfF_all] at hli
    obtain ⟨o1, ⟨vs, o2, o3⟩, mb, ⟨Mp2, m1, m3⟩, ib, bel⟩ := hli
    have c1 := o1.cell 0
    simp only [List.getElem?_toArray, List.getElem?_cons_zero] at c1
    have hrl := Nm.rfAll_len (nms D.st.xs) D.st.xs 0
    have O2 := hid o2
    have O3 := hid o3
    have BEL := hid bel
    have HD1 := hid hd
    have HS1 := hid o1.lt
    clear o1 o2 o3 mb m1 m3 ib bel hd
    gi_wp2
    have hM : Marks (p + 2) W1 [p + 2] := (Marks.nil_ _ _).cons_ (Nat.le_refl _) (by simp) HD1.out
    refine leaves_marks (p + 2) [p + 2] W1 hM fun W6 h6 => ?_
    refine ⟨.slice (some ⟨s + 1, 0, none⟩) D.st.xs.length D.st.xs.length, by simp [results, Try.results16, go_sem], ?_⟩
    rw [HQ.out]
    refine ⟨_, rfl, ?_, BEL.out.trans (h6.below (B := s) (fun q hq => by simp at hq; omega) (by have := BEL.out.size; have := HSZ.out; omega))⟩
    exact RwO.rws (O3.out.chg h6 (fun i g q hq hx => by simp at hx; have := (O3.out.lt i g q hq).1; omega)) (by rw [hrl]; exact own_chgS O2.out h6 (fun g hg h => by simp [Value.ownBlock] at hg; simp at h; omega))
  · exact fun c W h _ => h.elim
end Go.Proofs.Ytejdlhjbakndaaa
