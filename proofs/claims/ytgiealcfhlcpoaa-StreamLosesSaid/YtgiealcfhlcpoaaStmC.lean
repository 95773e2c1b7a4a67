/- Pieces of so many bytes as sizes say: mathematics, and the iterator. · Cut: a stream in pieces, each in memory of its own. · Cut, as it is called; how long each piece is. -/
import Derived.Test.YtgiealcfhlcpoaaM6
import Derived.Test.YtgiealcfhlcpoaaM4
import Derived.Sort.QuietIn
import Derived.Test.YtgiealcfhlcpoaaStmDo
import Derived.Test.YtgiealcfhlcpoaaFrU
import Derived.Test.YtgiealcfhlcpoaaRg
set_option linter.unusedVariables false
namespace Go.Proofs.Ytgiealcfhlcpoaa
open Go.RowKit Go.Shelf
attribute [local go_sem] Oper.semAt_some
/-- How many bytes piece j has, which begins at o. -/
def pcS (N : Nat) (ss : List Int) (j o : Nat) : Nat := if ss.length = 0 then N - o else min (N - o) (max 1 (ss.getD (j % ss.length) 0)).toNat
/-- Where piece j begins. -/
def pcO (N : Nat) (ss : List Int) : Nat → Nat
  | 0 => 0
  | j + 1 => pcO N ss j + pcS N ss j (pcO N ss j)
theorem pcO_le (N : Nat) (ss : List Int) (j : Nat) : pcO N ss j ≤ N := by
  induction j with
  | zero => exact Nat.zero_le _
  | succ j ih =>
    rw [pcO]
    unfold pcS
    split <;> omega
theorem pcS_pos {N : Nat} {ss : List Int} {j o : Nat} (h : o < N) : 1 ≤ pcS N ss j o := by
  unfold pcS
  split <;> omega
theorem pcO_ge (N : Nat) (ss : List Int) (j : Nat) : min j N ≤ pcO N ss j := by
  induction j with
  | zero => simp
  | succ j ih =>
    rw [pcO]
    by_cases h : pcO N ss j < N
    · have := pcS_pos (ss := ss) (j := j) h
      omega
    · omega
theorem pcO_end (N : Nat) (ss : List Int) : ∃ K, K ≤ N ∧ pcO N ss K = N ∧ ∀ j, j < K → pcO N ss j < N := by
  have h : ∀ k, (∀ j, j < k → pcO N ss j < N) ∨ ∃ K, K < k ∧ pcO N ss K = N ∧ ∀ j, j < K → pcO N ss j < N := by
    intro k
    induction k with
    | zero => exact .inl fun j hj => absurd hj (Nat.not_lt_zero _)
    | succ k ih =>
      rcases ih with ih | ⟨K, h1, h2, h3⟩
      · by_cases hk : pcO N ss k < N
        · refine .inl fun j hj => ?_
          rcases Nat.lt_or_ge j k with h | h
          · exact ih j h
          · obtain rfl : j = k := by omega
            exact hk
        · exact .inr ⟨k, by omega, by have := pcO_le N ss k; omega, ih⟩
      · exact .inr ⟨K, by omega, h2, h3⟩
  have hN : pcO N ss N = N := by have h1 := pcO_ge N ss N; have h2 := pcO_le N ss N; rw [Nat.min_self] at h1; omega
  rcases h N with h | ⟨K, h1, h2, h3⟩
  · exact ⟨N, Nat.le_refl _, hN, h⟩
  · exact ⟨K, by omega, h2, h3⟩
/-- A piece. -/
def pcV (b off c N : Nat) (ss : List Int) (j : Nat) : Array Value := #[.slice (some ⟨b, off + pcO N ss j, none⟩) (pcS N ss j (pcO N ss j)) (c - pcO N ss j)]
def ivP (n : Int) : Value := .int .i64 n
set_option maxRecDepth 100000 in
set_option maxHeartbeats 1000000 in
theorem pieces_in (m : Nat) (A : Option Addr) (n c : Nat) (A2 : Option Addr) (k c2 : Nat) (w : World) :
    CallsIn Fence.wide m Try.prog 21 #[.slice A n c, .slice A2 k c2] w fun e w' => e = .returned (.func (.func 29) #[] #[.pointer (some ⟨w.heap.size, 0, none⟩), .pointer (some ⟨w.heap.size + 1, 0, none⟩)]) ∧ w' = (w.alloc (.cells #[.slice A n c] 25)).alloc (.cells #[.slice A2 k c2] 48) := by
  refine callsIn_of_wp Try.func21 rfl trivial ?_ rfl
  simp only [Try.ntmps21, List.size_toArray, List.length_cons, List.length_nil, Nat.reduceAdd, Nat.reduceSub, Array.replicate_succ, Array.replicate_zero, List.push_toArray, List.append_toArray, List.nil_append, List.cons_append]
  gi_wp2
  go_ret
  exact ⟨rfl, rfl⟩
set_option maxRecDepth 100000 in
set_option maxHeartbeats 4000000 in
theorem pieces1_in (m : Nat) (hm : 1 ≤ m) (l Bb Bs : Nat) (b off n c : Nat) (ss : List Int) (k : Nat) (A2 : Option Addr) (c2 : Nat) (hk : ss.length = k) (hk2 : k ≤ 1000000) (hss : ∀ x ∈ ss, -9223372036854775808 ≤ x ∧ x ≤ 9223372036854775807) (hnc : n ≤ c) (hc : c ≤ 9223372036854775807) (hn2 : n ≤ 1000000) (K : Nat) (hK : pcO n ss K = n) (hKN : K ≤ n) (hK0 : ∀ j, j < K → pcO n ss j < n) (J : Nat → World → Prop) (Jx : World → Prop)
    (hJc : ∀ j W, J j W → W.cell? ⟨Bb, 0, none⟩ = some (.slice (some ⟨b, off, none⟩) n c) ∧ W.cell? ⟨Bs, 0, none⟩ = some (.slice A2 k c2) ∧ Sl W A2 c2 (ss.map ivP)) (hJd : ∀ j W k, J j W → J j (W.drewN k))
    (hY : ∀ j W, j < K → J j W → YieldAt Fence.wide (m - 1) Try.prog l (pcV b off c n ss j) W fun e W' => (e = .returned (.bool true) ∧ J (j + 1) W') ∨ (e = .returned (.bool false) ∧ Jx W'))
    (W : World) (h0 : J 0 W) :
    CallsIn Fence.wide m Try.prog 29 #[.func (.yield l) #[] #[], .pointer (some ⟨Bb, 0, none⟩), .pointer (some ⟨Bs, 0, none⟩)] W fun e W' => (∃ v, e = .returned v) ∧ (J K W' ∨ Jx W') := by
  have HY := hid hY
  have HJC := hid hJc
  have HJD := hid hJd
  have HKE := hid hK
  have HK0 := hid hK0
  have HSS := hid hss
  have HKL := hid hk
  obtain ⟨y0, -, -⟩ := hJc 0 W h0
  clear hY hJc hJd hK hK0 hss hk
  refine callsIn_of_wp Try.func29 rfl trivial ?_ rfl
  simp only [Try.ntmps29, List.size_toArray, List.length_cons, List.length_nil, Nat.reduceAdd, Nat.reduceSub, Array.replicate_succ, Array.replicate_zero, List.push_toArray, List.append_toArray, List.nil_append, List.cons_append]
  gi_wp2
  gi_loopw [4, 5] (fun lf i wr => ∃ (j o : Nat) (A' : Option Addr), lf = .slice A' (n - o) (c - o) ∧ (o < n → A' = some ⟨b, off + o, none⟩) ∧ i = .int .i64 (j : Int) ∧ o = pcO n ss j ∧ j ≤ K ∧ J j wr) (fun lf _ _ => match lf with | .slice _ q _ => q | _ => 0)
  case atStart => exact ⟨0, 0, some ⟨b, off, none⟩, by simp, fun _ => by simp, rfl, rfl, by omega, h0⟩
  case round =>
    obtain ⟨j, o, A', rfl, hA', rfl, ho, hj, hJ⟩ := hrel
    obtain ⟨y1, y2, hsl⟩ := HJC.out j wr hJ
    have hole := pcO_le n ss j
    rw [← ho] at hole
    by_cases hlt : o < n
    · have hjK : j < K := by
        rcases Nat.lt_or_ge j K with h | h
        · exact h
        · obtain rfl : j = K := by omega
          rw [HKE.out] at ho
          omega
      obtain rfl := hA' hlt
      obtain ⟨e, he⟩ : ∃ e, pcS n ss j o = e := ⟨_, rfl⟩
      have he1 : 1 ≤ e := by rw [← he]; exact pcS_pos hlt
      have he2 : o + e ≤ n := by rw [← he]; unfold pcS; split <;> omega
      have hnx : pcO n ss (j + 1) = o + e := by rw [pcO, ← ho, he]
      have i0 : (0 : Int) < ((n - o : Nat) : Int) := by omega
      obtain ⟨R, hR⟩ : ∃ R, n - o = R := ⟨_, rfl⟩
      obtain ⟨C, hC⟩ : ∃ C, c - o = C := ⟨_, rfl⟩
      have HJ := hid hJ
      have HO := hid ho
      have HNX := hid hnx
      have HE := hid he
      rw [hR] at i0
      rw [hR, hC]
      have g1 : e ≤ R := by omega
      have g2 : R ≤ C := by omega
      have g3 : C ≤ 9223372036854775807 := by omega
      have s1 : IntKind.i64.wrap ((j : Int) + 1) = ((j + 1 : Nat) : Int) := by rw [IntWalk.i64_in _ (by omega)]; omega
      have HRC := hid (And.intro hR hC)
      have HCUT := hid (And.intro he1 he2)
      have hfin : ∀ (nq : Nat), YieldAt Fence.wide (m - 1) Try.prog l #[.slice (some ⟨b, off + o, none⟩) e C] (wr.drewN nq) fun e W' => (e = .returned (.bool true) ∧ J (j + 1) W') ∨ (e = .returned (.bool false) ∧ Jx W') := fun nq => by
        have h := HY.out j (wr.drewN nq) hjK (HJD.out j wr nq HJ.out)
        unfold pcV at h
        rw [← HO.out, HE.out, HRC.out.2] at h
        exact h
      have HFIN := hid hfin
      have hdn := fun nq => HJC.out j _ (HJD.out j wr nq HJ.out)
      clear hJ ho hnx he hR hC he1 he2 hfin
      by_cases hk0 : k = 0
      · have k1 : ¬ (0 : Int) < (k : Int) := by omega
        have hRe : R = e := by have h1 := HE.out; have h2 := HRC.out.1; unfold pcS at h1; rw [if_pos (by rw [HKL.out]; exact hk0)] at h1; omega
        have hfin0 := HY.out j wr hjK HJ.out
        unfold pcV at hfin0
        rw [← HO.out, HE.out, HRC.out.2, ← hRe] at hfin0
        have HRE := hid hRe
        clear hRe
        obtain ⟨fn, tmps, assign, body, hy, hRR⟩ := hfin0
        gi_wp2
        refine hRR.mono ?_
        rintro e0 W3 (⟨rfl, hJ3⟩ | ⟨rfl, hJx3⟩)
        · have HJ3 := hid hJ3
          clear hJ3
          by_cases hec : R = C
          · have q1 : (R : Int) = (C : Int) := by omega
            gi_wp2
            go_roundw
            case rel => exact ⟨j + 1, o + e, _, by have := HRC.out; have := HRE.out; have := HCUT.out; rw [show n - (o + e) = 0 by omega, show c - (o + e) = 0 by omega], fun h => absurd h (by have := HRC.out; have := HRE.out; omega), by go_num, HNX.out.symm, by omega, HJ3.out⟩
            case measure => have := HCUT.out; have := HRE.out; simp; omega
          · have q1 : ¬ (R : Int) = (C : Int) := by omega
            gi_wp2
            go_roundw
            case rel => exact ⟨j + 1, o + e, _, by have := HRC.out; have := HRE.out; have := HCUT.out; rw [show n - (o + e) = 0 by omega, show c - (o + e) = C - R by omega], fun h => absurd h (by have := HRC.out; have := HRE.out; have := HCUT.out; omega), by go_num, HNX.out.symm, by omega, HJ3.out⟩
            case measure => have := HCUT.out; have := HRE.out; simp; omega
        · have HJX := hid hJx3
          clear hJx3
          gi_wp2
          refine bodyPost_ret (results_none rfl _ _ _) rfl ?_
          exact ⟨⟨_, rfl⟩, .inr HJX.out⟩
      · have k1 : (0 : Int) < (k : Int) := by omega
        have k2 : ¬ (k : Int) = 0 := by omega
        have hjk : j % k < k := Nat.mod_lt _ (by omega)
        obtain ⟨x, hx⟩ : ∃ x, ss.getD (j % k) 0 = x := ⟨_, rfl⟩
        have hx2 : ss[j % k]? = some x := by rw [List.getD_eq_getElem?_getD, List.getElem?_eq_getElem (by rw [HKL.out]; exact hjk)] at hx; rw [List.getElem?_eq_getElem (by rw [HKL.out]; exact hjk)]; simpa using hx
        have hxb := HSS.out x (List.mem_of_getElem? hx2)
        obtain ⟨bz, oz, rfl, -, hz⟩ := hsl.rd (j % k) (ivP x) (by rw [List.getElem?_map, hx2]; rfl)
        have t1 : ((j : Int)).tmod (k : Int) = ((j % k : Nat) : Int) := by rw [Int.ofNat_tmod]
        obtain ⟨jm, hjm⟩ : ∃ jm, j % k = jm := ⟨_, rfl⟩
        rw [hjm] at hjk hx hx2 hz t1
        have t2 : IntKind.i64.wrap ((jm : Nat) : Int) = ((jm : Nat) : Int) := IntWalk.i64_in _ (by omega)
        have t3 : ((jm : Nat) : Int) < (k : Int) := by omega
        have t4 : ((jm : Nat) : Int).toNat = jm := by omega
        have hme : (min (R : Int) (max 1 x)) = (e : Int) := by
          have := HE.out
          unfold pcS at this
          rw [if_neg (by rw [HKL.out]; exact hk0), HKL.out, hjm, hx] at this
          have := HRC.out.1
          omega
        unfold ivP at hz
        gi_wp2
        gi_quiet (fail)
        obtain ⟨fn, tmps, assign, body, hy, hRR⟩ := HFIN.out nq
        gi_wp2
        refine hRR.mono ?_
        rintro e0 W3 (⟨rfl, hJ3⟩ | ⟨rfl, hJx3⟩)
        · have HJ3 := hid hJ3
          clear hJ3
          by_cases hec : e = C
          · have q1 : (e : Int) = (C : Int) := by omega
            gi_wp2
            go_roundw
            case rel => exact ⟨j + 1, o + e, _, by have := HRC.out; have := HCUT.out; rw [show n - (o + e) = 0 by omega, show c - (o + e) = 0 by omega], fun h => absurd h (by have := HRC.out; omega), by go_num, HNX.out.symm, by omega, HJ3.out⟩
            case measure => have := HCUT.out; simp; omega
          · have q1 : ¬ (e : Int) = (C : Int) := by omega
            gi_wp2
            go_roundw
            case rel => exact ⟨j + 1, o + e, _, by first | done | (have := HRC.out; have := HCUT.out; rw [show n - (o + e) = R - e by omega, show c - (o + e) = C - e by omega]), fun _ => by first | (simp; done) | (simp; omega), by go_num, HNX.out.symm, by omega, HJ3.out⟩
            case measure => have := HCUT.out; simp; omega
        · have HJX := hid hJx3
          clear hJx3
          gi_wp2
          refine bodyPost_ret (results_none rfl _ _ _) rfl ?_
          exact ⟨⟨_, rfl⟩, .inr HJX.out⟩
    · have ho2 : o = n := by omega
      have hjK : j = K := by
        rcases Nat.lt_or_ge j K with h | h
        · have := HK0.out j h
          omega
        · omega
      subst hjK
      have hz0 : n - o = 0 := by omega
      rw [hz0]
      have HJ := hid hJ
      clear hJ
      gi_wp2
      go_end0
      exact ⟨⟨_, rfl⟩, .inl HJ.out⟩
end Go.Proofs.Ytgiealcfhlcpoaa
set_option linter.unusedVariables false
namespace Go.Proofs.Ytgiealcfhlcpoaa
open Go.RowKit Go.Shelf
attribute [local go_sem] Oper.semAt_some
theorem Try.info25 : (Try.prog.info? 25).map (fun i => (i.zero, i.size, i.bytes)) = some (some (.slice none 0 0), 1, 24) := by kernel_rfl
def pcsR (p : SlV UInt8) : List Value := [.slice p.A p.xs.length p.c]
/-- Pieces in a row, each in memory of its own. -/
def CtO (B : Nat) (w : World) (v : Value) (L : List (List UInt8)) : Prop := ∃ ps : List (SlV UInt8), ps.map SlV.xs = L ∧ w.ownsRow B 25 1 v ps.length (ps.flatMap pcsR) ∧ ∀ p ∈ ps, Pay B w p.A p.c p.xs
theorem CtO.nil_ (B : Nat) (w : World) : CtO B w (.slice none 0 0) [] := ⟨[], rfl, World.ownsRow_nil _ _ _ _, by simp⟩
theorem CtO.chg {B : Nat} {w w' : World} {v : Value} {L : List (List UInt8)} {S : Nat → Prop} (h : CtO B w v L) (hc : Chg S w w') (hS : ∀ b, B ≤ b → ¬ S b) : CtO B w' v L := by
  obtain ⟨fs, h1, h2, h3⟩ := h
  exact ⟨fs, h1, own_chgS h2 hc (fun g hg => hS g (h2.lt g hg).1), fun f hf => (h3 f hf).chg hc (fun b _ _ hb _ => hS b hb)⟩
theorem CtO.mono {B B' : Nat} {w : World} {v : Value} {L : List (List UInt8)} (h : CtO B w v L) (hb : B' ≤ B) : CtO B' w v L := by
  obtain ⟨fs, h1, h2, h3⟩ := h
  exact ⟨fs, h1, own_mono h2 hb, fun f hf => (h3 f hf).mono hb⟩
theorem CtO.below {B : Nat} {w w' : World} {v : Value} {L : List (List UInt8)} (h : CtO B w v L) (hb : Below w.heap.size w w') : CtO B w' v L := h.chg (Chg.of_new hb) (S := fun _ => False) (fun _ _ h => h)
theorem CtO.grow {B k : Nat} {w1 w2 : World} {v v' : Value} {fs : List (SlV UInt8)} {f : SlV UInt8} (hk : fs.length = k) (ho : w1.ownsRow B 25 1 v k (fs.flatMap pcsR)) (hp : ∀ g ∈ fs, Pay B w1 g.A g.c g.xs) (hf : Pay B w1 f.A f.c f.xs)
    (ho2 : w2.ownsRow B 25 1 v' (k + 1) (fs.flatMap pcsR ++ pcsR f)) (hg : w1.grownBy w2 v.ownBlock) : CtO B w2 v' (fs.map SlV.xs ++ [f.xs]) := by
  subst hk
  have hcg : Chg (fun q => some q = v.ownBlock) w1 w2 := Chg.of_grown hg (fun g e => e.symm)
  have hty : ∀ b cs kk, B ≤ b → w1.heap[b]? = some (.cells cs 5 kk) → ¬ (some b = v.ownBlock) := by
    rintro b cs kk hb hcs h
    rcases ho.2 with ⟨rfl, -⟩ | ⟨g, cap, cur, rfl, -, hg1, -⟩
    · cases h
    · simp only [Value.ownBlock] at h
      injection h with h
      subst h
      rw [hcs] at hg1
      injection hg1 with hg1
      injection hg1 with _ hg1
      exact absurd hg1 (by decide)
  refine ⟨fs ++ [f], by rw [List.map_append]; rfl, ?_, ?_⟩
  · rw [List.length_append, List.flatMap_append, List.flatMap_cons, List.flatMap_nil, List.append_nil]
    exact ho2
  · intro g hg
    rcases List.mem_append.1 hg with hg | hg
    · exact (hp g hg).chg hcg hty
    · obtain rfl := List.mem_singleton.1 hg
      exact hf.chg hcg hty
/-- The pieces up to the j-th. -/
def pcL (bs : List UInt8) (ss : List Int) (n j : Nat) : List (List UInt8) := (List.range j).map fun i => (bs.drop (pcO n ss i)).take (pcS n ss i (pcO n ss i))
theorem pcL_len (bs : List UInt8) (ss : List Int) (n j : Nat) : (pcL bs ss n j).length = j := by simp [pcL]
theorem pcL_succ (bs : List UInt8) (ss : List Int) (n j : Nat) : pcL bs ss n (j + 1) = pcL bs ss n j ++ [(bs.drop (pcO n ss j)).take (pcS n ss j (pcO n ss j))] := by
  unfold pcL
  rw [List.range_succ, List.map_append]
  rfl
theorem pcL_flat (bs : List UInt8) (ss : List Int) (n j : Nat) : (pcL bs ss n j).flatten = bs.take (pcO n ss j) := by
  induction j with
  | zero => rfl
  | succ j ih => rw [pcL_succ, List.flatten_append, ih, pcO, List.take_add]; simp
/-- What cutting keeps between two rounds. -/
structure CtI (s : Nat) (w : World) (A : Option Addr) (n c : Nat) (A2 : Option Addr) (k c2 : Nat) (L : List (List UInt8)) (W : World) : Prop where
  b1 : Blk W (s + 1) 25 #[.slice A n c]
  b2 : Blk W (s + 2) 48 #[.slice A2 k c2]
  bo : ∃ v, Blk W s 40 #[v] ∧ CtO (s + 5) W v L
  bel : Below s w W
theorem CtI.keep {s : Nat} {w W W' : World} {A : Option Addr} {n c : Nat} {A2 : Option Addr} {k c2 : Nat} {L : List (List UInt8)} {S : Nat → Prop} (h : CtI s w A n c A2 k c2 L W) (hc : Chg S W W') (hS : ∀ q, S q → s + 3 ≤ q ∧ q < s + 5) : CtI s w A n c A2 k c2 L W' := by
  obtain ⟨b1, b2, ⟨v, o1, o2⟩, bel⟩ := h
  exact ⟨hc.blk b1 (fun h => by have := hS _ h; omega), hc.blk b2 (fun h => by have := hS _ h; omega), ⟨v, hc.blk o1 (fun h => by have := hS _ h; omega), o2.chg hc (fun b hb h => by have := hS _ h; omega)⟩, bel.trans (hc.below (B := s) (fun q hq => by have := hS q hq; omega) (by have := b1.lt; omega))⟩
theorem pieces1_none (m : Nat) (hm : 1 ≤ m) (l Bb Bs : Nat) (W : World) (A : Option Addr) (c : Nat) (hc1 : W.cell? ⟨Bb, 0, none⟩ = some (.slice A 0 c)) :
    CallsIn Fence.wide m Try.prog 29 #[.func (.yield l) #[] #[], .pointer (some ⟨Bb, 0, none⟩), .pointer (some ⟨Bs, 0, none⟩)] W fun e W' => (∃ v, e = .returned v) ∧ W' = W := by
  refine callsIn_of_wp Try.func29 rfl trivial ?_ rfl
  simp only [Try.ntmps29, List.size_toArray, List.length_cons, List.length_nil, Nat.reduceAdd, Nat.reduceSub, Array.replicate_succ, Array.replicate_zero, List.push_toArray, List.append_toArray, List.nil_append, List.cons_append]
  gi_wp2
  gi_loopw [4, 5] (fun lf p wr => lf = .slice A 0 c ∧ p = .int .i64 0 ∧ wr = W) (fun _ _ _ => 0)
  case atStart => exact ⟨rfl, rfl, rfl⟩
  case round =>
    obtain ⟨rfl, rfl, rfl⟩ := hrel
    gi_wp2
    go_end0
    exact ⟨⟨_, rfl⟩, rfl⟩
def CtR4 (s : Nat) (vo : Value) (Ap : Option Addr) (pn cp : Nat) (P : List UInt8) (L : List (List UInt8)) (J : Nat) (a0 : Act) (w0 : World) (f : Nat → Bool) (a : Act) (w : World) : Prop := ∃ x0 x1 x2 x3 x4 : Value, a = (((((a0.put (some 11) x0).put (some 12) x1).put (some 13) x2).put (some 14) x3).put (some 15) x4) ∧ (f 0 = true → x0 = vo) ∧ (f 1 = true → x1 = .slice Ap pn cp) ∧ ((f 2 = false ∧ f 3 = false ∧ f 4 = false ∧ f 5 = false ∧ (Chg (fun _ => False) w0 w)) ∨ (f 2 = true ∧ f 3 = false ∧ f 4 = false ∧ f 5 = false ∧ (Chg (fun _ => False) w0 w ∧ ∃ A5 c5, x2 = .slice A5 pn c5 ∧ Pay (s + 5) w A5 c5 P)) ∨ (f 2 = true ∧ f 3 = true ∧ f 4 = false ∧ f 5 = false ∧ (Chg (fun _ => False) w0 w ∧ ∃ A5 c5 r, x3 = .slice (some ⟨r, 0, none⟩) 1 1 ∧ Pay (s + 5) w A5 c5 P ∧ Rd w (some ⟨r, 0, none⟩) [.slice A5 pn c5])) ∨ (f 2 = true ∧ f 3 = true ∧ f 4 = true ∧ f 5 = false ∧ f 0 = true ∧ (Chg (fun q => vo.ownBlock = some q) w0 w ∧ (∃ A6 c6, x4 = .slice A6 (J + 1) c6) ∧ CtO (s + 5) w x4 (L ++ [P]))) ∨ (f 2 = true ∧ f 3 = true ∧ f 4 = true ∧ f 5 = true ∧ f 0 = true ∧ (Chg (fun q => q = s ∨ vo.ownBlock = some q) w0 w ∧ ∃ v2, Blk w s 40 #[v2] ∧ CtO (s + 5) w v2 (L ++ [P]))))
set_option maxRecDepth 100000 in
set_option maxHeartbeats 8000000 in
theorem scut_in (m : Nat) (hm : 6 ≤ m) (bs : List UInt8) (n : Nat) (A : Option Addr) (c : Nat) (ss : List Int) (k : Nat) (A2 : Option Addr) (c2 : Nat) (K : Nat) (w : World) (hn : bs.length = n) (hl : n ≤ 1000000) (hs : Sl w A c (bs.map bv)) (hk : ss.length = k) (hk2 : k ≤ 1000000) (hss : ∀ x ∈ ss, -9223372036854775808 ≤ x ∧ x ≤ 9223372036854775807) (hs2 : Sl w A2 c2 (ss.map ivP)) (hK : pcO n ss K = n) (hKN : K ≤ n) (hK0 : ∀ j, j < K → pcO n ss j < n) :
    CallsIn Fence.wide m Try.prog 11 #[.slice A n c, .slice A2 k c2] w fun e w' => ∃ A' c', e = .returned (.slice A' K c') ∧ CtO w.heap.size w' (.slice A' K c') (pcL bs ss n K) ∧ Below w.heap.size w w' := by
  obtain ⟨i0, hi, hz0, hz1, hz2⟩ := info_parts Try.info25
  obtain ⟨s, hws⟩ : ∃ s, w.heap.size = s := ⟨_, rfl⟩
  have hcapA := hs.cap
  have hsmA := hs.small
  rw [List.length_map, hn] at hcapA
  have HS := hid hs
  have HS2 := hid hs2
  have HN := hid hn
  have HKL := hid hk
  have HSS := hid hss
  have HK := hid hK
  have HK0 := hid hK0
  rw [hws]
  clear hs hn hk hss hs2 hK hK0
  have h1 : 1 ≤ m := by omega
  refine callsIn_of_wp_marks Try.func11 rfl trivial ?_ rfl
  simp only [Try.ntmps11, List.size_toArray, List.length_cons, List.length_nil, Nat.reduceAdd, Nat.reduceSub, Array.replicate_succ, Array.replicate_zero, List.push_toArray, List.append_toArray, List.nil_append, List.cons_append]
  gi_wp2
  refine ⟨trivial, ?_⟩
  refine (pieces_in (m - 1) A n c A2 k c2 _).mono ?_
  rintro e w4 ⟨rfl, rfl⟩
  gi_wp2
  have hz : (((w.alloc (.cells #[.slice none 0 0] 40)).alloc (.cells #[.slice A n c] 25)).alloc (.cells #[.slice A2 k c2] 48)).heap.size = s + 3 := by simp only [World.size_alloc, hws]
  have hb0 : Below w.heap.size w (((w.alloc (.cells #[.slice none 0 0] 40)).alloc (.cells #[.slice A n c] 25)).alloc (.cells #[.slice A2 k c2] 48)) := bw_a (bw_a (bw_a (Below.refl _ w) _) _) _
  have hli : CtI s w A n c A2 k c2 (pcL bs ss n 0) (((w.alloc (.cells #[.slice none 0 0] 40)).alloc (.cells #[.slice A n c] 25)).alloc (.cells #[.slice A2 k c2] 48)) := by
    refine ⟨?_, ?_, ⟨.slice none 0 0, ?_, CtO.nil_ _ _⟩, by rw [hws] at hb0; exact hb0⟩
    · have := (Blk.new (w.alloc (.cells #[.slice none 0 0] 40)) 25 #[.slice A n c]).alloc (.cells #[.slice A2 k c2] 48)
      rw [World.size_alloc, hws] at this; exact this
    · have := Blk.new ((w.alloc (.cells #[.slice none 0 0] 40)).alloc (.cells #[.slice A n c] 25)) 48 #[.slice A2 k c2]
      rw [World.size_alloc, World.size_alloc, hws] at this; exact this
    · have := ((Blk.new w 40 #[.slice none 0 0]).alloc (.cells #[.slice A n c] 25)).alloc (.cells #[.slice A2 k c2] 48)
      rw [hws] at this; exact this
  generalize (((w.alloc (.cells #[.slice none 0 0] 40)).alloc (.cells #[.slice A n c] 25)).alloc (.cells #[.slice A2 k c2] 48)) = W0 at *
  have HLI := hid hli
  have HZ := hid hz
  clear hz hli hb0
  refine range_wide m (by omega) (s + 3) HZ.out (gf := 29) (lb := #[.pointer (some ⟨s + 1, 0, none⟩), .pointer (some ⟨s + 2, 0, none⟩)]) (by first | rfl | simp [hws]) (enters_of Try.func29 (by kernel_rfl) rfl) K (fun j => match A with | some ⟨b, off, none⟩ => pcV b off c n ss j | _ => #[.slice none 0 0]) (fun _ => by rcases A with _ | ⟨b, off, _ | _⟩ <;> rfl) 0
    (fun j W' => CtI s w A n c A2 k c2 (pcL bs ss n j) W') (fun _ _ => False) ?_ ?_ ?_ ?_ ?_ ?_ ?_
  · rintro j W1 W2 g1 hc
    exact g1.keep hc (fun q hq => by omega)
  · rintro c W1 W2 g1 hc
    exact g1
  · exact HLI.out
  · intro l2 J2 Jx2 W1 hw1 hJI hJn2 _ hJ0 hy
    by_cases hn0 : n = 0
    · subst hn0
      obtain rfl : K = 0 := by omega
      have hf := (hJI 0 W1 hJ0).1
      refine (pieces1_none (m - 1) (by omega) l2 (s + 1) (s + 2) W1 A c (by simpa using hf.b1.cell 0)).mono ?_
      rintro e W' ⟨hv, rfl⟩
      exact ⟨hv, .inl hJ0⟩
    · obtain ⟨b, off, rfl, -, -⟩ := BRd.at_ HS.out.rd (k := 0) (by have := HN.out; omega)
      refine pieces1_in (m - 1) (by omega) l2 (s + 1) (s + 2) b off n c ss k A2 c2 HKL.out hk2 HSS.out hcapA hsmA (by omega) K HK.out hKN HK0.out J2 Jx2 (fun j W h => ?_) (fun j W k h => hJn2 j _ _ h ((Chg.refl _ W).drewN k)) (fun j W hj h => ?_) W1 hJ0
      · have hf := (hJI j W h).1
        exact ⟨by simpa using hf.b1.cell 0, by simpa using hf.b2.cell 0, HS2.out.below (by rw [hws]; exact hf.bel)⟩
      · obtain ⟨fn, tm, as1, bd, e1, e2⟩ := hy j W hj h (hJI j W h).2
        refine ⟨fn, tm, as1, bd, e1, e2.mono ?_⟩
        rintro e W' (⟨g1, g2, -⟩ | ⟨g1, g2, -⟩)
        · exact .inl ⟨g1, g2⟩
        · exact .inr ⟨g1, g2⟩
  · rintro l2 j W1 hj hli hsz1
    have hjo := HK0.out j hj
    have hj1 : j ≤ 1000000 := by omega
    obtain ⟨b, off, rfl, -, -⟩ := BRd.at_ HS.out.rd (k := 0) (by have := HN.out; omega)
    have hm3 : 1 ≤ m - 1 - 1 := by omega
    have HLI1 := hid hli
    have HSU := hid (pcL_succ bs ss n j)
    have HLJ := hid (pcL_len bs ss n j)
    have hle : pcO n ss j + pcS n ss j (pcO n ss j) ≤ n := by unfold pcS; split <;> omega
    show Code.wpIn _ _ _ _ _ { tmps := (#[10].zip (pcV b off c n ss j)).foldl (fun t (p, v) => t.setIfInBounds p v) _, defers := [] } W1
    unfold pcV
    obtain ⟨o, ho⟩ : ∃ o, pcO n ss j = o := ⟨_, rfl⟩
    obtain ⟨pn, hpn⟩ : ∃ pn, pcS n ss j o = pn := ⟨_, rfl⟩
    rw [ho, hpn] at HSU hle ⊢
    rw [ho] at hjo
    obtain ⟨L, hL⟩ : ∃ L, pcL bs ss n j = L := ⟨_, rfl⟩
    rw [hL] at HSU HLJ HLI1
    obtain ⟨P, hP⟩ : ∃ P, (bs.drop o).take pn = P := ⟨_, rfl⟩
    rw [hP] at HSU
    have hPn : P.length = pn := by rw [← hP, List.length_take, List.length_drop, HN.out]; omega
    obtain ⟨cp, hcp⟩ : ∃ cp, c - o = cp := ⟨_, rfl⟩
    have hpn2 : pn ≤ 1000000 := by omega
    rw [hcp]
    have hslw : ∀ W, Below s w W → Sl W (some ⟨b, off + o, none⟩) cp (P.map bv) := fun W hb => by
      have h2 := take_sl ((HS.out.below (by rw [hws]; exact hb)).cut o (by rw [HN.out]; omega)) pn
      rw [hP, hcp] at h2
      unfold cutA at h2
      rw [if_neg (by omega)] at h2
      simpa [addr_add] using h2
    have HSLW := hid hslw
    have HPN := hid hPn
    clear hli hj hP hPn hslw hcp ho hpn hL
    gi_wp2
    refine ⟨KN.refl _ _ _, by omega, fun W2 hc2 => ?_⟩
    have hli2 := HLI1.out.keep hc2 (fun q hq => by omega)
    have hsz2 := hc2.size
    obtain ⟨b1, b2, ⟨vo, o1, o2⟩, bel⟩ := hli2
    have hsl := HSLW.out W2 bel
    have hvo : ∀ q, vo.ownBlock = some q → s + 5 ≤ q := fun q hq => by obtain ⟨fs, -, h2, -⟩ := o2; exact (h2.lt q hq).1
    have HSL := hid hsl
    have HVO := hid hvo
    have HBO := hid o1
    have HON := hid o2
    have B1 := hid b1
    have B2 := hid b2
    have BEL := hid bel
    clear hsl hvo o1 o2 b1 b2 bel hc2 HLI1 HSLW
    gi_wp2
    refine wpIn_region_invB (by kernel_rfl) (by kernel_rfl) (CtR4 s vo (some ⟨b, off + o, none⟩) pn cp P L j) ?_ ?_ ?_
    · exact ⟨undef, undef, undef, undef, undef, (by first | (simp only [Act.put, List.setIfInBounds_toArray, List.set_cons_succ, List.set_cons_zero]; done) | rfl), by simp, by simp, (Or.inl (⟨by simp, by simp, by simp, by simp, ((Chg.refl (fun _ => False) _).drewN 1)⟩))⟩
    · intro f a' wx i o ho hf hdep hI
      have hi : i < 6 := (Array.getElem?_eq_some_iff.1 ho).1
      have hcase : i = 0 ∨ i = 1 ∨ i = 2 ∨ i = 3 ∨ i = 4 ∨ i = 5 := by omega
      clear hi
      rcases hcase with rfl | rfl | rfl | rfl | rfl | rfl
      all_goals
        simp only [List.getElem?_toArray, List.getElem?_cons_zero, List.getElem?_cons_succ, Option.some.injEq] at ho
        subst ho
      · -- 0
        obtain ⟨x0, x1, x2, x3, x4, rfl, h0, h1, hP⟩ := hI
        have y0 : wx.cell? ⟨s, 0, none⟩ = some vo := by
          rcases hP with haP | hbP | hcP | hdP | heP
          · have hP := haP.2.2.2.2; simpa using (hP.blk HBO.out (fun h => h)).cell 0
          · have hP := hbP.2.2.2.2; simpa using (hP.1.blk HBO.out (fun h => h)).cell 0
          · have hP := hcP.2.2.2.2; simpa using (hP.1.blk HBO.out (fun h => h)).cell 0
          · exact absurd hdP.2.2.2.2.1 (by simp [hf])
          · exact absurd heP.2.2.2.2.1 (by simp [hf])
        have H0' := hid h0; have H1' := hid h1; clear h0 h1
        have HPP := hid hP; clear hP
        try simp only [Act.put, List.setIfInBounds_toArray, List.set_cons_succ, List.set_cons_zero]
        gi_wp2
        have h0 := H0'.out; have h1 := H1'.out
        refine ⟨_, x1, x2, x3, x4, (by first | (simp only [Act.put, List.setIfInBounds_toArray, List.set_cons_succ, List.set_cons_zero]; done) | rfl), (fun _ => rfl), (fun h => h1 (by simpa using h)), ?_⟩
        rcases HPP.out with h | h | h | h | h
        · exact (Or.inl (⟨(by simpa using h.1), (by simpa using h.2.1), (by simpa using h.2.2.1), (by simpa using h.2.2.2.1), h.2.2.2.2⟩))
        · exact (Or.inr (Or.inl (⟨(by simpa using h.1), (by simpa using h.2.1), (by simpa using h.2.2.1), (by simpa using h.2.2.2.1), h.2.2.2.2⟩)))
        · exact (Or.inr (Or.inr (Or.inl (⟨(by simpa using h.1), (by simpa using h.2.1), (by simpa using h.2.2.1), (by simpa using h.2.2.2.1), h.2.2.2.2⟩))))
        · exact absurd h.2.2.2.2.1 (by simp [hf])
        · exact absurd h.2.2.2.2.1 (by simp [hf])
      · -- 1
        obtain ⟨x0, x1, x2, x3, x4, rfl, h0, h1, hP⟩ := hI
        have H0' := hid h0; have H1' := hid h1; clear h0 h1
        have HPP := hid hP; clear hP
        try simp only [Act.put, List.setIfInBounds_toArray, List.set_cons_succ, List.set_cons_zero]
        gi_wp2
        have h0 := H0'.out; have h1 := H1'.out
        refine ⟨x0, _, x2, x3, x4, (by first | (simp only [Act.put, List.setIfInBounds_toArray, List.set_cons_succ, List.set_cons_zero]; done) | rfl), (fun h => h0 (by simpa using h)), (fun _ => rfl), ?_⟩
        rcases HPP.out with h | h | h | h | h
        · exact (Or.inl (⟨(by simpa using h.1), (by simpa using h.2.1), (by simpa using h.2.2.1), (by simpa using h.2.2.2.1), h.2.2.2.2⟩))
        · exact (Or.inr (Or.inl (⟨(by simpa using h.1), (by simpa using h.2.1), (by simpa using h.2.2.1), (by simpa using h.2.2.2.1), h.2.2.2.2⟩)))
        · exact (Or.inr (Or.inr (Or.inl (⟨(by simpa using h.1), (by simpa using h.2.1), (by simpa using h.2.2.1), (by simpa using h.2.2.2.1), h.2.2.2.2⟩))))
        · exact (Or.inr (Or.inr (Or.inr (Or.inl (⟨(by simpa using h.1), (by simpa using h.2.1), (by simpa using h.2.2.1), (by simpa using h.2.2.2.1), (by simpa using h.2.2.2.2.1), h.2.2.2.2.2⟩)))))
        · exact (Or.inr (Or.inr (Or.inr (Or.inr (⟨(by simpa using h.1), (by simpa using h.2.1), (by simpa using h.2.2.1), (by simpa using h.2.2.2.1), (by simpa using h.2.2.2.2.1), h.2.2.2.2.2⟩)))))
      · -- 2
        obtain ⟨x0, x1, x2, x3, x4, rfl, h0, h1, hP⟩ := hI
        try simp [Region.binds] at hdep
        rcases hP with hP | hP | hP | hP | hP
        rotate_left
        · exact absurd hP.1 (by simp [hf])
        · exact absurd hP.1 (by simp [hf])
        · exact absurd hP.1 (by simp [hf])
        · exact absurd hP.1 (by simp [hf])
        have hQ := hP
        have hfl3 : f 3 = false := hQ.2.1
        have hfl4 : f 4 = false := hQ.2.2.1
        have hfl5 : f 5 = false := hQ.2.2.2.1
        have hP := hQ.2.2.2.2
        clear hQ
        obtain rfl := h1 (by first | exact hdep | exact hdep.1 | exact hdep.2 | exact hdep.2.1 | exact hdep.2.2 | exact hdep.2.2.1 | exact hdep.2.2.2 | simp_all)
        have H0' := hid h0; have H1' := hid h1; clear h0 h1
        try simp only [Act.put, List.setIfInBounds_toArray, List.set_cons_succ, List.set_cons_zero]
        have hsl := hP.sl HSL.out (n := P.length) (fun _ _ _ _ h => h) (by simp)
        have HSL2 := hid hsl
        have HCH0 := hid hP
        have hszx := hP.size
        clear hsl hP
        gi_wp2
        refine ⟨trivial, ?_⟩
        refine (CallsIn.inRound l2 ((callsIn_wide (n := m - 1 - 1 - 1)).2 (clone_any P pn (some ⟨b, off + o, none⟩) cp _ HPN.out (by omega) HSL2.out))).mono ?_
        rintro e w5 ⟨v5, rfl, ho5, hb5⟩
        obtain ⟨A5, c5, rfl, hp5⟩ := Pay.of_own ho5
        have HP5 := hid (hp5.mono (show s + 5 ≤ wx.heap.size by omega))
        have HC5 := hid (HCH0.out.trans (Chg.of_new hb5))
        clear hp5 ho5 hb5
        gi_wp2
        have h0 := H0'.out; have h1 := H1'.out
        exact ⟨x0, _, _, x3, x4, (by first | (simp only [Act.put, List.setIfInBounds_toArray, List.set_cons_succ, List.set_cons_zero]; done) | rfl), (fun h => h0 (by simpa using h)), (fun _ => rfl), (Or.inr (Or.inl (⟨(by simp), (by simp only [Bool.or_eq_false_iff]; exact ⟨by decide, hfl3⟩), (by simp only [Bool.or_eq_false_iff]; exact ⟨by decide, hfl4⟩), (by simp only [Bool.or_eq_false_iff]; exact ⟨by decide, hfl5⟩), (⟨HC5.out, A5, c5, rfl, HP5.out⟩)⟩)))⟩
      · -- 3
        obtain ⟨x0, x1, x2, x3, x4, rfl, h0, h1, hP⟩ := hI
        try simp [Region.binds] at hdep
        rcases hP with hP | hP | hP | hP | hP
        · exact absurd hP.1 (by simp [hdep])
        rotate_left
        · exact absurd hP.2.1 (by simp [hf])
        · exact absurd hP.2.1 (by simp [hf])
        · exact absurd hP.2.1 (by simp [hf])
        have hQ := hP
        have hfl4 : f 4 = false := hQ.2.2.1
        have hfl5 : f 5 = false := hQ.2.2.2.1
        have hkn2 : f 2 = true := hQ.1
        have hP := hQ.2.2.2.2
        clear hQ
        have H0' := hid h0; have H1' := hid h1; clear h0 h1
        try simp only [Act.put, List.setIfInBounds_toArray, List.set_cons_succ, List.set_cons_zero]
        obtain ⟨hPc, A5, c5, rfl, hPp⟩ := hP
        have HPC := hid (hPc.alloc (.cells #[.slice A5 pn c5] 25))
        have HPP5 := hid (hPp.below (bw_a (Below.refl wx.heap.size wx) (.cells #[.slice A5 pn c5] 25)))
        have HRD := hid (Rd.new wx 25 #[.slice A5 pn c5])
        clear hPc hPp
        gi_wp2
        have h0 := H0'.out; have h1 := H1'.out
        exact ⟨x0, x1, _, _, x4, (by first | (simp only [Act.put, List.setIfInBounds_toArray, List.set_cons_succ, List.set_cons_zero]; done) | rfl), (fun h => h0 (by simpa using h)), (fun h => h1 (by simpa using h)), (Or.inr (Or.inr (Or.inl (⟨(by simp [hkn2]), (by simp), (by simp only [Bool.or_eq_false_iff]; exact ⟨by decide, hfl4⟩), (by simp only [Bool.or_eq_false_iff]; exact ⟨by decide, hfl5⟩), (⟨HPC.out, A5, c5, _, rfl, HPP5.out, HRD.out⟩)⟩))))⟩
      · -- 4
        obtain ⟨x0, x1, x2, x3, x4, rfl, h0, h1, hP⟩ := hI
        try simp [Region.binds] at hdep
        rcases hP with hP | hP | hP | hP | hP
        · exact absurd hP.1 (by simp [hdep])
        · exact absurd hP.2.1 (by simp [hdep])
        rotate_left
        · exact absurd hP.2.2.1 (by simp [hf])
        · exact absurd hP.2.2.1 (by simp [hf])
        have hQ := hP
        have hfl5 : f 5 = false := hQ.2.2.2.1
        have hkn2 : f 2 = true := hQ.1
        have hkn3 : f 3 = true := hQ.2.1
        have hP := hQ.2.2.2.2
        clear hQ
        have hn0 : f 0 = true := (by first | exact hdep | exact hdep.1 | exact hdep.2 | exact hdep.2.1 | exact hdep.2.2 | exact hdep.2.2.1 | exact hdep.2.2.2 | simp_all)
        obtain rfl := h0 (by first | exact hdep | exact hdep.1 | exact hdep.2 | exact hdep.2.1 | exact hdep.2.2 | exact hdep.2.2.1 | exact hdep.2.2.2 | simp_all)
        have H0' := hid h0; have H1' := hid h1; clear h0 h1
        try simp only [Act.put, List.setIfInBounds_toArray, List.set_cons_succ, List.set_cons_zero]
        obtain ⟨hPc, A5, c5, rr, rfl, hPp, hPr⟩ := hP
        obtain ⟨fs, fs1, fs2, fs3⟩ := HON.out.chg hPc (fun _ _ h => h)
        have hfl : fs.length = j := by rw [← HLJ.out, ← fs1, List.length_map]
        rw [hfl] at fs2
        have HFS1 := hid fs1
        have HFS2 := hid fs2
        have HFS3 := hid fs3
        have HFL := hid hfl
        have HPC := hid hPc
        have HPY := hid hPp
        have HRD := hid hPr
        have hsz := hPc.size
        clear fs1 fs2 fs3 hfl hPc hPp hPr
        gi_wp2_with (gi_at_builtin; refine wpListIn_append_rd _ rfl _ _ 40 rfl (s + 5) 25 i0 (.slice none 0 0) 1 24 Try.underlying40 hi hz0 hz1 hz2 rfl (by decide) _ j (fs.flatMap pcsR) rfl HFS2.out ⟨rr, 0, none⟩ 1 1 [.slice A5 pn c5] rfl rfl HRD.out (by simp [Value.oneCell']) (by simp only [maxLen]; omega) (by omega) (by omega) ?_; intro v6 w6 hown hgrow; obtain ⟨A6, c6, rfl⟩ := row_slice_g hown; have HOW := hid hown; have HGR := hid hgrow; clear hown hgrow)
        have hct := CtO.grow (f := ⟨A5, c5, P⟩) HFL.out HFS2.out HFS3.out HPY.out (by have := HOW.out; unfold pcsR; rw [HPN.out]; exact this) HGR.out
        rw [HFS1.out] at hct
        have HCT := hid hct
        have HCG := hid ((HPC.out.mono (fun q _ h => h.elim)).trans (Chg.of_grown HGR.out (fun g e => e)))
        clear hct
        have h0 := H0'.out; have h1 := H1'.out
        exact ⟨_, x1, x2, _, _, (by first | (simp only [Act.put, List.setIfInBounds_toArray, List.set_cons_succ, List.set_cons_zero]; done) | rfl), (fun _ => rfl), (fun h => h1 (by simpa using h)), (Or.inr (Or.inr (Or.inr (Or.inl (⟨(by simp [hkn2]), (by simp [hkn3]), (by simp), (by simp only [Bool.or_eq_false_iff]; exact ⟨by decide, hfl5⟩), (by simp [hn0]), (⟨HCG.out, ⟨A6, c6, rfl⟩, HCT.out⟩)⟩)))))⟩
      · -- 5
        obtain ⟨x0, x1, x2, x3, x4, rfl, h0, h1, hP⟩ := hI
        try simp [Region.binds] at hdep
        rcases hP with hP | hP | hP | hP | hP
        · exact absurd hP.1 (by simp [hdep])
        · exact absurd hP.2.1 (by simp [hdep])
        · exact absurd hP.2.2.1 (by simp [hdep])
        rotate_left
        · exact absurd hP.2.2.2.1 (by simp [hf])
        have hQ := hP
        have hkn2 : f 2 = true := hQ.1
        have hkn3 : f 3 = true := hQ.2.1
        have hkn4 : f 4 = true := hQ.2.2.1
        have hkn0 : f 0 = true := hQ.2.2.2.2.1
        have hP := hQ.2.2.2.2.2
        clear hQ
        have H0' := hid h0; have H1' := hid h1; clear h0 h1
        try simp only [Act.put, List.setIfInBounds_toArray, List.set_cons_succ, List.set_cons_zero]
        obtain ⟨hPc, ⟨A6, c6, rfl⟩, hPo⟩ := hP
        have hbo := hPc.blk HBO.out (fun h => by have := HVO.out _ h; omega)
        have y0 := hbo.cell 0
        have z0 := hbo.frozen 0
        simp only [List.getElem?_toArray, List.getElem?_cons_zero] at y0
        have hst : Blk (wx.setCell ⟨s, 0, none⟩ (.slice A6 (j + 1) c6)) s 40 #[.slice A6 (j + 1) c6] := by simpa using hbo.set_ 0 (.slice A6 (j + 1) c6)
        have hcs : Chg (fun q => q = s) wx (wx.setCell ⟨s, 0, none⟩ (.slice A6 (j + 1) c6)) := (Chg.refl (fun q => q = s) wx).set_ (.inl rfl) 0 _
        have hfo := hPo.chg hcs (fun b hb e => by omega)
        have HST := hid hst
        have HCS := hid hcs
        have HFO := hid hfo
        have HPC := hid hPc
        clear hst hcs hfo hPc hPo hbo
        gi_wp2
        have h0 := H0'.out; have h1 := H1'.out
        exact ⟨x0, x1, x2, x3, _, (by first | (simp only [Act.put, List.setIfInBounds_toArray, List.set_cons_succ, List.set_cons_zero]; done) | rfl), (fun h => h0 (by simpa using h)), (fun h => h1 (by simpa using h)), (Or.inr (Or.inr (Or.inr (Or.inr (⟨(by simp [hkn2]), (by simp [hkn3]), (by simp [hkn4]), (by simp), (by simp [hkn0]), (⟨(HPC.out.mono (fun q _ h => .inr h)).trans (HCS.out.mono (fun q _ h => .inl h)), _, HST.out, HFO.out⟩)⟩)))))⟩
    · intro f a' wx hall hI
      obtain ⟨x0, x1, x2, x3, x4, rfl, h0, h1, hP⟩ := hI
      obtain rfl := h0 (hall 0 (by simp))
      obtain rfl := h1 (hall 1 (by simp))
      rcases hP with hP | hP | hP | hP | hP
      · exact absurd hP.1 (by simp [hall 2 (by simp)])
      · exact absurd hP.2.1 (by simp [hall 3 (by simp)])
      · exact absurd hP.2.2.1 (by simp [hall 4 (by simp)])
      · exact absurd hP.2.2.2.1 (by simp [hall 5 (by simp)])
      replace hP := hP.2.2.2.2.2
      clear h0 h1 hall f
      try simp only [Act.put, List.setIfInBounds_toArray, List.set_cons_succ, List.set_cons_zero]
      obtain ⟨hC8, vo2, hbo2, hct2⟩ := hP
      have HC8 := hid hC8
      have HBO8 := hid hbo2
      have HCT8 := hid hct2
      clear hC8 hbo2 hct2
      gi_wp2
      refine ⟨KN.of_chg HC8.out (by omega) (fun q g1 g2 h => h.elim (fun h => by omega) (fun h => by have := HVO.out q h; omega)), HC8.out.blk B1.out (fun h => h.elim (fun h => by omega) (fun h => by have := HVO.out _ h; omega)), HC8.out.blk B2.out (fun h => h.elim (fun h => by omega) (fun h => by have := HVO.out _ h; omega)), ⟨vo2, HBO8.out, ?_⟩, BEL.out.trans (HC8.out.below (B := s) (fun q h => h.elim (fun h => by omega) (fun h => by have := HVO.out _ h; omega)) (by have := BEL.out.size; omega))⟩
      rw [HSU.out]
      exact HCT8.out

  · rintro W1 hli hd
    obtain ⟨b1, b2, ⟨vo, o1, o2⟩, bel⟩ := hli
    obtain ⟨A', c', rfl⟩ : ∃ A' c', vo = .slice A' K c' := by
      obtain ⟨fs, h1, h2, -⟩ := o2
      have : fs.length = K := by rw [← pcL_len bs ss n K, ← h1, List.length_map]
      rw [this] at h2
      exact row_slice_g h2
    have y0 := o1.cell 0
    simp only [List.getElem?_toArray, List.getElem?_cons_zero] at y0
    have hzd := (Array.getElem?_eq_some_iff.1 hd).1
    have O2 := hid o2
    have BEL := hid bel
    have HD1 := hid hd
    clear b1 b2 o1 o2 bel hd
    gi_wp2
    have hM : Marks (s + 3) W1 [s + 3] := (Marks.nil_ _ _).cons_ (Nat.le_refl _) (by simp) HD1.out
    refine leaves_marks (s + 3) [s + 3] W1 hM fun W6 h6 => ?_
    refine ⟨.slice A' K c', by simp [results, Try.results11, go_sem], ?_⟩
    exact ⟨A', c', rfl, (O2.out.chg h6 (fun b hb h => by simp at h; omega)).mono (by omega), BEL.out.trans (h6.below (B := s) (fun q h => by simp at h; omega) (by have := BEL.out.size; omega))⟩
  · rintro c W1 h
    exact h.elim
end Go.Proofs.Ytgiealcfhlcpoaa
set_option linter.unusedVariables false
namespace Go.Proofs.Ytgiealcfhlcpoaa
open Go.RowKit
/-- Cut of any sizes: K pieces. -/
theorem scut_any (bs : List UInt8) (n : Nat) (A : Option Addr) (c : Nat) (ss : List Int) (k : Nat) (A2 : Option Addr) (c2 : Nat) (w : World) (hn : bs.length = n) (hl : n ≤ 1000000) (hs : Sl w A c (bs.map bv)) (hk : ss.length = k) (hk2 : k ≤ 1000000) (hss : ∀ x ∈ ss, -9223372036854775808 ≤ x ∧ x ≤ 9223372036854775807) (hs2 : Sl w A2 c2 (ss.map ivP)) :
    ∃ K, K ≤ n ∧ pcO n ss K = n ∧ (∀ j, j < K → pcO n ss j < n) ∧ Calls Try.prog 11 #[.slice A n c, .slice A2 k c2] w fun e w' => ∃ A' c', e = .returned (.slice A' K c') ∧ CtO w.heap.size w' (.slice A' K c') (pcL bs ss n K) ∧ Below w.heap.size w w' := by
  obtain ⟨K, h1, h2, h3⟩ := pcO_end n ss
  exact ⟨K, h1, h2, h3, (callsIn_wide (n := 8)).1 (scut_in 8 (by omega) bs n A c ss k A2 c2 K w hn hl hs hk hk2 hss hs2 h2 h1 h3)⟩
/-- How many bytes a piece must have. -/
def pcW (n : Nat) (ss : List Int) (j : Nat) : Int := if ss.length = 0 then (n : Int) else max (ss.getD (j % ss.length) 0) 1
theorem pcW_le (n : Nat) (ss : List Int) (j : Nat) : ((pcS n ss j (pcO n ss j) : Nat) : Int) ≤ pcW n ss j := by
  unfold pcW pcS
  split <;> omega
theorem pcW_eq {n : Nat} {ss : List Int} {j : Nat} (h : pcO n ss (j + 1) < n) : ((pcS n ss j (pcO n ss j) : Nat) : Int) = pcW n ss j := by
  rw [pcO] at h
  revert h
  unfold pcW pcS
  split <;> intro h <;> omega
theorem pcL_get (bs : List UInt8) (ss : List Int) (n K j : Nat) (hj : j < K) : (pcL bs ss n K)[j]'(by rw [pcL_len]; exact hj) = (bs.drop (pcO n ss j)).take (pcS n ss j (pcO n ss j)) := by
  simp [pcL]
theorem pcL_size {bs : List UInt8} {ss : List Int} {n j : Nat} (hn : bs.length = n) : ((bs.drop (pcO n ss j)).take (pcS n ss j (pcO n ss j))).length = pcS n ss j (pcO n ss j) := by
  rw [List.length_take, List.length_drop, hn]
  have := pcO_le n ss (j + 1)
  rw [pcO] at this
  omega
theorem pcL_all {bs : List UInt8} {ss : List Int} {n K : Nat} (hn : bs.length = n) (hK : pcO n ss K = n) : (pcL bs ss n K).flatten = bs := by
  rw [pcL_flat, hK]
  exact List.take_of_length_le (by omega)
end Go.Proofs.Ytgiealcfhlcpoaa
