/- The walk of WholeTypes. -/
import Derived.Test.YtefoccpgnijamaaLawS
import Derived.Test.YtefoccpgnijamaaLike
import Derived.Deep.RegionHeld3
set_option linter.unusedVariables false
namespace Go.Proofs.Ytefoccpgnijamaa
open Go.RowKit
/-- A field of a row: a number, or bytes. -/
def typF (n : Nat) (t : SlV UInt8) (r : SRow) : FV := ⟨(r.num : Nat), (wireN (r.typ : Nat) : Nat), if wireN (r.typ : Nat) = 2 then 0 else n, if wireN (r.typ : Nat) = 2 then t else ⟨none, 0, []⟩, 0⟩
theorem wire_cases (t : Nat) (h1 : 1 ≤ t) (h2 : t ≤ 10) : (wireN (t : Int) = 2 ∧ 0 < mostN (t : Int)) ∨ ((wireN (t : Int) = 0 ∨ wireN (t : Int) = 1 ∨ wireN (t : Int) = 5) ∧ mostN (t : Int) = 0) := by
  have h : t = 1 ∨ t = 2 ∨ t = 3 ∨ t = 4 ∨ t = 5 ∨ t = 6 ∨ t = 7 ∨ t = 8 ∨ t = 9 ∨ t = 10 := by omega
  rcases h with rfl | rfl | rfl | rfl | rfl | rfl | rfl | rfl | rfl | rfl <;> decide
theorem typF_ok (w : World) (n : Nat) (t : SlV UInt8) (r : SRow) (hr : r ∈ ROWS) (hn : n ≤ 4294967295) (hl : t.xs.length ≤ 200) (hs : Sl w t.A t.c (t.xs.map bv)) : FvOk w (typF n t r) ∧ pErrF (typF n t r) = 0 ∧ (typF n t r).s.xs.length ≤ 200 ∧ bareN (typF n t r) = (typF n t r).n ∧ bareX (typF n t r) = (typF n t r).s.xs := by
  have ho := row_ok hr
  have hw := wire_cases r.typ (by omega) (by omega)
  have hm : ∀ wi : Nat, (wi = 0 ∨ wi = 1 ∨ wi = 2 ∨ wi = 5) → (mk (r.num : Nat) (wi : Nat)).2 = 0 := by
    intro wi h
    have h1 : r.num = 1 ∨ r.num = 2 ∨ r.num = 3 ∨ r.num = 4 ∨ r.num = 5 ∨ r.num = 6 ∨ r.num = 7 := by omega
    rcases h1 with h1 | h1 | h1 | h1 | h1 | h1 | h1 <;> rw [h1] <;> rcases h with rfl | rfl | rfl | rfl <;> rfl
  rcases hw with ⟨hw, -⟩ | ⟨hw, -⟩
  · unfold typF
    rw [hw]
    simp only [if_true]
    refine ⟨⟨by dsimp only; omega, by dsimp only; omega, by dsimp only; omega, by dsimp only; omega, by dsimp only; omega, by dsimp only; omega, by dsimp only; omega, hs⟩, ?_, hl, by unfold bareN; simp, by unfold bareX; simp⟩
    unfold pErrF pErr
    have h2 := hm 2 (by omega)
    rw [if_neg (by dsimp only; rw [h2]; simp), if_neg (by dsimp only; omega)]
  · have hne : wireN (r.typ : Int) ≠ 2 := by omega
    have hwl : wireN (r.typ : Int) ≤ 5 := by omega
    unfold typF
    rw [if_neg hne, if_neg hne]
    have h2 := hm (wireN (r.typ : Int)) (by omega)
    generalize wireN (r.typ : Int) = wi at *
    refine ⟨⟨by dsimp only; omega, by dsimp only; omega, by dsimp only; omega, by dsimp only; omega, by dsimp only; omega, by dsimp only; omega, by dsimp only; omega, Sl.nil_ w⟩, ?_, by show (0 : Nat) ≤ _; omega, ?_, ?_⟩
    · unfold pErrF pErr
      rw [if_neg (by dsimp only; rw [h2]; simp), if_neg (by dsimp only; simp)]
    · unfold bareN
      dsimp only
      rw [if_neg (by omega)]
      split
      · omega
      · rfl
    · unfold bareX
      dsimp only
      split <;> rfl
theorem putsE_ok' : ∀ (l : List FV) (i : Nat), (∀ f ∈ l, pErrF f = 0) → putsE l i = (0, 0)
  | [], i, _ => rfl
  | f :: fs, i, h => by rw [putsE, if_pos (h f (List.mem_cons_self ..))]; exact putsE_ok' fs _ fun g hg => h g (List.mem_cons_of_mem _ hg)
theorem typ_at (n : Nat) (t : SlV UInt8) (L : List SRow) (j : Nat) (hj : j < L.length) : (L.map (typF n t)).take (j + 1) = (L.map (typF n t)).take j ++ [typF n t L[j]] := by
  rw [List.take_succ_eq_append_getElem (by simpa using hj), List.getElem_map]
theorem heldY13 {w w' : World} (hc : Below w.heap.size w w') {p0 p1 p2 p3 p4 p5 p6 p7 p8 p9 p10 p11 p12 : Addr} {x0 x1 x2 x3 x4 x5 x6 x7 x8 x9 x10 x11 x12 : Value} (h : w.cell? p0 = some x0 ∧ w.cell? p1 = some x1 ∧ w.cell? p2 = some x2 ∧ w.cell? p3 = some x3 ∧ w.cell? p4 = some x4 ∧ w.cell? p5 = some x5 ∧ w.cell? p6 = some x6 ∧ w.cell? p7 = some x7 ∧ w.cell? p8 = some x8 ∧ w.cell? p9 = some x9 ∧ w.cell? p10 = some x10 ∧ w.cell? p11 = some x11 ∧ w.cell? p12 = some x12) : w'.cell? p0 = some x0 ∧ w'.cell? p1 = some x1 ∧ w'.cell? p2 = some x2 ∧ w'.cell? p3 = some x3 ∧ w'.cell? p4 = some x4 ∧ w'.cell? p5 = some x5 ∧ w'.cell? p6 = some x6 ∧ w'.cell? p7 = some x7 ∧ w'.cell? p8 = some x8 ∧ w'.cell? p9 = some x9 ∧ w'.cell? p10 = some x10 ∧ w'.cell? p11 = some x11 ∧ w'.cell? p12 = some x12 := by
  obtain ⟨h0, h1, h2, h3, h4, h5, h6, h7, h8, h9, h10, h11, h12⟩ := h
  have f : ∀ (p : Addr) (x : Value), w.cell? p = some x → w'.cell? p = some x := fun p x h => (hc.cell (World.block_lt_of_cell? w p h)).trans h
  exact ⟨f _ _ h0, f _ _ h1, f _ _ h2, f _ _ h3, f _ _ h4, f _ _ h5, f _ _ h6, f _ _ h7, f _ _ h8, f _ _ h9, f _ _ h10, f _ _ h11, f _ _ h12⟩
theorem heldY16 {w w' : World} (hc : Below w.heap.size w w') {p0 p1 p2 p3 p4 p5 p6 p7 p8 p9 p10 p11 p12 p13 p14 p15 : Addr} {x0 x1 x2 x3 x4 x5 x6 x7 x8 x9 x10 x11 x12 x13 x14 x15 : Value} (h : w.cell? p0 = some x0 ∧ w.cell? p1 = some x1 ∧ w.cell? p2 = some x2 ∧ w.cell? p3 = some x3 ∧ w.cell? p4 = some x4 ∧ w.cell? p5 = some x5 ∧ w.cell? p6 = some x6 ∧ w.cell? p7 = some x7 ∧ w.cell? p8 = some x8 ∧ w.cell? p9 = some x9 ∧ w.cell? p10 = some x10 ∧ w.cell? p11 = some x11 ∧ w.cell? p12 = some x12 ∧ w.cell? p13 = some x13 ∧ w.cell? p14 = some x14 ∧ w.cell? p15 = some x15) : w'.cell? p0 = some x0 ∧ w'.cell? p1 = some x1 ∧ w'.cell? p2 = some x2 ∧ w'.cell? p3 = some x3 ∧ w'.cell? p4 = some x4 ∧ w'.cell? p5 = some x5 ∧ w'.cell? p6 = some x6 ∧ w'.cell? p7 = some x7 ∧ w'.cell? p8 = some x8 ∧ w'.cell? p9 = some x9 ∧ w'.cell? p10 = some x10 ∧ w'.cell? p11 = some x11 ∧ w'.cell? p12 = some x12 ∧ w'.cell? p13 = some x13 ∧ w'.cell? p14 = some x14 ∧ w'.cell? p15 = some x15 := by
  obtain ⟨h0, h1, h2, h3, h4, h5, h6, h7, h8, h9, h10, h11, h12, h13, h14, h15⟩ := h
  have f : ∀ (p : Addr) (x : Value), w.cell? p = some x → w'.cell? p = some x := fun p x h => (hc.cell (World.block_lt_of_cell? w p h)).trans h
  exact ⟨f _ _ h0, f _ _ h1, f _ _ h2, f _ _ h3, f _ _ h4, f _ _ h5, f _ _ h6, f _ _ h7, f _ _ h8, f _ _ h9, f _ _ h10, f _ _ h11, f _ _ h12, f _ _ h13, f _ _ h14, f _ _ h15⟩
set_option maxRecDepth 100000 in
set_option maxHeartbeats 8000000 in
theorem wholeTypes_any (k : Nat) (v : Int) (n : Nat) (t : SlV UInt8) (nt : Nat) (w : World) (hk : k ≤ 255) (hv1 : -9223372036854775808 ≤ v) (hv2 : v ≤ 9223372036854775807) (hn : n ≤ 4294967295) (hnt : t.xs.length = nt) (ht : Sl w t.A t.c (t.xs.map bv)) :
    Calls Try.prog 7 #[.int .u8 (k : Nat), .int .i64 v, .int .u32 (n : Nat), .slice t.A nt t.c] w fun e w' => e = .returned (.bool true) ∧ Below w.heap.size w w' := by
  have hcm : nt ≤ 9223372036854775807 := by have g1 := ht.cap; have g2 := ht.small; rw [List.length_map] at g1; omega
  obtain ⟨i5, hi5, hi50, hi51, hi52⟩ := info_parts Try.infoField
  by_cases hbig : 200 < nt
  · generalize t.A = A
    generalize t.c = c
    clear ht hnt
    go_enter Try.func7, Try.ntmps7
    go_wp2_with fail
    refine (awakeSeal_any _).mono ?_
    rintro e w1 ⟨rfl, hb1⟩
    go_wp2_with fail
    go_ret
    exact ⟨rfl, hb1⟩
  have hsof := fun W => ((callsIn_wide (n := 4)).1 (sof2_in 4 (by omega) (k : Int) v W hv1 hv2))
  have hsfi := fun n W => ((callsIn_wide (n := 4)).1 (sfind_in 4 (by omega) (k : Int) v n W hv1 hv2))
  obtain ⟨L, hL⟩ : ∃ L, L = ofL (k : Int) v := ⟨_, rfl⟩
  have hgf : ∀ i (hi : i < L.length), finS (k : Int) v (L[i].num : Int) = some L[i] := by
    subst hL
    intro i hi
    have h3 : v ≤ 3 := by
      rcases kn_one v with rfl | rfl | rfl | ⟨-, h0⟩
      · omega
      · omega
      · omega
      · rw [ofL_nil _ _ h0] at hi; simp at hi
    exact grow_find k v v i hi (by omega) h3
  have hq40 := ofL_le40 (k : Int) v
  have hmem : ∀ r ∈ L, r ∈ ROWS := by subst hL; exact fun r hr => ofL_mem _ v hr
  rw [← hL] at hsof hq40
  clear hL
  have hta := fun j hj => typ_at n t L j hj
  have htok := fun W (hW : Below w.heap.size w W) r hr => typF_ok W n t r (hmem r hr) hn (by omega) (ht.below hW)
  obtain ⟨m, hm⟩ : ∃ m, L.length = m := ⟨_, rfl⟩
  rw [hm] at hsof hq40
  have HSOF := hid hsof
  have HSFI := hid hsfi
  have HGF := hid hgf
  have HTA := hid hta
  have HTOK := hid htok
  have HM := hid hm
  have HNT := hid hnt
  have HMEM := hid hmem
  clear hsof hsfi hgf hmem hta htok hm hnt ht
  obtain ⟨tA, tc, txs⟩ := t
  simp only at HNT
  go_enter Try.func7, Try.ntmps7
  go_wp2_with fail
  refine (awakeSeal_any _).mono ?_
  rintro e w1 ⟨rfl, hb1⟩
  go_wp2_with fail
  refine (HSOF.out _).mono ?_
  rintro e w2 ⟨vv, rfl, ho2, hb2⟩
  obtain ⟨A2, c2, rfl, hs2⟩ := SlN.of_own (by omega) ho2
  have HB2 := hid (bw_t hb1 hb2)
  have HS2 := hid hs2
  clear hb1 hb2 ho2 hs2
  go_wp2_with fail
  go_loopw [11, 12] (fun fv i wr => ∃ j : Nat, j ≤ m ∧ i = .int .i64 (j : Int) ∧ wr.ownsRow w2.heap.size 41 5 fv j (((L.map (typF n ⟨tA, tc, txs⟩)).take j).flatMap fvC) ∧ Below w2.heap.size w2 wr) (fun _ i _ => m - (intOf i).toNat)
  case atStart => exact ⟨0, by omega, rfl, World.ownsRow_nil _ _ _ _, Below.refl _ _⟩
  case round =>
    obtain ⟨j, hj, rfl, hrow, hB⟩ := hrel
    by_cases hlt : j < m
    · have hjl : j < L.length := by have := HM.out; omega
      have hn0 : (L.flatMap specC)[j * 3 + 0]? = _ := flatMap_get specC 3 L j 0 hjl (fun _ _ => rfl) (by omega)
      have hn1 : (L.flatMap specC)[j * 3 + 1]? = _ := flatMap_get specC 3 L j 1 hjl (fun _ _ => rfl) (by omega)
      obtain ⟨b, off, hA, hbw, t0⟩ := HS2.out.rd _ _ hn0
      subst hA
      have t1 := HS2.out.rd.addr _ _ hn1
      rw [addr_add] at t1
      simp only [Nat.add_zero, ← Nat.add_assoc] at t0 t1
      have t0 := (hB.cell (p := ⟨b, off + j * 3, none⟩) hbw).trans t0
      have t1 := (hB.cell (p := ⟨b, off + j * 3 + 1, none⟩) hbw).trans t1
      have hta := HTA.out j hjl
      have hro := row_ok (HMEM.out L[j] (List.getElem_mem hjl))
      have hwc := wire_cases L[j].typ hro.2.2.2.2.2.2.1 hro.2.2.2.2.2.2.2.1
      have hwk : wireK (L[j].typ : Nat) = true := by unfold wireK; simp; omega
      have hwi := fun W => swire_any (L[j].typ : Nat) W
      have hmo := fun W => smost_any (L[j].typ : Nat) W
      have htf : typF n ⟨tA, tc, txs⟩ L[j] = ⟨(L[j].num : Nat), (wireN (L[j].typ : Nat) : Nat), if wireN (L[j].typ : Nat) = 2 then 0 else n, if wireN (L[j].typ : Nat) = 2 then ⟨tA, tc, txs⟩ else ⟨none, 0, []⟩, 0⟩ := rfl
      rw [hwk] at hwi
      have hji : (j : Int) < (m : Int) := by omega
      have hj0 : (0 : Int) ≤ (j : Int) := by omega
      clear hn0 hn1 hwk hro
      generalize typF n ⟨tA, tc, txs⟩ L[j] = x at *
      generalize wireN (L[j].typ : Nat) = wi at *
      generalize mostN (L[j].typ : Nat) = mo at *
      generalize L[j] = r at *
      obtain ⟨rk, si, nu, ty, sl⟩ := r
      simp only at t0 t1 hwi hmo htf
      have HROW := hid hrow
      have HB := hid hB
      have HTA1 := hid hta
      have HWI := hid hwi
      have HMO := hid hmo
      have hBs := hB.size
      clear hrow hB hta hwi hmo
      rcases hwc with ⟨rfl, hmo⟩ | ⟨hwne, rfl⟩
      · simp only [if_true] at htf
        have HTF := hid htf
        clear htf
        go_wp2_with fail
        refine (HWI.out _).mono ?_
        rintro e w3 ⟨rfl, rfl⟩
        go_wp2_with fail
        refine (HMO.out _).mono ?_
        rintro e w3 ⟨rfl, rfl⟩
        have hrd := Rd.new (w3.alloc (.cells #[.int .i64 (nu : Int), .int .u8 2, .int .u64 0, .slice tA nt tc, .int .i64 0] 41)) 41 #[.int .i64 (nu : Int), .int .u8 2, .int .u64 0, .slice tA nt tc, .int .i64 0]
        rw [World.size_alloc] at hrd
        have hrw := HROW.out.alloc (.cells #[.int .i64 (nu : Int), .int .u8 2, .int .u64 0, .slice tA nt tc, .int .i64 0] 41)
        have hba := bw_a HB.out (.cells #[.int .i64 (nu : Int), .int .u8 2, .int .u64 0, .slice tA nt tc, .int .i64 0] 41)
        go_wp2_with (at_builtin; refine wpList_append_rd rfl (.tmp 77) (.tmp 79) 36 rfl w2.heap.size 41 i5 (.agg #[.int .i64 0, .int .u8 0, .int .u64 0, .slice none 0 0, .int .i64 0]) 5 56 Try.underlying36 hi5 hi50 hi51 hi52 rfl (by decide) _ _ _ rfl (hrw.alloc _) (some ⟨w3.heap.size + 1, 0, none⟩) 1 1 [.int .i64 (nu : Int), .int .u8 2, .int .u64 0, .slice tA nt tc, .int .i64 0] rfl rfl hrd (fun h => by cases h) (by simp [Value.oneCell']) (by simp only [maxLen]; omega) (by omega) (by simp; omega) ?_; intro v6 w6 hown6 hgrow6)
        have hB6 := bw_g (bw_a hba (.cells #[.int .i64 (nu : Int), .int .u8 2, .int .u64 0, .slice tA nt tc, .int .i64 0] 41)) hgrow6 (fun k ek => (HROW.out.lt k ek).1)
        refine ⟨⟨j + 1, by omega, by go_num, ?_, hB6⟩, by simp [intOf] <;> omega⟩
        rw [HTA1.out, List.flatMap_append, HTF.out]
        simpa [fvC, HNT.out] using hown6
      · have hw2 : ¬ wi = 2 := by omega
        rw [if_neg hw2, if_neg hw2] at htf
        have HTF := hid htf
        have hwb : ((wi : Int) == 2) = false := by simp; omega
        clear htf hw2 hwne
        go_wp2_with fail
        refine (HWI.out _).mono ?_
        rintro e w3 ⟨rfl, rfl⟩
        go_wp2_with fail
        refine (HMO.out _).mono ?_
        rintro e w3 ⟨rfl, rfl⟩
        have hrd := Rd.new (w3.alloc (.cells #[.int .i64 (nu : Int), .int .u8 (wi : Int), .int .u64 (n : Int), .slice none 0 0, .int .i64 0] 41)) 41 #[.int .i64 (nu : Int), .int .u8 (wi : Int), .int .u64 (n : Int), .slice none 0 0, .int .i64 0]
        rw [World.size_alloc] at hrd
        have hrw := HROW.out.alloc (.cells #[.int .i64 (nu : Int), .int .u8 (wi : Int), .int .u64 (n : Int), .slice none 0 0, .int .i64 0] 41)
        have hba := bw_a HB.out (.cells #[.int .i64 (nu : Int), .int .u8 (wi : Int), .int .u64 (n : Int), .slice none 0 0, .int .i64 0] 41)
        go_wp2_with (at_builtin; refine wpList_append_rd rfl (.tmp 77) (.tmp 79) 36 rfl w2.heap.size 41 i5 (.agg #[.int .i64 0, .int .u8 0, .int .u64 0, .slice none 0 0, .int .i64 0]) 5 56 Try.underlying36 hi5 hi50 hi51 hi52 rfl (by decide) _ _ _ rfl (hrw.alloc _) (some ⟨w3.heap.size + 1, 0, none⟩) 1 1 [.int .i64 (nu : Int), .int .u8 (wi : Int), .int .u64 (n : Int), .slice none 0 0, .int .i64 0] rfl rfl hrd (fun h => by cases h) (by simp [Value.oneCell']) (by simp only [maxLen]; omega) (by omega) (by simp; omega) ?_; intro v6 w6 hown6 hgrow6)
        have hB6 := bw_g (bw_a hba (.cells #[.int .i64 (nu : Int), .int .u8 (wi : Int), .int .u64 (n : Int), .slice none 0 0, .int .i64 0] 41)) hgrow6 (fun k ek => (HROW.out.lt k ek).1)
        refine ⟨⟨j + 1, by omega, by go_num, ?_, hB6⟩, by simp [intOf] <;> omega⟩
        rw [HTA1.out, List.flatMap_append, HTF.out]
        simpa [fvC, HNT.out] using hown6
    · obtain rfl : j = m := by omega
      rw [List.take_of_length_le (by rw [List.length_map]; have := HM.out; omega)] at hrow
      obtain ⟨F, hF⟩ : ∃ F, L.map (typF n ⟨tA, tc, txs⟩) = F := ⟨_, rfl⟩
      have hFl : F.length = j := by rw [← hF, List.length_map]; exact HM.out
      have hFr : ∀ i (h1 : i < F.length) (h2 : i < L.length), F[i] = typF n ⟨tA, tc, txs⟩ L[i] := by
        intro i h1 h2
        subst hF
        rw [List.getElem_map]
      have hFk : ∀ f ∈ F, FvOk wr f ∧ pErrF f = 0 ∧ f.s.xs.length ≤ 200 ∧ bareN f = f.n ∧ bareX f = f.s.xs := by
        intro f hf
        rw [← hF] at hf
        obtain ⟨r, hr, rfl⟩ := List.mem_map.1 hf
        exact HTOK.out wr (HB2.out.trans (hB.mono HB2.out.size)) r hr
      rw [hF] at hrow
      have hnum : ∀ i (h1 : i < F.length) (h2 : i < L.length), F[i].num = (L[i].num : Nat) := fun i h1 h2 => by rw [hFr i h1 h2]; rfl
      obtain ⟨A9, c9, rfl, hs9⟩ := sln_own (by omega) hrow
      have hput := sputs_any F j A9 c9 wr hFl (by omega) hs9 (fun f hf => (hFk f hf).1) (fun f hf => by have := (hFk f hf).2.2.1; omega)
      have hpe : putsE F 0 = (0, 0) := putsE_ok' F 0 (fun f hf => (hFk f hf).2.1)
      have hlen := pBF_all F (fun f hf => pBF_len f (hFk f hf).1.n (hFk f hf).1.w0 (hFk f hf).1.w1 (by have := (hFk f hf).2.2.1; omega))
      have hfl := flds_put F (F.flatMap pBF) [] 0 (F.flatMap pBF).length (fun f hf => ⟨(hFk f hf).2.1, (hFk f hf).1.n, (hFk f hf).1.w0, (hFk f hf).1.w1⟩) rfl rfl (by omega)
      rw [hpe] at hput
      rw [hFl] at hlen
      have hfd := fun W X d hX => (callsIn_wide (n := 4)).1 (fields_in 4 (by omega) (F.flatMap pBF) (F.flatMap pBF).length X d W rfl (by omega) hX)
      rw [hfl] at hfd
      generalize F.flatMap pBF = bs at *
      obtain ⟨lb, hlb⟩ : ∃ k, bs.length = k := ⟨_, rfl⟩
      rw [hlb] at hput hfd hlen
      have HPUT := hid hput
      have HFD := hid hfd
      have HFK := hid hFk
      have HFL := hid hFl
      have HNUM := hid hnum
      have HS9 := hid hs9
      have HB := hid hB
      clear hput hfd hFk hFl hnum hs9 hB hrow hpe hfl hF hFr hlb
      go_wp2_with fail
      refine HPUT.out.mono ?_
      rintro e w3 ⟨(⟨-, v3, rfl, ho3⟩ | ⟨h, -⟩), hb3⟩
      rotate_left
      · exact (h (by first | trivial | rfl)).elim
      obtain ⟨A3, c3, rfl, -, hs3⟩ := Sl.of_own ho3
      have hb3a := bw_a (Below.refl w3.heap.size w3) (.cells #[.int .i64 0, .int .i64 0] 51)
      have hk3 := Blk.new w3 51 #[.int .i64 0, .int .i64 0]
      have hb03 := bw_t hb3 hb3a
      have hs3a := hs3.below hb3a
      have HB3 := hid hb03
      have HS3 := hid hs3a
      have HK3 := hid hk3
      clear hb3 hb3a hs3a hs3 ho3 hk3 hb03
      go_wp2_with fail
      refine (HFD.out _ _ _ HS3.out).mono ?_
      rintro e w4 ⟨(⟨-, v4, b4, pre, rfl, hb4l, ho4, hfa, hsl⟩ | ⟨h, -⟩), hb4⟩
      rotate_left
      · exact (h (by first | trivial | rfl)).elim
      obtain ⟨hpl, hlk⟩ := put_like hfa
      obtain ⟨A4, c4, rfl, hs4⟩ := sln_own (by omega) ho4
      have hpj : pre.length = j := by rw [hpl]; exact HFL.out
      rw [hpj] at hs4 ⊢
      have hb4a := bw_a (Below.refl w4.heap.size w4) (.cells #[.int .i64 0, .int .i64 0] 51)
      have hk3 := (HK3.out.below hb4 HK3.out.lt).below hb4a (HK3.out.below hb4 HK3.out.lt).lt
      have d0 := hk3.cell 0
      have d1 := hk3.cell 1
      simp only [List.getElem?_toArray, List.getElem?_cons_zero, List.getElem?_cons_succ] at d0 d1
      have hlt3 := (HK3.out.below hb4 HK3.out.lt).lt
      have hb04 := bw_t HB3.out (bw_t hb4 hb4a)
      have HB4 := hid (HB.out.trans (hb04.mono HB.out.size))
      have HS4 := hid (hs4.below hb4a)
      have HSF := hid (HS9.out.below hb04)
      have HSL := hid (fun f hf => (hsl f hf).1.below hb4a)
      have HFKB := hid (fun f hf => ((HFK.out f hf).1).below hb04)
      have HLK := hid hlk
      have HPJ := hid hpj
      clear hb4 hb4a hs4 hk3 hb04 hsl hlk hpj hpl hfa ho4 hb4l
      go_wp2_with fail
      generalize w4.alloc (.cells #[.int .i64 0, .int .i64 0] 51) = w5 at *
      have HL2 := hid (HS2.out.below HB4.out)
      clear d0 d1 hlt3
      go_loopw [20] (fun i wr => ∃ q : Nat, q ≤ j ∧ i = .int .i64 (q : Int) ∧ Below w5.heap.size w5 wr) (fun i _ => j - (intOf i).toNat)
      case atStart => exact ⟨0, by omega, rfl, Below.refl _ _⟩
      case round =>
        obtain ⟨q, hq, rfl, hB⟩ := hrel
        by_cases hlt2 : q < j
        · have hjl : q < L.length := by have := HM.out; omega
          have hjF : q < F.length := by have := HFL.out; omega
          have hjP : q < pre.length := by have := HPJ.out; omega
          have ha0 : (pre.flatMap fvC)[q * 5 + 0]? = _ := flatMap_get fvC 5 pre q 0 hjP (fun _ _ => rfl) (by omega)
          have ha1 : (pre.flatMap fvC)[q * 5 + 1]? = _ := flatMap_get fvC 5 pre q 1 hjP (fun _ _ => rfl) (by omega)
          have ha2 : (pre.flatMap fvC)[q * 5 + 2]? = _ := flatMap_get fvC 5 pre q 2 hjP (fun _ _ => rfl) (by omega)
          have ha3 : (pre.flatMap fvC)[q * 5 + 3]? = _ := flatMap_get fvC 5 pre q 3 hjP (fun _ _ => rfl) (by omega)
          have ha4 : (pre.flatMap fvC)[q * 5 + 4]? = _ := flatMap_get fvC 5 pre q 4 hjP (fun _ _ => rfl) (by omega)
          have hb0 : (F.flatMap fvC)[q * 5 + 0]? = _ := flatMap_get fvC 5 F q 0 hjF (fun _ _ => rfl) (by omega)
          have hb1 : (F.flatMap fvC)[q * 5 + 1]? = _ := flatMap_get fvC 5 F q 1 hjF (fun _ _ => rfl) (by omega)
          have hb2 : (F.flatMap fvC)[q * 5 + 2]? = _ := flatMap_get fvC 5 F q 2 hjF (fun _ _ => rfl) (by omega)
          have hb3 : (F.flatMap fvC)[q * 5 + 3]? = _ := flatMap_get fvC 5 F q 3 hjF (fun _ _ => rfl) (by omega)
          have hb4 : (F.flatMap fvC)[q * 5 + 4]? = _ := flatMap_get fvC 5 F q 4 hjF (fun _ _ => rfl) (by omega)
          have hc0 : (L.flatMap specC)[q * 3 + 0]? = _ := flatMap_get specC 3 L q 0 hjl (fun _ _ => rfl) (by omega)
          have hc1 : (L.flatMap specC)[q * 3 + 1]? = _ := flatMap_get specC 3 L q 1 hjl (fun _ _ => rfl) (by omega)
          have hc2 : (L.flatMap specC)[q * 3 + 2]? = _ := flatMap_get specC 3 L q 2 hjl (fun _ _ => rfl) (by omega)
          have hlk0 := HLK.out q hjP hjF
          have hbr := (HFK.out F[q] (List.getElem_mem hjF)).2.2.2
          have hnu := HNUM.out q hjF hjl
          have hfi := fun W => HSFI.out (L[q].num : Int) W
          simp only [HGF.out q hjl, specO, specV, Option.isSome] at hfi
          have hsf := HSL.out pre[q] (List.getElem_mem hjP)
          have hsg := (HFKB.out F[q] (List.getElem_mem hjF)).s
          have hlk := fun W (hW : Below w5.heap.size w5 W) => like_any pre[q] F[q] W (hsf.below hW) (hsg.below hW)
          have hlt : likeB pre[q] F[q] = true := by unfold likeB; simp only [decide_eq_true_eq]; exact ⟨hlk0.1, hlk0.2.1, hlk0.2.2.1.trans hbr.1, hlk0.2.2.2.trans hbr.2⟩
          simp only [hlt] at hlk
          have hpn : pre[q].num = (L[q].num : Nat) := hlk0.1.trans hnu
          obtain ⟨b, off, rfl, hbl, t0⟩ := HL2.out.rd _ _ hc0
          have t1 := HL2.out.rd.addr _ _ hc1
          have t2 := HL2.out.rd.addr _ _ hc2
          obtain ⟨d, of2, rfl, hdl, u0⟩ := HS4.out.rd _ _ ha0
          have u1 := HS4.out.rd.addr _ _ ha1
          have u2 := HS4.out.rd.addr _ _ ha2
          have u3 := HS4.out.rd.addr _ _ ha3
          have u4 := HS4.out.rd.addr _ _ ha4
          obtain ⟨g, of3, rfl, hgl, v0⟩ := HSF.out.rd _ _ hb0
          have v1 := HSF.out.rd.addr _ _ hb1
          have v2 := HSF.out.rd.addr _ _ hb2
          have v3 := HSF.out.rd.addr _ _ hb3
          have v4 := HSF.out.rd.addr _ _ hb4
          rw [addr_add] at t1 t2 u1 u2 u3 u4 v1 v2 v3 v4
          simp only [Nat.add_zero, ← Nat.add_assoc] at t0 t1 t2 u0 u1 u2 u3 u4 v0 v1 v2 v3 v4
          replace t0 := (hB.cell (p := ⟨b, off + q * 3, none⟩) hbl).trans t0
          replace t1 := (hB.cell (p := ⟨b, off + q * 3 + 1, none⟩) hbl).trans t1
          replace t2 := (hB.cell (p := ⟨b, off + q * 3 + 2, none⟩) hbl).trans t2
          replace u0 := (hB.cell (p := ⟨d, of2 + q * 5, none⟩) hdl).trans u0
          replace u1 := (hB.cell (p := ⟨d, of2 + q * 5 + 1, none⟩) hdl).trans u1
          replace u2 := (hB.cell (p := ⟨d, of2 + q * 5 + 2, none⟩) hdl).trans u2
          replace u3 := (hB.cell (p := ⟨d, of2 + q * 5 + 3, none⟩) hdl).trans u3
          replace u4 := (hB.cell (p := ⟨d, of2 + q * 5 + 4, none⟩) hdl).trans u4
          replace v0 := (hB.cell (p := ⟨g, of3 + q * 5, none⟩) hgl).trans v0
          replace v1 := (hB.cell (p := ⟨g, of3 + q * 5 + 1, none⟩) hgl).trans v1
          replace v2 := (hB.cell (p := ⟨g, of3 + q * 5 + 2, none⟩) hgl).trans v2
          replace v3 := (hB.cell (p := ⟨g, of3 + q * 5 + 3, none⟩) hgl).trans v3
          replace v4 := (hB.cell (p := ⟨g, of3 + q * 5 + 4, none⟩) hgl).trans v4
          have hji : (q : Int) < (j : Int) := by omega
          have hj0 : (0 : Int) ≤ (q : Int) := by omega
          clear ha0 ha1 ha2 ha3 ha4 hb0 hb1 hb2 hb3 hb4 hc0 hc1 hc2 hsf hsg hlk0 hbr hlt
          generalize pre[q] = p at *
          generalize F[q] = f at *
          generalize L[q] = r at *
          obtain ⟨rk, si, nu, ty, sl⟩ := r
          obtain ⟨pnum, pw, pn, ⟨pA, pc, pxs⟩, pat⟩ := p
          obtain ⟨fnum, fw, fn_, ⟨fA, fc, fxs⟩, fat⟩ := f
          simp only at hpn hnu hfi
          subst hpn
          subst hnu
          generalize hxl : pxs.length = xl at *
          generalize hyl : fxs.length = yl at *
          simp only [fvC, hxl, hyl] at t0 t1 t2 u0 u1 u2 u3 u4 v0 v1 v2 v3 v4 hlk
          have HLKE := hid hlk
          have HFI := hid hfi
          have HT := hid (And.intro t0 (And.intro t1 (And.intro t2 (And.intro u0 (And.intro u1 (And.intro u2 (And.intro u3 (And.intro u4 (And.intro v0 (And.intro v1 (And.intro v2 (And.intro v3 v4))))))))))))
          have HBB := hid hB
          clear hlk hfi hB hxl hyl t0 t1 t2 u1 u2 u3 u4 v0 v1 v2 v3 v4
          go_wp2_with fail
          refine (HFI.out _).mono ?_
          rintro e w6 ⟨rfl, hb6⟩
          have hba := bw_a hb6 (.cells #[.int .i64 (nu : Int), .int .i64 (ty : Int), .int .i64 (sl : Int)] 28)
          have hkb := Blk.new w6 28 #[.int .i64 (nu : Int), .int .i64 (ty : Int), .int .i64 (sl : Int)]
          have k0 := hkb.cell 0
          have k1 := hkb.cell 1
          have k2 := hkb.cell 2
          simp only [List.getElem?_toArray, List.getElem?_cons_zero, List.getElem?_cons_succ] at k0 k1 k2
          have HT2 := hid (And.intro k0 (And.intro k1 (And.intro k2 (heldY13 (w := wr) hba HT.out))))
          have HB6 := hid (bw_t HBB.out hba)
          clear hba hkb k0 k1 k2 hb6 u0
          go_wp2_with fail
          go_region_held3 (fun w' => w'.cell? ⟨w6.heap.size, 0, none⟩ = some (.int .i64 (nu : Int)) ∧ w'.cell? ⟨w6.heap.size, 1, none⟩ = some (.int .i64 (ty : Int)) ∧ w'.cell? ⟨w6.heap.size, 2, none⟩ = some (.int .i64 (sl : Int)) ∧ w'.cell? ⟨b, off + q * 3, none⟩ = some (.int .i64 (nu : Int)) ∧ w'.cell? ⟨b, off + q * 3 + 1, none⟩ = some (.int .i64 (ty : Int)) ∧ w'.cell? ⟨b, off + q * 3 + 2, none⟩ = some (.int .i64 (sl : Int)) ∧ w'.cell? ⟨d, of2 + q * 5, none⟩ = some (.int .i64 (nu : Int)) ∧ w'.cell? ⟨d, of2 + q * 5 + 1, none⟩ = some (.int .u8 pw) ∧ w'.cell? ⟨d, of2 + q * 5 + 2, none⟩ = some (.int .u64 (pn : Int)) ∧ w'.cell? ⟨d, of2 + q * 5 + 3, none⟩ = some (.slice pA xl pc) ∧ w'.cell? ⟨d, of2 + q * 5 + 4, none⟩ = some (.int .i64 pat) ∧ w'.cell? ⟨g, of3 + q * 5, none⟩ = some (.int .i64 (nu : Int)) ∧ w'.cell? ⟨g, of3 + q * 5 + 1, none⟩ = some (.int .u8 fw) ∧ w'.cell? ⟨g, of3 + q * 5 + 2, none⟩ = some (.int .u64 (fn_ : Int)) ∧ w'.cell? ⟨g, of3 + q * 5 + 3, none⟩ = some (.slice fA yl fc) ∧ w'.cell? ⟨g, of3 + q * 5 + 4, none⟩ = some (.int .i64 fat)) (first | exact HT3.out | exact HT2.out | go_keep) (first | (go_at_call 35; refine (HLKE.out _ (bw_d HB6.out 1)).mono ?_; rintro e w2x ⟨rfl, hb2⟩; have HT3 := hid (heldY16 (w := (w6.alloc (.cells #[.int .i64 (nu : Int), .int .i64 (ty : Int), .int .i64 (sl : Int)] 28)).drewN 1) hb2 HT2.out)))
          go_wp2_with fail
          go_roundw
          case rel => exact ⟨q + 1, by omega, by go_num, bw_t (bw_d HB6.out 1) hb2⟩
          case measure => simp [intOf] <;> omega
        · obtain rfl : j = q := by omega
          go_wp2_with fail
          go_ret
          exact ⟨by simp, HB2.out.trans ((HB4.out.trans (hB.mono HB4.out.size)).mono HB2.out.size)⟩
end Go.Proofs.Ytefoccpgnijamaa
