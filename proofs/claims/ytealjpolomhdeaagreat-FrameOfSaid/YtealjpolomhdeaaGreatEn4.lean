/- The document's Bytes. · encode.Bytes and Size as plain contracts; the examples' messages. · What must be whatever is asked: layer 10; and of the theorem through the layers of stage 5. -/
import Derived.Test.YtealjpolomhdeaaGreatG5
import Derived.Test.YtealjpolomhdeaaGreatG4
set_option linter.unusedVariables false
namespace Go.Proofs.YtealjpolomhdeaaGreat
open Go.RowKit
theorem ofL_le7 (k : Nat) (v : Int) : (ofL (k : Int) v).length ≤ 7 := by
  by_cases hv : 3 < v
  · rw [ofL_nil _ _ (kn_out v hv)]; simp
  have hk : (k = 0 ∨ 10 < k) ∨ k = 1 ∨ k = 2 ∨ k = 3 ∨ k = 4 ∨ k = 5 ∨ k = 6 ∨ k = 7 ∨ k = 8 ∨ k = 9 ∨ k = 10 := by omega
  rcases hk with h | rfl | rfl | rfl | rfl | rfl | rfl | rfl | rfl | rfl | rfl
  · rw [ofL_kind k v h]; simp
  all_goals
    rw [ofL_in _ _ hv]
    refine Nat.le_trans (List.length_filter_le _ _) ?_
    decide +kernel
theorem own_ne_blk {w : World} {B e sz n q : Nat} {v : Value} {xs : List Value} {t : TypeId} {cs : Array Value} (h : w.ownsRow B e sz v n xs) (hb : Blk w q t cs) (ht : t ≠ e) (g : Nat) (hg : v.ownBlock = some g) (hq : g = q) : False := by
  subst hq
  rcases h.2 with ⟨rfl, -⟩ | ⟨g1, cap, cur, rfl, -, hg1, -⟩
  · cases hg
  · have e1 : g1 = g := by simpa [Value.ownBlock] using hg
    subst e1
    have h2 := hg1.symm.trans hb
    injection h2 with h2
    injection h2 with _ h3
    exact ht h3.symm
set_option maxRecDepth 100000 in
set_option maxHeartbeats 8000000 in
theorem r10bytes_any (M : MV) (v : Int) (w : World) (hok : MvOk w M) (hsm : MvSm M) (hv1 : -9223372036854775808 ≤ v) (hv2 : v ≤ 9223372036854775807) :
    Calls Tryz.prog 15 #[mvV M, .int .i64 v] w (BytesR w M (ofL (M.k : Int) v)) := by
  have hchk := fun W (hW : Below w.heap.size w W) => rcheck9_any M v W (hok.below hW) hv1 hv2
  have hof := fun W => r8of_any (M.k : Int) v W (by omega) (by have := hok.k; omega) hv1 hv2
  have hfd := fun (nu ty sl : Int) W (hW : Below w.heap.size w W) h1 h2 => r10field_any M nu ty sl W (hok.below hW) hsm h1 h2
  have hfl : ∀ r, (fldR M r).length ≤ 810000 := fun r => fld_len hok.n hsm
  have hq40 := ofL_le7 M.k v
  have hmem := fun r (h : r ∈ ofL (M.k : Int) v) => row_ok (ofL_mem _ _ h)
  have hz0 := fun h => chkV_zero (m := M) (L := ofL (M.k : Int) v) h
  have hBR : BytesR w M (ofL (M.k : Int) v) = fun e W' => ∃ vv, e = .returned (.tuple #[vv, .agg #[.int .i64 (chkV M (ofL (M.k : Int) v)).1, .int .i64 (chkV M (ofL (M.k : Int) v)).2]]) ∧ W'.ownsRow w.heap.size 5 1 vv (encB M (ofL (M.k : Int) v)).length ((encB M (ofL (M.k : Int) v)).map bv) ∧ Below w.heap.size w W' := rfl
  have hE : encB M (ofL (M.k : Int) v) = if (chkV M (ofL (M.k : Int) v)).1 = 0 then (ofL (M.k : Int) v).flatMap (fldR M) else [] := rfl
  unfold OfR at hof
  generalize BytesR w M (ofL (M.k : Int) v) = R at *
  generalize encB M (ofL (M.k : Int) v) = eb at *
  generalize ofL (M.k : Int) v = L at *
  have hz1 : (chkV M L).1 = 0 → (chkV M L).2 = 0 := fun h => by rw [(hz0 h).1]
  unfold FltOf at hchk
  generalize (chkV M L).1 = E1 at *
  generalize (chkV M L).2 = E2 at *
  obtain ⟨nL, hnL⟩ : ∃ n, L.length = n := ⟨_, rfl⟩
  rw [hnL] at hof hq40
  have HNL := hid hnL
  have HMEM := hid hmem
  have HCHK := hid hchk
  have HOF := hid hof
  have HFD := hid hfd
  have HFL := hid hfl
  have HZ1 := hid hz1
  have HBR := hid hBR
  have HE := hid hE
  clear hchk hof hfd hfl hz0 hz1 hBR hE hok hmem hnL
  have hmv : mvV M = .agg #[.int .u8 (M.k : Int), .int .u64 (M.n0 : Int), .int .u64 (M.n1 : Int), .int .u64 (M.n2 : Int), .int .u64 (M.n3 : Int), .int .u64 (M.n4 : Int), .int .u64 (M.n5 : Int), .string M.s0, .string M.s1, .slice M.A M.l.length M.c] := rfl
  rw [hmv] at HCHK HFD ⊢
  clear hmv
  generalize M.l.length = len at *
  obtain ⟨s, hsz⟩ : ∃ s, w.heap.size = s := ⟨_, rfl⟩
  rw [hsz] at HCHK HFD HBR
  have hmx : Tryz.prog.follows .mixedOrders = true := by kernel_rfl
  have hb0 := bw_a (bw_a (Below.refl w.heap.size w) (.cells #[.int .u8 (M.k : Int), .int .u64 (M.n0 : Int), .int .u64 (M.n1 : Int), .int .u64 (M.n2 : Int), .int .u64 (M.n3 : Int), .int .u64 (M.n4 : Int), .int .u64 (M.n5 : Int), .string M.s0, .string M.s1, .slice M.A len M.c] 29)) (.cells #[.int .i64 0, .int .i64 0] 32)
  have hk0 := (Blk.new w 29 #[.int .u8 (M.k : Int), .int .u64 (M.n0 : Int), .int .u64 (M.n1 : Int), .int .u64 (M.n2 : Int), .int .u64 (M.n3 : Int), .int .u64 (M.n4 : Int), .int .u64 (M.n5 : Int), .string M.s0, .string M.s1, .slice M.A len M.c]).alloc (.cells #[.int .i64 0, .int .i64 0] 32)
  have hk1 := Blk.new (w.alloc (.cells #[.int .u8 (M.k : Int), .int .u64 (M.n0 : Int), .int .u64 (M.n1 : Int), .int .u64 (M.n2 : Int), .int .u64 (M.n3 : Int), .int .u64 (M.n4 : Int), .int .u64 (M.n5 : Int), .string M.s0, .string M.s1, .slice M.A len M.c] 29)) 32 #[.int .i64 0, .int .i64 0]
  rw [World.size_alloc] at hk1
  rw [hsz] at hb0 hk0 hk1
  have hz2 : ((w.alloc (.cells #[.int .u8 (M.k : Int), .int .u64 (M.n0 : Int), .int .u64 (M.n1 : Int), .int .u64 (M.n2 : Int), .int .u64 (M.n3 : Int), .int .u64 (M.n4 : Int), .int .u64 (M.n5 : Int), .string M.s0, .string M.s1, .slice M.A len M.c] 29)).alloc (.cells #[.int .i64 0, .int .i64 0] 32)).heap.size = s + 2 := by simp [hsz]
  have HK0 := hid hk0
  have HK1 := hid hk1
  have HB0 := hid hb0
  have HZ2 := hid hz2
  clear hk0 hk1 hb0 hz2
  go_enter Tryz.func15, Tryz.ntmps15
  go_wp2_with fail
  refine (HCHK.out _ HB0.out).mono ?_
  rintro e w1 ⟨rfl, hb1⟩
  have hk0 := HK0.out.below hb1 (by have := HZ2.out; omega)
  have hk1 := HK1.out.below hb1 (by have := HZ2.out; omega)
  have hB1 := HB0.out.trans (hb1.mono (by have := HZ2.out; omega))
  have hw1 : s + 2 ≤ w1.heap.size := by have := hb1.size; have := HZ2.out; omega
  have hl0 : s < w1.heap.size := by omega
  have hl1 : s < w1.heap.size + 1 := by omega
  clear hb1 HK0 HK1 HB0 HZ2
  have c0 := hk0.cell 0
  have c1 := hk0.cell 1
  have c2 := hk0.cell 2
  have c3 := hk0.cell 3
  have c4 := hk0.cell 4
  have c5 := hk0.cell 5
  have c6 := hk0.cell 6
  have c7 := hk0.cell 7
  have c8 := hk0.cell 8
  have c9 := hk0.cell 9
  simp only [List.getElem?_toArray, List.getElem?_cons_zero, List.getElem?_cons_succ] at c0 c1 c2 c3 c4 c5 c6 c7 c8 c9
  have d0 := hk1.cell 0
  have d1 := hk1.cell 1
  have e0 := hk1.frozen 0
  have e1 := hk1.frozen 1
  simp only [List.getElem?_toArray, List.getElem?_cons_zero, List.getElem?_cons_succ] at d0 d1
  have HK0 := hid hk0
  have HK1 := hid hk1
  have HB1 := hid hB1
  clear hk0 hk1 hB1
  by_cases he : E1 = 0
  · have h2 := HZ1.out he
    have h3 := HE.out
    rw [if_pos he] at h3
    subst he
    subst h2
    have HE2 := hid h3
    clear h3 HZ1 HE
    go_wp2_with fail
    refine (HOF.out _).mono ?_
    rintro e w2 ⟨A, c, rfl, hs2, hb2⟩
    have hk0 := (HK0.out.alloc (.cells #[.int .i64 0, .int .i64 0] 32)).below hb2 (by rw [World.size_alloc]; omega)
    have hk1 := (HK1.out.alloc (.cells #[.int .i64 0, .int .i64 0] 32)).below hb2 (by rw [World.size_alloc]; omega)
    have hB2 := HB1.out.trans (((bw_a (Below.refl w1.heap.size w1) (.cells #[.int .i64 0, .int .i64 0] 32)).trans (hb2.mono (by rw [World.size_alloc]; omega))).mono (show s ≤ w1.heap.size by omega))
    have hw2 : s + 2 ≤ w2.heap.size := by have := hb2.size; rw [World.size_alloc] at this; omega
    have HK02 := hid hk0
    have HK12 := hid hk1
    have HB2 := hid hB2
    have HS2 := hid hs2
    have hcap := hs2.cap
    have hcs := hs2.small
    clear hb2 hs2 hk0 hk1 hB2 HK0 HK1 HB1 c0 c1 c2 c3 c4 c5 c6 c7 c8 c9 d0 d1 e0 e1
    go_wp2_with fail
    go_loopw [7, 9] (fun ov i wr => ∃ (j bl : Nat) (bs : List UInt8) (Ao : Option Addr) (co : Nat), j ≤ nL ∧ i = .int .i64 (j : Int) ∧ ov = .slice Ao bl co ∧ bs = (L.take j).flatMap (fldR M) ∧ bs.length = bl ∧ wr.ownsRow s 5 1 (.slice Ao bl co) bl (bs.map bv) ∧ Below w2.heap.size w2 wr) (fun _ i _ => nL - (intOf i).toNat)
    case atStart => exact ⟨0, 0, [], none, 0, by omega, rfl, rfl, rfl, rfl, World.ownsRow_nil _ _ _ _, Below.refl _ _⟩
    case round =>
      obtain ⟨j, bl, bs, Ao, co, hj, rfl, rfl, hbs, hbl, ho, hB⟩ := hrel
      have hk0 := HK02.out.below hB (by omega)
      have c0 := hk0.cell 0
      have c1 := hk0.cell 1
      have c2 := hk0.cell 2
      have c3 := hk0.cell 3
      have c4 := hk0.cell 4
      have c5 := hk0.cell 5
      have c6 := hk0.cell 6
      have c7 := hk0.cell 7
      have c8 := hk0.cell 8
      have c9 := hk0.cell 9
      simp only [List.getElem?_toArray, List.getElem?_cons_zero, List.getElem?_cons_succ] at c0 c1 c2 c3 c4 c5 c6 c7 c8 c9
      have hls := hk0.lt
      by_cases hlt : j < nL
      · have hjl : j < L.length := by have := HNL.out; omega
        have hn0' : (L.flatMap specC)[j * 3 + 0]? = _ := flatMap_get specC 3 L j 0 hjl (fun _ _ => rfl) (by omega)
        have hn1' : (L.flatMap specC)[j * 3 + 1]? = _ := flatMap_get specC 3 L j 1 hjl (fun _ _ => rfl) (by omega)
        have hn2' : (L.flatMap specC)[j * 3 + 2]? = _ := flatMap_get specC 3 L j 2 hjl (fun _ _ => rfl) (by omega)
        obtain ⟨b, off, hA, hbw, t0⟩ := HS2.out.rd _ _ hn0'
        subst hA
        have t1 := HS2.out.rd.addr _ _ hn1'
        have t2 := HS2.out.rd.addr _ _ hn2'
        rw [addr_add] at t1 t2
        simp only [Nat.add_zero, ← Nat.add_assoc] at t0 t1 t2
        have t0 := (hB.cell (p := ⟨b, off + j * 3, none⟩) hbw).trans t0
        have t1 := (hB.cell (p := ⟨b, off + j * 3 + 1, none⟩) hbw).trans t1
        have t2 := (hB.cell (p := ⟨b, off + j * 3 + 2, none⟩) hbw).trans t2
        have hji : (j : Int) < (nL : Int) := by omega
        have hj0 : (0 : Int) ≤ (j : Int) := by omega
        have htk := take_fm M L j L[j] (List.getElem?_eq_getElem hjl)
        rw [← hbs] at htk
        have hro := HMEM.out _ (List.getElem_mem hjl)
        have hbl2 : bl ≤ 810000 * 7 := by
          have h1 := fm_len (fldR M) 810000 (L.take j) (fun x _ => HFL.out x)
          have h2 : (L.take j).length ≤ 7 := by rw [List.length_take]; have := HNL.out; omega
          have h3 : 810000 * (L.take j).length ≤ 810000 * 7 := Nat.mul_le_mul_left _ h2
          rw [← hbs, hbl] at h1
          omega
        have hfl := HFL.out L[j]
        have hfd := fun W hW => HFD.out (L[j].num : Nat) (L[j].typ : Nat) (L[j].slot : Nat) W hW (by omega) (by omega)
        have hfe : fldB M (L[j].num : Nat) (L[j].typ : Nat) (L[j].slot : Nat) = fldR M L[j] := rfl
        rw [hfe] at hfd
        clear hn0' hn1' hn2' hfe hro
        generalize L[j] = r at *
        obtain ⟨rk, si, nu, ty, sl⟩ := r
        simp only at t0 t1 t2 hfd
        generalize fldR M ⟨rk, si, nu, ty, sl⟩ = fb at *
        obtain ⟨fl, hfle⟩ : ∃ fl, fb.length = fl := ⟨_, rfl⟩
        rw [hfle] at hfl hfd
        have hC := (And.intro c0 (And.intro c1 (And.intro c2 (And.intro c3 (And.intro c4 (And.intro c5 (And.intro c6 (And.intro c7 (And.intro c8 (And.intro c9 (And.intro t0 (And.intro t1 t2))))))))))))
        have HC := hid hC
        have HFDJ := hid hfd
        have HTK := hid htk
        have HFLE := hid hfle
        have HBL := hid hbl
        have HBW := hid hB
        have HO := hid ho
        have HBS := hid hbs
        have HSB := hid (HB2.out.trans (HBW.out.mono (show s ≤ w2.heap.size by omega)))
        clear hfd htk hfle hbl hB ho hbs hk0 hC
        go_wp2_with fail
        go_region_held3 (fun w' => w'.cell? ⟨s, 0, none⟩ = some (.int .u8 (M.k : Int)) ∧ w'.cell? ⟨s, 1, none⟩ = some (.int .u64 (M.n0 : Int)) ∧ w'.cell? ⟨s, 2, none⟩ = some (.int .u64 (M.n1 : Int)) ∧ w'.cell? ⟨s, 3, none⟩ = some (.int .u64 (M.n2 : Int)) ∧ w'.cell? ⟨s, 4, none⟩ = some (.int .u64 (M.n3 : Int)) ∧ w'.cell? ⟨s, 5, none⟩ = some (.int .u64 (M.n4 : Int)) ∧ w'.cell? ⟨s, 6, none⟩ = some (.int .u64 (M.n5 : Int)) ∧ w'.cell? ⟨s, 7, none⟩ = some (.string M.s0) ∧ w'.cell? ⟨s, 8, none⟩ = some (.string M.s1) ∧ w'.cell? ⟨s, 9, none⟩ = some (.slice M.A len M.c) ∧ w'.cell? ⟨b, off + j * 3, none⟩ = some (.int .i64 (nu : Int)) ∧ w'.cell? ⟨b, off + j * 3 + 1, none⟩ = some (.int .i64 (ty : Int)) ∧ w'.cell? ⟨b, off + j * 3 + 2, none⟩ = some (.int .i64 (sl : Int))) (first | exact HC3.out | exact HC2.out | exact HC.out | go_keep) (first | (go_at_call 32; refine (HFDJ.out _ (bw_d' HSB.out 1)).mono ?_; rintro e w3 ⟨A3, cq3, rfl, hs3, hb3⟩; have HC2 := hid (held13 (w := wr.drewN 1) hb3 HC.out); have HJO := hid (rjoin2_own bs fb bl fl Ao A3 co cq3 w3 HBL.out HFLE.out (by omega) ((Sl.of_own' HO.out).below (bw_t (bw_d (Below.refl _ wr) 1) hb3)) hs3)) | (go_at_call 31; refine HJO.out.mono ?_; rintro e w4 ⟨v4, rfl, ho4, hb4⟩; have HC3 := hid (held13 hb4 HC2.out)))
        have hbw4 := (bw_t (bw_t (bw_d (Below.refl _ wr) 1) hb3) hb4)
        obtain ⟨A4, cq4, rfl⟩ := row_slice' ho4
        have HO4 := hid (own_mono ho4 (show s ≤ w3.heap.size by have := HBW.out.size; have := hb3.size; simp at this; omega))
        have HB4 := hid (HBW.out.trans (hbw4.mono HBW.out.size))
        clear hb3 hb4 hbw4 ho4 hs3 HC HC2 HC3 HJO c0 c1 c2 c3 c4 c5 c6 c7 c8 c9 t0 t1 t2
        go_wp2_with fail
        go_roundw
        case rel => exact ⟨j + 1, bl + fl, bs ++ fb, A4, _, by omega, by go_num, rfl, HTK.out.symm, by rw [List.length_append, HBL.out, HFLE.out], HO4.out, HB4.out⟩
        case measure => simp [intOf]; omega
      · obtain rfl : j = nL := by omega
        rw [List.take_of_length_le (by have := HNL.out; omega), ← HE2.out] at hbs
        subst hbs
        have hk1 := HK12.out.below hB (by omega)
        have d0 := hk1.cell 0
        have d1 := hk1.cell 1
        have e0 := hk1.frozen 0
        have e1 := hk1.frozen 1
        simp only [List.getElem?_toArray, List.getElem?_cons_zero, List.getElem?_cons_succ] at d0 d1
        have h9 := fstore hk1 (.int .i64 0) (.int .i64 0)
        have hbs' := HB2.out.trans (hB.mono (show s ≤ w2.heap.size by omega))
        have hb9 := hbs'.trans (h9.2.below (B := s) (fun k hk => by omega) (by have := hbs'.size; omega))
        have ho9 := own_chgS ho h9.2 (fun g hg e => own_ne_blk ho hk1 (by decide) g hg e)
        have hk9 := h9.1
        have HO9 := hid ho9
        have HB9 := hid hb9
        have HK9 := hid hk9
        have HBL := hid hbl
        clear h9 hbs' ho hk1 hb9 ho9 hk9 hbl hB hk0 c0 c1 c2 c3 c4 c5 c6 c7 c8 c9
        go_wp2_with fail
        have r0 := HK9.out.cell 0
        have r1 := HK9.out.cell 1
        simp only [List.getElem?_toArray, List.getElem?_cons_zero, List.getElem?_cons_succ] at r0 r1
        refine bodyPost_ret (v := .tuple #[.slice Ao bl co, .agg #[.int .i64 0, .int .i64 0]]) (by simp [results, Tryz.results15, go_sem, r0, r1]) rfl ?_
        rw [HBR.out]
        exact ⟨_, rfl, by rw [HBL.out]; exact HO9.out, HB9.out⟩
  · have heb : (E1 != 0) = true := by simpa using he
    have h3 := HE.out
    rw [if_neg he] at h3
    subst h3
    clear he HE HZ1
    go_wp2_with fail
    have hkn := Blk.new w1 32 #[.int .i64 E1, .int .i64 E2]
    have y0 := hkn.cell 0
    have y1 := hkn.cell 1
    simp only [List.getElem?_toArray, List.getElem?_cons_zero, List.getElem?_cons_succ] at y0 y1
    have hka := HK1.out.alloc (.cells #[.int .i64 E1, .int .i64 E2] 32)
    have hba := HB1.out.trans ((bw_a (Below.refl w1.heap.size w1) (.cells #[.int .i64 E1, .int .i64 E2] 32)).mono (show s ≤ w1.heap.size by omega))
    have z0 := hka.cell 0
    have z1 := hka.cell 1
    have u0 := hka.frozen 0
    have u1 := hka.frozen 1
    simp only [List.getElem?_toArray, List.getElem?_cons_zero, List.getElem?_cons_succ] at z0 z1
    have HKA := hid hka
    have HBA := hid hba
    clear hkn hka hba HK0 HK1 HB1 c0 c1 c2 c3 c4 c5 c6 c7 c8 c9 d0 d1 e0 e1
    generalize w1.alloc (.cells #[.int .i64 E1, .int .i64 E2] 32) = w2 at *
    have hne : ¬ (w1.heap.size = s + 1) := by omega
    have hne2 : ¬ (s + 1 = w1.heap.size) := by omega
    go_region_held3 (fun w' => w'.cell? ⟨w1.heap.size, 0, none⟩ = some (.int .i64 E1) ∧ w'.cell? ⟨w1.heap.size, 1, none⟩ = some (.int .i64 E2)) (first | exact ⟨y0, y1⟩ | go_keep) (fail)
    have h9 := fstore HKA.out (.int .i64 E1) (.int .i64 E2)
    have hk9 := h9.1
    have hb9 := HBA.out.trans (h9.2.below (B := s) (fun k hk => by omega) (by have := HKA.out.lt; omega))
    clear h9
    go_wp2_with fail
    generalize World.setCell (World.setCell w2 _ _) _ _ = W9 at *
    have r0 := hk9.cell 0
    have r1 := hk9.cell 1
    simp only [List.getElem?_toArray, List.getElem?_cons_zero, List.getElem?_cons_succ] at r0 r1
    have r0' : W9.drew.cell? ⟨s + 1, 0, none⟩ = some (.int .i64 E1) := r0
    have r1' : W9.drew.cell? ⟨s + 1, 1, none⟩ = some (.int .i64 E2) := r1
    refine bodyPost_ret (v := .tuple #[.slice none 0 0, .agg #[.int .i64 E1, .int .i64 E2]]) (by simp [results, Tryz.results15, go_sem, r0', r1']) rfl ?_
    rw [HBR.out]
    exact ⟨_, rfl, World.ownsRow_nil _ _ _ _, ⟨hb9.os, hb9.tape, hb9.output, hb9.size, hb9.block⟩⟩
end Go.Proofs.YtealjpolomhdeaaGreat
set_option linter.unusedVariables false
namespace Go.Proofs.YtealjpolomhdeaaGreat
open Go.RowKit
theorem ebytes_any (M : MV) (v : Int) (w : World) (hok : MvOk w M) (hsm : MvSm M) (hv1 : -9223372036854775808 ≤ v) (hv2 : v ≤ 9223372036854775807) :
    Calls Tryz.prog 28 #[mvV M, .int .i64 v] w (BytesR w M (ofL (M.k : Int) v)) := (callsIn_wide (n := 8)).1 (ebytes_in 8 (by omega) M v w hok hsm hv1 hv2)
theorem bytesR_sl {w w' : World} {M : MV} {L : List SRow} {e : Ending} (h : BytesR w M L e w') : ∃ A c, e = .returned (.tuple #[.slice A (encB M L).length c, .agg #[.int .i64 (chkV M L).1, .int .i64 (chkV M L).2]]) ∧ Sl w' A c ((encB M L).map bv) ∧ w'.ownsRow w.heap.size 5 1 (.slice A (encB M L).length c) (encB M L).length ((encB M L).map bv) ∧ Below w.heap.size w w' := by
  obtain ⟨vv, rfl, ho, hb⟩ := h
  obtain ⟨A, c, rfl⟩ := row_slice' ho
  exact ⟨A, c, rfl, Sl.of_own' ho, ho, hb⟩
theorem mh_o : ofL ((1 : Nat) : Int) 1 = [⟨1, 1, 1, 1, 0⟩, ⟨1, 1, 2, 1, 1⟩, ⟨1, 1, 3, 7, 0⟩] := by decide +kernel
theorem put_small (n : Nat) (h : n < 128) : putN n = [b8 n] := by
  unfold putN
  rw [sevs, dif_pos h]
  simp [sevB, b8]
end Go.Proofs.YtealjpolomhdeaaGreat
namespace Go.Proofs.YtealjpolomhdeaaGreat
open Go.RowKit
end Go.Proofs.YtealjpolomhdeaaGreat
set_option linter.unusedVariables false
namespace Go.Proofs.YtealjpolomhdeaaGreat
open Go.RowKit
end Go.Proofs.YtealjpolomhdeaaGreat
