/- The document's Bytes. · encode.Bytes and Size as plain contracts; the examples' messages. · What must be whatever is asked: layer 10; and of the theorem through the layers of stage 5. -/
import Derived.Test.YtehjibbjkadoiaaEn3
import Derived.Test.YtehjibbjkadoiaaEncRef
import Derived.Test.YtehjibbjkadoiaaV4
import Derived.Test.YtehjibbjkadoiaaLive9
set_option linter.unusedVariables false
namespace Go.Proofs.Ytehjibbjkadoiaa
open Go.RowKit
theorem ofL_le7 (k : Nat) (v : Int) : (ofL (k : Int) v).length ≤ 7 := by
  by_cases hv : 3 < v
  · rw [ofL_nil _ _ (kn_out v hv)]; simp
  have hk : (k = 0 ∨ 10 < k) ∨ k = 1 ∨ k = 2 ∨ k = 3 ∨ k = 4 ∨ k = 5 ∨ k = 6 ∨ k = 7 ∨ k = 8 ∨ k = 9 ∨ k = 10 := by omega
  rcases hk with h | rfl | rfl | rfl | rfl | rfl | rfl | rfl | rfl | rfl | rfl
  · rw [ofL_kind k v h]; simp
  all_goals
    rw [ofL_in _ _ hv]
    refine Nat.le_trans (List.length_filter_le _ _) ?_
    decide +kernel
theorem own_ne_blk {w : World} {B e sz n q : Nat} {v : Value} {xs : List Value} {t : TypeId} {cs : Array Value} (h : w.ownsRow B e sz v n xs) (hb : Blk w q t cs) (ht : t ≠ e) (g : Nat) (hg : v.ownBlock = some g) (hq : g = q) : False := by
  subst hq
  rcases h.2 with ⟨rfl, -⟩ | ⟨g1, cap, cur, rfl, -, hg1, -⟩
  · cases hg
  · have e1 : g1 = g := by simpa [Value.ownBlock] using hg
    subst e1
    have h2 := hg1.symm.trans hb
    injection h2 with h2
    injection h2 with _ h3
    exact ht h3.symm
set_option maxRecDepth 100000 in
set_option maxHeartbeats 8000000 in
theorem r10bytes_any (M : MV) (v : Int) (w : World) (hok : MvOk w M) (hsm : MvSm M) (hv1 : -9223372036854775808 ≤ v) (hv2 : v ≤ 9223372036854775807) :
    Calls Try.prog 19 #[mvV M, .int .i64 v] w (BytesR w M (ofL (M.k : Int) v)) := by
  have hchk := fun W (hW : Below w.heap.size w W) => rcheck9_any M v W (hok.below hW) hv1 hv2
  have hof := fun W => r8of_any (M.k : Int) v W (by omega) (by have := hok.k; omega) hv1 hv2
  have hfd := fun (nu ty sl : Int) W (hW : Below w.heap.size w W) h1 h2 => r10field_any M nu ty sl W (hok.below hW) hsm h1 h2
  have hfl : ∀ r, (fldR M r).length ≤ 810000 := fun r => fld_len hok.n hsm
  have hq40 := ofL_le7 M.k v
  have hmem := fun r (h : r ∈ ofL (M.k : Int) v) => row_ok (ofL_mem _ _ h)
  have hz0 := fun h => chkV_zero (m := M) (L := ofL (M.k : Int) v) h
  have hBR : BytesR w M (ofL (M.k : Int) v) = fun e W' => ∃ vv, e = .returned (.tuple #[vv, .agg #[.int .i64 (chkV M (ofL (M.k : Int) v)).1, .int .i64 (chkV M (ofL (M.k : Int) v)).2]]) ∧ W'.ownsRow w.heap.size 5 1 vv (encB M (ofL (M.k : Int) v)).length ((encB M (ofL (M.k : Int) v)).map bv) ∧ Below w.heap.size w W' := rfl
  have hE : encB M (ofL (M.k : Int) v) = if (chkV M (ofL (M.k : Int) v)).1 = 0 then (ofL (M.k : Int) v).flatMap (fldR M) else [] := rfl
  unfold OfR at hof
  generalize BytesR w M (ofL (M.k : Int) v) = R at *
  generalize encB M (ofL (M.k : Int) v) = eb at *
  generalize ofL (M.k : Int) v = L at *
  have hz1 : (chkV M L).1 = 0 → (chkV M L).2 = 0 := fun h => by rw [(hz0 h).1]
  unfold FltOf at hchk
  generalize (chkV M L).1 = E1 at *
  generalize (chkV M L).2 = E2 at *
  obtain ⟨nL, hnL⟩ : ∃ n, L.length = n := ⟨_, rfl⟩
  rw [hnL] at hof hq40
  have HNL := hid hnL
  have HMEM := hid hmem
  have HCHK := hid hchk
  have HOF := hid hof
  have HFD := hid hfd
  have HFL := hid hfl
  have HZ1 := hid hz1
  have HBR := hid hBR
  have HE := hid hE
  clear hchk hof hfd hfl hz0 hz1 hBR hE hok hmem hnL
  have hmv : mvV M = .agg #[.int .u8 (M.k : Int), .int .u64 (M.n0 : Int), .int .u64 (M.n1 : Int), .int .u64 (M.n2 : Int), .int .u64 (M.n3 : Int), .int .u64 (M.n4 : Int), .int .u64 (M.n5 : Int), .string M.s0, .string M.s1, .slice M.A M.l.length M.c] := rfl
  rw [hmv] at HCHK HFD ⊢
  clear hmv
  generalize M.l.length = len at *
  obtain ⟨s, hsz⟩ : ∃ s, w.heap.size = s := ⟨_, rfl⟩
  rw [hsz] at HCHK HFD HBR
  have hmx : Try.prog.follows .mixedOrders = true := by kernel_rfl
  have hb0 := bw_a (bw_a (Below.refl w.heap.size w) (.cells #[.int .u8 (M.k : Int), .int .u64 (M.n0 : Int), .int .u64 (M.n1 : Int), .int .u64 (M.n2 : Int), .int .u64 (M.n3 : Int), .int .u64 (M.n4 : Int), .int .u64 (M.n5 : Int), .string M.s0, .string M.s1, .slice M.A len M.c] 27)) (.cells #[.int .i64 0, .int .i64 0] 37)
  have hk0 := (Blk.new w 27 #[.int .u8 (M.k : Int), .int .u64 (M.n0 : Int), .int .u64 (M.n1 : Int), .int .u64 (M.n2 : Int), .int .u64 (M.n3 : Int), .int .u64 (M.n4 : Int), .int .u64 (M.n5 : Int), .string M.s0, .string M.s1, .slice M.A len M.c]).alloc (.cells #[.int .i64 0, .int .i64 0] 37)
  have hk1 := Blk.new (w.alloc (.cells #[.int .u8 (M.k : Int), .int .u64 (M.n0 : Int), .int .u64 (M.n1 : Int), .int .u64 (M.n2 : Int), .int .u64 (M.n3 : Int), .int .u64 (M.n4 : Int), .int .u64 (M.n5 : Int), .string M.s0, .string M.s1, .slice M.A len M.c] 27)) 37 #[.int .i64 0, .int .i64 0]
  rw [World.size_alloc] at hk1
  rw [hsz] at hb0 hk0 hk1
  have hz2 : ((w.alloc (.cells #[.int .u8 (M.k : Int), .int .u64 (M.n0 : Int), .int .u64 (M.n1 : Int), .int .u64 (M.n2 : Int), .int .u64 (M.n3 : Int), .int .u64 (M.n4 : Int), .int .u64 (M.n5 : Int), .string M.s0, .string M.s1, .slice M.A len M.c] 27)).alloc (.cells #[.int .i64 0, .int .i64 0] 37)).heap.size = s + 2 := by simp [hsz]
  have HK0 := hid hk0
  have HK1 := hid hk1
  have HB0 := hid hb0
  have HZ2 := hid hz2
  clear hk0 hk1 hb0 hz2
  go_enter Try.func19, Try.ntmps19
  go_wp2_with fail
  refine (HCHK.out _ HB0.out).mono ?_
  rintro e w1 ⟨rfl, hb1⟩
  have hk0 := HK0.out.below hb1 (by have := HZ2.out; omega)
  have hk1 := HK1.out.below hb1 (by have := HZ2.out; omega)
  have hB1 := HB0.out.trans (hb1.mono (by have := HZ2.out; omega))
  have hw1 : s + 2 ≤ w1.heap.size := by have := hb1.size; have := HZ2.out; omega
  have hl0 : s < w1.heap.size := by omega
  have hl1 : s < w1.heap.size + 1 := by omega
  clear hb1 HK0 HK1 HB0 HZ2
  have c0 := hk0.cell 0
  have c1 := hk0.cell 1
  have c2 := hk0.cell 2
  have c3 := hk0.cell 3
  have c4 := hk0.cell 4
  have c5 := hk0.cell 5
  have c6 := hk0.cell 6
  have c7 := hk0.cell 7
  have c8 := hk0.cell 8
  have c9 := hk0.cell 9
  simp only [List.getElem?_toArray, List.getElem?_cons_zero, List.getElem?_cons_succ] at c0 c1 c2 c3 c4 c5 c6 c7 c8 c9
  have d0 := hk1.cell 0
  have d1 := hk1.cell 1
  have e0 := hk1.frozen 0
  have e1 := hk1.frozen 1
  simp only [List.getElem?_toArray, List.getElem?_cons_zero, List.getElem?_cons_succ] at d0 d1
  have HK0 := hid hk0
  have HK1 := hid hk1
  have HB1 := hid hB1
  clear hk0 hk1 hB1
  by_cases he : E1 = 0
  · have h2 := HZ1.out he
    have h3 := HE.out
    rw [if_pos he] at h3
    subst he
    subst h2
    have HE2 := hid h3
    clear h3 HZ1 HE
    go_wp2_with fail
    refine (HOF.out _).mono ?_
    rintro e w2 ⟨A, c, rfl, hs2, hb2⟩
    have hk0 := (HK0.out.alloc (.cells #[.int .i64 0, .int .i64 0] 37)).below hb2 (by rw [World.size_alloc]; omega)
    have hk1 := (HK1.out.alloc (.cells #[.int .i64 0, .int .i64 0] 37)).below hb2 (by rw [World.size_alloc]; omega)
    have hB2 := HB1.out.trans (((bw_a (Below.refl w1.heap.size w1) (.cells #[.int .i64 0, .int .i64 0] 37)).trans (hb2.mono (by rw [World.size_alloc]; omega))).mono (show s ≤ w1.heap.size by omega))
    have hw2 : s + 2 ≤ w2.heap.size := by have := hb2.size; rw [World.size_alloc] at this; omega
    have HK02 := hid hk0
    have HK12 := hid hk1
    have HB2 := hid hB2
    have HS2 := hid hs2
    have hcap := hs2.cap
    have hcs := hs2.small
    clear hb2 hs2 hk0 hk1 hB2 HK0 HK1 HB1 c0 c1 c2 c3 c4 c5 c6 c7 c8 c9 d0 d1 e0 e1
    go_wp2_with fail
    go_loopw [7, 9] (fun ov i wr => ∃ (j bl : Nat) (bs : List UInt8) (Ao : Option Addr) (co : Nat), j ≤ nL ∧ i = .int .i64 (j : Int) ∧ ov = .slice Ao bl co ∧ bs = (L.take j).flatMap (fldR M) ∧ bs.length = bl ∧ wr.ownsRow s 5 1 (.slice Ao bl co) bl (bs.map bv) ∧ Below w2.heap.size w2 wr) (fun _ i _ => nL - (intOf i).toNat)
    case atStart => exact ⟨0, 0, [], none, 0, by omega, rfl, rfl, rfl, rfl, World.ownsRow_nil _ _ _ _, Below.refl _ _⟩
    case round =>
      obtain ⟨j, bl, bs, Ao, co, hj, rfl, rfl, hbs, hbl, ho, hB⟩ := hrel
      have hk0 := HK02.out.below hB (by omega)
      have c0 := hk0.cell 0
      have c1 := hk0.cell 1
      have c2 := hk0.cell 2
      have c3 := hk0.cell 3
      have c4 := hk0.cell 4
      have c5 := hk0.cell 5
      have c6 := hk0.cell 6
      have c7 := hk0.cell 7
      have c8 := hk0.cell 8
      have c9 := hk0.cell 9
      simp only [List.getElem?_toArray, List.getElem?_cons_zero, List.getElem?_cons_succ] at c0 c1 c2 c3 c4 c5 c6 c7 c8 c9
      have hls := hk0.lt
      by_cases hlt : j < nL
      · have hjl : j < L.length := by have := HNL.out; omega
        have hn0' : (L.flatMap specC)[j * 3 + 0]? = _ := flatMap_get specC 3 L j 0 hjl (fun _ _ => rfl) (by omega)
        have hn1' : (L.flatMap specC)[j * 3 + 1]? = _ := flatMap_get specC 3 L j 1 hjl (fun _ _ => rfl) (by omega)
        have hn2' : (L.flatMap specC)[j * 3 + 2]? = _ := flatMap_get specC 3 L j 2 hjl (fun _ _ => rfl) (by omega)
        obtain ⟨b, off, hA, hbw, t0⟩ := HS2.out.rd _ _ hn0'
        subst hA
        have t1 := HS2.out.rd.addr _ _ hn1'
        have t2 := HS2.out.rd.addr _ _ hn2'
        rw [addr_add] at t1 t2
        simp only [Nat.add_zero, ← Nat.add_assoc] at t0 t1 t2
        have t0 := (hB.cell (p := ⟨b, off + j * 3, none⟩) hbw).trans t0
        have t1 := (hB.cell (p := ⟨b, off + j * 3 + 1, none⟩) hbw).trans t1
        have t2 := (hB.cell (p := ⟨b, off + j * 3 + 2, none⟩) hbw).trans t2
        have hji : (j : Int) < (nL : Int) := by omega
        have hj0 : (0 : Int) ≤ (j : Int) := by omega
        have htk := take_fm M L j L[j] (List.getElem?_eq_getElem hjl)
        rw [← hbs] at htk
        have hro := HMEM.out _ (List.getElem_mem hjl)
        have hbl2 : bl ≤ 810000 * 7 := by
          have h1 := fm_len (fldR M) 810000 (L.take j) (fun x _ => HFL.out x)
          have h2 : (L.take j).length ≤ 7 := by rw [List.length_take]; have := HNL.out; omega
          have h3 : 810000 * (L.take j).length ≤ 810000 * 7 := Nat.mul_le_mul_left _ h2
          rw [← hbs, hbl] at h1
          omega
        have hfl := HFL.out L[j]
        have hfd := fun W hW => HFD.out (L[j].num : Nat) (L[j].typ : Nat) (L[j].slot : Nat) W hW (by omega) (by omega)
        have hfe : fldB M (L[j].num : Nat) (L[j].typ : Nat) (L[j].slot : Nat) = fldR M L[j] := rfl
        rw [hfe] at hfd
        clear hn0' hn1' hn2' hfe hro
        generalize L[j] = r at *
        obtain ⟨rk, si, nu, ty, sl⟩ := r
        simp only at t0 t1 t2 hfd
        generalize fldR M ⟨rk, si, nu, ty, sl⟩ = fb at *
        obtain ⟨fl, hfle⟩ : ∃ fl, fb.length = fl := ⟨_, rfl⟩
        rw [hfle] at hfl hfd
        have hC := (And.intro c0 (And.intro c1 (And.intro c2 (And.intro c3 (And.intro c4 (And.intro c5 (And.intro c6 (And.intro c7 (And.intro c8 (And.intro c9 (And.intro t0 (And.intro t1 t2))))))))))))
        have HC := hid hC
        have HFDJ := hid hfd
        have HTK := hid htk
        have HFLE := hid hfle
        have HBL := hid hbl
        have HBW := hid hB
        have HO := hid ho
        have HBS := hid hbs
        have HSB := hid (HB2.out.trans (HBW.out.mono (show s ≤ w2.heap.size by omega)))
        clear hfd htk hfle hbl hB ho hbs hk0 hC
        go_wp2_with fail
        go_region_held3 (fun w' => w'.cell? ⟨s, 0, none⟩ = some (.int .u8 (M.k : Int)) ∧ w'.cell? ⟨s, 1, none⟩ = some (.int .u64 (M.n0 : Int)) ∧ w'.cell? ⟨s, 2, none⟩ = some (.int .u64 (M.n1 : Int)) ∧ w'.cell? ⟨s, 3, none⟩ = some (.int .u64 (M.n2 : Int)) ∧ w'.cell? ⟨s, 4, none⟩ = some (.int .u64 (M.n3 : Int)) ∧ w'.cell? ⟨s, 5, none⟩ = some (.int .u64 (M.n4 : Int)) ∧ w'.cell? ⟨s, 6, none⟩ = some (.int .u64 (M.n5 : Int)) ∧ w'.cell? ⟨s, 7, none⟩ = some (.string M.s0) ∧ w'.cell? ⟨s, 8, none⟩ = some (.string M.s1) ∧ w'.cell? ⟨s, 9, none⟩ = some (.slice M.A len M.c) ∧ w'.cell? ⟨b, off + j * 3, none⟩ = some (.int .i64 (nu : Int)) ∧ w'.cell? ⟨b, off + j * 3 + 1, none⟩ = some (.int .i64 (ty : Int)) ∧ w'.cell? ⟨b, off + j * 3 + 2, none⟩ = some (.int .i64 (sl : Int))) (first | exact HC3.out | exact HC2.out | exact HC.out | go_keep) (first | (go_at_call 23; refine (HFDJ.out _ (bw_d' HSB.out 1)).mono ?_; rintro e w3 ⟨A3, cq3, rfl, hs3, hb3⟩; have HC2 := hid (held13 (w := wr.drewN 1) hb3 HC.out); have HJO := hid (rjoin2_own bs fb bl fl Ao A3 co cq3 w3 HBL.out HFLE.out (by omega) ((Sl.of_own' HO.out).below (bw_t (bw_d (Below.refl _ wr) 1) hb3)) hs3)) | (go_at_call 42; refine HJO.out.mono ?_; rintro e w4 ⟨v4, rfl, ho4, hb4⟩; have HC3 := hid (held13 hb4 HC2.out)))
        have hbw4 := (bw_t (bw_t (bw_d (Below.refl _ wr) 1) hb3) hb4)
        obtain ⟨A4, cq4, rfl⟩ := row_slice' ho4
        have HO4 := hid (own_mono ho4 (show s ≤ w3.heap.size by have := HBW.out.size; have := hb3.size; simp at this; omega))
        have HB4 := hid (HBW.out.trans (hbw4.mono HBW.out.size))
        clear hb3 hb4 hbw4 ho4 hs3 HC HC2 HC3 HJO c0 c1 c2 c3 c4 c5 c6 c7 c8 c9 t0 t1 t2
        go_wp2_with fail
        go_roundw
        case rel => exact ⟨j + 1, bl + fl, bs ++ fb, A4, _, by omega, by go_num, rfl, HTK.out.symm, by rw [List.length_append, HBL.out, HFLE.out], HO4.out, HB4.out⟩
        case measure => simp [intOf]; omega
      · obtain rfl : j = nL := by omega
        rw [List.take_of_length_le (by have := HNL.out; omega), ← HE2.out] at hbs
        subst hbs
        have hk1 := HK12.out.below hB (by omega)
        have d0 := hk1.cell 0
        have d1 := hk1.cell 1
        have e0 := hk1.frozen 0
        have e1 := hk1.frozen 1
        simp only [List.getElem?_toArray, List.getElem?_cons_zero, List.getElem?_cons_succ] at d0 d1
        have h9 := fstore hk1 (.int .i64 0) (.int .i64 0)
        have hbs' := HB2.out.trans (hB.mono (show s ≤ w2.heap.size by omega))
        have hb9 := hbs'.trans (h9.2.below (B := s) (fun k hk => by omega) (by have := hbs'.size; omega))
        have ho9 := own_chgS ho h9.2 (fun g hg e => own_ne_blk ho hk1 (by decide) g hg e)
        have hk9 := h9.1
        have HO9 := hid ho9
        have HB9 := hid hb9
        have HK9 := hid hk9
        have HBL := hid hbl
        clear h9 hbs' ho hk1 hb9 ho9 hk9 hbl hB hk0 c0 c1 c2 c3 c4 c5 c6 c7 c8 c9
        go_wp2_with fail
        have r0 := HK9.out.cell 0
        have r1 := HK9.out.cell 1
        simp only [List.getElem?_toArray, List.getElem?_cons_zero, List.getElem?_cons_succ] at r0 r1
        refine bodyPost_ret (v := .tuple #[.slice Ao bl co, .agg #[.int .i64 0, .int .i64 0]]) (by simp [results, Try.results19, go_sem, r0, r1]) rfl ?_
        rw [HBR.out]
        exact ⟨_, rfl, by rw [HBL.out]; exact HO9.out, HB9.out⟩
  · have heb : (E1 != 0) = true := by simpa using he
    have h3 := HE.out
    rw [if_neg he] at h3
    subst h3
    clear he HE HZ1
    go_wp2_with fail
    have hkn := Blk.new w1 37 #[.int .i64 E1, .int .i64 E2]
    have y0 := hkn.cell 0
    have y1 := hkn.cell 1
    simp only [List.getElem?_toArray, List.getElem?_cons_zero, List.getElem?_cons_succ] at y0 y1
    have hka := HK1.out.alloc (.cells #[.int .i64 E1, .int .i64 E2] 37)
    have hba := HB1.out.trans ((bw_a (Below.refl w1.heap.size w1) (.cells #[.int .i64 E1, .int .i64 E2] 37)).mono (show s ≤ w1.heap.size by omega))
    have z0 := hka.cell 0
    have z1 := hka.cell 1
    have u0 := hka.frozen 0
    have u1 := hka.frozen 1
    simp only [List.getElem?_toArray, List.getElem?_cons_zero, List.getElem?_cons_succ] at z0 z1
    have HKA := hid hka
    have HBA := hid hba
    clear hkn hka hba HK0 HK1 HB1 c0 c1 c2 c3 c4 c5 c6 c7 c8 c9 d0 d1 e0 e1
    generalize w1.alloc (.cells #[.int .i64 E1, .int .i64 E2] 37) = w2 at *
    have hne : ¬ (w1.heap.size = s + 1) := by omega
    have hne2 : ¬ (s + 1 = w1.heap.size) := by omega
    go_region_held3 (fun w' => w'.cell? ⟨w1.heap.size, 0, none⟩ = some (.int .i64 E1) ∧ w'.cell? ⟨w1.heap.size, 1, none⟩ = some (.int .i64 E2)) (first | exact ⟨y0, y1⟩ | go_keep) (fail)
    have h9 := fstore HKA.out (.int .i64 E1) (.int .i64 E2)
    have hk9 := h9.1
    have hb9 := HBA.out.trans (h9.2.below (B := s) (fun k hk => by omega) (by have := HKA.out.lt; omega))
    clear h9
    go_wp2_with fail
    generalize World.setCell (World.setCell w2 _ _) _ _ = W9 at *
    have r0 := hk9.cell 0
    have r1 := hk9.cell 1
    simp only [List.getElem?_toArray, List.getElem?_cons_zero, List.getElem?_cons_succ] at r0 r1
    have r0' : W9.drew.cell? ⟨s + 1, 0, none⟩ = some (.int .i64 E1) := r0
    have r1' : W9.drew.cell? ⟨s + 1, 1, none⟩ = some (.int .i64 E2) := r1
    refine bodyPost_ret (v := .tuple #[.slice none 0 0, .agg #[.int .i64 E1, .int .i64 E2]]) (by simp [results, Try.results19, go_sem, r0', r1']) rfl ?_
    rw [HBR.out]
    exact ⟨_, rfl, World.ownsRow_nil _ _ _ _, ⟨hb9.os, hb9.tape, hb9.output, hb9.size, hb9.block⟩⟩
end Go.Proofs.Ytehjibbjkadoiaa
set_option linter.unusedVariables false
namespace Go.Proofs.Ytehjibbjkadoiaa
open Go.RowKit
theorem ebytes_any (M : MV) (v : Int) (w : World) (hok : MvOk w M) (hsm : MvSm M) (hv1 : -9223372036854775808 ≤ v) (hv2 : v ≤ 9223372036854775807) :
    Calls Try.prog 18 #[mvV M, .int .i64 v] w (BytesR w M (ofL (M.k : Int) v)) := (callsIn_wide (n := 8)).1 (ebytes_in 8 (by omega) M v w hok hsm hv1 hv2)
theorem bytesR_sl {w w' : World} {M : MV} {L : List SRow} {e : Ending} (h : BytesR w M L e w') : ∃ A c, e = .returned (.tuple #[.slice A (encB M L).length c, .agg #[.int .i64 (chkV M L).1, .int .i64 (chkV M L).2]]) ∧ Sl w' A c ((encB M L).map bv) ∧ w'.ownsRow w.heap.size 5 1 (.slice A (encB M L).length c) (encB M L).length ((encB M L).map bv) ∧ Below w.heap.size w w' := by
  obtain ⟨vv, rfl, ho, hb⟩ := h
  obtain ⟨A, c, rfl⟩ := row_slice' ho
  exact ⟨A, c, rfl, Sl.of_own' ho, ho, hb⟩
def MH : MV := ⟨1, 1, 3, 0, 0, 0, 0, ⟨#[]⟩, ⟨#[]⟩, none, 0, []⟩
def MQ0 : MV := ⟨8, 0, 0, 0, 0, 0, 0, ⟨#[]⟩, ⟨#[]⟩, none, 0, []⟩
theorem mh_ok (w : World) : MvOk w MH := by
  refine ⟨by decide, fun i => ?_, fun i => ?_, fun x hx => by simp [MH] at hx, Sl.nil_ w⟩
  · unfold MV.num; split <;> decide
  · unfold MV.text; split <;> decide
theorem mq_ok (w : World) : MvOk w MQ0 := by
  refine ⟨by decide, fun i => ?_, fun i => ?_, fun x hx => by simp [MQ0] at hx, Sl.nil_ w⟩
  · unfold MV.num; split <;> decide
  · unfold MV.text; split <;> decide
theorem mh_sm : MvSm MH := ⟨by decide, fun i => by unfold MV.text; split <;> decide, fun s hs => by simp [MH] at hs⟩
theorem mq_sm : MvSm MQ0 := ⟨by decide, fun i => by unfold MV.text; split <;> decide, fun s hs => by simp [MQ0] at hs⟩
theorem mh_o : ofL ((1 : Nat) : Int) 1 = [⟨1, 1, 1, 1, 0⟩, ⟨1, 1, 2, 1, 1⟩, ⟨1, 1, 3, 7, 0⟩] := by decide +kernel
theorem mh_c : chkV MH (ofL (MH.k : Int) 1) = (0, 0) := by
  show chkV MH (ofL ((1 : Nat) : Int) 1) = _
  rw [mh_o]; decide +kernel
theorem put_small (n : Nat) (h : n < 128) : putN n = [b8 n] := by
  unfold putN
  rw [sevs, dif_pos h]
  simp [sevB, b8]
theorem mh_f (num i : Int) (k : Nat) (hd : dflB MH 1 i = false) (hk : MH.num i = k) (hk1 : k < 128) (h1 : 1 ≤ num) (h2 : num ≤ 15) : fldB MH num 1 i = [b8 (8 * num).toNat, b8 k] := by
  rw [fldB_in hd mh_sm h1 (by omega)]
  have hw : partW MH num 1 i = [(num, 0, k, [])] := by
    unfold partW
    rw [if_neg (by omega), if_neg (by omega), if_neg (by omega), hk]; rfl
  rw [hw, List.flatMap_cons, List.flatMap_nil, List.append_nil]
  show pB num 0 k [] = _
  unfold pB pTail
  rw [mk_ok h1 (by omega) rfl]
  simp only [Int.add_zero]
  rw [put_small _ (by omega), if_pos trivial, put_small _ hk1]
  rfl
theorem mh_b : encB MH (ofL (MH.k : Int) 1) = [8, 1, 16, 3] := by
  unfold encB
  rw [mh_c]
  show (if (0 : Int) = 0 then (ofL ((1 : Nat) : Int) 1).flatMap (fldR MH) else []) = _
  rw [if_pos rfl, mh_o]
  have f1 : fldR MH ⟨1, 1, 1, 1, 0⟩ = [8, 1] := by
    show fldB MH 1 1 0 = _
    rw [mh_f 1 0 1 (by decide +kernel) rfl (by omega) (by omega) (by omega)]; decide
  have f2 : fldR MH ⟨1, 1, 2, 1, 1⟩ = [16, 3] := by
    show fldB MH 2 1 1 = _
    rw [mh_f 2 1 3 (by decide +kernel) rfl (by omega) (by omega) (by omega)]; decide
  have f3 : fldR MH ⟨1, 1, 3, 7, 0⟩ = [] := by
    show fldB MH 3 7 0 = _
    unfold fldB
    rw [if_pos (by decide +kernel)]
  rw [List.flatMap_cons, List.flatMap_cons, List.flatMap_cons, List.flatMap_nil, f1, f2, f3]
  rfl
theorem mq_c2 : chkV MQ0 (ofL (MQ0.k : Int) 2) = (0, 0) := by
  show chkV MQ0 (ofL ((8 : Nat) : Int) 2) = _
  rw [l9_o2]; decide +kernel
theorem mq_b2 : encB MQ0 (ofL (MQ0.k : Int) 2) = [] := by
  unfold encB
  rw [mq_c2]
  show (if (0 : Int) = 0 then (ofL ((8 : Nat) : Int) 2).flatMap (fldR MQ0) else []) = _
  rw [if_pos rfl, l9_o2]
  have f1 : fldR MQ0 ⟨8, 2, 1, 2, 0⟩ = [] := by
    show fldB MQ0 1 2 0 = _
    unfold fldB
    rw [if_pos (by decide +kernel)]
  rw [List.flatMap_cons, List.flatMap_nil, f1]
  rfl
theorem mq_c1 : chkV MQ0 (ofL (MQ0.k : Int) 1) = (7, 0) := by
  show chkV MQ0 (ofL ((8 : Nat) : Int) 1) = _
  rw [l9_o1]; rfl
theorem mq_b1 : encB MQ0 (ofL (MQ0.k : Int) 1) = [] := by
  unfold encB
  rw [mq_c1]
  rfl
theorem l10_b1 (W : World) : Calls Try.prog 18 #[.agg #[.int .u8 1, .int .u64 1, .int .u64 3, .int .u64 0, .int .u64 0, .int .u64 0, .int .u64 0, .string ⟨#[]⟩, .string ⟨#[]⟩, .slice none 0 0], .int .i64 1] W fun e w' => ∃ A c, e = .returned (.tuple #[.slice A 4 c, .agg #[.int .i64 0, .int .i64 0]]) ∧ Sl w' A c (([8, 1, 16, 3] : List UInt8).map bv) ∧ w'.ownsRow W.heap.size 5 1 (.slice A 4 c) 4 (([8, 1, 16, 3] : List UInt8).map bv) ∧ Below W.heap.size W w' := by
  refine (ebytes_any MH 1 W (mh_ok W) mh_sm (by omega) (by omega)).mono fun e w' h => ?_
  have h := bytesR_sl h
  rw [mh_b, mh_c] at h
  exact h
theorem l10_b2 (W : World) : Calls Try.prog 18 #[.agg #[.int .u8 8, .int .u64 0, .int .u64 0, .int .u64 0, .int .u64 0, .int .u64 0, .int .u64 0, .string ⟨#[]⟩, .string ⟨#[]⟩, .slice none 0 0], .int .i64 2] W fun e w' => ∃ A c, e = .returned (.tuple #[.slice A 0 c, .agg #[.int .i64 0, .int .i64 0]]) ∧ Below W.heap.size W w' := by
  refine (ebytes_any MQ0 2 W (mq_ok W) mq_sm (by omega) (by omega)).mono fun e w' h => ?_
  have h := bytesR_sl h
  rw [mq_b2, mq_c2] at h
  obtain ⟨A, c, h1, -, -, h2⟩ := h
  exact ⟨A, c, h1, h2⟩
theorem l10_b3 (W : World) : Calls Try.prog 18 #[.agg #[.int .u8 8, .int .u64 0, .int .u64 0, .int .u64 0, .int .u64 0, .int .u64 0, .int .u64 0, .string ⟨#[]⟩, .string ⟨#[]⟩, .slice none 0 0], .int .i64 1] W fun e w' => ∃ A c, e = .returned (.tuple #[.slice A 0 c, .agg #[.int .i64 7, .int .i64 0]]) ∧ Below W.heap.size W w' := by
  refine (ebytes_any MQ0 1 W (mq_ok W) mq_sm (by omega) (by omega)).mono fun e w' h => ?_
  have h := bytesR_sl h
  rw [mq_b1, mq_c1] at h
  obtain ⟨A, c, h1, -, -, h2⟩ := h
  exact ⟨A, c, h1, h2⟩
set_option maxRecDepth 100000 in
set_option maxHeartbeats 2000000 in
theorem esize_any (M : MV) (v : Int) (w : World) (hok : MvOk w M) (hsm : MvSm M) (hv1 : -9223372036854775808 ≤ v) (hv2 : v ≤ 9223372036854775807) :
    Calls Try.prog 21 #[mvV M, .int .i64 v] w fun e w' => e = .returned (.int .i64 ((encB M (ofL (M.k : Int) v)).length : Nat)) ∧ Below w.heap.size w w' := by
  have hb := fun W (hW : Below w.heap.size w W) => (ebytes_any M v W (hok.below hW) hsm hv1 hv2).mono (fun e w' h => bytesR_sl h)
  generalize encB M (ofL (M.k : Int) v) = eb at *
  generalize (chkV M (ofL (M.k : Int) v)).1 = E1 at *
  generalize (chkV M (ofL (M.k : Int) v)).2 = E2 at *
  unfold mvV mvA at *
  generalize M.l.length = len at *
  generalize eb.map bv = ebv at *
  generalize eb.length = el at *
  have HB := hid hb
  clear hb hok
  go_enter Try.func21, Try.ntmps21
  go_wp2_with fail
  refine (HB.out _ (bw_a (Below.refl _ w) _)).mono ?_
  rintro e w1 ⟨A, c, rfl, hs, -, hb1⟩
  have hbb := bw_t (bw_a (Below.refl _ w) _) hb1
  have HBB := hid hbb
  clear hbb hb1 hs
  go_wp2_with fail
  go_ret
  exact ⟨rfl, bw_a HBB.out _⟩
end Go.Proofs.Ytehjibbjkadoiaa
namespace Go.Proofs.Ytehjibbjkadoiaa
open Go.RowKit
theorem enc_len (M : MV) (v : Int) (hn : ∀ i, M.num i ≤ 18446744073709551615) (h : MvSm M) : (encB M (ofL (M.k : Int) v)).length ≤ 5670000 := by
  unfold encB
  split
  · have h1 := fm_len (fldR M) 810000 (ofL (M.k : Int) v) (fun r _ => fld_len hn h)
    have h2 := ofL_le7 M.k v
    have h3 : 810000 * (ofL (M.k : Int) v).length ≤ 810000 * 7 := Nat.mul_le_mul_left _ h2
    omega
  · simp
end Go.Proofs.Ytehjibbjkadoiaa
set_option linter.unusedVariables false
namespace Go.Proofs.Ytehjibbjkadoiaa
open Go.RowKit
theorem l10_sz (W : World) : Calls Try.prog 21 #[.agg #[.int .u8 1, .int .u64 1, .int .u64 3, .int .u64 0, .int .u64 0, .int .u64 0, .int .u64 0, .string ⟨#[]⟩, .string ⟨#[]⟩, .slice none 0 0], .int .i64 1] W fun e w' => e = .returned (.int .i64 4) ∧ Below W.heap.size W w' := by
  have h := esize_any MH 1 W (mh_ok W) mh_sm (by omega) (by omega)
  rw [mh_b] at h
  exact h
theorem l10_fd (W : World) : Calls Try.prog 22 #[.agg #[.int .u8 1, .int .u64 1, .int .u64 3, .int .u64 0, .int .u64 0, .int .u64 0, .int .u64 0, .string ⟨#[]⟩, .string ⟨#[]⟩, .slice none 0 0], .agg #[.int .i64 2, .int .i64 1, .int .i64 1]] W fun e w' => ∃ A c, e = .returned (.slice A 2 c) ∧ Below W.heap.size W w' := by
  have h := field_any MH 2 1 1 W (mh_ok W) mh_sm (by omega) (by omega)
  rw [mh_f 2 1 3 (by decide +kernel) rfl (by omega) (by omega) (by omega)] at h
  refine h.mono fun e w' h => ?_
  obtain ⟨A, c, h1, -, h2⟩ := h
  exact ⟨A, c, h1, h2⟩
theorem l10_ck (W : World) : Calls Try.prog 32 #[.agg #[.int .u8 1, .int .u64 1, .int .u64 3, .int .u64 0, .int .u64 0, .int .u64 0, .int .u64 0, .string ⟨#[]⟩, .string ⟨#[]⟩, .slice none 0 0], .int .i64 1] W fun e w' => e = .returned (.agg #[.int .i64 0, .int .i64 0]) ∧ Below W.heap.size W w' := by
  have h := vcheck_any MH 1 W (mh_ok W) (by omega) (by omega)
  rw [mh_c] at h; exact h
set_option maxRecDepth 100000 in
set_option maxHeartbeats 8000000 in
theorem live10_any (w : World) : Calls Try.prog 17 #[] w fun e w' => e = .returned (.bool true) ∧ Below w.heap.size w w' := by
  have hb1 := fun W => l10_b1 W
  have hb2 := fun W => l10_b2 W
  have hb3 := fun W => l10_b3 W
  have hsz := fun W => l10_sz W
  have hfd := fun W => l10_fd W
  have HB1 := hid hb1
  have HB2 := hid hb2
  have HB3 := hid hb3
  have HSZ := hid hsz
  have HFD := hid hfd
  clear hb1 hb2 hb3 hsz hfd
  obtain ⟨s, hws⟩ : ∃ s, w.heap.size = s := ⟨_, rfl⟩
  rw [hws]
  go_enter Try.func17, Try.ntmps17
  go_wp2_with fail
  obtain ⟨W, hW⟩ : ∃ W, w.alloc (.cells #[.int .u8 1, .int .u64 1, .int .u64 3, .int .u64 0, .int .u64 0, .int .u64 0, .int .u64 0, .string ⟨#[]⟩, .string ⟨#[]⟩, .slice none 0 0] 27) = W := ⟨_, rfl⟩
  have hk0 : Blk W s 27 #[.int .u8 1, .int .u64 1, .int .u64 3, .int .u64 0, .int .u64 0, .int .u64 0, .int .u64 0, .string ⟨#[]⟩, .string ⟨#[]⟩, .slice none 0 0] := by rw [← hW, ← hws]; exact Blk.new w _ _
  have hB : Below s w W := by rw [← hW, ← hws]; exact bw_a (Below.refl _ w) _
  have HK := hid hk0
  have HB := hid hB
  have hl0 := hk0.lt
  have c0 := hk0.cell 0
  have c1 := hk0.cell 1
  have c2 := hk0.cell 2
  have c3 := hk0.cell 3
  have c4 := hk0.cell 4
  have c5 := hk0.cell 5
  have c6 := hk0.cell 6
  have c7 := hk0.cell 7
  have c8 := hk0.cell 8
  have c9 := hk0.cell 9
  simp only [List.getElem?_toArray, List.getElem?_cons_zero, List.getElem?_cons_succ] at c0 c1 c2 c3 c4 c5 c6 c7 c8 c9
  clear hk0 hB
  rw [hW]
  clear hW
  refine (HB1.out W).mono ?_
  rintro e w1 ⟨A1, q1, rfl, hs1, -, hb1⟩
  have hk1 := HK.out.below hb1 hl0
  have HK1 := hid hk1
  have HBw1 := hid (HB.out.trans (hb1.mono (by omega)))
  have HS1 := hid hs1
  have hl1 := hk1.lt
  clear hb1 hk1 hs1 c0 c1 c2 c3 c4 c5 c6 c7 c8 c9
  go_wp2_with fail
  refine (HB2.out _).mono ?_
  rintro e w2 ⟨A2, q2, rfl, hb2⟩
  have hb12 := bw_t (bw_a (Below.refl _ w1) (.cells #[.int .i64 0, .int .i64 0] 37)) hb2
  have HF1 := hid ((Blk.new w1 37 #[.int .i64 0, .int .i64 0]).below hb2 (by simp))
  have HK2 := hid (HK1.out.below hb12 hl1)
  have HBw2 := hid (HBw1.out.trans (hb12.mono (by omega)))
  have HS2 := hid (HS1.out.below hb12)
  have hl2 := (HK1.out.below hb12 hl1).lt
  have hz12 : w1.heap.size < w2.heap.size := HF1.out.lt
  clear hb2 hb12
  go_wp2_with fail
  refine (HB3.out _).mono ?_
  rintro e w3 ⟨A3, q3, rfl, hb3⟩
  have hb23 := bw_t (bw_a (Below.refl _ w2) (.cells #[.int .i64 0, .int .i64 0] 37)) hb3
  have HF2 := hid ((Blk.new w2 37 #[.int .i64 0, .int .i64 0]).below hb3 (by simp))
  have HF12 := hid (HF1.out.below hb23 HF1.out.lt)
  have HK3 := hid (HK2.out.below hb23 hl2)
  have HBw3 := hid (HBw2.out.trans (hb23.mono (by omega)))
  have HS3 := hid (HS2.out.below hb23)
  have hl3 := (HK2.out.below hb23 hl2).lt
  have hz23 : w2.heap.size < w3.heap.size := HF2.out.lt
  clear hb3 hb23
  obtain ⟨z3, hz3⟩ : ∃ z, w3.heap.size = z := ⟨_, rfl⟩
  obtain ⟨W4, hW4⟩ : ∃ W4, (w3.alloc (.cells #[.int .i64 7, .int .i64 0] 37)).alloc (.cells #[.int .u8 8, .int .u8 1, .int .u8 16, .int .u8 3] 5) = W4 := ⟨_, rfl⟩
  have hb34 : Below w3.heap.size w3 W4 := by rw [← hW4]; exact bw_a (bw_a (Below.refl _ w3) _) _
  have hf3 : Blk W4 z3 37 #[.int .i64 7, .int .i64 0] := by rw [← hW4, ← hz3]; exact (Blk.new w3 _ _).alloc _
  have hlit : BRd W4 (some ⟨z3 + 1, 0, none⟩) [8, 1, 16, 3] := by
    have h := Rd.new (w3.alloc (.cells #[.int .i64 7, .int .i64 0] 37)) 5 #[.int .u8 8, .int .u8 1, .int .u8 16, .int .u8 3]
    rw [hW4, World.size_alloc, hz3] at h
    exact h
  have hk4 := HK3.out.below hb34 hl3
  have hf14 := HF12.out.below hb34 HF12.out.lt
  have hf24 := HF2.out.below hb34 HF2.out.lt
  have HSAME := hid (same_at [8, 1, 16, 3] [8, 1, 16, 3] 4 4 A1 (some ⟨z3 + 1, 0, none⟩) q1 4 W4 rfl rfl (by omega) (HS3.out.below hb34).rd hlit)
  have c0 := hk4.cell 0
  have c1 := hk4.cell 1
  have c2 := hk4.cell 2
  have c3 := hk4.cell 3
  have c4 := hk4.cell 4
  have c5 := hk4.cell 5
  have c6 := hk4.cell 6
  have c7 := hk4.cell 7
  have c8 := hk4.cell 8
  have c9 := hk4.cell 9
  simp only [List.getElem?_toArray, List.getElem?_cons_zero, List.getElem?_cons_succ] at c0 c1 c2 c3 c4 c5 c6 c7 c8 c9
  have d0 := hf14.cell 0
  have d1 := hf14.cell 1
  simp only [List.getElem?_toArray, List.getElem?_cons_zero, List.getElem?_cons_succ] at d0 d1
  have e0 := hf24.cell 0
  have e1 := hf24.cell 1
  simp only [List.getElem?_toArray, List.getElem?_cons_zero, List.getElem?_cons_succ] at e0 e1
  have f0 := hf3.cell 0
  have f1 := hf3.cell 1
  simp only [List.getElem?_toArray, List.getElem?_cons_zero, List.getElem?_cons_succ] at f0 f1
  have HBw4 := hid (HBw3.out.trans (hb34.mono (by omega)))
  have hl4 := hk4.lt
  have hm1 := hf14.lt
  have hm2 := hf24.lt
  have hm3 := hf3.lt
  have HK4 := hid hk4
  have HF14 := hid hf14
  have HF24 := hid hf24
  have HF34 := hid hf3
  clear hb34 hf3 hlit hk4 hf14 hf24
  go_wp2_with fail
  clear hW4
  refine HSAME.out.mono ?_
  rintro e w5 ⟨rfl, n5, rfl⟩
  go_wp2_with fail
  refine (HSZ.out _).mono ?_
  rintro e w6 ⟨rfl, hb6⟩
  have hb46 := bw_t (bw_d (Below.refl _ W4) n5) hb6
  have hk6 := HK4.out.below hb46 hl4
  have hf16 := HF14.out.below hb46 hm1
  have hf26 := HF24.out.below hb46 hm2
  have hf36 := HF34.out.below hb46 hm3
  have HBw6 := hid (HBw4.out.trans (hb46.mono (by omega)))
  clear c0 c1 c2 c3 c4 c5 c6 c7 c8 c9 d0 d1 e0 e1 f0 f1
  have c0 := hk6.cell 0
  have c1 := hk6.cell 1
  have c2 := hk6.cell 2
  have c3 := hk6.cell 3
  have c4 := hk6.cell 4
  have c5 := hk6.cell 5
  have c6 := hk6.cell 6
  have c7 := hk6.cell 7
  have c8 := hk6.cell 8
  have c9 := hk6.cell 9
  simp only [List.getElem?_toArray, List.getElem?_cons_zero, List.getElem?_cons_succ] at c0 c1 c2 c3 c4 c5 c6 c7 c8 c9
  have d0 := hf16.cell 0
  have d1 := hf16.cell 1
  simp only [List.getElem?_toArray, List.getElem?_cons_zero, List.getElem?_cons_succ] at d0 d1
  have e0 := hf26.cell 0
  have e1 := hf26.cell 1
  simp only [List.getElem?_toArray, List.getElem?_cons_zero, List.getElem?_cons_succ] at e0 e1
  have f0 := hf36.cell 0
  have f1 := hf36.cell 1
  simp only [List.getElem?_toArray, List.getElem?_cons_zero, List.getElem?_cons_succ] at f0 f1
  have hs6 : s ≤ w6.heap.size := by have := hk6.lt; omega
  clear hk6 hf16 hf26 hf36 hb6 hb46
  go_wp2_with fail
  refine (HFD.out _).mono ?_
  rintro e w7 ⟨A7, q7, rfl, hb7⟩
  have HBw7 := hid (HBw6.out.trans (hb7.mono hs6))
  clear hb7 c0 c1 c2 c3 c4 c5 c6 c7 c8 c9 d0 d1 e0 e1 f0 f1
  go_wp2_with fail
  go_ret
  exact ⟨rfl, HBw7.out⟩
set_option maxRecDepth 100000 in
set_option maxHeartbeats 8000000 in
theorem awake5_any (w : World) : Calls Try.prog 27 #[] w fun e w' => e = .returned (.bool true) ∧ Below w.heap.size w w' := by
  have hb1 := fun W => l10_b1 W
  have hck := fun W => l10_ck W
  have HB1 := hid hb1
  have HCK := hid hck
  clear hb1 hck
  obtain ⟨s, hws⟩ : ∃ s, w.heap.size = s := ⟨_, rfl⟩
  rw [hws]
  go_enter Try.func27, Try.ntmps27
  go_wp2_with fail
  obtain ⟨W, hW⟩ : ∃ W, w.alloc (.cells #[.int .u8 1, .int .u64 1, .int .u64 3, .int .u64 0, .int .u64 0, .int .u64 0, .int .u64 0, .string ⟨#[]⟩, .string ⟨#[]⟩, .slice none 0 0] 27) = W := ⟨_, rfl⟩
  have hk0 : Blk W s 27 #[.int .u8 1, .int .u64 1, .int .u64 3, .int .u64 0, .int .u64 0, .int .u64 0, .int .u64 0, .string ⟨#[]⟩, .string ⟨#[]⟩, .slice none 0 0] := by rw [← hW, ← hws]; exact Blk.new w _ _
  have hB : Below s w W := by rw [← hW, ← hws]; exact bw_a (Below.refl _ w) _
  have HK := hid hk0
  have HB := hid hB
  have hl0 := hk0.lt
  have c0 := hk0.cell 0
  have c1 := hk0.cell 1
  have c2 := hk0.cell 2
  have c3 := hk0.cell 3
  have c4 := hk0.cell 4
  have c5 := hk0.cell 5
  have c6 := hk0.cell 6
  have c7 := hk0.cell 7
  have c8 := hk0.cell 8
  have c9 := hk0.cell 9
  simp only [List.getElem?_toArray, List.getElem?_cons_zero, List.getElem?_cons_succ] at c0 c1 c2 c3 c4 c5 c6 c7 c8 c9
  clear hk0 hB
  rw [hW]
  clear hW
  refine (HB1.out W).mono ?_
  rintro e w1 ⟨A1, q1, rfl, hs1, -, hb1⟩
  have hk1 := HK.out.below hb1 hl0
  have HBw1 := hid (HB.out.trans (hb1.mono (by omega)))
  have hl1 := hk1.lt
  have hl11 : s < w1.heap.size + 1 := by omega
  clear c0 c1 c2 c3 c4 c5 c6 c7 c8 c9
  have c0 := hk1.cell 0
  have c1 := hk1.cell 1
  have c2 := hk1.cell 2
  have c3 := hk1.cell 3
  have c4 := hk1.cell 4
  have c5 := hk1.cell 5
  have c6 := hk1.cell 6
  have c7 := hk1.cell 7
  have c8 := hk1.cell 8
  have c9 := hk1.cell 9
  simp only [List.getElem?_toArray, List.getElem?_cons_zero, List.getElem?_cons_succ] at c0 c1 c2 c3 c4 c5 c6 c7 c8 c9
  clear hk1 hs1 hb1
  go_wp2_with fail
  refine (HCK.out _).mono ?_
  rintro e w2 ⟨rfl, hb2⟩
  have hb12 := bw_t (bw_a (Below.refl _ w1) (.cells #[.int .i64 0, .int .i64 0] 37)) hb2
  have HBw2 := hid (HBw1.out.trans (hb12.mono (by omega)))
  clear hb2 hb12 c0 c1 c2 c3 c4 c5 c6 c7 c8 c9
  go_wp2_with fail
  go_ret
  exact ⟨rfl, HBw2.out⟩
end Go.Proofs.Ytehjibbjkadoiaa
