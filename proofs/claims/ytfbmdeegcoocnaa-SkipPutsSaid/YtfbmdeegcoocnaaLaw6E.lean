/- The walk of SkipPuts. -/
import Derived.Test.YtfbmdeegcoocnaaLaw6D
import Derived.Test.YtfbmdeegcoocnaaRefPut6
set_option linter.unusedVariables false
namespace Go.Proofs.Ytfbmdeegcoocnaa
open Go.RowKit
theorem putsE_all (l : List FV) : ∀ i, (putsE l i).1 = 0 → (∀ f ∈ l, pErrF f = 0) := by
  induction l with
  | nil => intro i _ f hf; simp at hf
  | cons f fs ih =>
    intro i h
    rw [putsE] at h
    by_cases h0 : pErrF f = 0
    · rw [if_pos h0] at h
      intro g hg
      rcases List.mem_cons.1 hg with rfl | hg
      · exact h0
      · exact ih _ h g hg
    · rw [if_neg h0] at h
      exact absurd h h0
theorem pBF_all (l : List FV) (h : ∀ f ∈ l, (pBF f).length ≤ 2100) : (l.flatMap pBF).length ≤ 2100 * l.length := by
  induction l with
  | nil => simp
  | cons f fs ih =>
    rw [List.flatMap_cons, List.length_append, List.length_cons]
    have h1 := h f (List.mem_cons_self ..)
    have h2 := ih (fun g hg => h g (List.mem_cons_of_mem _ hg))
    omega
/-- The bare field of a field, with new memory. -/
def bareF (f : FV) (A : Option Addr) (c : Nat) : FV := ⟨f.num, f.w, bareN f, ⟨A, c, bareX f⟩, f.at_⟩
theorem likeB_bare (f g : FV) (A : Option Addr) (c : Nat) (h : f.num = g.num ∧ f.w = g.w ∧ f.n = bareN g ∧ f.s.xs = bareX g) : likeB f (bareF g A c) = true := by
  unfold likeB bareF
  rw [decide_eq_true_eq]
  exact h
set_option maxRecDepth 100000 in
set_option maxHeartbeats 2000000 in
theorem skipPuts_any (l : List FV) (m : Nat) (A : Option Addr) (c : Nat) (w : World) (hm : l.length = m) (hsn : SlN w A m c 5 (l.flatMap fvC)) (hok : ∀ f ∈ l, FvOk w f) :
    Calls Try.prog 5 #[.slice A m c] w fun e w' => e = .returned (.bool true) ∧ Below w.heap.size w w' := by
  have hcap : m ≤ 9223372036854775807 := by have g1 := hsn.cap; have g2 := hsn.small; omega
  have hlive := live6_any w
  have hfew := fun W (hW : Below w.heap.size w W) => few_any l m A c W hm (hsn.below hW) (fun a ha => by have h1 := (hok a ha).s.cap; have h2 := (hok a ha).s.small; rw [List.length_map] at h1; omega)
  by_cases hbig : fewB l = false
  · rw [hbig] at hfew
    have HL := hid hlive
    have HW := hid hfew
    clear hlive hfew hm hsn hok
    go_enter Try.func5, Try.ntmps5
    go_wp2_with fail
    refine HL.out.mono ?_
    rintro e w1 ⟨rfl, hb1⟩
    go_wp2_with fail
    refine (HW.out _ hb1).mono ?_
    rintro e w2 ⟨rfl, k, rfl⟩
    go_wp2_with fail
    go_ret
    exact ⟨rfl, bw_d hb1 k⟩
  replace hbig : fewB l = true := by simpa using hbig
  rw [hbig] at hfew
  obtain ⟨hf40, hf1⟩ := fewB_facts hbig
  have hx2 : ∀ f ∈ l, f.s.xs.length ≤ 2000 := fun f hf => by have := hf1 f hf; omega
  have hpa := pBF_all l (fun f hf => pBF_len f (hok f hf).n (hok f hf).w0 (hok f hf).w1 (hx2 f hf))
  have hput := fun W (hW : Below w.heap.size w W) => sputs_any l m A c W hm (by omega) (hsn.below hW) (fun f hf => (hok f hf).below hW) hx2
  have hrut := fun W (hW : Below w.heap.size w W) => rputs_any l m A c W hm (by omega) (hsn.below hW) (fun f hf => (hok f hf).below hW) hx2
  have hall := putsE_all l 0
  have hfl2 := fun (hz : (putsE l 0).1 = 0) => flds_put l (l.flatMap pBF) [] 0 (l.flatMap pBF).length (fun f hf => ⟨hall hz f hf, (hok f hf).n, (hok f hf).w0, (hok f hf).w1⟩) rfl rfl (by omega)
  have hf2 := fun W X d hX => (callsIn_wide (n := 4)).1 (fields_in 4 (by omega) (l.flatMap pBF) (l.flatMap pBF).length X d W rfl (by omega) hX)
  clear hall hbig hf1
  have HLV := hid hlive
  have HW := hid hfew
  have HPUT := hid hput
  have HRUT := hid hrut
  have HFL := hid hfl2
  have HF2 := hid hf2
  have HSN := hid hsn
  have HOK := hid hok
  have HM := hid hm
  clear hlive hfew hput hrut hfl2 hf2 hsn hok hx2
  rw [hm] at hpa hf40
  clear hm
  obtain ⟨bs, hbs⟩ : ∃ bs, l.flatMap pBF = bs := ⟨_, rfl⟩
  obtain ⟨L, hL⟩ : ∃ L, bs.length = L := ⟨_, rfl⟩
  rw [hbs, hL] at HF2 HPUT HRUT HFL
  rw [hbs, hL] at hpa
  have HBL := hid hL
  clear hbs hL
  go_enter Try.func5, Try.ntmps5
  go_wp2_with fail
  refine HLV.out.mono ?_
  rintro e w1 ⟨rfl, hb1⟩
  go_wp2_with fail
  refine (HW.out _ hb1).mono ?_
  rintro e w2 ⟨rfl, k, rfl⟩
  have b1 := bw_d hb1 k
  clear hb1
  by_cases hz : (putsE l 0).1 = 0
  · have hfl := HFL.out hz
    rw [hfl] at HF2
    clear hfl HFL
    go_wp2_with fail
    refine (HPUT.out _ b1).mono ?_
    rintro e w3 ⟨(⟨-, v3, rfl, ho3⟩ | ⟨h, -⟩), hb3⟩
    rotate_left
    · exact (h hz).elim
    obtain ⟨A3, c3, rfl, -, hs3⟩ := Sl.of_own ho3
    have b3 := bw_t b1 hb3
    go_wp2_with fail
    have hb3a := bw_a (Below.refl w3.heap.size w3) (.cells #[.int .i64 0, .int .i64 0] 27)
    have hk3 := Blk.new w3 27 #[.int .i64 0, .int .i64 0]
    have b3a := bw_t b3 hb3a
    refine (HRUT.out _ b3a).mono ?_
    rintro e w4 ⟨(⟨-, A4, c4, rfl, hs4⟩ | ⟨h, -⟩), hb4⟩
    rotate_left
    · exact (h hz).elim
    have hb34 := bw_t hb3a hb4
    have b4 := bw_t b3 hb34
    have hk34 := hk3.below hb4 hk3.lt
    have hl34 := hk34.lt
    have d0 := hk34.cell 0
    have d1 := hk34.cell 1
    simp only [List.getElem?_toArray, List.getElem?_cons_zero, List.getElem?_cons_succ] at d0 d1
    have hs34 := hs3.below hb34
    have HSM := hid fun W (hW : Below w4.heap.size w4 W) => same_at bs bs L L A3 A4 c3 c4 W HBL.out HBL.out (by omega) (hs34.below hW).rd (hs4.below hW).rd
    go_wp2_with (go_at_call 20; refine (HSM.out _ (bw_a (Below.refl _ w4) _)).mono ?_; rintro e w5 ⟨rfl, k5, rfl⟩)
    have hb45 := bw_d (bw_a (Below.refl w4.heap.size w4) (.cells #[.int .i64 0, .int .i64 0] 27)) k5
    have b5 := bw_t b4 hb45
    refine (HF2.out _ _ _ (hs34.below hb45)).mono ?_
    rintro e w6 ⟨(⟨-, v6, b6, pre2, rfl, -, ho6, hfa6, hsl6⟩ | ⟨h, -⟩), hb6⟩
    rotate_left
    · exact (h (by first | trivial | rfl)).elim
    obtain ⟨hpl2, hlk⟩ := put_like hfa6
    obtain ⟨A6, c6, rfl, hsn6⟩ := sln_own (by omega) ho6
    have hm6 : pre2.length = m := by rw [hpl2]; exact HM.out
    rw [hm6] at hsn6 ⊢
    have b6 := bw_t b5 hb6
    have b7 := bw_a b6 (.cells #[.int .i64 0, .int .i64 0] 27)
    have hb7 := bw_a (Below.refl w6.heap.size w6) (.cells #[.int .i64 0, .int .i64 0] 27)
    have HSN5 := hid (HSN.out.below b7)
    have HSN4 := hid (hsn6.below hb7)
    have hfs : ∀ f ∈ l, FvOk (w6.alloc (.cells #[.int .i64 0, .int .i64 0] 27)) f := fun f hf => (HOK.out f hf).below b7
    have hgs : ∀ f ∈ pre2, Sl (w6.alloc (.cells #[.int .i64 0, .int .i64 0] 27)) f.s.A f.s.c (f.s.xs.map bv) := fun f hf => (hsl6 f hf).1.below hb7
    have HLK := hid hlk
    have HM4 := hid hm6
    clear hsn6 hk34 hk3 hb34 hb3a hb4 ho6 hfa6 hsl6 hs3 ho3 hb3 hs4 hs34 b5 b4 b3 b3a b1 hb45 hb6 hlk hpl2 hm6 HSM d0 d1 hl34
    go_wp2_with fail
    obtain ⟨W5, hW5⟩ : ∃ W5, w6.alloc (.cells #[.int .i64 0, .int .i64 0] 27) = W5 := ⟨_, rfl⟩
    rw [hW5] at HSN5 HSN4 hfs hgs b7 ⊢
    have HFS := hid hfs
    have HGS := hid hgs
    have HB5 := hid b7
    clear hW5 hfs hgs b7 hb7
    go_loopw [9] (fun i wr => ∃ j : Nat, j ≤ m ∧ i = .int .i64 (j : Int) ∧ Below W5.heap.size W5 wr) (fun i _ => m - (intOf i).toNat)
    case atStart => exact ⟨0, by omega, rfl, Below.refl _ _⟩
    case round =>
      obtain ⟨j, hj, rfl, hB⟩ := hrel
      by_cases hlt : j < m
      · have hj1 : j < pre2.length := by have := HM4.out; omega
        have hj2 : j < l.length := by have := HM.out; omega
        have ha0 : (pre2.flatMap fvC)[j * 5 + 0]? = _ := flatMap_get fvC 5 pre2 j 0 hj1 (fun _ _ => rfl) (by omega)
        have ha1 : (pre2.flatMap fvC)[j * 5 + 1]? = _ := flatMap_get fvC 5 pre2 j 1 hj1 (fun _ _ => rfl) (by omega)
        have ha2 : (pre2.flatMap fvC)[j * 5 + 2]? = _ := flatMap_get fvC 5 pre2 j 2 hj1 (fun _ _ => rfl) (by omega)
        have ha3 : (pre2.flatMap fvC)[j * 5 + 3]? = _ := flatMap_get fvC 5 pre2 j 3 hj1 (fun _ _ => rfl) (by omega)
        have ha4 : (pre2.flatMap fvC)[j * 5 + 4]? = _ := flatMap_get fvC 5 pre2 j 4 hj1 (fun _ _ => rfl) (by omega)
        have hb0 : (l.flatMap fvC)[j * 5 + 0]? = _ := flatMap_get fvC 5 l j 0 hj2 (fun _ _ => rfl) (by omega)
        have hb1 : (l.flatMap fvC)[j * 5 + 1]? = _ := flatMap_get fvC 5 l j 1 hj2 (fun _ _ => rfl) (by omega)
        have hb2 : (l.flatMap fvC)[j * 5 + 2]? = _ := flatMap_get fvC 5 l j 2 hj2 (fun _ _ => rfl) (by omega)
        have hb3 : (l.flatMap fvC)[j * 5 + 3]? = _ := flatMap_get fvC 5 l j 3 hj2 (fun _ _ => rfl) (by omega)
        have hb4 : (l.flatMap fvC)[j * 5 + 4]? = _ := flatMap_get fvC 5 l j 4 hj2 (fun _ _ => rfl) (by omega)
        have hsf := HGS.out pre2[j] (List.getElem_mem hj1)
        have hsg := HFS.out l[j] (List.getElem_mem hj2)
        have hlike := fun A' c' => likeB_bare pre2[j] l[j] A' c' (HLK.out j hj1 hj2)
        have hbr := fun W (hW : Below W5.heap.size W5 W) => rbare_any l[j] W (hsg.below hW)
        have hlk := fun W (hW : Below W5.heap.size W5 W) A' c' (hS : Sl W A' c' ((bareX l[j]).map bv)) => like_any pre2[j] (bareF l[j] A' c') W (hsf.below hW) hS
        simp only [hlike] at hlk
        obtain ⟨b, off, rfl, hbl, t0⟩ := HSN4.out.rd _ _ ha0
        have t1 := HSN4.out.rd.addr _ _ ha1
        have t2 := HSN4.out.rd.addr _ _ ha2
        have t3 := HSN4.out.rd.addr _ _ ha3
        have t4 := HSN4.out.rd.addr _ _ ha4
        obtain ⟨d, of2, rfl, hdl, u0⟩ := HSN5.out.rd _ _ hb0
        have u1 := HSN5.out.rd.addr _ _ hb1
        have u2 := HSN5.out.rd.addr _ _ hb2
        have u3 := HSN5.out.rd.addr _ _ hb3
        have u4 := HSN5.out.rd.addr _ _ hb4
        rw [addr_add] at t1 t2 t3 t4 u1 u2 u3 u4
        simp only [Nat.add_zero, ← Nat.add_assoc] at t0 t1 t2 t3 t4 u0 u1 u2 u3 u4
        replace t0 := (hB.cell (p := ⟨b, off + j * 5, none⟩) hbl).trans t0
        replace t1 := (hB.cell (p := ⟨b, off + j * 5 + 1, none⟩) hbl).trans t1
        replace t2 := (hB.cell (p := ⟨b, off + j * 5 + 2, none⟩) hbl).trans t2
        replace t3 := (hB.cell (p := ⟨b, off + j * 5 + 3, none⟩) hbl).trans t3
        replace t4 := (hB.cell (p := ⟨b, off + j * 5 + 4, none⟩) hbl).trans t4
        replace u0 := (hB.cell (p := ⟨d, of2 + j * 5, none⟩) hdl).trans u0
        replace u1 := (hB.cell (p := ⟨d, of2 + j * 5 + 1, none⟩) hdl).trans u1
        replace u2 := (hB.cell (p := ⟨d, of2 + j * 5 + 2, none⟩) hdl).trans u2
        replace u3 := (hB.cell (p := ⟨d, of2 + j * 5 + 3, none⟩) hdl).trans u3
        replace u4 := (hB.cell (p := ⟨d, of2 + j * 5 + 4, none⟩) hdl).trans u4
        have hji : (j : Int) < (m : Int) := by omega
        have hj0 : (0 : Int) ≤ (j : Int) := by omega
        clear ha0 ha1 ha2 ha3 ha4 hb0 hb1 hb2 hb3 hb4 hsf hsg hlike
        unfold bareF at hlk
        generalize pre2[j] = f at *
        generalize l[j] = g at *
        generalize bareN g = bn at *
        generalize bareX g = bx at *
        obtain ⟨fnum, fw, fn_, ⟨fA, fc, fxs⟩, fat⟩ := f
        obtain ⟨gnum, gw, gn_, ⟨gA, gc, gxs⟩, gat⟩ := g
        generalize hxl : fxs.length = xl at *
        generalize hyl : gxs.length = yl at *
        generalize hbxl : bx.length = bxl at *
        simp only [fvC, hxl, hyl, hbxl] at t0 t1 t2 t3 t4 u0 u1 u2 u3 u4 hlk hbr
        have HL2 := hid hlk
        have HBR := hid hbr
        have HBB := hid hB
        clear hlk hbr hB hxl hyl hbxl
        have HT := hid (And.intro t0 (And.intro t1 (And.intro t2 (And.intro t3 (And.intro t4 (And.intro u0 (And.intro u1 (And.intro u2 (And.intro u3 u4)))))))))
        clear t0 t1 t2 t3 t4 u0 u1 u2 u3 u4
        go_wp2_with fail
        go_region_held3 (fun w' => w'.cell? ⟨b, off + j * 5, none⟩ = some (.int .i64 fnum) ∧ w'.cell? ⟨b, off + j * 5 + 1, none⟩ = some (.int .u8 fw) ∧ w'.cell? ⟨b, off + j * 5 + 2, none⟩ = some (.int .u64 (fn_ : Int)) ∧ w'.cell? ⟨b, off + j * 5 + 3, none⟩ = some (.slice fA xl fc) ∧ w'.cell? ⟨b, off + j * 5 + 4, none⟩ = some (.int .i64 fat) ∧ w'.cell? ⟨d, of2 + j * 5, none⟩ = some (.int .i64 gnum) ∧ w'.cell? ⟨d, of2 + j * 5 + 1, none⟩ = some (.int .u8 gw) ∧ w'.cell? ⟨d, of2 + j * 5 + 2, none⟩ = some (.int .u64 (gn_ : Int)) ∧ w'.cell? ⟨d, of2 + j * 5 + 3, none⟩ = some (.slice gA yl gc) ∧ w'.cell? ⟨d, of2 + j * 5 + 4, none⟩ = some (.int .i64 gat)) (first | exact HT3.out | exact HT2.out | exact HT.out | go_keep) (first | (go_at_call 22; refine (HBR.out _ (bw_d HBB.out 1)).mono ?_; rintro e w2 ⟨A9, c9, rfl, hs9, hb2⟩; have HT2 := hid (held10 (w := wr.drewN 1) hb2 HT.out)) | (go_at_call 21; refine (HL2.out _ (bw_t (bw_d HBB.out 1) hb2) A9 c9 hs9).mono ?_; rintro e w3 ⟨rfl, hb3⟩; have HT3 := hid (held10 hb3 HT2.out)))
        go_wp2_with fail
        go_roundw
        case rel => exact ⟨j + 1, by omega, by go_num, bw_t HBB.out (bw_t (bw_t (bw_d (Below.refl _ wr) 1) hb2) hb3)⟩
        case measure => simp [intOf] <;> omega
      · go_wp2_with fail
        go_ret
        exact ⟨rfl, HB5.out.trans (hB.mono HB5.out.size)⟩
  · clear HF2 HFL
    have hput := HPUT.out
    have hrut := HRUT.out
    obtain ⟨q1, hq1⟩ : ∃ q, (putsE l 0).1 = q := ⟨_, rfl⟩
    obtain ⟨q2, hq2⟩ : ∃ q, (putsE l 0).2 = q := ⟨_, rfl⟩
    simp only [hq1, hq2] at hz hput hrut
    have hzb : ((q1 : Int) != 0) = true := by simpa using hz
    have HPUT := hid hput
    have HRUT := hid hrut
    clear hq1 hq2 hput hrut
    go_wp2_with fail
    refine (HPUT.out _ b1).mono ?_
    rintro e w3 ⟨(⟨h, -⟩ | ⟨-, rfl⟩), hb3⟩
    · exact (hz h).elim
    have b3 := bw_t b1 hb3
    go_wp2_with fail
    have hb3a := bw_a (Below.refl w3.heap.size w3) (.cells #[.int .i64 (q1 : Int), .int .i64 (q2 : Int)] 27)
    have hk3 := Blk.new w3 27 #[.int .i64 (q1 : Int), .int .i64 (q2 : Int)]
    have b3a := bw_t b3 hb3a
    refine (HRUT.out _ b3a).mono ?_
    rintro e w4 ⟨(⟨h, -⟩ | ⟨-, rfl⟩), hb4⟩
    · exact (hz h).elim
    have b4 := bw_t b3a hb4
    have hk34 := hk3.below hb4 hk3.lt
    have hl34 := hk34.lt
    have d0 := hk34.cell 0
    have d1 := hk34.cell 1
    simp only [List.getElem?_toArray, List.getElem?_cons_zero, List.getElem?_cons_succ] at d0 d1
    have HSM := fun W => same_at [] [] 0 0 none none 0 0 W rfl rfl (by omega) (Rd.nil_ _ _) (Rd.nil_ _ _)
    go_wp2_with (go_at_call 20; refine (HSM _).mono ?_; rintro e w5 ⟨rfl, k5, rfl⟩)
    go_ret
    exact ⟨rfl, bw_d (bw_a b4 _) k5⟩
end Go.Proofs.Ytfbmdeegcoocnaa
