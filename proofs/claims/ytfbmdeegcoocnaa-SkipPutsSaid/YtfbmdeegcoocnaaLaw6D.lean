/- The walk of SkipAgain. -/
import Derived.Test.YtfbmdeegcoocnaaSkAgain
import Derived.Test.YtfbmdeegcoocnaaSame6
set_option linter.unusedVariables false
namespace Go.Proofs.Ytfbmdeegcoocnaa
open Go.RowKit
theorem putsE_zero (l : List FV) (h : ∀ f ∈ l, pErrF f = 0) : ∀ i, putsE l i = (0, 0) := by
  induction l with
  | nil => intro i; rfl
  | cons f fs ih =>
    intro i
    rw [putsE, if_pos (h f (List.mem_cons_self ..))]
    exact ih (fun g hg => h g (List.mem_cons_of_mem _ hg)) _
/-- Like of two fields of two rows, at one place: the region that asks for it. -/
theorem likeB_of (f g : FV) (h : f.num = g.num ∧ f.w = g.w ∧ f.n = bareN g ∧ f.s.xs = bareX g) (h2 : bareN g = g.n) (h3 : bareX g = g.s.xs) : likeB f g = true := by
  unfold likeB
  obtain ⟨a, b, c, d⟩ := h
  rw [decide_eq_true_eq]
  exact ⟨a, b, c.trans h2, d.trans h3⟩
set_option maxRecDepth 100000 in
set_option maxHeartbeats 2000000 in
theorem skipAgain_any (bs : List UInt8) (n : Nat) (A : Option Addr) (c : Nat) (w : World) (hn : bs.length = n) (hS : Sl w A c (bs.map bv)) :
    Calls Try.prog 6 #[.slice A n c] w fun e w' => e = .returned (.bool true) ∧ Below w.heap.size w w' := by
  have hcap : n ≤ 9223372036854775807 := by have h1 := hS.cap; have h2 := hS.small; rw [List.length_map] at h1; omega
  have hlive := live6_any w
  by_cases hbig : 1000 < n
  · have HL := hid hlive
    clear hlive hn hS
    go_enter Try.func6, Try.ntmps6
    go_wp2_with fail
    refine HL.out.mono ?_
    rintro e w1 ⟨rfl, hb1⟩
    go_wp2_with fail
    go_ret
    exact ⟨rfl, hb1⟩
  have hf := fun W (hW : Below w.heap.size w W) => (callsIn_wide (n := 4)).1 (fields_in 4 (by omega) bs n A c W hn (by omega) (hS.below hW))
  have hrd := fun fs h => read_ok bs n 0 fs (by omega) h
  have hag := fun fs he h => again_all bs n 0 fs (by omega) he h
  have HL := hid hlive
  have HF := hid hf
  have HRD := hid hrd
  have HAG := hid hag
  have HN := hid hn
  clear hlive hn hS hf hrd hag
  go_enter Try.func6, Try.ntmps6
  go_wp2_with fail
  refine HL.out.mono ?_
  rintro e w1 ⟨rfl, hb1⟩
  go_wp2_with fail
  refine (HF.out _ hb1).mono ?_
  rintro e w2 ⟨hor, hb2⟩
  have b2 := bw_t hb1 hb2
  clear hb1 hb2
  rcases hor with ⟨he, v, b, pre, rfl, -, ho, hfa, hsl⟩ | ⟨he, rfl⟩
  rotate_left
  · have heb : ((((flds bs n 0).2.1 : Nat) : Int) != 0) = true := by simpa using he
    generalize (flds bs n 0).2.1 = fe at *
    generalize (flds bs n 0).2.2 = fp at *
    clear he
    go_wp2_with fail
    go_ret
    exact ⟨rfl, bw_a b2 _⟩
  obtain ⟨hpl, hok⟩ := HRD.out pre hfa
  obtain ⟨hall, hle⟩ := HAG.out pre he hfa
  rw [HN.out] at hpl hok hle
  obtain ⟨Al, cl, rfl, hsn⟩ := sln_own (by omega) ho
  obtain ⟨m, hm⟩ : ∃ m, pre.length = m := ⟨_, rfl⟩
  rw [hm] at hpl hsn ⊢
  have hfv : ∀ f ∈ pre, FvOk w2 f := fun f hf => by
    obtain ⟨a1, a2, a3, a4, a5, a6, a7, a8⟩ := hok f hf
    exact ⟨a1, a2, a3, by omega, by omega, by omega, by omega, (hsl f hf).1⟩
  have hx2 : ∀ f ∈ pre, f.s.xs.length ≤ 2000 := fun f hf => by have := (hok f hf).2.2.2.2.2.2.2; omega
  have hz := putsE_zero pre (fun f hf => (hall f hf).1) 0
  have hput := fun W (hW : Below w2.heap.size w2 W) => sputs_any pre m Al cl W hm (by omega) (hsn.below hW) (fun f hf => (hfv f hf).below hW) hx2
  rw [hz] at hput
  have hfl2 : flds (pre.flatMap pBF) (pre.flatMap pBF).length 0 = (putL pre 0, 0, 0) := flds_put pre (pre.flatMap pBF) [] 0 _ (fun f hf => ⟨(hall f hf).1, (hok f hf).2.2.1, (hok f hf).1, (hok f hf).2.1⟩) rfl rfl (by omega)
  have hf2 := fun W X d hX => (callsIn_wide (n := 4)).1 (fields_in 4 (by omega) (pre.flatMap pBF) (pre.flatMap pBF).length X d W rfl (by omega) hX)
  rw [hfl2] at hf2
  generalize hL : (pre.flatMap pBF).length = L at *
  have HPUT := hid hput
  have HF2 := hid hf2
  have HSN := hid hsn
  have HFV := hid hfv
  have HALL := hid hall
  clear hput hf2 hsn hfv hx2 hz hfl2 hall hok ho hsl he hfa
  have HM := hid hm
  clear hm
  go_wp2_with fail
  have hk2 := Blk.new w2 27 #[.int .i64 0, .int .i64 0]
  have hb2a := bw_a (Below.refl w2.heap.size w2) (.cells #[.int .i64 0, .int .i64 0] 27)
  refine (HPUT.out _ hb2a).mono ?_
  rintro e w3 ⟨(⟨-, v3, rfl, ho3⟩ | ⟨h, -⟩), hb3⟩
  rotate_left
  · exact absurd rfl h
  obtain ⟨A3, c3, rfl, -, hs3⟩ := Sl.of_own ho3
  have hb23 := bw_t hb2a hb3
  go_wp2_with fail
  have hk3 := Blk.new w3 27 #[.int .i64 0, .int .i64 0]
  have hb3a := bw_a (Below.refl w3.heap.size w3) (.cells #[.int .i64 0, .int .i64 0] 27)
  refine (HF2.out _ _ _ (hs3.below hb3a)).mono ?_
  rintro e w4 ⟨(⟨-, v4, b4, pre2, rfl, -, ho4, hfa4, hsl4⟩ | ⟨h, -⟩), hb4⟩
  rotate_left
  · exact absurd rfl h
  obtain ⟨hpl2, hlk⟩ := put_like hfa4
  obtain ⟨A4, c4, rfl, hsn4⟩ := sln_own (by omega) ho4
  have hm4 : pre2.length = m := by rw [hpl2]; exact HM.out
  rw [hm4] at hsn4 ⊢
  have hb34 := bw_t hb3a hb4
  have hb24 := bw_t hb23 hb34
  have b5 := bw_a (bw_t b2 hb24) (.cells #[.int .i64 0, .int .i64 0] 27)
  have hk34 := hk3.below hb4 hk3.lt
  have d0 := hk34.cell 0
  have d1 := hk34.cell 1
  simp only [List.getElem?_toArray, List.getElem?_cons_zero, List.getElem?_cons_succ] at d0 d1
  have hl34 := hk34.lt
  have hb5 := bw_a (Below.refl w4.heap.size w4) (.cells #[.int .i64 0, .int .i64 0] 27)
  have HSN5 := hid ((HSN.out.below hb24).below hb5)
  have HSN4 := hid (hsn4.below hb5)
  have hfs : ∀ f ∈ pre, Sl (w4.alloc (.cells #[.int .i64 0, .int .i64 0] 27)) f.s.A f.s.c (f.s.xs.map bv) := fun f hf => (((HFV.out f hf).s.below hb24).below hb5)
  have hgs : ∀ f ∈ pre2, Sl (w4.alloc (.cells #[.int .i64 0, .int .i64 0] 27)) f.s.A f.s.c (f.s.xs.map bv) := fun f hf => (hsl4 f hf).1.below hb5
  have HLK := hid hlk
  have HM4 := hid hm4
  have hLn : ¬ n < L := by omega
  clear hsn4 hb34 hb24 hk34 hk3 hb3a hb4 ho4 hfa4 hsl4 hs3 ho3 hb3 hb23 hb2a hk2 b2 hlk hpl2 hm4
  go_wp2_with fail
  obtain ⟨W5, hW5⟩ : ∃ W5, w4.alloc (.cells #[.int .i64 0, .int .i64 0] 27) = W5 := ⟨_, rfl⟩
  rw [hW5] at HSN5 HSN4 hfs hgs b5 ⊢
  have HFS := hid hfs
  have HGS := hid hgs
  have HB5 := hid b5
  clear hW5 hfs hgs b5 hb5 d0 d1 hl34
  go_loopw [9] (fun i wr => ∃ j : Nat, j ≤ m ∧ i = .int .i64 (j : Int) ∧ Below W5.heap.size W5 wr) (fun i _ => m - (intOf i).toNat)
  case atStart => exact ⟨0, by omega, rfl, Below.refl _ _⟩
  case round =>
    obtain ⟨j, hj, rfl, hB⟩ := hrel
    by_cases hlt : j < m
    · have hj1 : j < pre2.length := by have := HM4.out; omega
      have hj2 : j < pre.length := by have := HM.out; omega
      have ha0 : (pre2.flatMap fvC)[j * 5 + 0]? = _ := flatMap_get fvC 5 pre2 j 0 hj1 (fun _ _ => rfl) (by omega)
      have ha1 : (pre2.flatMap fvC)[j * 5 + 1]? = _ := flatMap_get fvC 5 pre2 j 1 hj1 (fun _ _ => rfl) (by omega)
      have ha2 : (pre2.flatMap fvC)[j * 5 + 2]? = _ := flatMap_get fvC 5 pre2 j 2 hj1 (fun _ _ => rfl) (by omega)
      have ha3 : (pre2.flatMap fvC)[j * 5 + 3]? = _ := flatMap_get fvC 5 pre2 j 3 hj1 (fun _ _ => rfl) (by omega)
      have ha4 : (pre2.flatMap fvC)[j * 5 + 4]? = _ := flatMap_get fvC 5 pre2 j 4 hj1 (fun _ _ => rfl) (by omega)
      have hb0 : (pre.flatMap fvC)[j * 5 + 0]? = _ := flatMap_get fvC 5 pre j 0 hj2 (fun _ _ => rfl) (by omega)
      have hb1 : (pre.flatMap fvC)[j * 5 + 1]? = _ := flatMap_get fvC 5 pre j 1 hj2 (fun _ _ => rfl) (by omega)
      have hb2 : (pre.flatMap fvC)[j * 5 + 2]? = _ := flatMap_get fvC 5 pre j 2 hj2 (fun _ _ => rfl) (by omega)
      have hb3 : (pre.flatMap fvC)[j * 5 + 3]? = _ := flatMap_get fvC 5 pre j 3 hj2 (fun _ _ => rfl) (by omega)
      have hb4 : (pre.flatMap fvC)[j * 5 + 4]? = _ := flatMap_get fvC 5 pre j 4 hj2 (fun _ _ => rfl) (by omega)
      have hsf := HGS.out pre2[j] (List.getElem_mem hj1)
      have hsg := HFS.out pre[j] (List.getElem_mem hj2)
      have hlike := likeB_of pre2[j] pre[j] (HLK.out j hj1 hj2) (HALL.out _ (List.getElem_mem hj2)).2.1 (HALL.out _ (List.getElem_mem hj2)).2.2
      have hlk := fun W (hW : Below W5.heap.size W5 W) => like_any pre2[j] pre[j] W (hsf.below hW) (hsg.below hW)
      rw [hlike] at hlk
      obtain ⟨b, off, rfl, hbl, t0⟩ := HSN4.out.rd _ _ ha0
      have t1 := HSN4.out.rd.addr _ _ ha1
      have t2 := HSN4.out.rd.addr _ _ ha2
      have t3 := HSN4.out.rd.addr _ _ ha3
      have t4 := HSN4.out.rd.addr _ _ ha4
      obtain ⟨d, of2, rfl, hdl, u0⟩ := HSN5.out.rd _ _ hb0
      have u1 := HSN5.out.rd.addr _ _ hb1
      have u2 := HSN5.out.rd.addr _ _ hb2
      have u3 := HSN5.out.rd.addr _ _ hb3
      have u4 := HSN5.out.rd.addr _ _ hb4
      rw [addr_add] at t1 t2 t3 t4 u1 u2 u3 u4
      simp only [Nat.add_zero, ← Nat.add_assoc] at t0 t1 t2 t3 t4 u0 u1 u2 u3 u4
      replace t0 := (hB.cell (p := ⟨b, off + j * 5, none⟩) hbl).trans t0
      replace t1 := (hB.cell (p := ⟨b, off + j * 5 + 1, none⟩) hbl).trans t1
      replace t2 := (hB.cell (p := ⟨b, off + j * 5 + 2, none⟩) hbl).trans t2
      replace t3 := (hB.cell (p := ⟨b, off + j * 5 + 3, none⟩) hbl).trans t3
      replace t4 := (hB.cell (p := ⟨b, off + j * 5 + 4, none⟩) hbl).trans t4
      replace u0 := (hB.cell (p := ⟨d, of2 + j * 5, none⟩) hdl).trans u0
      replace u1 := (hB.cell (p := ⟨d, of2 + j * 5 + 1, none⟩) hdl).trans u1
      replace u2 := (hB.cell (p := ⟨d, of2 + j * 5 + 2, none⟩) hdl).trans u2
      replace u3 := (hB.cell (p := ⟨d, of2 + j * 5 + 3, none⟩) hdl).trans u3
      replace u4 := (hB.cell (p := ⟨d, of2 + j * 5 + 4, none⟩) hdl).trans u4
      have hji : (j : Int) < (m : Int) := by omega
      have hj0 : (0 : Int) ≤ (j : Int) := by omega
      clear ha0 ha1 ha2 ha3 ha4 hb0 hb1 hb2 hb3 hb4 hsf hsg hlike
      generalize pre2[j] = f at *
      generalize pre[j] = g at *
      obtain ⟨fnum, fw, fn_, ⟨fA, fc, fxs⟩, fat⟩ := f
      obtain ⟨gnum, gw, gn_, ⟨gA, gc, gxs⟩, gat⟩ := g
      generalize hxl : fxs.length = xl at *
      generalize hyl : gxs.length = yl at *
      simp only [fvC, hxl, hyl] at t0 t1 t2 t3 t4 u0 u1 u2 u3 u4 hlk
      have HL2 := hid hlk
      have HBB := hid hB
      clear hlk hB hxl hyl
      have HT := hid (And.intro t0 (And.intro t1 (And.intro t2 (And.intro t3 (And.intro t4 (And.intro u0 (And.intro u1 (And.intro u2 (And.intro u3 u4)))))))))
      clear t0 t1 t2 t3 t4 u0 u1 u2 u3 u4
      go_wp2_with fail
      go_region_held3 (fun w' => w'.cell? ⟨b, off + j * 5, none⟩ = some (.int .i64 fnum) ∧ w'.cell? ⟨b, off + j * 5 + 1, none⟩ = some (.int .u8 fw) ∧ w'.cell? ⟨b, off + j * 5 + 2, none⟩ = some (.int .u64 (fn_ : Int)) ∧ w'.cell? ⟨b, off + j * 5 + 3, none⟩ = some (.slice fA xl fc) ∧ w'.cell? ⟨b, off + j * 5 + 4, none⟩ = some (.int .i64 fat) ∧ w'.cell? ⟨d, of2 + j * 5, none⟩ = some (.int .i64 gnum) ∧ w'.cell? ⟨d, of2 + j * 5 + 1, none⟩ = some (.int .u8 gw) ∧ w'.cell? ⟨d, of2 + j * 5 + 2, none⟩ = some (.int .u64 (gn_ : Int)) ∧ w'.cell? ⟨d, of2 + j * 5 + 3, none⟩ = some (.slice gA yl gc) ∧ w'.cell? ⟨d, of2 + j * 5 + 4, none⟩ = some (.int .i64 gat)) (first | exact HT2.out | exact HT.out | go_keep) (first | (go_at_call 21; refine (HL2.out _ (bw_d HBB.out 1)).mono ?_; rintro e w2 ⟨rfl, hb2⟩; have HT2 := hid (held10 (w := wr.drewN 1) hb2 HT.out)))
      go_wp2_with fail
      go_roundw
      case rel => exact ⟨j + 1, by omega, by go_num, bw_t HBB.out (bw_t (bw_d (Below.refl _ wr) 1) hb2)⟩
      case measure => simp [intOf] <;> omega
    · go_wp2_with fail
      go_ret
      exact ⟨rfl, HB5.out.trans (hB.mono HB5.out.size)⟩
end Go.Proofs.Ytfbmdeegcoocnaa
