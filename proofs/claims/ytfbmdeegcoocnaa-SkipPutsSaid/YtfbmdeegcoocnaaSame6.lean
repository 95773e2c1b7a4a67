/- The document's Same of fields. -/
import Derived.Test.YtfbmdeegcoocnaaLike
set_option linter.unusedVariables false
namespace Go.Proofs.Ytfbmdeegcoocnaa
open Go.RowKit
theorem likeK (f g : FV) : (likeB f g = true ∧ f.at_ = g.at_) ↔ fvK f = fvK g := by
  unfold likeB fvK
  simp only [decide_eq_true_eq, Prod.mk.injEq]
  constructor
  · rintro ⟨⟨h1, h2, h3, h4⟩, h5⟩; exact ⟨h1, h2, h3, h4, h5⟩
  · rintro ⟨h1, h2, h3, h4, h5⟩; exact ⟨⟨h1, h2, h3, h4⟩, h5⟩
theorem held10 {w w' : World} (hc : Below w.heap.size w w') {p0 p1 p2 p3 p4 p5 p6 p7 p8 p9 : Addr} {x0 x1 x2 x3 x4 x5 x6 x7 x8 x9 : Value} (h : w.cell? p0 = some x0 ∧ w.cell? p1 = some x1 ∧ w.cell? p2 = some x2 ∧ w.cell? p3 = some x3 ∧ w.cell? p4 = some x4 ∧ w.cell? p5 = some x5 ∧ w.cell? p6 = some x6 ∧ w.cell? p7 = some x7 ∧ w.cell? p8 = some x8 ∧ w.cell? p9 = some x9) : w'.cell? p0 = some x0 ∧ w'.cell? p1 = some x1 ∧ w'.cell? p2 = some x2 ∧ w'.cell? p3 = some x3 ∧ w'.cell? p4 = some x4 ∧ w'.cell? p5 = some x5 ∧ w'.cell? p6 = some x6 ∧ w'.cell? p7 = some x7 ∧ w'.cell? p8 = some x8 ∧ w'.cell? p9 = some x9 := by
  obtain ⟨h0, h1, h2, h3, h4, h5, h6, h7, h8, h9⟩ := h
  have f : ∀ (p : Addr) (x : Value), w.cell? p = some x → w'.cell? p = some x := fun p x h => (hc.cell (World.block_lt_of_cell? w p h)).trans h
  exact ⟨f _ _ h0, f _ _ h1, f _ _ h2, f _ _ h3, f _ _ h4, f _ _ h5, f _ _ h6, f _ _ h7, f _ _ h8, f _ _ h9⟩
set_option maxRecDepth 100000 in
set_option maxHeartbeats 4000000 in
theorem same6_any (l1 l2 : List FV) (m m2 : Nat) (A1 A2 : Option Addr) (c1 c2 : Nat) (w : World) (hm : l1.length = m) (hm2 : l2.length = m2) (hl1 : SlN w A1 m c1 5 (l1.flatMap fvC)) (hl2 : SlN w A2 m2 c2 5 (l2.flatMap fvC))
    (hs1 : ∀ f ∈ l1, Sl w f.s.A f.s.c (f.s.xs.map bv)) (hs2 : ∀ f ∈ l2, Sl w f.s.A f.s.c (f.s.xs.map bv)) (hE : l1.map fvK = l2.map fvK) :
    Calls Try.prog 14 #[.slice A1 m c1, .slice A2 m2 c2] w fun e w' => e = .returned (.bool true) ∧ Below w.heap.size w w' := by
  have hcm : m ≤ 9223372036854775807 := by have g1 := hl1.cap; have g2 := hl1.small; omega
  have hcm2 : m2 ≤ 9223372036854775807 := by have g1 := hl2.cap; have g2 := hl2.small; omega
  obtain ⟨R, hR⟩ : ∃ R : Ending → World → Prop, R = fun e w' => e = .returned (.bool true) ∧ Below w.heap.size w w' := ⟨_, rfl⟩
  rw [← hR]
  have HR := hid hR
  have HM := hid hm
  have HM2 := hid hm2
  have HL1 := hid hl1
  have HL2 := hid hl2
  have HS1 := hid hs1
  have HS2 := hid hs2
  clear hR hm hm2 hl1 hl2 hs1 hs2
  have hne : m = m2 := by have h1 := congrArg List.length hE; simp only [List.length_map] at h1; have := HM.out; have := HM2.out; omega
  have HE := hid hE
  clear hE
  have _ : True := trivial
  · subst hne
    go_enter Try.func14, Try.ntmps14
    go_wp2_with fail
    go_loopw [5] (fun i wr => ∃ j : Nat, j ≤ m ∧ i = .int .i64 (j : Int) ∧ (l1.take j).map fvK = (l2.take j).map fvK ∧ Below w.heap.size w wr) (fun i _ => m - (intOf i).toNat)
    case atStart => exact ⟨0, by omega, rfl, rfl, Below.refl _ _⟩
    case round =>
      obtain ⟨j, hj, rfl, heq, hB⟩ := hrel
      have HEQ := hid heq
      clear heq
      by_cases hlt : j < m
      · have hjl : j < l1.length := by have := HM.out; omega
        have hjl2 : j < l2.length := by have := HM2.out; omega
        have ha0 : (l1.flatMap fvC)[j * 5 + 0]? = _ := flatMap_get fvC 5 l1 j 0 hjl (fun _ _ => rfl) (by omega)
        have ha1 : (l1.flatMap fvC)[j * 5 + 1]? = _ := flatMap_get fvC 5 l1 j 1 hjl (fun _ _ => rfl) (by omega)
        have ha2 : (l1.flatMap fvC)[j * 5 + 2]? = _ := flatMap_get fvC 5 l1 j 2 hjl (fun _ _ => rfl) (by omega)
        have ha3 : (l1.flatMap fvC)[j * 5 + 3]? = _ := flatMap_get fvC 5 l1 j 3 hjl (fun _ _ => rfl) (by omega)
        have ha4 : (l1.flatMap fvC)[j * 5 + 4]? = _ := flatMap_get fvC 5 l1 j 4 hjl (fun _ _ => rfl) (by omega)
        have hb0 : (l2.flatMap fvC)[j * 5 + 0]? = _ := flatMap_get fvC 5 l2 j 0 hjl2 (fun _ _ => rfl) (by omega)
        have hb1 : (l2.flatMap fvC)[j * 5 + 1]? = _ := flatMap_get fvC 5 l2 j 1 hjl2 (fun _ _ => rfl) (by omega)
        have hb2 : (l2.flatMap fvC)[j * 5 + 2]? = _ := flatMap_get fvC 5 l2 j 2 hjl2 (fun _ _ => rfl) (by omega)
        have hb3 : (l2.flatMap fvC)[j * 5 + 3]? = _ := flatMap_get fvC 5 l2 j 3 hjl2 (fun _ _ => rfl) (by omega)
        have hb4 : (l2.flatMap fvC)[j * 5 + 4]? = _ := flatMap_get fvC 5 l2 j 4 hjl2 (fun _ _ => rfl) (by omega)
        have hsf := HS1.out l1[j] (List.getElem_mem hjl)
        have hsg := HS2.out l2[j] (List.getElem_mem hjl2)
        have hlk := fun W (hW : Below w.heap.size w W) => like_any l1[j] l2[j] W (hsf.below hW) (hsg.below hW)
        have hk := likeK l1[j] l2[j]
        have htk : (l1.take (j + 1)).map fvK = (l1.take j).map fvK ++ [fvK l1[j]] := by rw [List.take_succ_eq_append_getElem hjl, List.map_append]; rfl
        have htk2 : (l2.take (j + 1)).map fvK = (l2.take j).map fvK ++ [fvK l2[j]] := by rw [List.take_succ_eq_append_getElem hjl2, List.map_append]; rfl
        have hkk : fvK l1[j] = fvK l2[j] := by
          have e1 : (l1.map fvK)[j]? = some (fvK l1[j]) := by simp [List.getElem?_eq_getElem hjl]
          have e2 : (l2.map fvK)[j]? = some (fvK l2[j]) := by simp [List.getElem?_eq_getElem hjl2]
          rw [HE.out, e2] at e1
          exact (Option.some.inj e1).symm
        obtain ⟨b, off, rfl, hbl, t0⟩ := HL1.out.rd _ _ ha0
        have t1 := HL1.out.rd.addr _ _ ha1
        have t2 := HL1.out.rd.addr _ _ ha2
        have t3 := HL1.out.rd.addr _ _ ha3
        have t4 := HL1.out.rd.addr _ _ ha4
        obtain ⟨d, of2, rfl, hdl, u0⟩ := HL2.out.rd _ _ hb0
        have u1 := HL2.out.rd.addr _ _ hb1
        have u2 := HL2.out.rd.addr _ _ hb2
        have u3 := HL2.out.rd.addr _ _ hb3
        have u4 := HL2.out.rd.addr _ _ hb4
        rw [addr_add] at t1 t2 t3 t4 u1 u2 u3 u4
        simp only [Nat.add_zero, ← Nat.add_assoc] at t0 t1 t2 t3 t4 u0 u1 u2 u3 u4
        replace t0 := (hB.cell (p := ⟨b, off + j * 5, none⟩) hbl).trans t0
        replace t1 := (hB.cell (p := ⟨b, off + j * 5 + 1, none⟩) hbl).trans t1
        replace t2 := (hB.cell (p := ⟨b, off + j * 5 + 2, none⟩) hbl).trans t2
        replace t3 := (hB.cell (p := ⟨b, off + j * 5 + 3, none⟩) hbl).trans t3
        replace t4 := (hB.cell (p := ⟨b, off + j * 5 + 4, none⟩) hbl).trans t4
        replace u0 := (hB.cell (p := ⟨d, of2 + j * 5, none⟩) hdl).trans u0
        replace u1 := (hB.cell (p := ⟨d, of2 + j * 5 + 1, none⟩) hdl).trans u1
        replace u2 := (hB.cell (p := ⟨d, of2 + j * 5 + 2, none⟩) hdl).trans u2
        replace u3 := (hB.cell (p := ⟨d, of2 + j * 5 + 3, none⟩) hdl).trans u3
        replace u4 := (hB.cell (p := ⟨d, of2 + j * 5 + 4, none⟩) hdl).trans u4
        have hji : (j : Int) < (m : Int) := by omega
        have hj0 : (0 : Int) ≤ (j : Int) := by omega
        clear ha0 ha1 ha2 ha3 ha4 hb0 hb1 hb2 hb3 hb4 hsf hsg
        generalize l1[j] = f at *
        generalize l2[j] = g at *
        generalize hlb : likeB f g = lb at *
        obtain ⟨fnum, fw, fn_, ⟨fA, fc, fxs⟩, fat⟩ := f
        obtain ⟨gnum, gw, gn_, ⟨gA, gc, gxs⟩, gat⟩ := g
        generalize hfk : fvK ⟨fnum, fw, fn_, ⟨fA, fc, fxs⟩, fat⟩ = fk at *
        generalize hgk : fvK ⟨gnum, gw, gn_, ⟨gA, gc, gxs⟩, gat⟩ = gk at *
        generalize hxl : fxs.length = xl at *
        generalize hyl : gxs.length = yl at *
        simp only [fvC, hxl, hyl] at t0 t1 t2 t3 t4 u0 u1 u2 u3 u4 hlk hk
        have HLK := hid hlk
        have HK := hid hk
        have HTK := hid htk
        have HTK2 := hid htk2
        have HBB := hid hB
        clear hlk hk htk htk2 hB hlb hfk hgk hxl hyl
        have HT := hid (And.intro t0 (And.intro t1 (And.intro t2 (And.intro t3 (And.intro t4 (And.intro u0 (And.intro u1 (And.intro u2 (And.intro u3 u4)))))))))
        clear t0 t1 t2 t3 t4 u0 u1 u2 u3 u4
        · obtain ⟨rfl, hat⟩ := HK.out.2 hkk
          have hat : fat = gat := hat
          subst hat
          go_wp2_with fail
          go_region_held3 (fun w' => w'.cell? ⟨b, off + j * 5, none⟩ = some (.int .i64 fnum) ∧ w'.cell? ⟨b, off + j * 5 + 1, none⟩ = some (.int .u8 fw) ∧ w'.cell? ⟨b, off + j * 5 + 2, none⟩ = some (.int .u64 (fn_ : Int)) ∧ w'.cell? ⟨b, off + j * 5 + 3, none⟩ = some (.slice fA xl fc) ∧ w'.cell? ⟨b, off + j * 5 + 4, none⟩ = some (.int .i64 fat) ∧ w'.cell? ⟨d, of2 + j * 5, none⟩ = some (.int .i64 gnum) ∧ w'.cell? ⟨d, of2 + j * 5 + 1, none⟩ = some (.int .u8 gw) ∧ w'.cell? ⟨d, of2 + j * 5 + 2, none⟩ = some (.int .u64 (gn_ : Int)) ∧ w'.cell? ⟨d, of2 + j * 5 + 3, none⟩ = some (.slice gA yl gc) ∧ w'.cell? ⟨d, of2 + j * 5 + 4, none⟩ = some (.int .i64 fat)) (first | exact HT2.out | exact HT.out | go_keep) (first | (go_at_call 21; refine (HLK.out _ (bw_d HBB.out 1)).mono ?_; rintro e w2 ⟨rfl, hb2⟩; have HT2 := hid (held10 (w := wr.drewN 1) hb2 HT.out)))
          go_wp2_with fail
          go_roundw
          case rel => exact ⟨j + 1, by omega, by go_num, by rw [HTK.out, HTK2.out, HEQ.out, hkk], bw_t HBB.out (bw_t (bw_d (Below.refl _ wr) 1) hb2)⟩
          case measure => simp [intOf] <;> omega
      · obtain rfl : j = m := by omega
        go_wp2_with fail
        rw [HR.out]
        exact ⟨rfl, hB⟩
end Go.Proofs.Ytfbmdeegcoocnaa
