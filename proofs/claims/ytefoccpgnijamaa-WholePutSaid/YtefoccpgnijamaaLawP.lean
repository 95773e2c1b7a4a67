/- The walk of WholePut. -/
import Derived.Test.YtefoccpgnijamaaLawP1
import Derived.Test.YtefoccpgnijamaaLive6
import Derived.Test.YtefoccpgnijamaaLaw6E
set_option linter.unusedVariables false
namespace Go.Proofs.Ytefoccpgnijamaa
open Go.RowKit
theorem lp_f : flds [18, 1, 7] 3 0 = ([(⟨2, 2, 0, [7], 0, 0, 3⟩, 0)], 0, 0) := by rfl
theorem lp_fields (w : World) (A : Option Addr) (c : Nat) (hs : Sl w A c (([18, 1, 7] : List UInt8).map bv)) :
    Calls Try.prog 32 #[.slice A 3 c] w fun e W' => ∃ (Al : Option Addr) (cl : Nat) (A1 : Option Addr) (c1 : Nat), e = .returned (.tuple #[.slice Al 1 cl, .agg #[.int .i64 0, .int .i64 0]]) ∧ SlN W' Al 1 cl 5 (([⟨2, 2, 0, ⟨A1, c1, [7]⟩, 0⟩] : List FV).flatMap fvC) ∧ Below w.heap.size w W' := by
  refine ((callsIn_wide (n := 4)).1 (fields_in 4 (by omega) [18, 1, 7] 3 A c w rfl (by omega) hs)).mono ?_
  rintro e W' ⟨(⟨-, v, b, pre, rfl, -, ho, hfa, hsl⟩ | ⟨he, -⟩), hb⟩
  · rw [lp_f] at hfa
    match pre, hfa with
    | [⟨n1, w1, k1, ⟨A1, c1, x1⟩, a1⟩], hfa =>
      obtain ⟨⟨h1, h2, h3, h4, h5⟩, -⟩ := hfa
      simp only at h1 h2 h3 h4 h5
      subst h1 h2 h3 h4
      have h5 : a1 = 0 := h5
      subst h5
      obtain ⟨Al, cl, rfl, hsn⟩ := sln_own (by omega) ho
      exact ⟨Al, cl, A1, c1, rfl, hsn, hb⟩
  · rw [lp_f] at he; exact absurd rfl he
theorem lp_all (N : Nat) (W : World) (B q : Nat) (v : Value) (hN : W.heap.size = N) (h : Wr W B q v [] 9) :
    Calls Try.prog 18 #[.pointer (some ⟨q, 0, none⟩), .slice (some ⟨N, 0, none⟩) 2 2] (W.alloc (.cells #[.func (.func 40) #[] #[], .func (.func 41) #[] #[]] 45)) fun e w' => ∃ v', e = .returned (.int .i64 0) ∧ Wr w' B q v' [18, 1, 7] 9 ∧ Stp q v v' 0 W w' :=
  l5_all [fun b => wput 9 b [18], fun b => wput 9 b [1, 7]] _ 2 N _ 0 [18, 1, 7] W B q v [] 9 hN rfl rfl rfl (by omega) (fun W' hW j h1 h2 => by
    rcases j with _ | _ | j
    · exact .inr ⟨_, _, rfl, fun args W => by kernel_rfl, fun W2 v1 bs1 hw hst hle => (awake1c_any W2 B q v1 bs1 9 hw).mono fun e w' ⟨v2, he, hw2, hst2⟩ => ⟨v2, he, hw2, hst2, wput_len _ _ _⟩⟩
    · exact .inr ⟨_, _, rfl, fun args W => by kernel_rfl, fun W2 v1 bs1 hw hst hle => (awake2c_any W2 B q v1 bs1 9 hw).mono fun e w' ⟨v2, he, hw2, hst2⟩ => ⟨v2, he, hw2, hst2, wput_len _ _ _⟩⟩
    · simp at h1; omega) rfl h
set_option maxRecDepth 100000 in
set_option maxHeartbeats 4000000 in
theorem awakePut_any (w : World) : Calls Try.prog 16 #[] w fun e w' => e = .returned (.bool true) ∧ Below w.heap.size w w' := by
  have hmk := func_run (P := Try.prog)
  go_enter Try.func16, Try.ntmps16
  go_wp2_with fail
  refine (l5_new 9 w (by omega)).mono ?_
  rintro e w1 ⟨q, rfl, hw1, hb1⟩
  have HW1 := hid hw1
  have HB1 := hid hb1
  clear hw1 hb1
  go_wp2_with fail
  refine (lp_all _ w1 w.heap.size q _ rfl HW1.out).mono ?_
  rintro e w2 ⟨v2, rfl, hw2, hst2⟩
  have hB2 := HB1.out.trans ((hst2.below HW1.out).mono (Nat.le_refl _))
  have HW2 := hid hw2
  have HB2 := hid hB2
  clear hst2 hw2 hB2
  go_wp2_with fail
  refine (l5_out 3 w2 w.heap.size q v2 [18, 1, 7] 9 rfl HW2.out (by omega)).mono ?_
  rintro e w3 ⟨A3, c3, rfl, hs3, -, hb3⟩
  have HB3 := hid (HB2.out.trans (hb3.mono HB2.out.size))
  have HS3 := hid hs3
  clear hb3 hs3
  go_wp2_with fail
  refine (lp_fields w3 A3 c3 HS3.out).mono ?_
  rintro e w4 ⟨Al, cl, A1, c1, rfl, hsn, hb4⟩
  have HB4 := hid (HB3.out.trans (hb4.mono HB3.out.size))
  have hb5 := bw_a (Below.refl w4.heap.size w4) (.cells #[.int .i64 0, .int .i64 0] 51)
  have hk5 := Blk.new w4 51 #[.int .i64 0, .int .i64 0]
  have HB5 := hid (HB4.out.trans (hb5.mono HB4.out.size))
  have hsn5 := hsn
  have t0 : (([⟨2, 2, 0, ⟨A1, c1, [7]⟩, 0⟩] : List FV).flatMap fvC)[0]? = some (.int .i64 2) := rfl
  have t3 : (([⟨2, 2, 0, ⟨A1, c1, [7]⟩, 0⟩] : List FV).flatMap fvC)[3]? = some (.slice A1 1 c1) := rfl
  obtain ⟨b, off, rfl, hbl, q0⟩ := hsn5.rd _ _ t0
  have q3 := hsn5.rd.addr _ _ t3
  rw [addr_add] at q3
  simp only [Nat.add_zero] at q0
  have q0' := q0
  have q3' := q3
  clear hb4 hb5 hsn t0 t3 hk5
  go_wp2_with fail
  go_ret
  exact ⟨rfl, HB5.out⟩
theorem own_wrS {w : World} {B B2 e n q sz : Nat} {v v2 : Value} {xs : List Value} {bs : List UInt8} {most : Nat} (h : w.ownsRow B e sz v n xs) (hw : Wr w B2 q v2 bs most) (h1 : e ≠ 77) (h2 : e ≠ 5) : ∀ g, v.ownBlock = some g → ¬ Oset q v2 g := by
  rintro g hg (rfl | ho)
  · exact own_blk_ne h hw.blk (fun e' => h1 e'.symm) hg
  · rcases own_two h hw.row h2 with hn | hn
    · rw [hn] at hg; cases hg
    · exact hn (hg.trans ho.symm)
theorem FvOk.far {w : World} {f : FV} (h : FvOk w f) {S : Nat → Prop} (hS : ∀ k, k < w.heap.size → ¬ S k) : FarS f.s.A f.s.xs.length S := fun hp b' o' he ho => by
  obtain ⟨b2, o2, e2, hlt2, _⟩ := h.s.rd 0 (bv (f.s.xs[0]'hp)) (by simp [List.getElem?_eq_getElem hp])
  rw [he] at e2
  injection e2 with e2
  injection e2 with e3 e4
  exact hS b' (by omega) ho
theorem wtag_len (most : Nat) (bs : List UInt8) (num x : Int) : bs.length ≤ (wtag most bs num x).1.length := by
  unfold wtag
  split
  · exact wput_len _ _ _
  · exact Nat.le_refl _
theorem doP_len (most : Nat) (x : FV) (bs : List UInt8) : bs.length ≤ (doP most x bs).1.length := by
  unfold doP
  split
  · exact wput_len _ _ _
  · split
    · exact wput_len _ _ _
    · split <;> exact wput_len _ _ _
theorem putsE_ok : ∀ (l : List FV) (i : Nat), (∀ f ∈ l, pErrF f = 0) → putsE l i = (0, 0)
  | [], i, _ => rfl
  | f :: fs, i, h => by rw [putsE, if_pos (h f (List.mem_cons_self ..))]; exact putsE_ok fs _ fun g hg => h g (List.mem_cons_of_mem _ hg)
/-- All writes of one field. -/
theorem fld_all (x : FV) (p N : Nat) (w0 W : World) (B q : Nat) (v : Value) (bs : List UInt8) (most : Nat) (hN : W.heap.size = N) (hB0 : w0.heap.size ≤ B) (hW : Below w0.heap.size w0 W) (hok : FvOk w0 x) (hl : x.s.xs.length ≤ 200) (hk : Blk W p 41 (fvC x).toArray) (hp : ¬ Oset q v p) (h : Wr W B q v bs most) :
    Calls Try.prog 18 #[.pointer (some ⟨q, 0, none⟩), .slice (some ⟨N, 0, none⟩) 2 2] (W.alloc (.cells #[.func (.func 19) #[] #[.pointer (some ⟨p, 0, none⟩)], .func (.func 21) #[] #[.pointer (some ⟨p, 0, none⟩)]] 45)) fun e w' =>
      ∃ v' bs' E, e = .returned (.int .i64 (E : Nat)) ∧ ((E = 0 ∧ pErrF x = 0 ∧ bs' = bs ++ pBF x) ∨ (E ≠ 0 ∧ bs' = bs)) ∧ Wr w' B q v' bs' most ∧ Stp q v v' bs.length W w' := by
  obtain ⟨bs', E, hall, hE⟩ := allP most x bs hok.w0 hok.w1 hl h.le
  refine (l5_all [fun b => wtag most b x.num x.w, fun b => doP most x b] _ 2 N _ E bs' W B q v bs most hN rfl rfl rfl (by omega) (fun W' hW' j h1 h2 => ?_) hall h).mono ?_
  · have hkW := hk.below hW' hk.lt
    have hno : ∀ {W2 : World} {v1 : Value}, Stp q v v1 bs.length W' W2 → Blk W2 p 41 (fvC x).toArray := fun hst => hst.chg.blk hkW hp
    rcases j with _ | _ | j
    · exact .inr ⟨_, _, rfl, fun args W => by kernel_rfl, fun W2 v1 bs1 hw hst hle => (put1c_any W2 B q p v1 bs1 most x hok.w0 hok.w1 (hno hst) hw).mono fun e w' ⟨v2, he, hw2, hst2⟩ => ⟨v2, he, hw2, hst2, wtag_len _ _ _ _⟩⟩
    · refine .inr ⟨_, _, rfl, fun args W => by kernel_rfl, fun W2 v1 bs1 hw hst hle => ?_⟩
      have hb02 : Below w0.heap.size w0 W2 := (hW.trans (hW'.mono hW.size)).trans (hst.chg.below (B := w0.heap.size) (fun k hk => by rcases hk with rfl | hk; exact Nat.le_trans hB0 h.low; have := (h.row.lt k hk).1; omega) (Nat.le_trans hW.size hW'.size))
      have hfar : FarS x.s.A x.s.xs.length (Oset q v1) := hok.far fun k hk ho => by have := (hw.sets k ho).1; omega
      exact (put2c_any W2 B q p v1 bs1 most x hok.w0 hok.w1 hok.n (by omega) (hok.s.below hb02) hfar (hno hst) hw).mono fun e w' ⟨v2, he, hw2, hst2⟩ => ⟨v2, he, hw2, hst2, doP_len _ _ _⟩
    · simp at h1; omega
  · rintro e w' ⟨v', rfl, hw, hst⟩
    exact ⟨v', bs', E, rfl, hE, hw, hst⟩
set_option maxRecDepth 100000 in
set_option maxHeartbeats 8000000 in
theorem wholePut_any (l : List FV) (m : Nat) (A : Option Addr) (c : Nat) (room : Int) (w : World) (hm : l.length = m) (hl : SlN w A m c 5 (l.flatMap fvC)) (hok : ∀ f ∈ l, FvOk w f) (hr1 : -9223372036854775808 ≤ room) (hr2 : room ≤ 9223372036854775807) :
    Calls Try.prog 5 #[.slice A m c, .int .i64 room] w fun e w' => e = .returned (.bool true) ∧ Below w.heap.size w w' := by
  have hcm : m ≤ 9223372036854775807 := by have g1 := hl.cap; have g2 := hl.small; omega
  have hmk := func_run (P := Try.prog)
  obtain ⟨i5, hi5, hi50, hi51, hi52⟩ := info_parts Try.infoField
  have HM := hid hm
  have HL := hid hl
  have HOK := hid hok
  clear hm hl hok
  by_cases hbig : 20 < m
  · go_enter Try.func5, Try.ntmps5
    go_wp2_with fail
    refine (awakePut_any _).mono ?_
    rintro e w1 ⟨rfl, hb1⟩
    go_wp2_with fail
    go_ret
    exact ⟨rfl, hb1⟩
  go_enter Try.func5, Try.ntmps5
  go_wp2_with fail
  refine (awakePut_any _).mono ?_
  rintro e w1 ⟨rfl, hb1⟩
  go_wp2_with fail
  refine (onew_any room w1 hr1 hr2).mono ?_
  rintro e w2 ⟨q, rfl, hw2, hb2⟩
  have hB2 := hb1.trans (hb2.mono hb1.size)
  have HW2 := hid (hw2.mono hb1.size)
  have HB2 := hid hB2
  clear hb1 hb2 hw2 hB2
  generalize capN room = cap at *
  go_wp2_with fail
  go_loopw [6, 7] (fun gv i wr => ∃ (j : Nat) (good : List FV) (v : Value) (bs : List UInt8), j ≤ m ∧ i = .int .i64 (j : Int) ∧ good.length ≤ j ∧ wr.ownsRow w.heap.size 41 5 gv good.length (good.flatMap fvC) ∧ (∀ f ∈ good, FvOk w f ∧ pErrF f = 0 ∧ f.s.xs.length ≤ 200) ∧ Wr wr w.heap.size q v bs cap ∧ bs = good.flatMap pBF ∧ Below w.heap.size w wr) (fun _ i _ => m - (intOf i).toNat)
  case atStart => exact ⟨0, [], _, [], by omega, rfl, by simp, World.ownsRow_nil _ _ _ _, by simp, HW2.out, rfl, HB2.out⟩
  case round =>
    obtain ⟨j, good, v, bs, hj, rfl, hgl, hrow, hgood, hw, hbs, hB⟩ := hrel
    by_cases hlt : j < m
    · have hjl : j < l.length := by have := HM.out; omega
      have hn0 : (l.flatMap fvC)[j * 5 + 0]? = _ := flatMap_get fvC 5 l j 0 hjl (fun _ _ => rfl) (by omega)
      have hn1 : (l.flatMap fvC)[j * 5 + 1]? = _ := flatMap_get fvC 5 l j 1 hjl (fun _ _ => rfl) (by omega)
      have hn2 : (l.flatMap fvC)[j * 5 + 2]? = _ := flatMap_get fvC 5 l j 2 hjl (fun _ _ => rfl) (by omega)
      have hn3 : (l.flatMap fvC)[j * 5 + 3]? = _ := flatMap_get fvC 5 l j 3 hjl (fun _ _ => rfl) (by omega)
      have hn4 : (l.flatMap fvC)[j * 5 + 4]? = _ := flatMap_get fvC 5 l j 4 hjl (fun _ _ => rfl) (by omega)
      obtain ⟨b, off, hA, hbw, t0⟩ := HL.out.rd _ _ hn0
      subst hA
      have t1 := HL.out.rd.addr _ _ hn1
      have t2 := HL.out.rd.addr _ _ hn2
      have t3 := HL.out.rd.addr _ _ hn3
      have t4 := HL.out.rd.addr _ _ hn4
      rw [addr_add] at t1 t2 t3 t4
      simp only [Nat.add_zero, ← Nat.add_assoc] at t0 t1 t2 t3 t4
      have t0 := (hB.cell (p := ⟨b, off + j * 5, none⟩) hbw).trans t0
      have t1 := (hB.cell (p := ⟨b, off + j * 5 + 1, none⟩) hbw).trans t1
      have t2 := (hB.cell (p := ⟨b, off + j * 5 + 2, none⟩) hbw).trans t2
      have t3 := (hB.cell (p := ⟨b, off + j * 5 + 3, none⟩) hbw).trans t3
      have t4 := (hB.cell (p := ⟨b, off + j * 5 + 4, none⟩) hbw).trans t4
      have hji : (j : Int) < (m : Int) := by omega
      have hj0 : (0 : Int) ≤ (j : Int) := by omega
      have hok := HOK.out l[j] (List.getElem_mem hjl)
      clear hn0 hn1 hn2 hn3 hn4
      generalize l[j] = x at *
      have hfa := fun hl p N W bs v hN hW hk hp h => fld_all x p N w W w.heap.size q v bs cap hN (Nat.le_refl _) hW hok hl hk hp h
      have hlc : x.s.xs.length ≤ 9223372036854775807 := by have h1 := hok.s.cap; have h2 := hok.s.small; rw [List.length_map] at h1; omega
      have HFA := hid hfa
      have HOKX := hid hok
      have HB := hid hB
      have HW := hid hw
      have HROW := hid hrow
      have HGOOD := hid hgood
      have HBS := hid hbs
      clear hfa hok hB hw hrow hgood hbs
      by_cases hlen : 200 < x.s.xs.length
      · obtain ⟨num, wi, n, ⟨xA, xc, xs⟩, at_⟩ := x
        simp only [fvC] at *
        generalize xs.length = len at *
        go_wp2_with fail
        go_ret
        exact ⟨rfl, bw_a HB.out _⟩
      · obtain ⟨num, wi, n, ⟨xA, xc, xs⟩, at_⟩ := x
        obtain ⟨len, hxl⟩ : ∃ k, xs.length = k := ⟨_, rfl⟩
        simp only [hxl] at t0 t1 t2 t3 t4 hlen
        have hk0 : Blk (wr.alloc (.cells #[.int .i64 num, .int .u8 wi, .int .u64 (n : Int), .slice xA len xc, .int .i64 at_] 41)) wr.heap.size 41 (fvC ⟨num, wi, n, ⟨xA, xc, xs⟩, at_⟩).toArray := by simp only [fvC]; rw [hxl]; exact Blk.new wr _ _
        have hb0 := bw_a (Below.refl wr.heap.size wr) (.cells #[.int .i64 num, .int .u8 wi, .int .u64 (n : Int), .slice xA len xc, .int .i64 at_] 41)
        have hW0 := HW.out.new hb0
        have hno : ¬ Oset q v wr.heap.size := fun ho => by have := (HW.out.sets _ ho).2; omega
        have hB0 := bw_a HB.out (.cells #[.int .i64 num, .int .u8 wi, .int .u64 (n : Int), .slice xA len xc, .int .i64 at_] 41)
        have hcall := HFA.out (by show xs.length ≤ 200; omega) wr.heap.size (wr.heap.size + 1) _ bs v (by simp) hB0 hk0 hno hW0
        have hrow0 := own_below HROW.out hb0
        have hle200 : len ≤ 200 := by omega
        have HCALL := hid hcall
        have HK0 := hid hk0
        have HW0 := hid hW0
        have HNO := hid hno
        have HB0 := hid hB0
        have HROW0 := hid hrow0
        have HXL := hid hxl
        clear hk0 hb0 hW0 hno hB0 hcall hrow0 hxl HFA
        go_wp2_with fail
        refine HCALL.out.mono ?_
        rintro e w5 ⟨v5, bs5, E, rfl, hE, hw5, hst5⟩
        have hk5 := hst5.chg.blk HK0.out HNO.out
        simp only [fvC, HXL.out] at hk5
        have hrow5 := own_chgS HROW0.out hst5.chg (own_wrS HROW0.out HW0.out (by decide) (by decide))
        have hB5 := HB0.out.trans (hst5.below HW0.out)
        have e0 := hk5.cell 0
        have e1 := hk5.cell 1
        have e2 := hk5.cell 2
        have e3 := hk5.cell 3
        have e4 := hk5.cell 4
        simp only [List.getElem?_toArray, List.getElem?_cons_zero, List.getElem?_cons_succ] at e0 e1 e2 e3 e4
        have hB5s := hB5.size
        have HW5 := hid hw5
        have HROW5 := hid hrow5
        have HB5 := hid hB5
        clear hk5 hw5 hst5 hrow5 hB5 t0 t1 t2 t3 t4
        rcases hE with ⟨rfl, hpe, hbs5⟩ | ⟨hne, hbs5⟩
        · obtain ⟨gn, hgn⟩ : ∃ k, good.length = k := ⟨_, rfl⟩
          rw [hgn] at HROW5 hgl
          have HGN := hid hgn
          have HBS5 := hid hbs5
          have HPE := hid hpe
          clear hgn hbs5 hpe
          go_wp2_with (at_builtin; refine wpList_append_rd rfl (.tmp 40) (.tmp 42) 36 rfl w.heap.size 41 i5 (.agg #[.int .i64 0, .int .u8 0, .int .u64 0, .slice none 0 0, .int .i64 0]) 5 56 Try.underlying36 hi5 hi50 hi51 hi52 rfl (by decide) _ _ _ rfl (HROW5.out.alloc _) (some ⟨w5.heap.size, 0, none⟩) 1 1 [.int .i64 num, .int .u8 wi, .int .u64 (n : Int), .slice xA len xc, .int .i64 at_] rfl rfl (Rd.new w5 41 #[.int .i64 num, .int .u8 wi, .int .u64 (n : Int), .slice xA len xc, .int .i64 at_]) (fun h => by cases h) (by simp [Value.oneCell']) (by simp only [maxLen]; omega) (by omega) (by simp; omega) ?_; intro v6 w6 hown6 hgrow6)
          have hch6 := (Chg.of_new (S := fun k => u6.ownBlock = some k) (bw_a (Below.refl w5.heap.size w5) (.cells #[.int .i64 num, .int .u8 wi, .int .u64 (n : Int), .slice xA len xc, .int .i64 at_] 41))).trans (.of_grown hgrow6 fun g hg => hg)
          have hw6 := HW5.out.chg hch6 (fun k ho hk => own_wrS HROW5.out HW5.out (by decide) (by decide) k hk ho)
          have hB6 := bw_g (bw_a HB5.out (.cells #[.int .i64 num, .int .u8 wi, .int .u64 (n : Int), .slice xA len xc, .int .i64 at_] 41)) hgrow6 (fun k ek => (HROW5.out.lt k ek).1)
          refine ⟨⟨j + 1, good ++ [⟨num, wi, n, ⟨xA, xc, xs⟩, at_⟩], v5, bs5, by omega, by go_num, by rw [List.length_append]; simp; have := HGN.out; omega, ?_, ?_, hw6, ?_, hB6⟩, by simp [intOf] <;> omega⟩
          · rw [List.length_append, List.flatMap_append, HGN.out]
            simpa [fvC, HXL.out] using hown6
          · intro f hf
            rcases List.mem_append.1 hf with hf | hf
            · exact HGOOD.out f hf
            · simp at hf
              subst hf
              exact ⟨HOKX.out, HPE.out, by show xs.length ≤ 200; have := HXL.out; omega⟩
          · rw [HBS5.out, HBS.out, List.flatMap_append]; simp
        · have heb : ((E : Int) == 0) = false := by simp; omega
          have HBS5 := hid hbs5
          clear hbs5 hne
          go_wp2_with fail
          exact ⟨⟨j + 1, good, v5, bs5, by omega, by go_num, by omega, HROW5.out, HGOOD.out, HW5.out, by rw [HBS5.out]; exact HBS.out, HB5.out⟩, by simp [intOf] <;> omega⟩
    · obtain rfl : j = m := by omega
      obtain ⟨A9, c9, rfl, hs9⟩ := sln_own (by omega) hrow
      have hput := sputs_any good good.length A9 c9 wr rfl (by omega) hs9 (fun f hf => (hgood f hf).1.below hB) (fun f hf => by have := (hgood f hf).2.2; omega)
      have hpe := putsE_ok good 0 (fun f hf => (hgood f hf).2.1)
      have hlen := pBF_all good (fun f hf => pBF_len f (hgood f hf).1.n (hgood f hf).1.w0 (hgood f hf).1.w1 (by have := (hgood f hf).2.2; omega))
      rw [hpe] at hput
      rw [← hbs] at hput hlen
      obtain ⟨gn, hgn⟩ : ∃ k, good.length = k := ⟨_, rfl⟩
      obtain ⟨L, hL⟩ : ∃ k, bs.length = k := ⟨_, rfl⟩
      rw [hgn] at hput hlen hgl ⊢
      rw [hL] at hput hlen
      have HPUT := hid hput
      have HW := hid hw
      have HB := hid hB
      have HBL := hid hL
      clear hrow hgood hw hbs hB hput hpe hs9 hgn hL
      go_wp2_with fail
      refine HPUT.out.mono ?_
      rintro e w3 ⟨(⟨-, v3, rfl, ho3⟩ | ⟨h, -⟩), hb3⟩
      rotate_left
      · exact (h (by first | trivial | rfl)).elim
      obtain ⟨A3, c3, rfl, -, hs3⟩ := Sl.of_own ho3
      have hb3a := bw_a (Below.refl w3.heap.size w3) (.cells #[.int .i64 0, .int .i64 0] 51)
      have hw3 := (HW.out.new hb3).new hb3a
      have hB3 := bw_a (HB.out.trans (hb3.mono HB.out.size)) (.cells #[.int .i64 0, .int .i64 0] 51)
      have hs3a := hs3.below hb3a
      have HO := hid (fun W hW => l5_out L W w.heap.size q v bs cap HBL.out hW (by omega))
      have HW3 := hid hw3
      have HB3 := hid hB3
      have HS3 := hid hs3a
      clear hb3 hb3a hw3 hB3 hs3a hs3 ho3
      go_wp2_with fail
      refine (HO.out _ HW3.out).mono ?_
      rintro e w4 ⟨A4, c4, rfl, hs4, -, hb4⟩
      have hsm := same_at bs bs L L A4 A3 c4 c3 w4 HBL.out HBL.out (by omega) hs4.rd (HS3.out.below hb4).rd
      have HSM := hid hsm
      have HB4 := hid (HB3.out.trans (hb4.mono HB3.out.size))
      clear hs4 hb4 hsm
      go_wp2_with fail
      refine HSM.out.mono ?_
      rintro e w5 ⟨rfl, k5, rfl⟩
      go_wp2_with fail
      go_ret
      exact ⟨by simp, bw_d HB4.out k5⟩
end Go.Proofs.Ytefoccpgnijamaa
