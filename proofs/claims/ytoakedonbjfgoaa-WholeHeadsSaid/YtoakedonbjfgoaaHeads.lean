/- The walk of WholeHeads. -/
import Derived.Test.YtoakedonbjfgoaaLawF
import Derived.Deep.RegionHeld3
import Derived.Test.YtoakedonbjfgoaaOpens
import Derived.Deep.QuietTactic
import Derived.BigQuiet
set_option linter.unusedVariables false
namespace Go.Proofs.Ytoakedonbjfgoaa
open Go.RowKit
set_option maxRecDepth 100000 in
set_option maxHeartbeats 400000 in
theorem head_own (n x : Int) (w : World) (h1 : 0 ≤ x) (h2 : x ≤ 255) :
    Calls Try.prog 30 #[.int .i64 n, .int .u8 x] w fun e w' => ∃ v, e = .returned v ∧ w'.ownsRow w.heap.size 5 1 v (headL n x).length ((headL n x).map bv) ∧ Below w.heap.size w w' := by
  have hm := make_any n x w h1 h2
  have hf := mk_facts n x h1 h2
  have hh : headL n x = if (mk n x).2 = 0 then putN (mk n x).1.toNat else [] := rfl
  generalize mk n x = g at *
  obtain ⟨v, e⟩ := g
  simp only at hm hf hh
  generalize headL n x = l at *
  have HM := hid hm
  clear hm
  by_cases he : e = 0
  · subst he
    obtain ⟨m, rfl⟩ : ∃ m : Nat, v = (m : Int) := ⟨v.toNat, by omega⟩
    obtain rfl : l = putN m := by simpa using hh
    have HP := hid (put_any m (by omega) w)
    clear hh
    go_enter Try.func30, Try.ntmps30
    go_wp2_with (first | (go_at_call 28; refine HM.out.mono ?_; rintro e w' ⟨rfl, rfl⟩) | (go_at_call 14; refine HP.out.mono ?_; rintro e w' ⟨v, rfl, hs, hb⟩))
    go_ret
    exact ⟨_, rfl, hs, hb⟩
  · have heb : (e != 0) = true := by simpa using he
    obtain rfl : l = [] := by simpa [he] using hh
    clear hh
    go_enter Try.func30, Try.ntmps30
    go_wp2_with (go_at_call 28; refine HM.out.mono ?_; rintro e w' ⟨rfl, rfl⟩)
    go_ret
    exact ⟨_, rfl, World.ownsRow_nil _ _ _ _, Below.refl _ _⟩
set_option maxRecDepth 100000 in
set_option maxHeartbeats 1000000 in
theorem awakeTag_any (w : World) : Calls Try.prog 41 #[] w fun e w' => e = .returned (.bool true) ∧ Below w.heap.size w w' := by
  obtain ⟨i0, hi, hz0, hz1, hz2⟩ := info_parts Try.info5
  have hA := fun W => head_own 1 2 W (by omega) (by omega)
  have hB := fun W => head_own 2 5 W (by omega) (by omega)
  rw [headL12] at hA
  rw [headL25] at hB
  have HA := hid hA
  have HB := hid hB
  clear hA hB
  have hall : M.all ([10] ++ [21]) = ([10, 21], 0, 0) := by decide
  have HALL := hid hall
  clear hall
  go_enter Try.func41, Try.ntmps41
  go_wp2_with fail
  refine (HA.out _).mono ?_
  rintro e w1 ⟨v1, rfl, ho1, hb1⟩
  go_wp2_with fail
  refine (HB.out _).mono ?_
  rintro e w2 ⟨v2, rfl, ho2, hb2⟩
  have ho12 := own_below ho1 hb2
  obtain ⟨A2, c2, hv2, -, hs2⟩ := Sl.of_own ho2
  subst hv2
  have hB2 := bw_t hb1 hb2
  go_wp2_with (at_builtin; refine wpList_append_rd rfl (.tmp 4) (.tmp 5) 24 rfl w.heap.size 5 i0 (.int .u8 0) 1 1 Try.underlying24 hi hz0 hz1 hz2 rfl (by decide) _ _ _ rfl ho12 A2 1 c2 ([21].map bv) rfl (by simp) hs2.rd hs2.nil0 (bv_one _) (by decide) (by decide) hB2.size ?_; intro v3 w3 ho3 hg3)
  have hB3 : Below w.heap.size w w3 := bw_g hB2 hg3 (fun k ek => (ho12.lt k ek).1)
  rw [← List.map_append] at ho3
  obtain ⟨A3, c3, hv3, -, hs3⟩ := Sl.of_own ho3
  subst hv3
  refine (all_at ([10] ++ [21]) _ A3 c3 _ rfl (by simp) hs3).mono ?_
  rw [HALL.out]
  rintro e w4 ⟨A4, c4, rfl, hs4, hb4⟩
  have hB4 := bw_t hB3 hb4
  obtain ⟨b4, o4, rfl, hlt4, hc0⟩ := NRd.at_ (ns := [10, 21]) hs4.rd (k := 0) (by simp)
  obtain ⟨b4', o4', he, _, hc1⟩ := NRd.at_ (ns := [10, 21]) hs4.rd (k := 1) (by simp)
  injection he with he
  injection he with he1 he2
  subst he1
  subst he2
  simp at hc0 hc1
  go_wp2_with fail
  go_ret
  exact ⟨rfl, bw_a hB4 _⟩
theorem own_drewN {w : World} {base e size n : Nat} {v : Value} {xs : List Value} (h : w.ownsRow base e size v n xs) (k : Nat) : (w.drewN k).ownsRow base e size v n xs := h
theorem Sl.of_own' {w : World} {base e : Nat} {A : Option Addr} {n m c : Nat} {xs : List Value} (h : w.ownsRow base e 1 (.slice A n c) m xs) : Sl w A c xs := by
  obtain ⟨A', c', hv, _, hs⟩ := Sl.of_own h
  injection hv with h1 h2 h3
  subst h1; subst h3; exact hs
theorem SlN.of_own {w : World} {base e size n : Nat} {v : Value} {xs : List Value} (hsz : 0 < size) (h : w.ownsRow base e size v n xs) : ∃ A c, v = .slice A n c ∧ SlN w A n c size xs := by
  rcases h.2 with ⟨rfl, rfl⟩ | ⟨g, cap, cur, rfl, hb, hg, hnc, hcm, hcs, htake⟩
  · have hx : xs = [] := List.eq_nil_of_length_eq_zero (by simpa using h.1)
    subst hx
    exact ⟨none, 0, rfl, ⟨by simp, by omega, by omega, fun _ => rfl, Rd.nil_ w _⟩⟩
  · refine ⟨_, cap, rfl, ⟨h.1, hnc, hcm, (fun h => by cases h), fun k u hk => ⟨g, 0, rfl, (Array.getElem?_eq_some_iff.1 hg).1, ?_⟩⟩⟩
    have := h.cells (g := g) rfl k u hk
    rwa [addr_add] at this
abbrev Hd : Type := Int × Nat
def hdv (h : Hd) : List Value := [.int .i64 h.1, .int .u8 (h.2 : Int)]
def okH (h : Hd) : Bool := decide ((mk h.1 (h.2 : Int)).2 = 0)
def flatH (l : List Hd) : List UInt8 := l.flatMap fun h => headL h.1 (h.2 : Int)
theorem flatH_snoc (l : List Hd) (h : Hd) : flatH (l ++ [h]) = flatH l ++ headL h.1 (h.2 : Int) := by simp [flatH]
theorem headL_length {h : Hd} (hx : h.2 ≤ 255) : (headL h.1 (h.2 : Int)).length ≤ 10 := by
  unfold headL; split
  · exact putN_length10 (by have := mk_facts h.1 (h.2 : Int) (by omega) (by omega); omega)
  · simp
theorem flatH_length {l : List Hd} (hx : ∀ h ∈ l, h.2 ≤ 255) : (flatH l).length ≤ 10 * l.length := by
  induction l with
  | nil => simp [flatH]
  | cons h l ih =>
    have h1 := headL_length (hx h (by simp))
    have h2 := ih fun g hg => hx g (by simp [hg])
    have e : flatH (h :: l) = headL h.1 (h.2 : Int) ++ flatH l := rfl
    rw [e, List.length_append, List.length_cons]; omega
theorem Try.info64 : (Try.prog.info? 64).map (fun i => (i.zero, i.size, i.bytes)) = some (some (.agg #[.int .i64 0, .int .u8 0]), 2, 16) := by kernel_rfl
theorem make_q (n x : Int) (w : World) (h1 : 0 ≤ x) (h2 : x ≤ 255) :
    Calls Try.prog 28 #[.int .i64 n, .int .u8 x] w fun e w' => e = .returned (.tuple #[.int .u64 (mk n x).1, .int .i64 (mk n x).2]) ∧ w' = w :=
  (make_any n x w h1 h2).mono fun _ _ ⟨h, h'⟩ => ⟨h, h'.symm⟩
theorem headL_pos {n x : Int} (h : (mk n x).2 = 0) : 0 < (headL n x).length := by unfold headL; rw [if_pos h, putN_size]; exact sizeN_pos _
theorem headL_nil {n x : Int} (h : (mk n x).2 ≠ 0) : headL n x = [] := by unfold headL; rw [if_neg h]
def tg (h : Hd) : Nat := (mk h.1 (h.2 : Int)).1.toNat
theorem flatH_flat (l : List Hd) : flatH l = flat ((l.filter okH).map tg) := by
  induction l with
  | nil => rfl
  | cons h l ih =>
    have e : flatH (h :: l) = headL h.1 (h.2 : Int) ++ flatH l := rfl
    rw [e, List.filter_cons]
    by_cases hk : okH h = true
    · rw [if_pos hk, List.map_cons, flat_cons, ← ih]
      congr 1
      unfold headL tg
      rw [if_pos (by simpa [okH] using hk)]
    · rw [if_neg hk, ← ih, headL_nil (by simpa [okH] using hk)]; rfl
theorem tg_le {h : Hd} (hx : h.2 ≤ 255) : tg h ≤ 18446744073709551615 := by unfold tg; have := mk_facts h.1 (h.2 : Int) (by omega) (by omega); omega
theorem spl_tg {h : Hd} (hx : h.2 ≤ 255) (hk : okH h = true) : spl (tg h : Int) = (h.1, (h.2 : Int), 0) := by
  have hm : (mk h.1 (h.2 : Int)).2 = 0 := by simpa [okH] using hk
  have hf := mk_facts h.1 (h.2 : Int) (by omega) (by omega)
  unfold tg
  rw [Int.toNat_of_nonneg hf.1]
  exact spl_mk hm
set_option maxRecDepth 100000 in
set_option maxHeartbeats 2000000 in
theorem heads_any (l : List Hd) (A : Option Addr) (c : Nat) (w : World) (hx : ∀ h ∈ l, h.2 ≤ 255) (hR : SlN w A l.length c 2 (l.flatMap hdv)) :
    Calls Try.prog 12 #[.slice A l.length c] w fun e w' => e = .returned (.bool true) ∧ Below w.heap.size w w' := by
  by_cases hl : 60 < l.length
  · go_enter Try.func12, Try.ntmps12
    go_wp2_with fail
    refine (awakeTag_any _).mono ?_
    rintro e w1 ⟨rfl, hb1⟩
    go_wp2_with fail
    go_ret
    exact ⟨rfl, hb1⟩
  obtain ⟨i0, hi, hz0, hz1, hz2⟩ := info_parts Try.info5
  obtain ⟨i1, hi1, hz01, hz11, hz21⟩ := info_parts Try.info64
  go_enter Try.func12, Try.ntmps12
  go_wp2_with fail
  refine (awakeTag_any _).mono ?_
  rintro e w1 ⟨rfl, hb1⟩
  go_wp2_with fail
  go_loopw [3, 4, 5] (fun v g i wr => ∃ j : Nat, j ≤ l.length ∧ i = .int .i64 (j : Int) ∧ wr.ownsRow w.heap.size 5 1 v (flatH (l.take j)).length ((flatH (l.take j)).map bv) ∧
      wr.ownsRow w.heap.size 64 2 g ((l.take j).filter okH).length (((l.take j).filter okH).flatMap hdv) ∧ Below w.heap.size w wr) (fun _ _ i _ => l.length - (intOf i).toNat)
  case atStart => exact ⟨0, by omega, rfl, World.ownsRow_nil _ _ _ _, World.ownsRow_nil _ _ _ _, hb1⟩
  case round =>
    obtain ⟨j, hj, rfl, hrow, hgood, hB⟩ := hrel
    have hjl : (l.take j).length ≤ 60 := by rw [List.length_take]; omega
    by_cases hlt : j < l.length
    · have hRr := hR.below hB
      have hx1 := hx l[j] (List.getElem_mem hlt)
      have hn0 : (l.flatMap hdv)[j * 2 + 0]? = _ := flatMap_get hdv 2 l j 0 hlt (fun _ _ => rfl) (by omega)
      have hn1 : (l.flatMap hdv)[j * 2 + 1]? = _ := flatMap_get hdv 2 l j 1 hlt (fun _ _ => rfl) (by omega)
      have hst : flatH (l.take (j + 1)) = flatH (l.take j) ++ headL l[j].1 (l[j].2 : Int) := by rw [List.take_succ_eq_append_getElem hlt, flatH_snoc]
      have hsg : (l.take (j + 1)).filter okH = (l.take j).filter okH ++ (if okH l[j] then [l[j]] else []) := by
        rw [List.take_succ_eq_append_getElem hlt, List.filter_append, List.filter_cons, List.filter_nil]
      obtain ⟨b, o, rfl, hblt, hc0⟩ := hRr.rd _ _ hn0
      obtain ⟨b', o', he, _, hc1⟩ := hRr.rd _ _ hn1
      injection he with he
      injection he with he1 he2
      subst he1
      subst he2
      generalize l[j] = hd at *
      obtain ⟨n, x⟩ := hd
      simp only at hx1 hst
      have hxx0 : (0 : Int) ≤ x := by omega
      have hxx1 : (x : Int) ≤ 255 := by omega
      have hp := headL_pos (n := n) (x := (x : Int))
      have hnl := headL_nil (n := n) (x := (x : Int))
      have hok : okH (n, x) = decide ((mk n (x : Int)).2 = 0) := rfl
      have hhd := fun W => head_own n (x : Int) W hxx0 hxx1
      have hmk := fun W => make_q n (x : Int) W hxx0 hxx1
      have hll : (headL n (x : Int)).length ≤ 10 := by
        unfold headL; split
        · exact putN_length10 (by have := mk_facts n (x : Int) hxx0 hxx1; omega)
        · simp
      rw [hok] at hsg
      generalize mk n (x : Int) = mm at *
      obtain ⟨mv, me⟩ := mm
      generalize headL n (x : Int) = L at *
      simp only at hp hnl hmk hsg
      have HH := hid hhd
      have HM := hid hmk
      have HST := hid hst
      have HSG := hid hsg
      clear hst hsg hn0 hn1 hhd hmk hok
      replace hc0 : wr.cell? ⟨b, o + j * 2, none⟩ = some (.int .i64 n) := hc0
      replace hc1 : wr.cell? ⟨b, o + j * 2 + 1, none⟩ = some (.int .u8 (x : Int)) := hc1
      have hjl0 : (j : Int) < (l.length : Int) := by omega
      go_wp2_with fail
      go_region_held3 (fun w' => w'.cell? ⟨b, o + j * 2, none⟩ = some (.int .i64 n) ∧ w'.cell? ⟨b, o + j * 2 + 1, none⟩ = some (.int .u8 (x : Int))) (first | exact ⟨q0, q1⟩ | go_keep) (first | (go_at_call 30; refine (HH.out _).mono ?_; rintro e w2 ⟨vh, rfl, ho2, hb2⟩; have q0 : w2.cell? ⟨b, o + j * 2, none⟩ = some (.int .i64 n) := (hb2.cell (p := ⟨b, o + j * 2, none⟩) hblt).trans hc0; have q1 : w2.cell? ⟨b, o + j * 2 + 1, none⟩ = some (.int .u8 (x : Int)) := (hb2.cell (p := ⟨b, o + j * 2 + 1, none⟩) hblt).trans hc1))
      have hb2' : Below wr.heap.size wr w2 := ⟨hb2.os, hb2.tape, hb2.output, hb2.size, hb2.block⟩
      have hB2 := bw_t hB hb2'
      have hrow2 := own_below hrow hb2'
      have hgood2 := own_below hgood hb2'
      have ho2' : w2.ownsRow wr.heap.size 5 1 vh L.length (L.map bv) := ho2
      obtain ⟨A2, c2, hvh, -, hs2⟩ := Sl.of_own ho2'
      subst hvh
      clear hb2 ho2
      go_wp2_with fail
      go_quiet ((go_at_call 28; exact Calls.quiet_of_same (HM.out _)))
      have q03 : (w2.drewN nq).cell? ⟨b, o + j * 2, none⟩ = some (.int .i64 n) := q0
      have q13 : (w2.drewN nq).cell? ⟨b, o + j * 2 + 1, none⟩ = some (.int .u8 (x : Int)) := q1
      have hrow3 := own_drewN hrow2 nq
      have hgood3 := own_drewN hgood2 nq
      have ho3 := own_drewN ho2' nq
      have hB3 := bw_d hB2 nq
      clear q0 q1 hrow2 hgood2 ho2' hB2 hs2
      generalize w2.drewN nq = w3 at *
      have hgl : ((l.take j).filter okH).length ≤ 60 := Nat.le_trans (List.length_filter_le _ _) hjl
      have hfl : (flatH (l.take j)).length ≤ 10 * 60 := Nat.le_trans (flatH_length (fun h hh => hx h (List.mem_of_mem_take hh))) (Nat.mul_le_mul_left _ hjl)
      by_cases he : me = 0
      · subst he
        have hp' := hp rfl
        have hLp : (0 : Int) < (L.length : Int) := by omega
        have hlp : decide (0 < L.length) = true := by simpa using hp'
        have HSG2 := hid (HSG.out)
        have hgoodA := hgood3.alloc (.cells #[.int .i64 n, .int .u8 (x : Int)] 64)
        have hrowA := hrow3.alloc (.cells #[.int .i64 n, .int .u8 (x : Int)] 64)
        have hoA := ho3.alloc (.cells #[.int .i64 n, .int .u8 (x : Int)] 64)
        have hBA := bw_a hB3 (.cells #[.int .i64 n, .int .u8 (x : Int)] 64)
        have hsA := Rd.new w3 64 #[.int .i64 n, .int .u8 (x : Int)]
        go_wp2_with (first | (at_builtin; refine wpList_append_rd rfl (.tmp 60) (.tmp 65) 62 rfl w.heap.size 64 i1 (.agg #[.int .i64 0, .int .u8 0]) 2 16 Try.underlying62 hi1 hz01 hz11 hz21 rfl (by decide) u4 _ _ rfl hgoodA (some ⟨w3.heap.size, 0, none⟩) 1 1 [.int .i64 n, .int .u8 (x : Int)] rfl rfl hsA (fun h => by cases h) (by simp [Value.oneCell']) (by simp only [maxLen]; omega) (by omega) hBA.size ?_; intro v4 w4 hown4 hgrow4; have hrow4 := hrowA.kept hgrow4 (own_two hrowA hgoodA (by decide)); have ho4 := hoA.kept hgrow4 (own_two hoA hgoodA (by decide)); have hs4 := Sl.of_own' ho4; have hB4 : Below w.heap.size w w4 := bw_g hBA hgrow4 (fun k ek => (hgoodA.lt k ek).1)) | (at_builtin; refine wpList_append_rd rfl (.tmp 67) (.tmp 68) 24 rfl w.heap.size 5 i0 (.int .u8 0) 1 1 Try.underlying24 hi hz0 hz1 hz2 rfl (by decide) u3 _ _ rfl hrow4 A2 L.length c2 (L.map bv) rfl (by simp) hs4.rd hs4.nil0 (bv_one _) (by simp only [maxLen]; omega) (by omega) hB4.size ?_; intro v5 w5 hown5 hgrow5))
        have hgood5 := hown4.kept hgrow5 (own_two hown4 hrow4 (by decide))
        have hB5 : Below w.heap.size w w5 := bw_g hB4 hgrow5 (fun k ek => (hrow4.lt k ek).1)
        go_roundw
        case rel => exact ⟨j + 1, by omega, by go_num, by rw [HST.out, List.length_append, List.map_append]; exact hown5, by rw [HSG.out, if_pos (by simp), List.length_append, List.flatMap_append]; exact hgood5, hB5⟩
        case measure => simp [intOf] <;> omega
      · have hL := hnl he
        subst hL
        have heb : (me == 0) = false := by simpa using he
        have hs3 := Sl.of_own' ho3
        go_wp2_with (at_builtin; refine wpList_append_rd rfl (.tmp 67) (.tmp 68) 24 rfl w.heap.size 5 i0 (.int .u8 0) 1 1 Try.underlying24 hi hz0 hz1 hz2 rfl (by decide) u3 _ _ rfl hrow3 A2 0 c2 [] rfl (by simp) hs3.rd hs3.nil0 (by simp) (by simp only [maxLen]; omega) (by omega) hB3.size ?_; intro v5 w5 hown5 hgrow5)
        have hgood5 := hgood3.kept hgrow5 (own_two hgood3 hrow3 (by decide))
        have hB5 : Below w.heap.size w w5 := bw_g hB3 hgrow5 (fun k ek => (hrow3.lt k ek).1)
        go_roundw
        case rel => exact ⟨j + 1, by omega, by go_num, by rw [HST.out, List.append_nil]; simpa using hown5, by rw [HSG.out, if_neg (by simpa using he), List.append_nil]; exact hgood5, hB5⟩
        case measure => simp [intOf] <;> omega
    · obtain rfl : j = l.length := by omega
      rw [List.take_length] at hrow hgood hjl
      have hgl : (l.filter okH).length ≤ 60 := Nat.le_trans (List.length_filter_le _ _) hjl
      have hfl := flatH_length hx
      have hGx : ∀ h ∈ l.filter okH, h.2 ≤ 255 ∧ okH h = true := fun h hh => ⟨hx h (List.mem_filter.1 hh).1, (List.mem_filter.1 hh).2⟩
      rw [flatH_flat] at hrow hfl
      generalize l.filter okH = G at *
      have hTl : (G.map tg).length = G.length := by simp
      have hall := all_flat (ns := G.map tg) (fun n hn => by obtain ⟨h, hh, rfl⟩ := List.mem_map.1 hn; exact tg_le (hGx h hh).1)
      have hT : ∀ k (hk : k < (G.map tg).length), ∃ h, ∃ hk2 : k < G.length, h = G[k] ∧ spl ((G.map tg)[k] : Int) = (h.1, (h.2 : Int), 0) ∧ h.2 ≤ 255 ∧ (G.map tg)[k] ≤ 18446744073709551615 := fun k hk => by
        have hk2 : k < G.length := by simpa using hk
        have hm := hGx G[k] (List.getElem_mem hk2)
        exact ⟨G[k], hk2, rfl, by rw [List.getElem_map]; exact spl_tg hm.1 hm.2, hm.1, by rw [List.getElem_map]; exact tg_le hm.1⟩
      generalize G.map tg = T at *
      have hne : ((T.length : Int) != (G.length : Int)) = false := by simp [hTl]
      have HALL := hid hall
      have HTL := hid hTl
      have HT := hid hT
      clear hall hTl hT hGx hx
      obtain ⟨A5, c5, hv5, -, hs5⟩ := Sl.of_own hrow
      subst hv5
      go_wp2_with fail
      refine (all_at (flat T) _ A5 c5 _ rfl (by omega) hs5).mono ?_
      rw [HALL.out]
      rintro e' w6 ⟨B6, d6, rfl, hs6, hb6⟩
      have hb06 := bw_t hB hb6
      have hgood6 := own_below hgood hb6
      obtain ⟨A7, c7, hv7, hs7⟩ := SlN.of_own (by omega) hgood6
      subst hv7
      have hns6 : NRd w6 B6 T := hs6.rd
      clear hgood hgood6 hrow hs5 hs6
      go_wp2_with fail
      go_loop [11] (fun i => ∃ k : Nat, k ≤ T.length ∧ i = .int .i64 (k : Int)) (fun i => T.length - (intOf i).toNat)
      case atStart => exact ⟨0, by omega, rfl⟩
      case round =>
        obtain ⟨k, hk, rfl⟩ := hrel
        by_cases hkt : k < T.length
        · obtain ⟨h, hk2, hh, hsp, hx2, h64⟩ := HT.out k hkt
          obtain ⟨b1, o1, rfl, hlt1, hc1⟩ := hns6.at_ hkt
          have hn0 : (G.flatMap hdv)[k * 2 + 0]? = _ := flatMap_get hdv 2 G k 0 hk2 (fun _ _ => rfl) (by omega)
          have hn1 : (G.flatMap hdv)[k * 2 + 1]? = _ := flatMap_get hdv 2 G k 1 hk2 (fun _ _ => rfl) (by omega)
          rw [← hh] at hn0 hn1
          obtain ⟨b2, o2, rfl, hlt2, hc2⟩ := hs7.rd _ _ hn0
          obtain ⟨b2', o2', he, _, hc3⟩ := hs7.rd _ _ hn1
          injection he with he
          injection he with he1 he2
          subst he1
          subst he2
          obtain ⟨n, x⟩ := h
          replace hc2 : w6.cell? ⟨b2, o2 + k * 2, none⟩ = some (.int .i64 n) := hc2
          replace hc3 : w6.cell? ⟨b2, o2 + k * 2 + 1, none⟩ = some (.int .u8 (x : Int)) := hc3
          have hcall := fun W => split_any (T[k] : Int) W (by omega) (by omega)
          rw [hsp] at hcall
          generalize T[k] = tk at *
          have HC := hid hcall
          have hkg : (k : Int) < (G.length : Int) := by omega
          clear hcall hsp hh hn0 hn1
          go_wp2_with (go_at_call 31; refine (HC.out _).mono ?_; rintro e w' ⟨rfl, rfl⟩)
          go_round
          case rel => exact ⟨k + 1, by omega, by go_num⟩
          case measure => simp [intOf] <;> omega
        · obtain rfl : k = T.length := by omega
          go_wp2_with fail
          go_ret
          exact ⟨rfl, bw_a hb06 _⟩
theorem openHd (W : World) : Opens Try.prog W 64 hdv (fun h : Hd => h.2 ≤ 255) :=
  (opens_struct2 (k0 := 1) (k1 := 1) Try.underlying64 rfl rfl (by kernel_rfl) (by kernel_rfl) (by kernel_rfl) (opens_int Try.underlying3) (opens_int Try.underlying5)).map (fun p => (p.1, p.2.toNat))
    fun p hp => ⟨by have := wf_u8 hp.2; simp only [hdv]; rw [Int.toNat_of_nonneg this.1]; rfl, by have := wf_u8 hp.2; show p.2.toNat ≤ 255; omega⟩
end Go.Proofs.Ytoakedonbjfgoaa
