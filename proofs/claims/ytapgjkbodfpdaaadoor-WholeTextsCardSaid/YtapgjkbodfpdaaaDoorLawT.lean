/- The walk of WholeTexts (begun). -/
import Derived.Test.YtapgjkbodfpdaaaDoorProg
import Derived.Test.YtapgjkbodfpdaaaDoorBase
import Derived.Test.YtapgjkbodfpdaaaDoorLiveT
import Derived.Test.YtapgjkbodfpdaaaDoorTextsMath
import Derived.Test.YtapgjkbodfpdaaaDoorTextsAt
import Derived.Test.YtapgjkbodfpdaaaDoorOpens
import Derived.Test.YtapgjkbodfpdaaaDoorSame32
import Derived.Lib.AppendStr
import Derived.Test.YtapgjkbodfpdaaaDoorOpen32
set_option linter.unusedVariables false
namespace Go.Proofs.YtapgjkbodfpdaaaDoor
open Go.RowKit
def i32ok (n : Int) : Prop := -2147483648 ≤ n ∧ n ≤ 2147483647
/-- A row of runes as a cell. -/
def rowv (s : SlV Int) : List Value := [.slice s.A s.xs.length s.c]
def rowOk (w : World) (s : SlV Int) : Prop := (∀ n ∈ s.xs, i32ok n) ∧ SlN w s.A s.xs.length s.c 1 (s.xs.flatMap fun n => [iv n])
theorem row_sl {w : World} {s : SlV Int} (h : rowOk w s) : Sl w s.A s.c (s.xs.map iv) := by
  have h2 := h.2
  rw [show (s.xs.flatMap fun n => [iv n]) = s.xs.map iv from (List.map_eq_flatMap ..).symm] at h2
  exact ⟨by simpa using h2.cap, h2.small, h2.nil0, h2.rd⟩
/-- The rows all of whose runes are runes, and their texts. -/
def goodL (l : List (SlV Int)) : List (SlV Int) := l.filter fun s => decide (txBad s.xs = none)
def txs (l : List (SlV Int)) : List (List UInt8) := (goodL l).map fun s => txB s.xs
theorem goodL_snoc (l : List (SlV Int)) (s : SlV Int) : goodL (l ++ [s]) = goodL l ++ if txBad s.xs = none then [s] else [] := by
  unfold goodL
  rw [List.filter_append, List.filter_cons, List.filter_nil]
  by_cases h : txBad s.xs = none <;> simp [h]
theorem txs_snoc (l : List (SlV Int)) (s : SlV Int) : encs (txs (l ++ [s])) = encs (txs l) ++ if txBad s.xs = none then encB (txB s.xs) else [] := by
  unfold txs
  rw [goodL_snoc, List.map_append]
  by_cases h : txBad s.xs = none <;> simp [h, encs]
theorem txB_le (l : List Int) : (txB l).length ≤ 4 * l.length := by
  unfold txB
  split
  · have := textB_le (l.map Int.toNat); simpa using this
  · simp
theorem goodL_le (l : List (SlV Int)) (j : Nat) : (goodL (l.take j)).length ≤ (l.take j).length := List.length_filter_le _ _
theorem encs_le' (l : List (SlV Int)) (N : Nat) (h : ∀ s ∈ l, s.xs.length ≤ N) (hN : N ≤ 100000) : (encs (txs l)).length ≤ (4 * N + 10) * l.length := by
  induction l with
  | nil => simp [txs, goodL, encs]
  | cons s r ih =>
    have h1 := ih fun t ht => h t (by simp [ht])
    have h2 := txB_le s.xs
    have h3 := h s (by simp)
    have h4 := putN_length10 (n := (txB s.xs).length) (by omega)
    have h5 : (encs (txs (s :: r))).length ≤ (encB (txB s.xs)).length + (encs (txs r)).length := by
      unfold txs goodL
      rw [List.filter_cons]
      split <;> simp [encs]
    have h6 : (encB (txB s.xs)).length = (putN (txB s.xs).length).length + (txB s.xs).length := by simp [encB]
    rw [List.length_cons, Nat.mul_add]
    omega
theorem encs_le (l : List (SlV Int)) (j N : Nat) (h : ∀ s ∈ l.take j, s.xs.length ≤ N) (hN : N ≤ 100000 := by omega) : (encs (txs (l.take j))).length ≤ (4 * N + 10) * (l.take j).length := encs_le' _ N h hN
theorem Tryd.infoRow : (Tryd.prog.info? 25).map (fun i => (i.zero, i.size, i.bytes)) = some (some (.slice none 0 0), 1, 24) := by kernel_rfl
theorem IRd.below_ {w w' : World} {A : Option Addr} {l : List Int} (h : IRd w A l) (hb : Below w.heap.size w w') : IRd w' A l := Rd.below h hb
theorem Sl.takeB {w : World} {A : Option Addr} {c : Nat} {bs : List UInt8} (h : Sl w A c (bs.map bv)) (k : Nat) : Sl w A c ((bs.take k).map bv) := by
  refine ⟨?_, h.small, h.nil0, by rw [List.map_take]; exact h.rd.take k⟩
  have := h.cap
  simp only [List.length_map, List.length_take] at this ⊢
  omega
theorem sln_own {w : World} {base e size n : Nat} {v : Value} {xs : List Value} (hsz : 0 < size) (h : w.ownsRow base e size v n xs) : ∃ A c, v = .slice A n c ∧ SlN w A n c size xs := by
  rcases h.2 with ⟨rfl, rfl⟩ | ⟨g, cap, cur, rfl, hb, hg, hnc, hcm, hcs, htake⟩
  · have hx : xs = [] := List.eq_nil_of_length_eq_zero (by simpa using h.1)
    subst hx
    exact ⟨none, 0, rfl, ⟨by simp, by omega, by omega, fun _ => rfl, Rd.nil_ w _⟩⟩
  · refine ⟨_, cap, rfl, ⟨h.1, hnc, hcm, (fun h => by cases h), fun k u hk => ⟨g, 0, rfl, (Array.getElem?_eq_some_iff.1 hg).1, ?_⟩⟩⟩
    have := h.cells (g := g) rfl k u hk
    rwa [addr_add] at this
set_option maxRecDepth 100000 in
set_option maxHeartbeats 4000000 in
theorem wholeTexts_any (l : List (SlV Int)) (m : Nat) (A : Option Addr) (c : Nat) (less : Int) (w : World) (hm : l.length = m) (h1 : -9223372036854775808 ≤ less) (h2 : less ≤ 9223372036854775807) (hl : SlN w A m c 1 (l.flatMap rowv)) (hok : ∀ s ∈ l, rowOk w s) (hT : Tab w) :
    Calls Tryd.prog 3 #[.slice A m c, .int .i64 less] w fun e w' => e = .returned (.bool true) ∧ Below w.heap.size w w' := by
  have hcm : m ≤ 9223372036854775807 := by have g1 := hl.cap; have g2 := hl.small; omega
  by_cases hb : 20 < m
  · go_enter Tryd.func3, Tryd.ntmps3
    go_wp2_with fail
    refine (liveT_any _).mono ?_
    rintro e w1 ⟨rfl, hb1⟩
    go_wp2_with fail
    go_ret
    exact ⟨rfl, hb1⟩
  obtain ⟨i0, hi, hz0, hz1, hz2⟩ := info_parts Tryd.info5
  obtain ⟨i1, hi1, hz01, hz11, hz21⟩ := info_parts Tryd.infoRow
  have HM := hid hm
  have HL := hid hl
  have HOK := hid hok
  have HT := hid hT
  clear hm hl hok hT
  go_enter Tryd.func3, Tryd.ntmps3
  go_wp2_with fail
  refine (liveT_any _).mono ?_
  rintro e w1 ⟨rfl, hb1⟩
  go_wp2_with fail
  go_loopw [5, 6, 7] (fun b g i wr => ∃ j : Nat, j ≤ m ∧ (∀ s ∈ l.take j, s.xs.length ≤ 100) ∧ i = .int .i64 (j : Int) ∧ wr.ownsRow w.heap.size 5 1 b (encs (txs (l.take j))).length ((encs (txs (l.take j))).map bv) ∧
      wr.ownsRow w.heap.size 25 1 g (goodL (l.take j)).length ((goodL (l.take j)).flatMap rowv) ∧ Below w.heap.size w wr) (fun _ _ i _ => m - (intOf i).toNat)
  case atStart => exact ⟨0, by omega, by simp, rfl, World.ownsRow_nil _ _ _ _, World.ownsRow_nil _ _ _ _, hb1⟩
  case round =>
    obtain ⟨j, hj, h100, rfl, hrow, hgood, hB⟩ := hrel
    have H100 := hid h100
    have hel := encs_le l j 100 h100
    have hgl := goodL_le l j
    have hjm20 : (l.take j).length ≤ 20 := by rw [List.length_take]; omega
    clear h100
    by_cases hlt : j < m
    · have hjl : j < l.length := by have := HM.out; omega
      have hn0 : (l.flatMap rowv)[j * 1 + 0]? = _ := flatMap_get rowv 1 l j 0 hjl (fun _ _ => rfl) (by omega)
      have hsn : l.take (j + 1) = l.take j ++ [l[j]] := List.take_succ_eq_append_getElem hjl
      have hoks := HOK.out l[j] (List.getElem_mem hjl)
      obtain ⟨b, o, rfl, hblt, hc0⟩ := (HL.out.below hB).rd _ _ hn0
      generalize l[j] = r at *
      obtain ⟨rA, rc, rx⟩ := r
      have hrl : rx.length ≤ 9223372036854775807 := by have := hoks.2.cap; have := hoks.2.small; simp only at *; omega
      have hjm : (j : Int) < (m : Int) := by omega
      have hj0 : (0 : Int) ≤ (j : Int) := by omega
      have HSN := hid hsn
      have HR := hid hrow
      have HG := hid hgood
      have HO := hid hoks
      simp only [Nat.add_zero, Nat.mul_one] at hc0
      generalize hrn : rx.length = rn at *
      have HRN := hid hrn
      have HN0 := hid hn0
      clear hn0 hsn hrow hgood hoks hrn
      by_cases hbig : 100 < rn
      · go_wp2_with fail
        go_ret
        exact ⟨rfl, hB⟩
      · have hrow2 := row_sl (s := ⟨rA, rc, rx⟩) HO.out
        have HTX := hid (text_any rx rn rA rc wr HRN.out (by omega) HO.out.1 (hrow2.below hB) (HT.out.below hB))
        clear hrow2
        go_wp2_with fail
        refine HTX.out.mono ?_
        rintro e w2 ⟨s, rfl, hs, hb2⟩
        have hB2 := bw_t hB hb2
        have HR2 := hid (own_below HR.out hb2)
        have HG2 := hid (own_below HG.out hb2)
        have HB2 := hid hB2
        have HS := hid hs
        clear hs hb2 HTX
        by_cases hbad : txBad rx = none
        · have he : txE rx = 0 := if_pos hbad
          rw [he]
          generalize txA rx = fa at *
          have hsz : s.size = (txB rx).length := by rw [← HS.out]; simp
          have hle := txB_le rx
          have hrn := HRN.out
          have hgoodA := (HG2.out.alloc (.cells #[.int .i64 0, .int .i64 (fa : Int)] 28)).alloc (.cells #[.slice rA rn rc] 25)
          have hrowA := (HR2.out.alloc (.cells #[.int .i64 0, .int .i64 (fa : Int)] 28)).alloc (.cells #[.slice rA rn rc] 25)
          have hBAA := bw_a (bw_a hB2 (.cells #[.int .i64 0, .int .i64 (fa : Int)] 28)) (.cells #[.slice rA rn rc] 25)
          have hsA := Rd.new (w2.alloc (.cells #[.int .i64 0, .int .i64 (fa : Int)] 28)) 25 #[.slice rA rn rc]
          have hBA := bw_a hB2 (.cells #[.int .i64 0, .int .i64 (fa : Int)] 28)
          have hc2 : (w2.alloc (.cells #[.int .i64 0, .int .i64 (fa : Int)] 28)).cell? ⟨b, o + j, none⟩ = some (.slice rA rn rc) := (((HL.out.below hBA).rd _ _ HN0.out).elim fun b' h => h.elim fun o' h => by obtain ⟨e1, _, e2⟩ := h; injection e1 with e1; injection e1 with e3 e4; subst e3; subst e4; simpa [hrn] using e2)
          have hw9 : IntKind.u64.wrap (s.size : Int) = (s.size : Int) := IntWalk.u64_in _ (by omega)
          go_wp2_with (at_builtin; refine wpList_append_rd rfl (.tmp 48) (.tmp 53) 22 rfl w.heap.size 25 i1 (.slice none 0 0) 1 24 Tryd.underlying22 hi1 hz01 hz11 hz21 rfl (by decide) u6 _ _ rfl hgoodA (some ⟨w2.heap.size + 1, 0, none⟩) 1 1 [.slice rA rn rc] rfl rfl (by simpa using hsA) (fun h => by cases h) (by simp [Value.oneCell']) (by simp only [maxLen]; omega) (by omega) hBAA.size ?_; intro v4 w4 hown4 hgrow4; have hrow4 := hrowA.kept hgrow4 (own_two hrowA hgoodA (by decide)); have hB4 : Below w.heap.size w w4 := bw_g hBAA hgrow4 (fun k ek => (hgoodA.lt k ek).1))
          refine (vput_any (txB rx).length w4 (by omega)).mono ?_
          rintro e w5 ⟨A5, c5, rfl, hs5, hb5⟩
          have hrow5 := own_below hrow4 hb5
          have hgood5 := own_below hown4 hb5
          have hB5 := bw_t hB4 hb5
          have hpl := putN_length10 (n := (txB rx).length) (by omega)
          go_wp2_with (first | (at_builtin; refine wpList_append_rd rfl (.tmp 55) (.tmp 59) 24 rfl w.heap.size 5 i0 (.int .u8 0) 1 1 Tryd.underlying24 hi hz0 hz1 hz2 rfl (by decide) u5 _ _ rfl hrow5 A5 (putN (txB rx).length).length c5 ((putN (txB rx).length).map bv) rfl (by simp) hs5.rd hs5.nil0 (by simp [Value.oneCell', bv]) (by simp only [maxLen]; omega) (by omega) hB5.size ?_; intro v6 w6 hown6 hgrow6; have hgood6 := hgood5.kept hgrow6 (own_two hgood5 hrow5 (by decide)); have hB6 : Below w.heap.size w w6 := bw_g hB5 hgrow6 (fun k ek => (hrow5.lt k ek).1)) | (at_builtin; refine Lib.wpList_append_own_string _ rfl (.tmp 60) (.tmp 61) 24 9 rfl w.heap.size 5 i0 Tryd.underlying24 Tryd.underlying9 hi hz0 hz1 hz2 v6 _ _ rfl hown6 s rfl (by simp only [maxLen]; omega) (by omega) hB6.size ?_; intro v7 w7 hown7 hgrow7 _))
          have hgood7 := hgood6.kept hgrow7 (own_two hgood6 hown6 (by decide))
          have hB7 : Below w.heap.size w w7 := bw_g hB6 hgrow7 (fun k ek => (hown6.lt k ek).1)
          have hsc : Lib.strCells s = (txB rx).map bv := by rw [Lib.strCells, HS.out]; rfl
          have hE : encs (txs (l.take (j + 1))) = encs (txs (l.take j)) ++ (putN (txB rx).length ++ txB rx) := by rw [HSN.out, txs_snoc, if_pos hbad]; rfl
          have hg8 : goodL (l.take (j + 1)) = goodL (l.take j) ++ [⟨rA, rc, rx⟩] := by rw [HSN.out, goodL_snoc, if_pos hbad]
          rw [hsc, hsz] at hown7
          exact ⟨⟨j + 1, by omega, by rw [HSN.out]; intro s hs; rcases List.mem_append.1 hs with h | h; exact H100.out s h; simp at h; subst h; show rx.length ≤ 100; omega, by go_num, by rw [hE, List.length_append, List.length_append, List.map_append, List.map_append, ← Nat.add_assoc, ← List.append_assoc]; exact hown7, by rw [hg8, List.length_append, List.flatMap_append]; simpa [rowv, hrn] using hgood7, hB7⟩, by simp [intOf] <;> omega⟩
        · have he : txE rx = 1 := if_neg hbad
          rw [he]
          generalize txA rx = fa at *
          go_wp2_with fail
          have hBA := bw_a HB2.out (.cells #[.int .i64 1, .int .i64 (fa : Int)] 28)
          exact ⟨⟨j + 1, by omega, by rw [HSN.out]; intro s hs; rcases List.mem_append.1 hs with h | h; exact H100.out s h; simp at h; subst h; have := HRN.out; show rx.length ≤ 100; omega, by go_num, by rw [HSN.out, txs_snoc, if_neg hbad, List.append_nil]; exact HR2.out.alloc _, by rw [HSN.out, goodL_snoc, if_neg hbad, List.append_nil]; exact HG2.out.alloc _, hBA⟩, by simp [intOf] <;> omega⟩
    · obtain rfl : j = m := by omega
      have hlm : l.take j = l := List.take_of_length_le (by have := HM.out; omega)
      have hG : ∀ s ∈ goodL l, txBad s.xs = none ∧ s.xs.length ≤ 100 ∧ rowOk w s := by
        intro s hs
        have h1 := List.mem_filter.1 hs
        exact ⟨by simpa using h1.2, H100.out s (by rw [hlm]; exact h1.1), HOK.out s h1.1⟩
      have hTG : txs l = (goodL l).map fun s => txB s.xs := rfl
      rw [hlm] at hel hgl hjm20 hrow hgood
      have hT1 : ∀ t ∈ txs l, t.length ≤ 1000 := by
        intro t ht
        rw [hTG] at ht
        obtain ⟨s, hs, rfl⟩ := List.mem_map.1 ht
        have h1 := txB_le s.xs
        have h2 := (hG s hs).2.1
        show (txB s.xs).length ≤ 1000
        omega
      have hTl : (txs l).length = (goodL l).length := by rw [hTG, List.length_map]
      have hE0 : ∃ E, encs (txs l) = E := ⟨_, rfl⟩
      obtain ⟨E, hE⟩ := hE0
      have hEl : E.length ≤ 10000 := by rw [← hE]; omega
      rw [hE] at hrow
      generalize goodL l = G at *
      generalize txs l = T at *
      obtain ⟨bA, bc, rfl, hbl, hbs⟩ := Sl.of_own hrow
      obtain ⟨gA, gc, rfl, hgs⟩ := sln_own (by omega) hgood
      rw [List.length_map] at hbl
      clear hel hgl hjm20 hrow hgood H100 HM HL HOK HT hlm hbl
      have hGl : G.length ≤ 9223372036854775807 := by have := hgs.cap; have := hgs.small; omega
      generalize hEn : E.length = n at *
      generalize hGn : G.length = gn at *
      have HG := hid hG
      have HTG := hid hTG
      have HT1 := hid hT1
      have HTL := hid hTl
      have HE := hid hE
      have HEN := hid hEn
      have HGN := hid hGn
      have HBS := hid hbs
      have HGS := hid hgs
      have HBw := hid hB
      clear hG hTG hT1 hTl hE hEn hGn hbs hgs hB
      go_wp2_with fail
      refine (new_any E n bA bc wr HEN.out (by omega) HBS.out).mono ?_
      rintro e wn ⟨q, A, c, rfl, hr1, hq1, hfar, hbn⟩
      generalize wr = wa at *
      have HR1 := hid hr1
      have HFAR := hid hfar
      have HBN := hid hbn
      clear hr1 hfar hbn
      go_wp2_with fail
      go_loopw [11] (fun i wr2 => ∃ k : Nat, k ≤ gn ∧ i = .int .i64 (k : Int) ∧ Rin 50 wr2 q A c E (encs (T.take k)).length ∧ Only q wn wr2) (fun i _ => gn - (intOf i).toNat)
      case atStart => exact ⟨0, by omega, rfl, HR1.out, Only.refl _ _⟩
      case round =>
        obtain ⟨k, hk, rfl, hr, ho⟩ := hrel
        have HR := hid hr
        have HO := hid ho
        have hBo : Below wa.heap.size wn wr := ho.below hq1 HBN.out.size
        have hBr : Below wa.heap.size wa wr := HBN.out.trans hBo
        have HBR := hid hBr
        clear hr ho hBo hBr
        by_cases hlt : k < gn
        · have hkG : k < G.length := by have := HGN.out; omega
          have hkT : k < T.length := by have := HTL.out; have := HGN.out; omega
          obtain ⟨n1, hn1⟩ : ∃ n1, (T[k]'hkT).length = n1 := ⟨_, rfl⟩
          obtain ⟨p, hp⟩ : ∃ p, (encs (T.take k)).length = p := ⟨_, rfl⟩
          obtain ⟨p', hp'⟩ : ∃ p', (encs (T.take (k + 1))).length = p' := ⟨_, rfl⟩
          have hrd : ∀ W, Rin 50 W q A c E p → _ := fun W h => wt_read (w := W) (q := q) (A := A) (c := c) k p n1 p' HT1.out hkT HE.out hp hp' hn1 h
          have hgk := HG.out G[k] (List.getElem_mem hkG)
          have hTk : T[k] = txB G[k].xs := by simp only [HTG.out, List.getElem_map]
          have hn0 : (G.flatMap rowv)[k * 1 + 0]? = _ := flatMap_get rowv 1 G k 0 hkG (fun _ _ => rfl) (by omega)
          have hgrd := (HGS.out.below HBR.out).rd _ _ hn0
          rw [hp] at HR
          generalize T[k] = t at *
          generalize G[k] = r at *
          obtain ⟨rA, rc, rx⟩ := r
          subst hTk
          obtain ⟨gb, go', rfl, hblt, hc0⟩ := hgrd
          simp only [Nat.add_zero, Nat.mul_one] at hc0
          have hgb := HGS.out.rd _ _ hn0
          simp only [Nat.add_zero, Nat.mul_one] at hgb
          generalize hrn : rx.length = rn at *
          have HGB : Hid (gb < wa.heap.size ∧ wa.cell? ⟨gb, go' + k, none⟩ = some (.slice rA rn rc)) := hid (by
            obtain ⟨b2, o2, e2, l2, x2⟩ := hgb
            injection e2 with e2
            injection e2 with e3 e4
            subst e3; subst e4
            exact ⟨l2, x2⟩)
          have HRN := hid hrn
          have HP' := hid hp'
          have HN1 := hid hn1
          have hrx := hgk.1
          have hrl : rn ≤ 100 := hgk.2.1
          have hrow2 := row_sl (s := ⟨rA, rc, rx⟩) hgk.2.2
          have HRX := hid hrx
          have HROW := hid hrow2
          have HRD := hid hrd
          have hkn : (k : Int) < (gn : Int) := by omega
          have hk0 : (0 : Int) ≤ (k : Int) := by omega
          clear hrd hgk hrow2 hrx hn0 hn1 hp hp' hrn hgb
          go_wp2_with fail
          refine (HRD.out _ HR.out).mono ?_
          rintro e w2 ⟨A2, c2, rfl, hs2, hf2, hr2, ho2⟩
          have hO2 := HO.out.trans ho2
          have hB2 : Below wa.heap.size wa w2 := HBN.out.trans (hO2.below hq1 HBN.out.size)
          have hbA2 := (Below.refl w2.heap.size w2).alloc (Nat.le_refl _) (.cells #[.int .i64 0, .int .i64 0] 28)
          have hcv := conv_bs (n := n1) (P := Tryd.prog) (dst := 9) (hs2.below hbA2) HN1.out Tryd.underlying24 Tryd.underlying5 Tryd.underlying9
          have HO2 := hid hO2
          have HR2 := hid hr2
          have HB2 := hid hB2
          have HBA2 := hid hbA2
          have hqw2 := hr2.blk.lt
          clear hO2 hB2 hbA2 hs2 hf2 hr2 ho2 HR
          go_wp2_with fail
          refine (wt_runes rx rn _ _ HRX.out HRN.out hrl (by simp)).mono ?_
          rintro e w3 ⟨A3, c3, rfl, hm3, hb3⟩
          have hB3 : Below wa.heap.size wa w3 := bw_t (HB2.out.alloc HB2.out.size _) hb3
          have hF3 : Blk w3 w2.heap.size 28 #[.int .i64 0, .int .i64 0] := (Blk.new w2 _ _).below hb3 (by simp)
          have hl3 := hF3.lt
          have hbA3 := (Below.refl w3.heap.size w3).alloc (Nat.le_refl _) (.cells #[.int .i64 0, .int .i64 0] 28)
          have hFA := hF3.alloc (.cells #[.int .i64 0, .int .i64 0] 28)
          have k0 : (w3.alloc (.cells #[.int .i64 0, .int .i64 0] 28)).cell? ⟨w2.heap.size, 0, none⟩ = some (.int .i64 0) := hFA.cell 0
          have kg : (w3.alloc (.cells #[.int .i64 0, .int .i64 0] 28)).cell? ⟨gb, go' + k, none⟩ = some (.slice rA rn rc) := (hbA3.cell (p := ⟨gb, go' + k, none⟩) (Nat.lt_of_lt_of_le HGB.out.1 hB3.size)).trans (((hB3.cell (p := ⟨gb, go' + k, none⟩) HGB.out.1)).trans HGB.out.2)
          have HM3 := hid (IRd.below_ hm3 hbA3)
          have HROW3 := hid (IRd.below_ (IRd.below_ HROW.out.rd (HBw.out.trans (hB3.mono HBw.out.size))) hbA3)
          have HB3 := hid hB3
          have HBA3 := hid hbA3
          have HB23 := hid (bw_t (bw_a (Below.refl _ w2) _) hb3)
          clear hcv hB3 hF3 hbA3 hFA hm3 hb3
          go_wp2_with fail
          refine (runes_same_at rx rx rn rn A3 rA c3 rc _ HRN.out HRN.out (by omega) HM3.out HROW3.out).mono ?_
          rintro e w4 ⟨rfl, nd, rfl⟩
          rw [show decide (rx = rx) = true from by simp]
          go_wp2_with fail
          exact ⟨⟨k + 1, by omega, by go_num, by rw [HP'.out]; exact HR2.out.below (bw_d (bw_a HB23.out _) nd), HO2.out.trans (.of_below (bw_d (bw_a HB23.out _) nd))⟩, by simp [intOf] <;> omega⟩
        · obtain rfl : k = gn := by omega
          have hpE : (encs (T.take k)).length = n := by
            rw [List.take_of_length_le (by have := HTL.out; omega), HE.out, HEN.out]
          rw [hpE] at HR
          have hleft : ∀ i, Calls Tryd.prog 11 #[.pointer (some ⟨q, 0, none⟩)] (wr.drewN i) fun e w' => e = .returned (.int .i64 0) ∧ ∃ n, w' = (wr.drewN i).drewN n := by
            intro i
            have h6 := ileft_any _ q A c E n (HR.out.below (below_drewN (Below.refl _ _) i))
            rwa [show ((E.length - n : Nat) : Int) = 0 from by rw [HEN.out]; simp] at h6
          have HLEFT := hid hleft
          have hdone : ∀ i, Below w.heap.size w (wr.drewN i) := fun i => bw_t HBw.out (bw_d HBR.out i)
          have HDONE := hid hdone
          clear hleft hdone
          by_cases hl1 : less < 1
          · go_wp2_with fail
            refine (HLEFT.out 0).mono ?_
            rintro e w4 ⟨rfl, i1, rfl⟩
            go_wp2_with fail
            refine (HLEFT.out i1).mono ?_
            rintro e w4 ⟨rfl, i2, rfl⟩
            go_wp2_with fail
            go_ret
            exact ⟨rfl, HDONE.out (i1 + i2)⟩
          by_cases hl2 : (n : Int) < less
          · go_wp2_with fail
            refine (HLEFT.out 0).mono ?_
            rintro e w4 ⟨rfl, i1, rfl⟩
            go_wp2_with fail
            refine (HLEFT.out i1).mono ?_
            rintro e w4 ⟨rfl, i2, rfl⟩
            go_wp2_with fail
            go_ret
            exact ⟨rfl, HDONE.out (i1 + i2)⟩
          · obtain ⟨ls, rfl⟩ : ∃ ls : Nat, less = (ls : Int) := ⟨less.toNat, by omega⟩
            go_wp2_with fail
            refine (HLEFT.out 0).mono ?_
            rintro e w4 ⟨rfl, i1, rfl⟩
            have hcb : n ≤ bc := by have := HBS.out.cap; rw [List.length_map, HEN.out] at this; exact this
            have hcb2 : (n : Int) - (ls : Int) ≤ (bc : Int) := by omega
            have hcb3 : (0 : Int) ≤ (n : Int) - (ls : Int) := by omega
            have hwr : IntKind.i64.wrap ((n : Int) - (ls : Int)) = (n : Int) - (ls : Int) := IntWalk.i64_in _ (by omega)
            have htn : ((n : Int) - (ls : Int)).toNat = n - ls := by omega
            go_wp2_with fail
            obtain ⟨N, hN⟩ : ∃ N, n - ls = N := ⟨_, rfl⟩
            have hNn : N < n := by omega
            have hN2 : N < (encs T).length := by rw [HE.out, HEN.out]; exact hNn
            have hEN : (E.take N).length = N := by rw [List.length_take, HEN.out]; omega
            have hBx : Below wa.heap.size wa (wr.drewN i1) := bw_d HBR.out i1
            have hnew := new_any (E.take N) N bA bc (wr.drewN i1) hEN (by omega) ((HBS.out.below hBx).takeB N)
            rw [hN]
            refine hnew.mono ?_
            rintro e wm ⟨q2, A2, c2, rfl, hr2, hq2, hfar2, hbm⟩
            have HR2 := hid hr2
            have HBM := hid (bw_t hBx hbm)
            have hq2a : wa.heap.size ≤ q2 := Nat.le_trans hBx.size hq2
            have hwm : wa.heap.size ≤ wm.heap.size := HBM.out.size
            have HENN := hid hEN
            have HN2 := hid hN2
            have HN := hid hN
            clear hr2 hfar2 hbm hnew hBx hEN hN2 hN hcb hcb2 hcb3 hwr htn HLEFT HDONE HR HO HBR
            generalize wr.drewN i1 = wx at *
            go_wp2_with fail
            go_loopw [17] (fun i wr => ∃ x p : Nat, x ≤ k ∧ i = .int .i64 (x : Int) ∧ (encs (T.take x)).length = p ∧ p ≤ N ∧ Rin 50 wr q2 A2 c2 (E.take N) p ∧ Only q2 wm wr) (fun i _ => k + 1 - (intOf i).toNat)
            case atStart => exact ⟨0, 0, by omega, rfl, by simp [encs], by omega, HR2.out, Only.refl _ _⟩
            case round =>
              obtain ⟨x, p, hx, rfl, hp, hpN, hr, ho⟩ := hrel
              have hleft := ileft_any _ q2 A2 c2 (E.take N) p hr
              rw [HENN.out] at hleft
              have HR := hid hr
              have HO := hid ho
              have HP := hid hp
              have hdone : ∀ W', Below wr.heap.size wr W' ∨ Only q2 wr W' → Below w.heap.size w W' := by
                intro W' h
                have h1 : Only q2 wm W' := HO.out.trans (h.elim (fun h => .of_below h) id)
                exact bw_t HBw.out (HBM.out.trans (h1.below hq2a hwm))
              have HDONE := hid hdone
              clear hr ho hp hdone
              have hxk : (x : Int) ≤ (k : Int) := by omega
              by_cases hlt : p < N
              · obtain ⟨lf, hlf⟩ : ∃ lf : Int, ((N - p : Nat) : Int) = lf := ⟨_, rfl⟩
                have hlf0 : 0 < lf := by omega
                rw [hlf] at hleft
                have hcut := fun W h => wt_cut (w := W) (q := q2) (A := A2) (c := c2) (E := E.take N) (T := T) x p N HT1.out (by rw [HE.out]) HN2.out HP.out hpN h
                have HL := hid hleft
                have HC := hid hcut
                clear hleft hcut hlf
                go_wp2_with fail
                refine HL.out.mono ?_
                rintro e w4 ⟨rfl, i2, rfl⟩
                go_wp2_with fail
                refine (HC.out _ (HR.out.below (below_drewN (Below.refl _ wr) i2))).mono ?_
                rintro e w5 ⟨A5, c5, m5, er, pl, rfl, ho5, hxT, hcase⟩
                have hxk2 : (x : Int) < (k : Int) := by have := HTL.out; omega
                rcases hcase with rfl | ⟨rfl, p', hp', hpN', hr5⟩
                · clear HL HC
                  go_wp2_with fail
                  go_ret
                  exact ⟨ret_bool (by simp; try omega), HDONE.out _ (.inr ((((Only.refl _ wr).drewN i2).trans ho5).alloc _))⟩
                · have HP' := hid hp'
                  have HR5 := hid hr5
                  clear HL HC hp' hr5
                  go_wp2_with fail
                  have hal := (Below.refl w5.heap.size w5).alloc (Nat.le_refl _) (.cells #[.int .i64 0, .int .i64 (pl : Int)] 28)
                  exact ⟨⟨x + 1, p', by omega, by go_num, HP'.out, hpN', HR5.out.below hal, (((HO.out.drewN i2).trans ho5)).alloc _⟩, by simp [intOf] <;> omega⟩
              · have h0 : ((N - p : Nat) : Int) = 0 := by omega
                rw [h0] at hleft
                have hxk2 : (x : Int) < (k : Int) := by
                  apply Int.lt_of_not_ge
                  intro h
                  have h1 := HP.out
                  rw [List.take_of_length_le (by have := HTL.out; omega), HE.out, HEN.out] at h1
                  omega
                have HL := hid hleft
                clear hleft h0
                go_wp2_with fail
                refine HL.out.mono ?_
                rintro e w4 ⟨rfl, i2, rfl⟩
                go_wp2_with fail
                go_ret
                exact ⟨ret_bool (by simp; try omega), HDONE.out _ (.inl (below_drewN (Below.refl _ wr) i2))⟩
theorem opensRow (W : World) : Opens Tryd.prog W 25 rowv (rowOk W) :=
  (opens_slice (size := 1) Tryd.underlying25 (by kernel_rfl) (by omega) (fun _ => rfl) (opens_int Tryd.underlying21)).imp fun s hs => ⟨fun n hn => wf_i32 (hs.1 n hn), hs.2⟩
end Go.Proofs.YtapgjkbodfpdaaaDoor
