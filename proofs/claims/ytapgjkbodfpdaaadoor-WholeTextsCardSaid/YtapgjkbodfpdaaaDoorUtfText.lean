/- utf.Text: a walk. -/
import Derived.Test.YtapgjkbodfpdaaaDoorProg
import Derived.Test.YtapgjkbodfpdaaaDoorBase
import Derived.Test.YtapgjkbodfpdaaaDoorUtfPut
import Derived.Test.YtapgjkbodfpdaaaDoorSame32
import Derived.WalkSmall
import Derived.Laws.BytesArg
set_option linter.unusedVariables false
namespace Go.Proofs.YtapgjkbodfpdaaaDoor
open Go.RowKit
/-- The place of the first number that is no rune. -/
def txBad (l : List Int) : Option Nat := l.findIdx? fun n => !runeI n
def txB (l : List Int) : List UInt8 := if txBad l = none then textB (l.map Int.toNat) else []
def txE (l : List Int) : Nat := if txBad l = none then 0 else 1
def txA (l : List Int) : Nat := (txBad l).getD 0
theorem txBad_some {l : List Int} {k : Nat} (hk : k < l.length) (h : ∀ j (hj : j < k), runeI (l[j]'(by omega)) = true) (hb : runeI l[k] = false) : txBad l = some k := by
  unfold txBad
  rw [List.findIdx?_eq_some_iff_getElem]
  exact ⟨hk, by simp [hb], fun j hj => by simp [h j hj]⟩
theorem txBad_none {l : List Int} (h : ∀ j (hj : j < l.length), runeI l[j] = true) : txBad l = none := by
  unfold txBad
  rw [List.findIdx?_eq_none_iff]
  intro n hn
  obtain ⟨i, hi, rfl⟩ := List.getElem_of_mem hn
  simp [h i hi]
theorem textB_snoc (l : List Int) {k : Nat} (hk : k < l.length) : textB ((l.take (k + 1)).map Int.toNat) = textB ((l.take k).map Int.toNat) ++ runeB l[k].toNat := by
  rw [List.take_succ_eq_append_getElem hk, List.map_append, textB_append]; simp [textB]
theorem conv_own {P : Program} {w : World} {B t : Nat} {src dst e : TypeId} {v : Value} {n : Nat} {vs : List UInt8} (hrow : w.ownsRow B t 1 v n (vs.map bv)) (hs : P.underlying src = some (.slice e)) (he : P.underlying e = some (.int .u8)) (hd : P.underlying dst = some .string) :
    ∃ s : ByteArray, s.data.toList = vs ∧ (convert src dst v).run P w = .ok (.string s) w := by
  obtain ⟨A, c, rfl, hn, hsl⟩ := Sl.of_own hrow
  rw [List.length_map] at hn
  subst hn
  cases A with
  | none =>
    obtain hnil := hsl.rd.none_nil
    obtain rfl : vs = [] := by simpa using hnil
    obtain rfl := hsl.nil0 rfl
    refine ⟨⟨#[]⟩, rfl, ?_⟩
    exact run_convert_bytes_nil w src e hs he 0 0 dst hd
  | some a =>
    refine ⟨⟨vs.toArray⟩, by simp, ?_⟩
    exact run_convert_bytes_back _ src dst e _ _ vs hs he hd fun j hj => by
      have := hsl.rd.addr j (bv vs[j]) (by simp [hj])
      simpa [bv] using this
set_option maxRecDepth 100000 in
set_option maxHeartbeats 2000000 in
theorem text_any (l : List Int) (len : Nat) (A : Option Addr) (c : Nat) (w : World) (hn : l.length = len) (hl : len ≤ 100000) (hr : ∀ n ∈ l, -2147483648 ≤ n ∧ n ≤ 2147483647) (hs : Sl w A c (l.map iv)) (hT : Tab w) :
    Calls Tryd.prog 5 #[.slice A len c] w fun e w' => ∃ s, e = .returned (.tuple #[.string s, .agg #[.int .i64 (txE l : Nat), .int .i64 (txA l : Nat)]]) ∧ s.data.toList = txB l ∧ Below w.heap.size w w' := by
  have hg0 := hT.1.lt0
  have hg1 := hT.2.lt0
  have hrd : IRd w A l := hs.rd
  have HN := hid hn
  have HR := hid hr
  clear hn hr
  go_enter Tryd.func5, Tryd.ntmps5
  go_wp2_with fail
  generalize hW0 : w.alloc _ = W0
  have hz0' : W0.heap.size = w.heap.size + 1 := by rw [← hW0]; simp
  have hB0 : Below w.heap.size w W0 := by rw [← hW0]; exact (Below.refl _ w).alloc (Nat.le_refl _) _
  have hq : Blk W0 w.heap.size 28 #[.int .i64 0, .int .i64 0] := by rw [← hW0]; exact Blk.new w _ _
  clear hW0
  go_loopw [4, 10] (fun v i wr => ∃ k n : Nat, k ≤ len ∧ n ≤ 4 * k ∧ i = .int .i64 (k : Int) ∧ wr.ownsRow W0.heap.size 5 1 v n ((textB ((l.take k).map Int.toNat)).map bv) ∧ Below W0.heap.size W0 wr ∧ (∀ j (hj : j < l.length), j < k → runeI l[j] = true)) (fun _ i _ => len - (intOf i).toNat)
  case atStart => exact ⟨0, 0, by omega, by omega, rfl, World.ownsRow_nil _ _ _ _, Below.refl _ _, by omega⟩
  case round =>
    obtain ⟨k, n, hk, hnk, rfl, hrow, hB, hall⟩ := hrel
    have hqr := hq.below hB (by omega)
    have c0 : wr.cell? ⟨w.heap.size, 0, none⟩ = some (.int .i64 0) := hqr.cell 0
    have c1 : wr.cell? ⟨w.heap.size, 1, none⟩ = some (.int .i64 0) := hqr.cell 1
    have f0 := hqr.frozen 0
    have f1 := hqr.frozen 1
    have hTr : Tab wr := (hT.below hB0).below hB
    have HALL := hid hall
    have hszr := hB.size
    clear hall
    by_cases hlt : k < len
    · have hkl : k < l.length := by have := HN.out; omega
      obtain ⟨b, off, rfl, hb, hc⟩ := IRd.at_ (w := wr) (ns := l) ((hrd.below hB0).below hB) hkl
      have hx := HR.out l[k] (List.getElem_mem hkl)
      have hsn := textB_snoc l hkl
      have hbad := fun h => txBad_some hkl (fun j hj => HALL.out j (by omega) hj) h
      have hnext : runeI l[k] = true → ∀ j (hj : j < l.length), j < k + 1 → runeI l[j] = true := by
        intro h j hj hjk
        by_cases e : j = k
        · subst e; exact h
        · exact HALL.out j hj (by omega)
      generalize l[k] = x at *
      have hwid := uwidth_any x wr hx.1 hx.2 hTr
      by_cases hri : runeI x = true
      · obtain ⟨m, rfl⟩ : ∃ m : Nat, x = (m : Int) := by
          refine ⟨x.toNat, ?_⟩
          have : 0 ≤ x := by simp [runeI] at hri; omega
          omega
        have hwn : widN (m : Int) = (runeB m).length := by rw [widN, if_pos hri]; rfl
        rw [hwn] at hwid
        have hput := fun v => uput_any m v n W0.heap.size (runeB m).length ((textB ((l.take k).map Int.toNat)).map bv) wr hri rfl hTr (by omega) (by omega) hszr (by omega)
        have hp0 := runeB_pos m
        have hp4 := runeB_le m
        rw [← List.map_append, show runeB m = runeB ((m : Int).toNat) from rfl, ← hsn] at hput
        rw [show (m : Int).toNat = m from rfl] at hput
        have HWID := hid hwid
        have HPUT := hid hput
        have HNX := hid (hnext hri)
        clear hwid hput hnext hbad hwn hsn hri
        generalize (runeB m).length = z at *
        have hz0 : ((z : Int) == 0) = false := by simp; omega
        go_wp2_with fail
        refine HWID.out.mono ?_
        rintro e w1 ⟨rfl, rfl⟩
        go_wp2_with fail
        refine (HPUT.out _ hrow).mono ?_
        rintro e w1 ⟨v', rfl, hown', hb'⟩
        go_wp2
        go_roundw
        case rel => exact ⟨k + 1, n + z, by omega, by omega, by go_num, hown', hB.trans hb', HNX.out⟩
        case measure => simp [intOf]; omega
      · have hwn : widN x = 0 := by rw [widN, if_neg hri]
        rw [hwn] at hwid
        have hbk := hbad (by simpa using hri)
        have h1 : txB l = [] := by rw [txB, hbk]; rfl
        have h2 : txE l = 1 := by rw [txE, hbk]; rfl
        have h3 : txA l = k := by rw [txA, hbk]; rfl
        have H1 := hid h1
        have H2 := hid h2
        have H3 := hid h3
        have HWID := hid hwid
        clear hwid hnext hbad hwn hsn hri hbk h1 h2 h3
        go_wp2_with fail
        refine HWID.out.mono ?_
        rintro e w1 ⟨rfl, rfl⟩
        go_wp2
        refine bodyPost_ret (v := .tuple #[.string ⟨#[]⟩, .agg #[.int .i64 1, .int .i64 (k : Int)]]) (by simp [results, Tryd.results5, go_sem, c0, c1]) rfl ⟨_, by rw [H2.out, H3.out]; rfl, by rw [H1.out], ?_⟩
        exact ((hB0.trans (hB.mono (by omega))).setCell (p := ⟨w.heap.size, 0, none⟩) (Nat.le_refl _) _).setCell (p := ⟨w.heap.size, 1, none⟩) (Nat.le_refl _) _
    · obtain rfl : k = len := by omega
      have hbn : txBad l = none := txBad_none fun j hj => HALL.out j hj (by have := HN.out; omega)
      have h1 : txB l = textB (l.map Int.toNat) := by rw [txB, if_pos hbn]
      have h2 : txE l = 0 := by rw [txE, if_pos hbn]
      have h3 : txA l = 0 := by rw [txA, hbn]; rfl
      rw [List.take_of_length_le (by have := HN.out; omega)] at hrow
      obtain ⟨s, hs1, hs2⟩ := conv_own (P := Tryd.prog) (dst := 9) hrow Tryd.underlying24 Tryd.underlying5 Tryd.underlying9
      have H1 := hid h1
      have H2 := hid h2
      have H3 := hid h3
      have HS1 := hid hs1
      clear h1 h2 h3 hs1 hbn
      go_wp2
      refine bodyPost_ret (v := .tuple #[.string s, .agg #[.int .i64 0, .int .i64 0]]) (by simp [results, Tryd.results5, go_sem, c0, c1]) rfl ⟨_, by rw [H2.out, H3.out]; rfl, by rw [H1.out, HS1.out], ?_⟩
      exact ((hB0.trans (hB.mono (by omega))).setCell (p := ⟨w.heap.size, 0, none⟩) (Nat.le_refl _) _).setCell (p := ⟨w.heap.size, 1, none⟩) (Nat.le_refl _) _
end Go.Proofs.YtapgjkbodfpdaaaDoor
