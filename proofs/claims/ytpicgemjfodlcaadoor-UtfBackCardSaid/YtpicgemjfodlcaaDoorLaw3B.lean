/- The walks of UtfTexts and UtfBack. -/
import Derived.Test.YtpicgemjfodlcaaDoorProg
import Derived.Test.YtpicgemjfodlcaaDoorBase
import Derived.Test.YtpicgemjfodlcaaDoorLive3
import Derived.Test.YtpicgemjfodlcaaDoorLaw3A
import Derived.Test.YtpicgemjfodlcaaDoorRuneBytes
set_option linter.unusedVariables false
namespace Go.Proofs.YtpicgemjfodlcaaDoor
open Go.RowKit
/-- The string of bytes. -/
def mkS (l : List UInt8) : ByteArray := ⟨l.toArray⟩
theorem mkS_of {s : ByteArray} {l : List UInt8} (h : s.data.toList = l) : s = mkS l := by
  subst h; unfold mkS; simp
theorem mkS_data (l : List UInt8) : (mkS l).data.toList = l := by simp [mkS]
theorem mkS_nil : mkS [] = ⟨#[]⟩ := rfl
theorem mkS_size (l : List UInt8) : (mkS l).size = l.length := by show l.toArray.size = _; simp
theorem mkS_append (a b : List UInt8) : mkS a ++ mkS b = mkS (a ++ b) := by
  apply mkS_of; simp [mkS]
theorem mkS_inj {a b : List UInt8} (h : mkS a = mkS b) : a = b := by rw [← mkS_data a, h, mkS_data]
set_option maxRecDepth 100000 in
set_option maxHeartbeats 2000000 in
theorem texts_any (l : List Int) (len : Nat) (A : Option Addr) (c : Nat) (w : World) (hn : l.length = len) (hr : ∀ n ∈ l, -2147483648 ≤ n ∧ n ≤ 2147483647) (hs : Sl w A c (l.map iv)) (hT : Tab w) :
    Calls Tryd.prog 4 #[.slice A len c] w fun e w' => e = .returned (.bool true) ∧ Below w.heap.size w w' := by
  by_cases hlen : 500 < len
  · go_enter Tryd.func4, Tryd.ntmps4
    go_wp2_with fail
    refine (live3_any _ hT).mono ?_
    rintro e w1 ⟨rfl, hb1⟩
    go_wp2_with fail
    go_ret
    exact ⟨rfl, hb1⟩
  · have HN := hid hn
    have HR := hid hr
    have HX := hid (fun w hs hT => text_any l len A c w hn (by omega) hr hs hT)
    have h1 : txB l = if txBad l = none then textB (l.map Int.toNat) else [] := rfl
    have h2 : txE l = if txBad l = none then 0 else 1 := rfl
    have h3 : txA l = (txBad l).getD 0 := rfl
    generalize txB l = tb at *
    generalize txE l = te at *
    generalize txA l = ta at *
    have H1 := hid h1
    have H2 := hid h2
    have H3 := hid h3
    clear hn hr h1 h2 h3
    have hrd : IRd w A l := hs.rd
    go_enter Tryd.func4, Tryd.ntmps4
    go_wp2_with fail
    refine (live3_any _ hT).mono ?_
    rintro e w1 ⟨rfl, hb1⟩
    have hs1 := hs.below hb1
    have hT1 := hT.below hb1
    go_wp2_with fail
    refine (HX.out _ hs1 hT1).mono ?_
    rintro e w2 ⟨t, rfl, ht, hb2⟩
    obtain rfl := mkS_of ht
    clear ht
    have hb12 := bw_t hb1 hb2
    have hrd2 : IRd w2 A l := hrd.below hb12
    go_wp2_with fail
    generalize hW3 : w2.alloc _ = W3
    have hb3 : Below w.heap.size w W3 := by rw [← hW3]; exact bw_a hb12 _
    have hrd3 : IRd W3 A l := by rw [← hW3]; exact hrd2.below ((Below.refl _ _).alloc (Nat.le_refl _) _)
    have hq : Blk W3 w2.heap.size 27 #[.int .i64 te, .int .i64 ta] := by rw [← hW3]; exact Blk.new _ _ _
    clear hW3
    go_loopw [5, 6] (fun v i wr => ∃ k : Nat, k ≤ len ∧ i = .int .i64 (k : Int) ∧ v = .string (mkS (textB ((l.map Int.toNat).take k))) ∧ Below W3.heap.size W3 wr ∧ (∀ j (hj : j < l.length), j < k → runeI l[j] = true)) (fun _ i _ => len - (intOf i).toNat)
    case atStart => exact ⟨0, by omega, rfl, by simp [textB, mkS], Below.refl _ _, by omega⟩
    case round =>
      obtain ⟨k, hk, rfl, rfl, hB, hall⟩ := hrel
      have hqr := hq.below hB hq.lt
      have hql := hqr.lt
      have c0 : wr.cell? ⟨w2.heap.size, 0, none⟩ = some (.int .i64 te) := hqr.cell 0
      have c1 : wr.cell? ⟨w2.heap.size, 1, none⟩ = some (.int .i64 ta) := hqr.cell 1
      have HALL := hid hall
      clear hall hqr
      by_cases hlt : k < len
      · have hkl : k < l.length := by have := HN.out; omega
        obtain ⟨b, off, rfl, hb, hc⟩ := IRd.at_ (w := wr) (ns := l) (hrd3.below hB) hkl
        have hx := HR.out l[k] (List.getElem_mem hkl)
        have hsn := textB_snoc l hkl
        rw [List.map_take, List.map_take] at hsn
        have hbad := fun h => txBad_some hkl (fun j hj => HALL.out j (by omega) hj) h
        have hnext : runeI l[k] = true → ∀ j (hj : j < l.length), j < k + 1 → runeI l[j] = true := by
          intro h j hj hjk
          by_cases e : j = k
          · subst e; exact h
          · exact HALL.out j hj (by omega)
        generalize l[k] = x at *
        have hru := rune_any x wr hx.1 hx.2
        generalize hri : runeI x = ri at *
        cases ri
        · have hbk := hbad rfl
          obtain rfl : te = 1 := by have := H2.out; rw [hbk] at this; simpa using this
          obtain rfl : ta = k := by have := H3.out; rw [hbk] at this; simpa using this
          obtain rfl : tb = [] := by have := H1.out; rw [hbk] at this; simpa using this
          rw [mkS_nil]
          have HRU := hid hru
          clear hru hnext hbad hbk hsn hri
          go_wp2_with fail
          refine HRU.out.mono ?_
          rintro e w4 ⟨rfl, rfl⟩
          go_wp2_with fail
          go_ret
          exact ⟨rfl, bw_t hb3 hB⟩
        · obtain ⟨m, rfl⟩ : ∃ m : Nat, x = (m : Int) := by
            refine ⟨x.toNat, ?_⟩
            have : 0 ≤ x := by simp [runeI] at hri; omega
            omega
          have hm := runeI_le hri
          have hrb := rbytes_any m wr hm
          have HRU := hid hru
          have HRB := hid hrb
          have HNX := hid (hnext rfl)
          have HSN := hid hsn
          clear hru hrb hnext hbad hsn hri
          go_wp2_with fail
          refine HRU.out.mono ?_
          rintro e w4 ⟨rfl, rfl⟩
          go_wp2_with fail
          refine HRB.out.mono ?_
          rintro e w5 ⟨s5, rfl, hs5, hb5⟩
          obtain rfl := mkS_of hs5
          clear hs5
          have hap := mkS_append (textB ((l.map Int.toNat).take k)) (runeB m)
          rw [show runeB m = runeB ((m : Int).toNat) from rfl, ← HSN.out, show (m : Int).toNat = m from rfl] at hap
          have hsz4 : ¬ 9223372036854775807 < (mkS (textB ((l.map Int.toNat).take k))).size + (mkS (runeB m)).size := by
            rw [mkS_size, mkS_size]
            have g1 := textB_le ((l.map Int.toNat).take k)
            have g2 := runeB_le m
            have g3 : ((l.map Int.toNat).take k).length ≤ k := List.length_take_le _ _
            omega
          go_wp2_with fail
          go_roundw
          case rel => exact ⟨k + 1, by omega, by go_num, by rw [← hap], hB.trans (hb5.mono hB.size), HNX.out⟩
          case measure => simp [intOf]; omega
      · obtain rfl : k = len := by omega
        have hbn : txBad l = none := txBad_none fun j hj => HALL.out j hj (by have := HN.out; omega)
        obtain rfl : te = 0 := by have := H2.out; rw [hbn] at this; simpa using this
        obtain rfl : ta = 0 := by have := H3.out; rw [hbn] at this; simpa using this
        obtain rfl : tb = textB (l.map Int.toNat) := by have := H1.out; rw [hbn] at this; simpa using this
        rw [List.take_of_length_le (by rw [List.length_map]; have := HN.out; omega)]
        clear hbn
        go_wp2_with fail
        go_ret
        exact ⟨rfl, bw_t hb3 hB⟩
end Go.Proofs.YtpicgemjfodlcaaDoor
