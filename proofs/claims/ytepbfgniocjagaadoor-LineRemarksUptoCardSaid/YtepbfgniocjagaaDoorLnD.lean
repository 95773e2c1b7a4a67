/- The document's All (layer 17): a walk. -/
import Derived.Test.YtepbfgniocjagaaDoorLnC
import Derived.Laws.OwnMore
set_option linter.unusedVariables false
namespace Go.Proofs.YtepbfgniocjagaaDoor
open Go.RowKit
theorem Tryd.infoRl : (Tryd.prog.info? 45).map (fun i => (i.zero, i.size, i.bytes)) = some (some (.agg #[.int .i64 0, .int .i64 0, .string ⟨#[]⟩]), 3, 32) := by kernel_rfl
/-- A box, stored. -/
theorem rst1 {W : World} {s : Nat} {t' : TypeId} {b c : Value} (h2 : Blk W s t' #[b, c]) (y z : Value) :
    ∃ W9, W9 = (W.setCell ⟨s, 0, none⟩ y).setCell ⟨s, 1, none⟩ z ∧ Blk W9 s t' #[y, z] ∧ Chg (fun q => q = s) W W9 := by
  refine ⟨_, rfl, ?_, ?_⟩
  · have := (h2.set_ 0 y).set_ 1 z
    simpa using this
  · exact ((Chg.refl (fun q => q = s) W).set_ (.inl rfl) 0 y).set_ (.inl rfl) 1 z
/-- What the document's All answers. -/
def LDR (w : World) (bs : List UInt8) (e : Ending) (w' : World) : Prop :=
  ∃ A c, e = .returned (.tuple #[.slice A (allL bs).1.length c, .agg #[.int .i64 (allL bs).2.1, .int .i64 (allL bs).2.2]]) ∧ w'.ownsRow w.heap.size 45 3 (.slice A (allL bs).1.length c) (allL bs).1.length ((allL bs).1.flatMap lcC) ∧ Below w.heap.size w w'
theorem LDR_of {w w' : World} {bs : List UInt8} {e : Ending} {rows : List (Nat × Nat × List UInt8)} {er at' : Int} (h : allL bs = (rows, er, at')) (A : Option Addr) (c : Nat) (he : e = .returned (.tuple #[.slice A rows.length c, .agg #[.int .i64 er, .int .i64 at']]))
    (hr : w'.ownsRow w.heap.size 45 3 (.slice A rows.length c) rows.length (rows.flatMap lcC)) (hb : Below w.heap.size w w') : LDR w bs e w' := by
  unfold LDR; rw [h]; exact ⟨A, c, he, hr, hb⟩
theorem sL_at (bs : List UInt8) (j : Nat) (hj : j < (lnsL bs).length) : (sL (lnsL bs))[j]? = some (.string ⟨(atLn bs j).toArray⟩) := by
  unfold sL atLn
  rw [List.getElem?_map, List.getElem?_eq_getElem hj, List.getD_eq_getElem?_getD, List.getElem?_eq_getElem hj]; rfl
theorem row_at {w : World} {B e : Nat} {A : Option Addr} {n c : Nat} {xs : List Value} (h : w.ownsRow B e 1 (.slice A n c) n xs) {j : Nat} (hj : j < n) : ∃ g, A = some ⟨g, 0, none⟩ := by
  rcases h.2 with ⟨h1, h2⟩ | ⟨g, cap, cur, h1, -⟩
  · injection h1; omega
  · injection h1 with h1; exact ⟨g, h1⟩
set_option maxRecDepth 100000 in
set_option maxHeartbeats 8000000 in
theorem rall17_any (s0 : ByteArray) (bs : List UInt8) (w : World) (hs : s0.data.toList = bs) (hl : bs.length ≤ 1000000) :
    Calls Tryd.prog 10 #[.string s0] w (LDR w bs) := by
  obtain ⟨i0, hi0, hz0, hz1, hz2⟩ := info_parts Tryd.infoRl
  obtain ⟨s, hsz⟩ : ∃ s, w.heap.size = s := ⟨_, rfl⟩
  have hsize : s0.size = bs.length := by rw [Lib.size_eq, hs]
  have hlong : ¬ 1048576 < (bs.length : Int) := by omega
  have hfi := fun W => rfirst_any s0 bs W hs (by omega)
  have hk1 := Blk.new w 28 #[.int .i64 0, .int .i64 0]
  have hb0 := bw_a (Below.refl _ w) (.cells #[.int .i64 0, .int .i64 0] 28)
  rw [hsz] at hk1
  obtain ⟨Q, hQ⟩ : ∃ Q, Q = LDR w bs := ⟨_, rfl⟩
  rw [← hQ]
  have HQ := hid hQ
  have HF := hid hfi
  have HS := hid hs
  have HK1 := hid hk1
  have HB0 := hid hb0
  clear hfi hs hk1 hb0 hQ
  cases hsc : (scan bs 0).2 with
  | some k =>
    have hkl := spot_lt hsc
    have hal := allL_utf hsc
    rw [cnt_spot hsc] at hal
    have hx : (s0.extract 0 k).data.toList = bs.take k := ext_take s0 bs k HS.out
    have hxz : (s0.extract 0 k).size = k := by rw [Lib.size_eq, hx, List.length_take]; omega
    have hsp := fun W => rsplit17_any (s0.extract 0 k ++ ⟨#[120]⟩) (bs.take k ++ [120]) W (by rw [app_data, hx]) (by simp; omega)
    rw [← cntL_spl _ _ (Nat.le_refl _)] at hal
    rw [hsc] at HF
    have HAL := hid hal
    have HSP := hid hsp
    clear hsp hal hsc hx
    generalize (lnsL (bs.take k ++ [120])).length = cn at *
    generalize bs.length = n at *
    have hk2 : (k : Int) ≤ (n : Int) := by omega
    have hk3 : ¬ 9223372036854775807 < k + 1 := by omega
    have hk4 : (s0.extract 0 k).size + 1 = k + 1 := by omega
    go_enter Tryd.func10, Tryd.ntmps10
    go_wp2_with fail
    refine (HF.out _).mono ?_
    rintro e w1 ⟨rfl, rfl⟩
    simp only [placeI]
    go_wp2_with fail
    refine (HSP.out _).mono ?_
    rintro e w2 ⟨v, rfl, hrow, hb⟩
    obtain ⟨A, c, rfl⟩ := row_sl hrow
    have r1 := HK1.out.below hb HK1.out.lt
    have hb4 := bw_t HB0.out hb
    have c2 := r1.cell 0
    have c3 := r1.cell 1
    have f2 := r1.frozen 0
    have f3 := r1.frozen 1
    simp only [List.getElem?_toArray, List.getElem?_cons_zero, List.getElem?_cons_succ] at c2 c3
    have R1 := hid r1
    have HB4 := hid hb4
    clear r1 hb4 hb hrow
    go_wp2_with fail
    obtain ⟨W9, hW9, q1, hC⟩ := rst1 R1.out (.int .i64 9) (.int .i64 (cn : Int))
    rw [← hW9]
    clear hW9
    have y0 := q1.cell 0
    have y1 := q1.cell 1
    simp only [List.getElem?_toArray, List.getElem?_cons_zero, List.getElem?_cons_succ] at y0 y1
    refine bodyPost_ret (v := .tuple #[.slice none 0 0, .agg #[.int .i64 9, .int .i64 (cn : Int)]]) (by simp [results, Tryd.results10, go_sem, y0, y1]) rfl ?_
    rw [HQ.out]
    exact LDR_of HAL.out none 0 rfl (World.ownsRow_nil _ _ _ _) (HB4.out.trans (hC.below (fun q hq => by omega) (by have := HB4.out.size; omega)))
  | none =>
    have hdt := fun h => allL_ok (bs := bs) hsc h
    have hdn := fun j h1 h2 h3 => allL_dirt (bs := bs) (j := j) hsc h1 h2 h3
    have hsp := fun W => rsplit17_any s0 bs W HS.out (by omega)
    have hsa := sL_at bs
    have hlb : (lnsL bs).length ≤ 1000001 := by have := cntL_le bs; have := cntL_spl bs.length bs (Nat.le_refl _); omega
    rw [hsc] at HF
    have HDT := hid hdt
    have HDN := hid hdn
    have HSP := hid hsp
    have HSA := hid hsa
    clear hdt hdn hsc hsp hsa
    generalize hN : (lnsL bs).length = N at *
    go_enter Tryd.func10, Tryd.ntmps10
    go_wp2_with fail
    refine (HF.out _).mono ?_
    rintro e w1 ⟨rfl, rfl⟩
    simp only [placeI]
    go_wp2_with fail
    refine (HSP.out _).mono ?_
    rintro e w2 ⟨v, rfl, hrow, hb⟩
    obtain ⟨A, c, rfl⟩ := row_sl hrow
    have r1 := HK1.out.below hb HK1.out.lt
    have hb4 := bw_t HB0.out hb
    rw [World.size_alloc, hsz] at hrow
    have c2 := r1.cell 0
    have c3 := r1.cell 1
    have f2 := r1.frozen 0
    have f3 := r1.frozen 1
    simp only [List.getElem?_toArray, List.getElem?_cons_zero, List.getElem?_cons_succ] at c2 c3
    have R1 := hid r1
    have HR := hid hrow
    have HB4 := hid hb4
    have hs2 : s + 1 ≤ w2.heap.size := by have := r1.lt; omega
    clear r1 hb4 hb hrow HSP HF HK1 HB0
    go_wp2_with fail
    go_loop [7] (fun i => ∃ j : Nat, j ≤ N ∧ i = .int .i64 (j : Int) ∧ ∀ q, q < j → dirtyL (atLn bs q) = false) (fun i => N - (intOf i).toNat)
    case atStart => exact ⟨0, by omega, rfl, fun q hq => absurd hq (Nat.not_lt_zero _)⟩
    case round =>
      obtain ⟨j, hj, rfl, hno⟩ := hrel
      have HNO := hid hno
      clear hno
      by_cases hlt : j < N
      · obtain ⟨g, rfl⟩ := row_at HR.out hlt
        have hcell := (HR.out.cellAt j (by omega)).trans (HSA.out j hlt)
        have hL : (⟨(atLn bs j).toArray⟩ : ByteArray).data.toList = atLn bs j := by simp
        have hLl := atLn_le bs j
        have hnx : dirtyL (atLn bs j) = false → ∀ q, q < j + 1 → dirtyL (atLn bs q) = false := fun h0 q hq => by
          rcases Nat.lt_or_ge q j with hlt | hge
          · exact HNO.out q hlt
          · obtain rfl : q = j := by omega
            exact h0
        have hdn := fun h => HDN.out j hlt h HNO.out
        have HNX := hid hnx
        have HDJ := hid hdn
        clear hnx hdn HNO
        generalize (⟨(atLn bs j).toArray⟩ : ByteArray) = t at *
        generalize atLn bs j = L at *
        have htz : t.size = L.length := by rw [Lib.size_eq, hL]
        have HL := hid hL
        clear hL
        generalize hln : L.length = ln at *
        have HLN := hid hln
        clear hln
        go_wp2_with fail
        go_loop [8] (fun i => ∃ k : Nat, k ≤ ln ∧ i = .int .i64 (k : Int) ∧ dirtyL L = dirtyL (L.drop k)) (fun i => ln - (intOf i).toNat)
        case atStart => exact ⟨0, by omega, rfl, by simp⟩
        case round =>
          obtain ⟨k, hk, rfl, hsc⟩ := hrel
          have HC := hid hsc
          clear hsc
          by_cases hltk : k < ln
          · obtain ⟨ch, r, hd⟩ := str_cons HLN.out hltk
            obtain ⟨hi, hg⟩ := str_at HL.out hd
            have hx := ch.toNat_lt
            have hdnx := drop_next hd
            have hst : dirtyL (ch :: r) = (hidN ch.toNat || dirtyL r) := rfl
            generalize ch.toNat = x at *
            have HD := hid hd
            have HDX := hid hdnx
            have HST := hid hst
            clear hd hdnx hst
            by_cases h1 : x < 32
            · have HH := hid (show dirtyL L = true from by rw [HC.out, HD.out, HST.out, show hidN x = true from by simp [hidN]; omega]; rfl)
              go_wp2
              obtain ⟨W9, hW9, q1, hC⟩ := rst1 R1.out (.int .i64 3) (.int .i64 ((j : Int) + 1))
              rw [← hW9]
              clear hW9
              have y0 := q1.cell 0
              have y1 := q1.cell 1
              simp only [List.getElem?_toArray, List.getElem?_cons_zero, List.getElem?_cons_succ] at y0 y1
              refine bodyPost_ret (v := .tuple #[.slice none 0 0, .agg #[.int .i64 3, .int .i64 ((j : Int) + 1)]]) (by simp [results, Tryd.results10, go_sem, y0, y1]) rfl ?_
              rw [HQ.out]
              exact LDR_of (HDJ.out HH.out) none 0 (by rw [show ((j + 1 : Nat) : Int) = (j : Int) + 1 from by omega]; rfl) (World.ownsRow_nil _ _ _ _) (HB4.out.trans (hC.below (fun q hq => by omega) (by have := HB4.out.size; omega)))
            by_cases h2 : x = 127
            · have HH := hid (show dirtyL L = true from by rw [HC.out, HD.out, HST.out, show hidN x = true from by simp [hidN]; omega]; rfl)
              have q : ((x : Int) == 127) = true := by simp [h2]
              clear h2
              go_wp2
              obtain ⟨W9, hW9, q1, hC⟩ := rst1 R1.out (.int .i64 3) (.int .i64 ((j : Int) + 1))
              rw [← hW9]
              clear hW9
              have y0 := q1.cell 0
              have y1 := q1.cell 1
              simp only [List.getElem?_toArray, List.getElem?_cons_zero, List.getElem?_cons_succ] at y0 y1
              refine bodyPost_ret (v := .tuple #[.slice none 0 0, .agg #[.int .i64 3, .int .i64 ((j : Int) + 1)]]) (by simp [results, Tryd.results10, go_sem, y0, y1]) rfl ?_
              rw [HQ.out]
              exact LDR_of (HDJ.out HH.out) none 0 (by rw [show ((j + 1 : Nat) : Int) = (j : Int) + 1 from by omega]; rfl) (World.ownsRow_nil _ _ _ _) (HB4.out.trans (hC.below (fun q hq => by omega) (by have := HB4.out.size; omega)))
            · have HH := hid (show hidN x = false from by simp [hidN]; omega)
              have q : ((x : Int) == 127) = false := by simp; omega
              go_wp2
              go_round
              case rel => exact ⟨k + 1, by omega, by go_num, by rw [HC.out, HD.out, HST.out, HH.out, HDX.out]; rfl⟩
              case measure => simp [intOf] <;> omega
          · have HH := hid (show dirtyL L = false from by rw [HC.out, List.drop_eq_nil_of_le (by have := HLN.out; omega)]; rfl)
            go_wp2
            go_round
            case rel => exact ⟨j + 1, by omega, by go_num, HNX.out HH.out⟩
            case measure => simp [intOf] <;> omega
      · obtain rfl : j = N := by omega
        have HAL := hid (HDT.out HNO.out)
        have HNQ := hid HNO.out
        clear HNO HDT HDN
        go_wp2_with fail
        go_loopw [6, 9] (fun o i W => ∃ (k : Nat) (ov : Value), k ≤ j ∧ i = .int .i64 (k : Int) ∧ ov = o ∧ W.ownsRow (s + 1) 45 3 ov (acR bs k).length ((acR bs k).flatMap lcC) ∧ W.ownsRow (s + 1) 9 1 (.slice A j c) j (sL (lnsL bs)) ∧ Blk W s 28 #[.int .i64 0, .int .i64 0] ∧ Below w.heap.size w W ∧ s + 1 ≤ W.heap.size) (fun _ i _ => j - (intOf i).toNat)
        case atStart => exact ⟨0, _, by omega, rfl, rfl, World.ownsRow_nil _ _ _ _, HR.out, R1.out, HB4.out, hs2⟩
        case round =>
          obtain ⟨k, ov, hk, rfl, rfl, ho, hr, hb, hbel, hsz3⟩ := hrel
          have HO := hid ho
          have HRR := hid hr
          have HBX := hid hb
          have HBE := hid hbel
          clear ho hr hb hbel
          by_cases hlt : k < j
          · obtain ⟨g, rfl⟩ := row_at HRR.out hlt
            have hcell := (HRR.out.cellAt k (by omega)).trans (HSA.out k hlt)
            have hL : (⟨(atLn bs k).toArray⟩ : ByteArray).data.toList = atLn bs k := by simp
            have hLl := atLn_le bs k
            have hrl := acR_len bs k
            have hnx : acR bs (k + 1) = acR bs k ++ lnOne (k + 1) (atLn bs k) := rfl
            have HNX := hid hnx
            clear hnx
            generalize (⟨(atLn bs k).toArray⟩ : ByteArray) = t at *
            generalize atLn bs k = L at *
            have hst := fun W => rstrip_any t L W hL (by omega)
            have hsl := stripL_le L
            have HST := hid hst
            clear hst hL
            go_wp2_with fail
            refine (HST.out _).mono ?_
            rintro e w4 ⟨u, rfl, hu, rfl⟩
            have huz : u.size = (stripL L).length := by rw [Lib.size_eq, hu]
            have HU := hid hu
            clear hu
            generalize hnl : (stripL L).length = nl at *
            have HNL := hid hnl
            clear hnl
            go_wp2_with fail
            go_loop [11] (fun i => ∃ q : Nat, q ≤ nl ∧ i = .int .i64 (q : Int) ∧ tlB (stripL L) = tlB ((stripL L).drop q)) (fun i => nl - (intOf i).toNat)
            case atStart => exact ⟨0, by omega, rfl, by simp⟩
            case round =>
              obtain ⟨q, hq, rfl, hsc⟩ := hrel
              have HC := hid hsc
              clear hsc
              by_cases hltq : q < nl
              · obtain ⟨ch, r, hd⟩ := str_cons HNL.out hltq
                obtain ⟨hi, hg⟩ := str_at HU.out hd
                have hx := ch.toNat_lt
                have hdnx := drop_next hd
                have hst : tlB (ch :: r) = if ch.toNat = 32 then tlB r else ch :: r := rfl
                generalize ch.toNat = x at *
                have HD := hid hd
                have HDX := hid hdnx
                have HST2 := hid hst
                clear hd hdnx hst
                by_cases h1 : x = 32
                · have HH := hid (show tlB (stripL L) = tlB ((stripL L).drop (q + 1)) from by rw [HC.out, HD.out, HST2.out, if_pos h1, HDX.out])
                  have qq : ((x : Int) == 32) = true := by simp [h1]
                  clear h1
                  go_wp2
                  go_round
                  case rel => exact ⟨q + 1, by omega, by go_num, HH.out⟩
                  case measure => simp [intOf] <;> omega
                · have HH := hid (show tlB (stripL L) = (stripL L).drop q from by rw [HC.out, HD.out, HST2.out, if_neg h1])
                  have HNE := hid (show stripL L ≠ [] from fun h => by have := HD.out; rw [h] at this; simp at this)
                  have qq : ((x : Int) == 32) = false := by simp; omega
                  have hxd : (u.extract q nl).data.toList = (stripL L).drop q := ext_drop u (stripL L) q nl HU.out (by have := HNL.out; omega)
                  have HXM := hid (str_mk _ _ hxd)
                  have hdl : ((stripL L).drop q).length = nl - q := by rw [List.length_drop, HNL.out]
                  have HDL := hid hdl
                  clear h1 hxd hdl
                  go_wp2_with (at_builtin; refine wpList_append_rd rfl (.tmp 90) (.tmp 98) 25 rfl (s + 1) 45 i0 (.agg #[.int .i64 0, .int .i64 0, .string ⟨#[]⟩]) 3 32 Tryd.underlying25 hi0 hz0 hz1 hz2 rfl (by decide) _ _ _ rfl (own_below HO.out (bw_a (Below.refl _ wr) (.cells #[.int .i64 ((k : Int) + 1), .int .i64 (q : Int), .string (u.extract q nl)] 45))) (some ⟨wr.heap.size, 0, none⟩) 1 1 [.int .i64 ((k : Int) + 1), .int .i64 (q : Int), .string (u.extract q nl)] rfl rfl (Rd.new wr 45 #[.int .i64 ((k : Int) + 1), .int .i64 (q : Int), .string (u.extract q nl)]) (fun h => by cases h) (by simp [Value.oneCell']) (by simp only [maxLen]; omega) (by omega) (by simp; omega) ?_; intro v2 w5 hown2 hgrow2)
                  have hcg : Chg (fun y => some y = ov.ownBlock) wr w5 := ((Chg.refl _ wr).alloc _).trans (Chg.of_grown hgrow2 (fun g e => e.symm))
                  have hvb : ∀ y, some y = ov.ownBlock → s + 1 ≤ y := fun y e => (HO.out.lt y e.symm).1
                  have htw := own_two HO.out HRR.out (by decide)
                  have HCG := hid hcg
                  have HVB := hid hvb
                  have HTW := hid htw
                  have HOW := hid hown2
                  clear hcg hvb htw hown2 hgrow2
                  go_wp2_with fail
                  go_roundw
                  case rel =>
                    refine ⟨k + 1, _, by omega, by go_num, rfl, ?_, ?_, HCG.out.blk HBX.out (fun h => by have := HVB.out _ h; omega), HBE.out.trans (HCG.out.below (fun y hy => by have := HVB.out y hy; omega) (by have := HBE.out.size; omega)), Nat.le_trans hsz3 HCG.out.size⟩
                    · rw [HNX.out, lnOne_some HNE.out, List.length_append, List.flatMap_append, List.flatMap_cons, List.flatMap_nil, List.append_nil]
                      have h := HOW.out
                      have e9 : (tlB (stripL L)) = (stripL L).drop q := HH.out
                      rw [e9]
                      unfold lcC
                      unfold lcC at h
                      simp only
                      rw [HNL.out, HDL.out, show nl - (nl - q) = q by omega, ← HXM.out]
                      exact h
                    · exact own_chgS HRR.out HCG.out (fun g2 hg h => by rcases HTW.out with h0 | h0; (rw [h0] at h; cases h); exact h0 (by rw [← h, hg]))
                  case measure => simp [intOf] <;> omega
              · obtain rfl : q = nl := by omega
                have HH := hid (show stripL L = [] from strip_tl (by rw [HC.out, List.drop_eq_nil_of_le (by have := HNL.out; omega)]; rfl))
                go_wp2_with fail
                go_roundw
                case rel => exact ⟨k + 1, _, by omega, by go_num, rfl, by rw [HNX.out, lnOne_none HH.out, List.append_nil]; exact HO.out, HRR.out, HBX.out, HBE.out, hsz3⟩
                case measure => simp [intOf] <;> omega
          · obtain rfl : k = j := by omega
            obtain ⟨Ao, co, rfl⟩ := row_sl HO.out
            have c2 := HBX.out.cell 0
            have c3 := HBX.out.cell 1
            have f2 := HBX.out.frozen 0
            have f3 := HBX.out.frozen 1
            simp only [List.getElem?_toArray, List.getElem?_cons_zero, List.getElem?_cons_succ] at c2 c3
            go_wp2_with fail
            obtain ⟨W9, hW9, q1, hC⟩ := rst1 HBX.out (.int .i64 0) (.int .i64 0)
            rw [← hW9]
            clear hW9
            have y0 := q1.cell 0
            have y1 := q1.cell 1
            simp only [List.getElem?_toArray, List.getElem?_cons_zero, List.getElem?_cons_succ] at y0 y1
            refine bodyPost_ret (v := .tuple #[.slice Ao (acR bs k).length co, .agg #[.int .i64 0, .int .i64 0]]) (by simp [results, Tryd.results10, go_sem, y0, y1]) rfl ?_
            rw [HQ.out]
            exact LDR_of HAL.out Ao co rfl (own_mono (base := s + 1) (own_chgS HO.out hC (fun g hg h => by have := (HO.out.lt g hg).1; omega)) (by omega)) (HBE.out.trans (hC.below (fun q hq => by omega) (by have := HBE.out.size; omega)))
end Go.Proofs.YtepbfgniocjagaaDoor
