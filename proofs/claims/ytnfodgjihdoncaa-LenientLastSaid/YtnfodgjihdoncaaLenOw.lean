/- To which of a message's fields one of bytes belongs: lenient.owner. -/
import Derived.Test.YtnfodgjihdoncaaLenM
set_option linter.unusedVariables false
namespace Go.Proofs.Ytnfodgjihdoncaa
open Go.RowKit
theorem spRow_get {w : World} {A : Option Addr} {n c : Nat} {l : List SRow} (hn : l.length = n) (h : SlN w A n c 3 (l.flatMap specC)) (j : Nat) (hj : j < l.length) :
    ∃ b off, A = some ⟨b, off, none⟩ ∧ b < w.heap.size ∧ w.cell? ⟨b, off + j * 3, none⟩ = some (.int .i64 (l[j].num : Nat)) ∧ w.cell? ⟨b, off + j * 3 + 1, none⟩ = some (.int .i64 (l[j].typ : Nat)) ∧ w.cell? ⟨b, off + j * 3 + 2, none⟩ = some (.int .i64 (l[j].slot : Nat)) := by
  have hn0 : (l.flatMap specC)[j * 3 + 0]? = _ := flatMap_get specC 3 l j 0 hj (fun _ _ => rfl) (by omega)
  have hn1 : (l.flatMap specC)[j * 3 + 1]? = _ := flatMap_get specC 3 l j 1 hj (fun _ _ => rfl) (by omega)
  have hn2 : (l.flatMap specC)[j * 3 + 2]? = _ := flatMap_get specC 3 l j 2 hj (fun _ _ => rfl) (by omega)
  obtain ⟨b, off, rfl, hb, t0⟩ := h.rd (j * 3) (.int .i64 (l[j].num : Nat)) (by simpa [specC] using hn0)
  have t1 := h.rd.addr (j * 3 + 1) (.int .i64 (l[j].typ : Nat)) (by simpa [specC] using hn1)
  have t2 := h.rd.addr (j * 3 + 2) (.int .i64 (l[j].slot : Nat)) (by simpa [specC] using hn2)
  rw [addr_add] at t1 t2
  exact ⟨b, off, rfl, hb, t0, by rw [Nat.add_assoc]; exact t1, by rw [Nat.add_assoc]; exact t2⟩
set_option maxRecDepth 100000 in
set_option maxHeartbeats 4000000 in
theorem lowner_any (L : List SRow) (nL : Nat) (A : Option Addr) (c : Nat) (num fw : Int) (fn : Nat) (fA : Option Addr) (xl fc : Nat) (fat : Int) (w : World) (hn : L.length = nL) (hl : nL ≤ 1000) (hs : SlN w A nL c 3 (L.flatMap specC)) :
    Calls Try.prog 109 #[.slice A nL c, .agg #[.int .i64 num, .int .u8 fw, .int .u64 (fn : Int), .slice fA xl fc, .int .i64 fat]] w fun e w' => e = .returned (specO (ownR L num fw)) ∧ Below w.heap.size w w' := by
  have HN := hid hn
  have HS := hid hs
  have hcap : nL ≤ c := hs.cap
  obtain ⟨s, hsz⟩ : ∃ s, w.heap.size = s := ⟨_, rfl⟩
  rw [hsz]
  obtain ⟨R, hR⟩ : ∃ R, ownR L num fw = R := ⟨_, rfl⟩
  rw [hR]
  have HR := hid hR
  clear hn hs hR
  go_enter Try.func109, Try.ntmps109
  go_wp2_with fail
  have hk0 : Blk ((w.alloc (.cells #[.int .i64 num, .int .u8 fw, .int .u64 (fn : Int), .slice fA xl fc, .int .i64 fat] 95)).alloc (.cells #[.int .i64 0, .int .i64 0, .int .i64 0] 93)) s 95 #[.int .i64 num, .int .u8 fw, .int .u64 (fn : Int), .slice fA xl fc, .int .i64 fat] := by
    rw [← hsz]; exact (Blk.new w _ _).alloc _
  have hk1 : Blk ((w.alloc (.cells #[.int .i64 num, .int .u8 fw, .int .u64 (fn : Int), .slice fA xl fc, .int .i64 fat] 95)).alloc (.cells #[.int .i64 0, .int .i64 0, .int .i64 0] 93)) (s + 1) 93 #[.int .i64 0, .int .i64 0, .int .i64 0] := by
    have h1 := Blk.new (w.alloc (.cells #[.int .i64 num, .int .u8 fw, .int .u64 (fn : Int), .slice fA xl fc, .int .i64 fat] 95)) 93 #[.int .i64 0, .int .i64 0, .int .i64 0]
    rw [World.size_alloc, hsz] at h1; exact h1
  have hb0 : Below s w ((w.alloc (.cells #[.int .i64 num, .int .u8 fw, .int .u64 (fn : Int), .slice fA xl fc, .int .i64 fat] 95)).alloc (.cells #[.int .i64 0, .int .i64 0, .int .i64 0] 93)) := by
    rw [← hsz]; exact bw_a (bw_a (Below.refl _ w) _) _
  generalize ((w.alloc (.cells #[.int .i64 num, .int .u8 fw, .int .u64 (fn : Int), .slice fA xl fc, .int .i64 fat] 95)).alloc (.cells #[.int .i64 0, .int .i64 0, .int .i64 0] 93)) = W0 at *
  have HK0 := hid hk0
  have HK1 := hid hk1
  have HB0 := hid hb0
  have HSZ := hid hsz
  clear hk0 hk1 hb0
  go_loopw [6, 7, 8, 11] (fun _ _ _ i wr => ∃ j : Nat, j ≤ nL ∧ i = .int .i64 (j : Int) ∧ ownR (L.take j) num fw = none ∧ Blk wr s 95 #[.int .i64 num, .int .u8 fw, .int .u64 (fn : Int), .slice fA xl fc, .int .i64 fat] ∧ Blk wr (s + 1) 93 #[.int .i64 0, .int .i64 0, .int .i64 0] ∧ Below s w wr) (fun _ _ _ i _ => nL - (intOf i).toNat)
  case atStart => exact ⟨0, by omega, rfl, rfl, HK0.out, HK1.out, HB0.out⟩
  case round =>
    obtain ⟨j, hj, rfl, hno, hk0, hk1, hB⟩ := hrel
    by_cases hlt : j < nL
    · have hjl : j < L.length := by have := HN.out; omega
      obtain ⟨b, off, rfl, hb, t0, t1, t2⟩ := spRow_get HN.out HS.out j hjl
      have t0 := (hB.cell (p := ⟨b, off + j * 3, none⟩) (by show b < s; omega)).trans t0
      have t1 := (hB.cell (p := ⟨b, off + j * 3 + 1, none⟩) (by show b < s; omega)).trans t1
      have t2 := (hB.cell (p := ⟨b, off + j * 3 + 2, none⟩) (by show b < s; omega)).trans t2
      have htk : L.take (j + 1) = L.take j ++ [L[j]] := List.take_succ_eq_append_getElem hjl
      have hsz2 := hB.size
      have hbw : b < wr.heap.size := by omega
      have hji : (j : Int) < (nL : Int) := by omega
      have hj0 : (0 : Int) ≤ (j : Int) := by omega
      have hown1 : ownR (L.take (j + 1)) num fw = ownR [L[j]] num fw := by
        unfold ownR at hno ⊢
        rw [htk, List.find?_append, hno]; rfl
      have hownL : ownR [L[j]] num fw = some L[j] → ownR L num fw = some L[j] := by
        intro h
        rw [h] at hown1
        have key : ownR (L.take (j + 1) ++ L.drop (j + 1)) num fw = some L[j] := by
          unfold ownR at hown1 ⊢
          rw [List.find?_append, hown1]; rfl
        rw [List.take_append_drop] at key
        exact key
      have hone : ownR [L[j]] num fw = if ((L[j].num : Int) == num && (((wireN (L[j].typ : Int) : Nat) : Int) == fw)) = true then some L[j] else none := by
        unfold ownR
        rw [List.find?_cons]
        by_cases h1 : (L[j].num : Int) = num <;> by_cases h2 : ((wireN (L[j].typ : Int) : Nat) : Int) = fw <;> simp [h1, h2]
      have hw := fun W => swire_any (L[j].typ : Int) W
      have hc0 := hk0.cell 0
      have hc1 := hk0.cell 1
      simp only [List.getElem?_toArray, List.getElem?_cons_zero, List.getElem?_cons_succ] at hc0 hc1
      have hkl := hk0.lt
      have hkl1 := hk1.lt
      have z0 := hk1.cell 0
      have z1 := hk1.cell 1
      have z2 := hk1.cell 2
      simp only [List.getElem?_toArray, List.getElem?_cons_zero, List.getElem?_cons_succ] at z0 z1 z2
      have g0 := hk1.frozen 0
      have g1 := hk1.frozen 1
      have g2 := hk1.frozen 2
      have HK0 := hid hk0
      have HK1 := hid hk1
      have HB := hid hB
      have HO1 := hid hown1
      have HOL := hid hownL
      have HOO := hid hone
      have HW := hid hw
      clear hown1 hownL hone hw hk0 hk1 hB hno htk
      generalize L[j] = r at *
      obtain ⟨rk, rsi, rn, rt, rs⟩ := r
      simp only at t0 t1 t2
      generalize wireN (rt : Int) = wn at *
      generalize wireK (rt : Int) = wk at *
      by_cases hnum : (rn : Int) = num
      · by_cases hwire : (wn : Int) = fw
        · have hR : R = some ⟨rk, rsi, rn, rt, rs⟩ := by rw [← HR.out]; exact HOL.out (by rw [HOO.out]; simp [hnum, hwire])
          subst hR
          subst hnum
          subst hwire
          go_wp2_with (go_at_call 120; refine (HW.out _).mono ?_; rintro e w' ⟨rfl, rfl⟩)
          have hkR := ((((HK1.out).set_ 0 (.int .i64 (rn : Nat))).set_ 1 (.int .i64 (rt : Nat))).set_ 2 (.int .i64 (rs : Nat))).alloc (.cells #[.int .i64 (rn : Nat), .int .i64 (rt : Nat), .int .i64 (rs : Nat)] 93)
          simp only [Array.setIfInBounds, List.size_toArray, List.length_cons, List.length_nil, Nat.reduceAdd, Nat.reduceLT, dite_true, List.set_toArray, List.set_cons_zero, List.set_cons_succ, Nat.zero_lt_succ, Nat.lt_add_one] at hkR
          have r0 := hkR.cell 0
          have r1 := hkR.cell 1
          have r2 := hkR.cell 2
          simp only [List.getElem?_toArray, List.getElem?_cons_zero, List.getElem?_cons_succ] at r0 r1 r2
          have hbR := (((HB.out.setCell (p := ⟨s + 1, 0, none⟩) (by show s ≤ s + 1; omega) (.int .i64 (rn : Nat))).setCell (p := ⟨s + 1, 1, none⟩) (by show s ≤ s + 1; omega) (.int .i64 (rt : Nat))).setCell (p := ⟨s + 1, 2, none⟩) (by show s ≤ s + 1; omega) (.int .i64 (rs : Nat))).alloc (by have := HB.out.size; simp only [World.setCell]; simp; omega) (.cells #[.int .i64 (rn : Nat), .int .i64 (rt : Nat), .int .i64 (rs : Nat)] 93)
          try simp only [Exit.inBlock, Exit.then]
          refine bodyPost_ret (v := specV ⟨rk, rsi, rn, rt, rs⟩) (by simp [results, Try.results109, go_sem, r0, r1, r2, specV]) rfl ⟨rfl, hbR⟩
        · have hne : ((wn : Int) == fw) = false := by simp; exact hwire
          subst hnum
          have hno2 : ownR (L.take (j + 1)) (rn : Int) fw = none := by rw [HO1.out, HOO.out, hne]; simp
          have HNO := hid hno2
          have HB2 := hid (HB.out.alloc (by omega) (.cells #[.int .i64 (rn : Nat), .int .i64 (rt : Nat), .int .i64 (rs : Nat)] 93))
          clear hno2
          go_wp2_with (go_at_call 120; refine (HW.out _).mono ?_; rintro e w' ⟨rfl, rfl⟩)
          go_roundw
          case rel => exact ⟨j + 1, by omega, by go_num, HNO.out, HK0.out.alloc _, HK1.out.alloc _, HB2.out⟩
          case measure => simp [intOf]; omega
      · have hne : ((rn : Int) == num) = false := by simp; exact hnum
        have hno2 : ownR (L.take (j + 1)) num fw = none := by rw [HO1.out, HOO.out, hne]; simp
        have HNO := hid hno2
        have HB2 := hid (HB.out.alloc (by omega) (.cells #[.int .i64 (rn : Nat), .int .i64 (rt : Nat), .int .i64 (rs : Nat)] 93))
        clear hno2
        go_wp2_with (go_at_call 120; refine (HW.out _).mono ?_; rintro e w' ⟨rfl, rfl⟩)
        go_roundw
        case rel => exact ⟨j + 1, by omega, by go_num, HNO.out, HK0.out.alloc _, HK1.out.alloc _, HB2.out⟩
        case measure => simp [intOf]; omega
    · obtain rfl : j = nL := by omega
      rw [List.take_of_length_le (by have := HN.out; omega)] at hno
      have hR : R = none := by rw [← HR.out]; exact hno
      subst hR
      have HK1 := hid hk1
      have HB := hid hB
      have z0 := hk1.cell 0
      have z1 := hk1.cell 1
      have z2 := hk1.cell 2
      simp only [List.getElem?_toArray, List.getElem?_cons_zero, List.getElem?_cons_succ] at z0 z1 z2
      clear hk0 hno hB
      have hkl1 := hk1.lt
      have g0 := hk1.frozen 0
      have g1 := hk1.frozen 1
      have g2 := hk1.frozen 2
      clear hk1
      go_wp2_with fail
      have hkR := (((HK1.out.set_ 0 (.int .i64 0)).set_ 1 (.int .i64 0)).set_ 2 (.int .i64 0))
      simp only [Array.setIfInBounds, List.size_toArray, List.length_cons, List.length_nil, Nat.reduceAdd, Nat.reduceLT, dite_true, List.set_toArray, List.set_cons_zero, List.set_cons_succ, Nat.zero_lt_succ, Nat.lt_add_one] at hkR
      have r0 := hkR.cell 0
      have r1 := hkR.cell 1
      have r2 := hkR.cell 2
      simp only [List.getElem?_toArray, List.getElem?_cons_zero, List.getElem?_cons_succ] at r0 r1 r2
      have hbR := ((HB.out.setCell (p := ⟨s + 1, 0, none⟩) (by show s ≤ s + 1; omega) (.int .i64 0)).setCell (p := ⟨s + 1, 1, none⟩) (by show s ≤ s + 1; omega) (.int .i64 0)).setCell (p := ⟨s + 1, 2, none⟩) (by show s ≤ s + 1; omega) (.int .i64 0)
      try simp only [Exit.inBlock, Exit.then]
      refine bodyPost_ret (v := specO none) (by simp [results, Try.results109, go_sem, r0, r1, r2, specO]) rfl ⟨rfl, hbR⟩
end Go.Proofs.Ytnfodgjihdoncaa
