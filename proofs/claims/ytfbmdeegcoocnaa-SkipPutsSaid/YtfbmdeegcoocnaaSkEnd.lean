/- skip.End. -/
import Derived.Test.YtfbmdeegcoocnaaSkOne
import Derived.Test.YtfbmdeegcoocnaaM4
import Derived.Test.YtfbmdeegcoocnaaM2
set_option linter.unusedVariables false
namespace Go.Proofs.Ytfbmdeegcoocnaa
open Go.RowKit
theorem rHead_le (bs : List UInt8) (p : Nat) (hp : p ≤ bs.length) (h : (rHead bs p).2.2.1 = 0) : (rHead bs p).2.2.2 ≤ bs.length := by
  unfold rHead at h ⊢
  have hg := M.get_facts (bs.drop p)
  have hd : (bs.drop p).length = bs.length - p := List.length_drop
  split
  · rename_i h0
    rw [if_pos h0] at h
    have h2 := (hg.1 h0).2.2.1
    simp only
    omega
  · exact hp
theorem rOne_p (bs : List UInt8) (p : Nat) (hp : p ≤ bs.length) : (rOne bs p).p ≤ bs.length := by
  unfold rOne
  split
  · rename_i h
    have := rHead_le bs p hp h
    simp only
    unfold flt
    split <;> omega
  · exact hp
set_option maxRecDepth 100000 in
set_option maxHeartbeats 4000000 in
theorem send_in (bs : List UInt8) (n : Nat) (A : Option Addr) (c p : Nat) (w : World) (hn : bs.length = n) (hl : n ≤ 8212) (hp : p < n) (hs : Sl w A c (bs.map bv)) :
    Calls Try.prog 15 #[.slice A n c, .int .i64 (p : Int)] w fun e w' => e = .returned (.tuple #[.int .i64 (if (rOne (bs.drop p) 0).e = 0 then ((p + (rOne (bs.drop p) 0).nx : Nat) : Int) else 0), .agg #[.int .i64 ((rOne (bs.drop p) 0).e : Nat), .int .i64 (if (rOne (bs.drop p) 0).e = 0 then 0 else ((p + (rOne (bs.drop p) 0).p : Nat) : Int))]]) ∧ Below w.heap.size w w' := by
  have hc := hs.cap
  rw [List.length_map, hn] at hc
  have hc2 := hs.small
  have hcut := hs.cut p (by omega)
  have hp0 : (0 : Int) ≤ (p : Int) := by omega
  have hpn : ((p : Nat) : Int) < (n : Int) := by omega
  have hdl : (bs.drop p).length = n - p := by rw [List.length_drop, hn]
  have hmin : (min ((n - p : Nat) : Int) 8212).toNat = n - p := by omega
  have hX : Option.map ((fun x => x) ∘ fun x => Addr.add x p) A = cutA A c p := by unfold cutA; rw [if_neg (by omega)]; rfl
  have hnew := fun W (hW : Below w.heap.size w W) => new_any (bs.drop p) (n - p) (cutA A c p) (c - p) W hdl (by omega) (hcut.below hW)
  have hrd := fun W q A' c' h => sread_any W q A' c' (bs.drop p) 0 h
  have hrp := rOne_p (bs.drop p) 0 (by omega)
  rw [hdl] at hrp
  have hnx := fun h => ((rOne_facts (bs.drop p) 0 (by omega)).1 h).2.1
  rw [hdl] at hnx
  generalize rOne (bs.drop p) 0 = r at *
  obtain ⟨rnum, rw', rn, rxs, re, rp, rnx⟩ := r
  simp only at hrd hnx hrp ⊢
  have HNEW := hid hnew
  have HRD := hid hrd
  have HX := hid hX
  obtain ⟨R, hR⟩ : ∃ R : Ending → World → Prop, R = fun e w' => e = .returned (.tuple #[.int .i64 (if re = 0 then ((p + rnx : Nat) : Int) else 0), .agg #[.int .i64 (re : Nat), .int .i64 (if re = 0 then 0 else ((p + rp : Nat) : Int))]]) ∧ Below w.heap.size w w' := ⟨_, rfl⟩
  rw [← hR]
  have HR := hid hR
  clear hR hnew hrd hX hcut
  clear hs
  go_enter Try.func15, Try.ntmps15
  go_wp2_with fail
  rw [HX.out]
  have hB0 := bw_a (Below.refl w.heap.size w) (.cells #[.int .i64 0, .int .i64 0] 27)
  have hk0 := Blk.new w 27 #[.int .i64 0, .int .i64 0]
  refine (HNEW.out _ hB0).mono ?_
  rintro e w1 ⟨q, Aq, cq, rfl, hr1, hq1, -, hb1⟩
  have hB1 := bw_t hB0 hb1
  have hk1 := hk0.below hb1 hk0.lt
  rw [World.size_alloc] at hq1
  clear hk0 hb1 hB0
  go_wp2_with fail
  refine (HRD.out _ _ _ _ hr1).mono ?_
  rintro e w2 ⟨A3, c3, at3, rfl, -, -, -, hr2, ho2⟩
  have hB2 := hB1.trans (ho2.below (by omega) (by have := hB1.size; omega))
  have hk2 := ho2.blk hk1 (by omega)
  have hat := fun W (hW : Below w2.heap.size w2 W) => iat_any 0 W q Aq cq (bs.drop p) rnx (hr2.below hW)
  have hq2 := hr2.blk.lt
  have HAT := hid hat
  have HK2 := hid hk2
  have HB2 := hid hB2
  have hbw := hk2.lt
  have c0 := hk2.cell 0
  have c1 := hk2.cell 1
  have g0 := hk2.frozen 0
  have g1 := hk2.frozen 1
  simp only [List.getElem?_toArray, List.getElem?_cons_zero, List.getElem?_cons_succ] at c0 c1
  clear hr1 hB1 hk1 ho2 hat hr2 hk2 hB2
  have fin : ∀ (W : World) (x y : Int), Below w2.heap.size w2 W → Blk ((W.setCell ⟨w.heap.size, 0, none⟩ (.int .i64 x)).setCell ⟨w.heap.size, 1, none⟩ (.int .i64 y)) w.heap.size 27 #[.int .i64 x, .int .i64 y] ∧ Below w.heap.size w ((W.setCell ⟨w.heap.size, 0, none⟩ (.int .i64 x)).setCell ⟨w.heap.size, 1, none⟩ (.int .i64 y)) := fun W x y hW => by
    refine ⟨?_, ((HB2.out.trans (hW.mono (by omega))).setCell (p := ⟨w.heap.size, 0, none⟩) (Nat.le_refl _) _).setCell (p := ⟨w.heap.size, 1, none⟩) (Nat.le_refl _) _⟩
    simpa using ((HK2.out.below hW hbw).set_ 0 (.int .i64 x)).set_ 1 (.int .i64 y)
  have FIN := hid fin
  clear fin
  by_cases he : re = 0
  · subst he
    have hnx2 := hnx rfl
    have hs1 : -9223372036854775808 ≤ (p : Int) + (rnx : Int) := by omega
    have hs2 : (p : Int) + (rnx : Int) ≤ 9223372036854775807 := by omega
    have hB4 := bw_a (bw_a (Below.refl w2.heap.size w2) (.cells #[.int .i64 rnum, .int .u8 rw', .int .u64 (rn : Int), .slice A3 rxs.length c3, .int .i64 at3] 39)) (.cells #[.int .i64 0, .int .i64 (rp : Int)] 27)
    go_wp2_with (go_at_call 47; refine (HAT.out _ hB4).mono ?_; rintro e w3 ⟨rfl, rfl⟩)
    obtain ⟨hf, hbf⟩ := FIN.out w2 0 0 (Below.refl _ _)
    have hf := (hf.alloc (.cells #[.int .i64 rnum, .int .u8 rw', .int .u64 (rn : Int), .slice A3 rxs.length c3, .int .i64 at3] 39)).alloc (.cells #[.int .i64 0, .int .i64 (rp : Int)] 27)
    have hbf := bw_a (bw_a hbf (.cells #[.int .i64 rnum, .int .u8 rw', .int .u64 (rn : Int), .slice A3 rxs.length c3, .int .i64 at3] 39)) (.cells #[.int .i64 0, .int .i64 (rp : Int)] 27)
    have f0 := hf.cell 0
    have f1 := hf.cell 1
    simp only [List.getElem?_toArray, List.getElem?_cons_zero, List.getElem?_cons_succ] at f0 f1
    clear hf hB4 c0 c1 g0 g1
    generalize World.alloc (World.alloc _ _) _ = W3 at *
    refine bodyPost_ret (v := .tuple #[.int .i64 ((p : Int) + (rnx : Int)), .agg #[.int .i64 0, .int .i64 0]]) (by simp [results, Try.results15, go_sem, f0, f1]) rfl ?_
    rw [HR.out]
    exact ⟨by simp, hbf⟩
  · have heb : (((re : Nat) : Int) != 0) = true := by simpa using he
    have hs1 : -9223372036854775808 ≤ (p : Int) + (rp : Int) := by omega
    have hs2 : (p : Int) + (rp : Int) ≤ 9223372036854775807 := by omega
    go_wp2_with fail
    have hw2 := HK2.out.lt
    have hB4 := bw_a (bw_a (Below.refl w2.heap.size w2) (.cells #[.int .i64 rnum, .int .u8 rw', .int .u64 (rn : Int), .slice A3 rxs.length c3, .int .i64 at3] 39)) (.cells #[.int .i64 (re : Int), .int .i64 (rp : Int)] 27)
    go_region
    go_wp2
    obtain ⟨hf, hbf⟩ := FIN.out w2 (re : Int) ((p : Int) + (rp : Int)) (Below.refl _ _)
    have hf := (hf.alloc (.cells #[.int .i64 rnum, .int .u8 rw', .int .u64 (rn : Int), .slice A3 rxs.length c3, .int .i64 at3] 39)).alloc (.cells #[.int .i64 (re : Int), .int .i64 (rp : Int)] 27)
    have hbf := bw_a (bw_a hbf (.cells #[.int .i64 rnum, .int .u8 rw', .int .u64 (rn : Int), .slice A3 rxs.length c3, .int .i64 at3] 39)) (.cells #[.int .i64 (re : Int), .int .i64 (rp : Int)] 27)
    have f0 := hf.cell 0
    have f1 := hf.cell 1
    simp only [List.getElem?_toArray, List.getElem?_cons_zero, List.getElem?_cons_succ] at f0 f1
    clear hf hB4 c0 c1 g0 g1
    generalize World.alloc (World.alloc _ _) _ = W3 at *
    have f0' : W3.drew.cell? ⟨w.heap.size, 0, none⟩ = some (.int .i64 (re : Int)) := f0
    have f1' : W3.drew.cell? ⟨w.heap.size, 1, none⟩ = some (.int .i64 ((p : Int) + (rp : Int))) := f1
    refine bodyPost_ret (v := .tuple #[.int .i64 0, .agg #[.int .i64 (re : Int), .int .i64 ((p : Int) + (rp : Int))]]) (by simp [results, Try.results15, go_sem, f0, f1]) rfl ?_
    rw [HR.out]
    exact ⟨by rw [if_neg he, if_neg he]; simp, bw_d hbf 1⟩
/-- End, at a place where nothing is. -/
theorem send_out (n : Nat) (A : Option Addr) (c : Nat) (p : Int) (w : World) (hn : n ≤ 9223372036854775807) (hp : p < 0 ∨ (n : Int) ≤ p) :
    Calls Try.prog 15 #[.slice A n c, .int .i64 p] w fun e w' => e = .returned (.tuple #[.int .i64 0, .agg #[.int .i64 1, .int .i64 0]]) ∧ Below w.heap.size w w' := by
  have hor : (decide (p < 0) || decide ((n : Int) ≤ p)) = true := by simpa using hp
  have hbf := bw_a (Below.refl w.heap.size w) (.cells #[.int .i64 1, .int .i64 0] 27)
  have hf := Blk.new w 27 #[.int .i64 1, .int .i64 0]
  have f0 := hf.cell 0
  have f1 := hf.cell 1
  simp only [List.getElem?_toArray, List.getElem?_cons_zero, List.getElem?_cons_succ] at f0 f1
  by_cases hneg : p < 0
  · go_enter Try.func15, Try.ntmps15
    go_wp2_with fail
    exact bodyPost_ret (v := .tuple #[.int .i64 0, .agg #[.int .i64 1, .int .i64 0]]) (by simp [results, Try.results15, go_sem, f0, f1]) rfl ⟨rfl, hbf⟩
  · have hge : (n : Int) ≤ p := by omega
    go_enter Try.func15, Try.ntmps15
    go_wp2_with fail
    exact bodyPost_ret (v := .tuple #[.int .i64 0, .agg #[.int .i64 1, .int .i64 0]]) (by simp [results, Try.results15, go_sem, f0, f1]) rfl ⟨rfl, hbf⟩
end Go.Proofs.Ytfbmdeegcoocnaa
