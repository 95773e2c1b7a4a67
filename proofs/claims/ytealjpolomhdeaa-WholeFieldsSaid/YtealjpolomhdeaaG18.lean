/- strict.each: all kinds, with all versions. · strict.Any. · Layer 12's live. · What laws with strict share. · awakeMsg: what must come, whatever the arguments are. · Fields of a message in another order: contracts and mathematics. -/
import Derived.Test.YtealjpolomhdeaaStrDec
import Derived.Test.YtealjpolomhdeaaG5
import Derived.Test.YtealjpolomhdeaaG4
import Derived.Test.YtealjpolomhdeaaLenBm
import Derived.Test.YtealjpolomhdeaaG16
set_option linter.unusedVariables false
namespace Go.Proofs.Ytealjpolomhdeaa
open Go.RowKit Go.Shelf
attribute [local go_sem] Oper.semAt_some
end Go.Proofs.Ytealjpolomhdeaa
set_option linter.unusedVariables false
namespace Go.Proofs.Ytealjpolomhdeaa
open Go.RowKit Go.Shelf
attribute [local go_sem] Oper.semAt_some
/-- Whether bytes are a message's of a kind and version, of the thirty ones. -/
def anyJ (bs : List UInt8) (j : Nat) : Bool := decide ((strD (j / 3 + 1) ((j % 3 + 1 : Nat) : Int) bs).2.1 = 0)
/-- What holds between two rounds. -/
structure AJ (s : Nat) (w : World) (bs : List UInt8) (n : Nat) (A : Option Addr) (c : Nat) (j : Nat) (W : World) : Prop where
  bx : Blk W s 22 #[.slice A n c]
  r1 : Blk W (s + 1) 29 #[.int .u8 0, .int .u64 0, .int .u64 0, .int .u64 0, .int .u64 0, .int .u64 0, .int .u64 0, .string ⟨#[]⟩, .string ⟨#[]⟩, .slice none 0 0]
  r2 : Blk W (s + 1 + 1) 3 #[.int .i64 0]
  r3 : Blk W (s + 1 + 1 + 1) 4 #[.bool false]
  bel : Below s w W
  sz : s + 4 ≤ W.heap.size
  no : ∀ i, i < j → anyJ bs i = false
section
variable {s : Nat} {w W W' : World} {bs : List UInt8} {n : Nat} {A : Option Addr} {c j : Nat} {S : Nat → Prop}
theorem AJ.keep (h : AJ s w bs n A c j W) (hc : Chg S W W') (hS : ∀ q, S q → s + 4 ≤ q) : AJ s w bs n A c j W' := by
  have g := h.sz
  exact ⟨hc.blk h.bx (fun hx => by have := hS _ hx; omega), hc.blk h.r1 (fun hx => by have := hS _ hx; omega), hc.blk h.r2 (fun hx => by have := hS _ hx; omega), hc.blk h.r3 (fun hx => by have := hS _ hx; omega), h.bel.trans (hc.below (B := s) (fun x hx => by have := hS x hx; omega) (by omega)), Nat.le_trans g hc.size, h.no⟩
theorem AJ.next (h : AJ s w bs n A c j W) (hn : anyJ bs j = false) : AJ s w bs n A c (j + 1) W := ⟨h.bx, h.r1, h.r2, h.r3, h.bel, h.sz, fun i hi => by
  rcases Nat.lt_or_ge i j with hlt | hge
  · exact h.no i hlt
  · obtain rfl : i = j := by omega
    exact hn⟩
end
/-- What holds where a message was found. -/
structure AX (s b : Nat) (w : World) (M : MV) (vv : Int) (A' : Option Addr) (c' : Nat) (W : World) : Prop where
  r1 : Blk W (s + 1) 29 #[.int .u8 (M.k : Int), .int .u64 (M.n0 : Int), .int .u64 (M.n1 : Int), .int .u64 (M.n2 : Int), .int .u64 (M.n3 : Int), .int .u64 (M.n4 : Int), .int .u64 (M.n5 : Int), .string M.s0, .string M.s1, .slice A' M.l.length c']
  r2 : Blk W (s + 1 + 1) 3 #[.int .i64 vv]
  r3 : Blk W (s + 1 + 1 + 1) 4 #[.bool true]
  row : Ow W b 9 M.l.length A' c' (M.l.map sv)
  bel : Below s w W
  sz : s + 4 ≤ W.heap.size
theorem AX.keep {s b : Nat} {w W W' : World} {M : MV} {vv : Int} {A' : Option Addr} {c' : Nat} {S : Nat → Prop} (h : AX s b w M vv A' c' W) (hc : Chg S W W') (hS : ∀ q, S q → s + 4 ≤ q ∧ q < b) : AX s b w M vv A' c' W' := by
  have g := h.sz
  exact ⟨hc.blk h.r1 (fun hx => by have := hS _ hx; omega), hc.blk h.r2 (fun hx => by have := hS _ hx; omega), hc.blk h.r3 (fun hx => by have := hS _ hx; omega), h.row.chg hc (fun q hq => (hS q hq).2), h.bel.trans (hc.below (B := s) (fun x hx => by have := hS x hx; omega) (by omega)), Nat.le_trans g hc.size⟩
end Go.Proofs.Ytealjpolomhdeaa
set_option linter.unusedVariables false
namespace Go.Proofs.Ytealjpolomhdeaa
open Go.RowKit
theorem l12_bh : encB MH (ofL ((1 : Nat) : Int) 1) = [8, 1, 16, 3] := mh_b
end Go.Proofs.Ytealjpolomhdeaa
set_option linter.unusedVariables false
namespace Go.Proofs.Ytealjpolomhdeaa
open Go.RowKit
theorem dec_st {k : Nat} {v : Int} {bs : List UInt8} {n : Nat} {A : Option Addr} {c : Nat} {w : World} (hk : k ≤ 255) (hv1 : -9223372036854775808 ≤ v) (hv2 : v ≤ 9223372036854775807) (hn : bs.length = n) (hs : Sl w A c (bs.map bv)) {R : MV} {E : Int} {P : Nat} (hR : strD k v bs = (R, E, P)) :
    Calls Try.prog 20 #[.int .u8 (k : Int), .int .i64 v, .slice A n c] w fun e w' => ∃ A' c', e = .returned (.tuple #[.agg #[.int .u8 (R.k : Int), .int .u64 (R.n0 : Int), .int .u64 (R.n1 : Int), .int .u64 (R.n2 : Int), .int .u64 (R.n3 : Int), .int .u64 (R.n4 : Int), .int .u64 (R.n5 : Int), .string R.s0, .string R.s1, .slice A' R.l.length c'], .agg #[.int .i64 E, .int .i64 (P : Int)]]) ∧ Sl w' A' c' (R.l.map sv) ∧ Below w.heap.size w w' := by
  refine (tdec_any k v bs n A c w hk hv1 hv2 hn hs).mono ?_
  rw [hR]
  rintro e w' ⟨A', c', rfl, ho, hb⟩
  exact ⟨_, _, rfl, ho.sl, hb⟩
theorem bsame (xs ys : List UInt8) (n m : Nat) (A B : Option Addr) (c d : Nat) (w : World) (hn : xs.length = n) (hm : ys.length = m) (hA : Sl w A c (xs.map bv)) (hB : Sl w B d (ys.map bv)) : Calls Try.prog 22 #[.slice A n c, .slice B m d] w fun e w' => e = .returned (.bool (decide (xs = ys))) ∧ Below w.heap.size w w' := by
  subst hn; subst hm
  have h1 := hA.cap; have h2 := hA.small
  rw [List.length_map] at h1
  refine (same_any xs ys A B c d w (by omega) hA.rd hB.rd).mono ?_
  rintro e w' ⟨he, k, rfl⟩
  exact ⟨he, below_drewN (Below.refl _ w) k⟩
theorem msame (R M : MV) (A' : Option Addr) (c' : Nat) (B : Option Addr) (d len : Nat) (W : World) (hlen : M.l.length = len) (h1 : Sl W A' c' (R.l.map sv)) (h2 : Sl W B d (M.l.map sv)) : Calls Try.prog 21 #[.agg #[.int .u8 (R.k : Int), .int .u64 (R.n0 : Int), .int .u64 (R.n1 : Int), .int .u64 (R.n2 : Int), .int .u64 (R.n3 : Int), .int .u64 (R.n4 : Int), .int .u64 (R.n5 : Int), .string R.s0, .string R.s1, .slice A' R.l.length c'], .agg #[.int .u8 (M.k : Int), .int .u64 (M.n0 : Int), .int .u64 (M.n1 : Int), .int .u64 (M.n2 : Int), .int .u64 (M.n3 : Int), .int .u64 (M.n4 : Int), .int .u64 (M.n5 : Int), .string M.s0, .string M.s1, .slice B len d]] W fun e w' => e = .returned (.bool (sameB R M)) ∧ Below W.heap.size W w' := by
  subst hlen
  exact vsame_any { R with A := A', c := c' } { M with A := B, c := d } W h1 h2
end Go.Proofs.Ytealjpolomhdeaa
set_option linter.unusedVariables false
namespace Go.Proofs.Ytealjpolomhdeaa
open Go.RowKit
theorem a6_o3 : ofL ((1 : Nat) : Int) 3 = ofL ((1 : Nat) : Int) 1 := by decide +kernel
theorem a6_r2 : readR 1 2 [8, 1, 16, 3] = (MH, [], 0, 0) := by rfl
theorem a6_r3 : readR 1 3 [8, 1, 16, 3, 8, 1] = (MH, [], 0, 0) := by rfl
theorem a6_s3 : ∃ P, strD 1 3 [8, 1, 16, 3, 8, 1] = (ZM, 3, P) := by
  unfold strD
  rw [a6_r3, if_pos rfl]
  simp only
  rw [a6_o3, l12_bh, if_neg (by decide)]
  exact ⟨_, rfl⟩
theorem a6_b (W : World) : Calls Try.prog 18 #[.agg #[.int .u8 1, .int .u64 1, .int .u64 3, .int .u64 0, .int .u64 0, .int .u64 0, .int .u64 0, .string ⟨#[]⟩, .string ⟨#[]⟩, .slice none 0 0], .int .i64 1] W fun e w' => ∃ A c, e = .returned (.tuple #[.slice A 4 c, .agg #[.int .i64 0, .int .i64 0]]) ∧ Ow w' W.heap.size 5 4 A c (([8, 1, 16, 3] : List UInt8).map bv) ∧ Below W.heap.size W w' := by
  refine ((ebytes_any MH 1 W (mh_ok W) mh_sm (by decide) (by decide)).mono (fun e w' h => bytesR_sl h)).mono ?_
  rw [mh_b, mh_c]
  rintro e w' ⟨A, c, rfl, -, ho, hb⟩
  exact ⟨A, c, rfl, ⟨ho⟩, hb⟩
theorem a6_l (W : World) (A : Option Addr) (c : Nat) (h : Sl W A c (([8, 1, 16, 3] : List UInt8).map bv)) : Calls Try.prog 11 #[.int .u8 1, .int .i64 2, .slice A 4 c] W fun e w' => ∃ A' c', e = .returned (.tuple #[.agg #[.int .u8 1, .int .u64 1, .int .u64 3, .int .u64 0, .int .u64 0, .int .u64 0, .int .u64 0, .string ⟨#[]⟩, .string ⟨#[]⟩, .slice A' 0 c'], .agg #[.int .i64 0, .int .i64 0]]) ∧ Below W.heap.size W w' := by
  refine (dec_p (k := 1) (v := 2) (by decide) (by decide) (by decide) rfl h a6_r2).mono ?_
  rintro e w' ⟨A', c', rfl, -, hb⟩
  exact ⟨A', c', rfl, hb⟩
theorem a6_d (W : World) (A : Option Addr) (c : Nat) (h : Sl W A c (([8, 1, 16, 3, 8, 1] : List UInt8).map bv)) : Calls Try.prog 20 #[.int .u8 1, .int .i64 3, .slice A 6 c] W fun e w' => ∃ A' c' P, e = .returned (.tuple #[.agg #[.int .u8 0, .int .u64 0, .int .u64 0, .int .u64 0, .int .u64 0, .int .u64 0, .int .u64 0, .string ⟨#[]⟩, .string ⟨#[]⟩, .slice A' 0 c'], .agg #[.int .i64 3, .int .i64 P]]) ∧ Below W.heap.size W w' := by
  obtain ⟨P, hP⟩ := a6_s3
  refine (dec_st (k := 1) (v := 3) (by decide) (by decide) (by decide) rfl h hP).mono ?_
  rintro e w' ⟨A', c', rfl, -, hb⟩
  exact ⟨A', c', _, rfl, hb⟩
set_option maxRecDepth 100000 in
set_option maxHeartbeats 4000000 in
theorem awake6_any (w : World) : Calls Try.prog 24 #[] w fun e w' => e = .returned (.bool true) ∧ Below w.heap.size w w' := by
  obtain ⟨i0, hi, hz0, hz1, hz2⟩ := info_parts Try.info5
  have HB := hid a6_b
  have HL := hid a6_l
  have HD := hid a6_d
  obtain ⟨s, hws⟩ : ∃ s, w.heap.size = s := ⟨_, rfl⟩
  rw [hws]
  go_enter Try.func24, Try.ntmps24
  go_wp2_with fail
  refine (HB.out w).mono ?_
  rintro e w1 ⟨A1, c1, rfl, ho1, hb⟩
  rw [hws] at ho1
  have hb0 : Below s w w1 := by rw [← hws]; exact hb
  have HO1 := hid ho1
  have HBB1 := hid hb0
  clear ho1 hb hb0
  obtain ⟨p1, hz⟩ : ∃ p, w1.heap.size = p := ⟨_, rfl⟩
  go_wp2_with fail
  have hk2 : Blk (w1.alloc (.cells #[.int .i64 0, .int .i64 0] 32)) (p1) 32 #[.int .i64 0, .int .i64 0] := by
    have h := (Blk.new w1 32 #[.int .i64 0, .int .i64 0])
    rw [hz] at h; exact h
  have ho1 := HO1.out.below (bw_a (Below.refl w1.heap.size w1) (.cells #[.int .i64 0, .int .i64 0] 32))
  have hb0 : Below s w (w1.alloc (.cells #[.int .i64 0, .int .i64 0] 32)) := HBB1.out.trans ((bw_a (Below.refl w1.heap.size w1) (.cells #[.int .i64 0, .int .i64 0] 32)).mono (by have := HBB1.out.size; omega))
  have hsz : ((w1.alloc (.cells #[.int .i64 0, .int .i64 0] 32))).heap.size = p1 + 1 := by simp [hz]
  generalize hW2 : (w1.alloc (.cells #[.int .i64 0, .int .i64 0] 32)) = W2 at *
  have HK2 := hid hk2
  have HO1 := hid ho1
  have HBB2 := hid hb0
  have HSZ2 := hid hsz
  clear hb0 hsz hz hW2 hk2 ho1
  refine (HL.out _ _ _ HO1.out.sl).mono ?_
  rintro e w3 ⟨A2, c2, rfl, hb⟩
  have hk2 := HK2.out.below hb HK2.out.lt
  have ho1 := HO1.out.below hb
  have hb0 : Below s w w3 := HBB2.out.trans (hb.mono (by have := HBB2.out.size; omega))
  have HK2 := hid hk2
  have HO1 := hid ho1
  have HBB3 := hid hb0
  clear hb0 hb hk2 ho1
  obtain ⟨p2, hz⟩ : ∃ p, w3.heap.size = p := ⟨_, rfl⟩
  have hcp := HO1.out.sl.cap
  have hcs := HO1.out.sl.small
  have hox := HO1.out.below (bw_a (bw_a (bw_a (Below.refl w3.heap.size w3) (.cells #[.int .u8 1, .int .u64 1, .int .u64 3, .int .u64 0, .int .u64 0, .int .u64 0, .int .u64 0, .string ⟨#[]⟩, .string ⟨#[]⟩, .slice A2 0 c2] 29)) (.cells #[.int .i64 0, .int .i64 0] 32)) (.cells #[.int .u8 8, .int .u8 1] 5))
  have hlx : Sl (((w3.alloc (.cells #[.int .u8 1, .int .u64 1, .int .u64 3, .int .u64 0, .int .u64 0, .int .u64 0, .int .u64 0, .string ⟨#[]⟩, .string ⟨#[]⟩, .slice A2 0 c2] 29)).alloc (.cells #[.int .i64 0, .int .i64 0] 32)).alloc (.cells #[.int .u8 8, .int .u8 1] 5)) (some ⟨p2 + 1 + 1, 0, none⟩) 2 (([8, 1] : List UInt8).map bv) := by
    have h := sl_lit ((w3.alloc (.cells #[.int .u8 1, .int .u64 1, .int .u64 3, .int .u64 0, .int .u64 0, .int .u64 0, .int .u64 0, .string ⟨#[]⟩, .string ⟨#[]⟩, .slice A2 0 c2] 29)).alloc (.cells #[.int .i64 0, .int .i64 0] 32)) 5 [8, 1] #[.int .u8 8, .int .u8 1] 2 rfl (by decide) rfl
    simp only [World.size_alloc, hz] at h; exact h
  have k2 := ((HK2.out.alloc (.cells #[.int .u8 1, .int .u64 1, .int .u64 3, .int .u64 0, .int .u64 0, .int .u64 0, .int .u64 0, .string ⟨#[]⟩, .string ⟨#[]⟩, .slice A2 0 c2] 29)).alloc (.cells #[.int .i64 0, .int .i64 0] 32)).alloc (.cells #[.int .u8 8, .int .u8 1] 5)
  have k3 : Blk (((w3.alloc (.cells #[.int .u8 1, .int .u64 1, .int .u64 3, .int .u64 0, .int .u64 0, .int .u64 0, .int .u64 0, .string ⟨#[]⟩, .string ⟨#[]⟩, .slice A2 0 c2] 29)).alloc (.cells #[.int .i64 0, .int .i64 0] 32)).alloc (.cells #[.int .u8 8, .int .u8 1] 5)) p2 29 #[.int .u8 1, .int .u64 1, .int .u64 3, .int .u64 0, .int .u64 0, .int .u64 0, .int .u64 0, .string ⟨#[]⟩, .string ⟨#[]⟩, .slice A2 0 c2] := by
    have h := ((Blk.new w3 29 #[.int .u8 1, .int .u64 1, .int .u64 3, .int .u64 0, .int .u64 0, .int .u64 0, .int .u64 0, .string ⟨#[]⟩, .string ⟨#[]⟩, .slice A2 0 c2]).alloc (.cells #[.int .i64 0, .int .i64 0] 32)).alloc (.cells #[.int .u8 8, .int .u8 1] 5)
    rw [hz] at h; exact h
  have k4 : Blk (((w3.alloc (.cells #[.int .u8 1, .int .u64 1, .int .u64 3, .int .u64 0, .int .u64 0, .int .u64 0, .int .u64 0, .string ⟨#[]⟩, .string ⟨#[]⟩, .slice A2 0 c2] 29)).alloc (.cells #[.int .i64 0, .int .i64 0] 32)).alloc (.cells #[.int .u8 8, .int .u8 1] 5)) (p2 + 1) 32 #[.int .i64 0, .int .i64 0] := by
    have h := (Blk.new (w3.alloc (.cells #[.int .u8 1, .int .u64 1, .int .u64 3, .int .u64 0, .int .u64 0, .int .u64 0, .int .u64 0, .string ⟨#[]⟩, .string ⟨#[]⟩, .slice A2 0 c2] 29)) 32 #[.int .i64 0, .int .i64 0]).alloc (.cells #[.int .u8 8, .int .u8 1] 5)
    rw [World.size_alloc, hz] at h; exact h
  have hbx : Below s w (((w3.alloc (.cells #[.int .u8 1, .int .u64 1, .int .u64 3, .int .u64 0, .int .u64 0, .int .u64 0, .int .u64 0, .string ⟨#[]⟩, .string ⟨#[]⟩, .slice A2 0 c2] 29)).alloc (.cells #[.int .i64 0, .int .i64 0] 32)).alloc (.cells #[.int .u8 8, .int .u8 1] 5)) := HBB3.out.trans ((bw_a (bw_a (bw_a (Below.refl w3.heap.size w3) (.cells #[.int .u8 1, .int .u64 1, .int .u64 3, .int .u64 0, .int .u64 0, .int .u64 0, .int .u64 0, .string ⟨#[]⟩, .string ⟨#[]⟩, .slice A2 0 c2] 29)) (.cells #[.int .i64 0, .int .i64 0] 32)) (.cells #[.int .u8 8, .int .u8 1] 5)).mono (by have := HBB3.out.size; omega))
  have hsx : s ≤ ((((w3.alloc (.cells #[.int .u8 1, .int .u64 1, .int .u64 3, .int .u64 0, .int .u64 0, .int .u64 0, .int .u64 0, .string ⟨#[]⟩, .string ⟨#[]⟩, .slice A2 0 c2] 29)).alloc (.cells #[.int .i64 0, .int .i64 0] 32)).alloc (.cells #[.int .u8 8, .int .u8 1] 5))).heap.size := by have := hbx.size; omega
  have HOX := hid hox
  have HLX := hid hlx
  have HX2 := hid k2
  have HX3 := hid k3
  have HX4 := hid k4
  have HBX := hid hbx
  clear hox hlx k2 k3 k4 hbx
  go_wp2_with (at_builtin; refine wpList_append_rd rfl (.tmp 19) (.tmp 20) 22 rfl s 5 i0 (.int .u8 0) 1 1 Try.underlying22 hi hz0 hz1 hz2 rfl (by decide) _ _ _ rfl HOX.out.own (some ⟨p2 + 1 + 1, 0, none⟩) 2 2 (([8, 1] : List UInt8).map bv) rfl rfl HLX.out.rd HLX.out.nil0 (bv_one [8, 1]) (by simp only [maxLen]; omega) (by omega) hsx ?_; intro v5 w5 hown5 hgrow5; have HO5 := hid hown5; have HG5 := hid hgrow5; clear hown5 hgrow5)
  have hc5 := Chg.of_grown (S := fun q => (Value.slice A1 4 c1).ownBlock = some q) HG5.out (fun g e => e)
  have k2 := hc5.blk HX2.out (fun hq => own_ne_blk HOX.out.own HX2.out (by decide) _ hq rfl)
  have k3 := hc5.blk HX3.out (fun hq => own_ne_blk HOX.out.own HX3.out (by decide) _ hq rfl)
  have k4 := hc5.blk HX4.out (fun hq => own_ne_blk HOX.out.own HX4.out (by decide) _ hq rfl)
  have hb5 : Below s w w5 := HBX.out.trans (hc5.below (B := s) (fun k ek => (HOX.out.own.lt k ek).1) hsx)
  have ho5 := HO5.out
  rw [← List.map_append] at ho5
  obtain ⟨A5, c5, rfl, -, hs5⟩ := Sl.of_own ho5
  refine (HD.out w5 A5 c5 hs5).mono ?_
  rintro e w6 ⟨A6, c6, P, rfl, hb⟩
  have k2 := k2.below hb k2.lt
  have k3 := k3.below hb k3.lt
  have k4 := k4.below hb k4.lt
  have hb6 := hb5.trans (hb.mono (by have := hb5.size; omega))
  obtain ⟨p6, hz⟩ : ∃ p, w6.heap.size = p := ⟨_, rfl⟩
  have l2 := k2.lt
  have l3 := k3.lt
  have l4 := k4.lt
  rw [hz] at l2 l3 l4
  have m2 := Nat.lt_add_one_of_lt l2
  have m3 := Nat.lt_add_one_of_lt l3
  have m4 := Nat.lt_add_one_of_lt l4
  have x0 := k2.cell 0
  have x1 := k2.cell 1
  have y2 := k3.cell 2
  have z0 := k4.cell 0
  have z1 := k4.cell 1
  simp only [List.getElem?_toArray, List.getElem?_cons_zero, List.getElem?_cons_succ] at x0 x1 y2 z0 z1
  have HB6 := hid hb6
  clear k2 k3 k4 hb5 hb6 hb ho5 hs5 hc5
  go_wp2_with fail
  go_ret
  exact ⟨rfl, HB6.out.trans ((bw_a (bw_a (Below.refl w6.heap.size w6) (.cells #[.int .u8 0, .int .u64 0, .int .u64 0, .int .u64 0, .int .u64 0, .int .u64 0, .int .u64 0, .string ⟨#[]⟩, .string ⟨#[]⟩, .slice A6 0 c6] 29)) (.cells #[.int .i64 3, .int .i64 P] 32)).mono (by have := HB6.out.size; omega))⟩
end Go.Proofs.Ytealjpolomhdeaa
set_option linter.unusedVariables false
namespace Go.Proofs.Ytealjpolomhdeaa
open Go.RowKit
set_option maxRecDepth 100000 in
set_option maxHeartbeats 2000000 in
theorem sof8_any (l : List FV) (m : Nat) (A : Option Addr) (c : Nat) (num : Int) (w : World) (hm : l.length = m) (hm2 : m ≤ 2000) (hl : SlN w A m c 5 (l.flatMap fvC)) (hok : ∀ f ∈ l, FvOk w f) (hx : ∀ f ∈ l, f.s.xs.length ≤ 8200) :
    Calls Try.prog 30 #[.slice A m c, .int .i64 num] w (Chosen w.heap.size ((l.filter fun f => decide (f.num = num)).map fvK) w) := by
  have hmf := func_run (P := Try.prog)
  have hb1 := bw_a (Below.refl w.heap.size w) (.cells #[.int .i64 num] 3)
  have hc1 : (w.alloc (.cells #[.int .i64 num] 3)).cell? ⟨w.heap.size, 0, none⟩ = some (.int .i64 num) := (Blk.new w 3 #[.int .i64 num]).cell 0
  have hch := chosen8_any l m A c (w.alloc (.cells #[.int .i64 num] 3)) 52 w.heap.size (fun f => decide (f.num = num)) hm hm2 (hl.below hb1) (fun f hf => (hok f hf).below hb1) hx (fun args W => by kernel_rfl)
    (fun W f hW => of1_any W w.heap.size num f ((hW.cell (p := ⟨w.heap.size, 0, none⟩) (by simp)).trans hc1))
  have HCH := hid hch
  have HB := hid hb1
  clear hch hl hok hx hb1 hc1
  go_enter Try.func30, Try.ntmps30
  go_wp2_with fail
  refine HCH.out.mono ?_
  rintro e w2 ⟨v, fs, rfl, ho, hfs, hown, hb⟩
  go_wp2_with fail
  go_ret
  exact ⟨v, fs, rfl, own_mono ho (by simp), hfs, fun f hf => own_mono (hown f hf) (by simp), bw_t HB.out hb⟩
/-- Fields that were read, in a slice. -/
structure PreOk (w : World) (pre : List FV) (m : Nat) (A : Option Addr) (c : Nat) : Prop where
  sl : SlN w A m c 5 (pre.flatMap fvC)
  ok : ∀ f ∈ pre, FvOk w f
theorem PreOk.below {w w' : World} {pre : List FV} {m : Nat} {A : Option Addr} {c : Nat} (h : PreOk w pre m A c) (hb : Below w.heap.size w w') : PreOk w' pre m A c := ⟨h.sl.below hb, fun f hf => (h.ok f hf).below hb⟩
/-- Fields that were chosen: a row of the call's own, with bytes of its own. -/
structure ChOk (w : World) (B : Nat) (fs : List FV) (m : Nat) (A : Option Addr) (c : Nat) : Prop where
  own : w.ownsRow B 56 5 (.slice A m c) m (fs.flatMap fvC)
  ho : ∀ f ∈ fs, FvOwn B w f
theorem ChOk.below {w w' : World} {B : Nat} {fs : List FV} {m : Nat} {A : Option Addr} {c : Nat} (h : ChOk w B fs m A c) (hb : Below w.heap.size w w') : ChOk w' B fs m A c := ⟨own_below h.own hb, fun f hf => own_below (h.ho f hf) hb⟩
theorem ChOk.sl {w : World} {B : Nat} {fs : List FV} {m : Nat} {A : Option Addr} {c : Nat} (h : ChOk w B fs m A c) : SlN w A m c 5 (fs.flatMap fvC) := by
  obtain ⟨A', c', he, hs⟩ := SlN.of_own (by omega) h.own
  injection he with h1 h2 h3
  subst h1; subst h3
  exact hs
theorem ChOk.mono {w : World} {B B' : Nat} {fs : List FV} {m : Nat} {A : Option Addr} {c : Nat} (h : ChOk w B fs m A c) (hb : B' ≤ B) : ChOk w B' fs m A c := ⟨own_mono h.own hb, fun f hf => own_mono (h.ho f hf) hb⟩
theorem fvw_one (fs : List FV) : ∀ u ∈ fs.flatMap fvC, u.oneCell' = true := by
  intro u hu
  obtain ⟨f, -, hu⟩ := List.mem_flatMap.1 hu
  simp only [fvC, List.mem_cons, List.not_mem_nil, or_false] at hu
  rcases hu with rfl | rfl | rfl | rfl | rfl <;> rfl
/-- Behind an append. -/
theorem ChOk.both {w w' : World} {B1 B2 B : Nat} {f1 f2 : List FV} {m1 m2 m : Nat} {A1 A2 A : Option Addr} {c1 c2 c : Nat} (h1 : ChOk w B1 f1 m1 A1 c1) (h2 : ChOk w B2 f2 m2 A2 c2) (hg : w.grownBy w' (Value.slice A1 m1 c1).ownBlock) (hB1 : B ≤ B1) (hB2 : B ≤ B2) (ho : w'.ownsRow B 56 5 (.slice A m c) m (f1.flatMap fvC ++ f2.flatMap fvC)) : ChOk w' B (f1 ++ f2) m A c := by
  refine ⟨by rw [List.flatMap_append]; exact ho, fun f hf => ?_⟩
  rcases List.mem_append.1 hf with hf | hf
  · exact own_mono ((h1.ho f hf).kept hg (own_two (h1.ho f hf) h1.own (by decide))) hB1
  · exact own_mono ((h2.ho f hf).kept hg (own_two (h2.ho f hf) h1.own (by decide))) hB2
theorem allP_filter {M : MV} (q : Int → Bool) : ∀ (L : List SRow), (∀ r ∈ L, r ∈ ROWS) → (allP M L).filter (fun y => q y.1) = allP M (L.filter fun r => q (r.num : Int))
  | [], _ => rfl
  | r :: L, h => by
    have ih := allP_filter (M := M) q L fun x hx => h x (List.mem_cons_of_mem _ hx)
    have e : allP M (r :: L) = rowP M r ++ allP M L := rfl
    rw [e, List.filter_append, ih]
    have hk : ∀ y ∈ rowP M r, y.1 = (r.num : Int) := fun y hy => rowP_key (h r (List.mem_cons_self ..)) hy
    cases hq : q (r.num : Int) with
    | true =>
      rw [List.filter_cons_of_pos (p := fun r : SRow => q (r.num : Int)) (l := L) (a := r) hq, List.filter_eq_self.2 (fun y hy => by rw [hk y hy]; exact hq)]
      rfl
    | false =>
      rw [List.filter_cons_of_neg (p := fun r : SRow => q (r.num : Int)) (l := L) (a := r) (by simpa using hq), List.filter_eq_nil_iff.2 (fun y hy => by rw [hk y hy, hq]; simp)]
      rfl
theorem len64 {M : MV} {v : Int} (hc : (chkV M (ofL (M.k : Int) v)).1 = 0) : M.l.length ≤ 64 := by
  have hz := chkV_zero hc
  have hE := chkL_all _ hz.2.2.1
  obtain ⟨-, -, sL⟩ := same_kept hz.2.2.2
  cases hm : mkL (ofL (M.k : Int) v) with
  | false => rw [sL hm]; simp
  | true =>
    unfold mkL at hm
    obtain ⟨r, hr, h10⟩ := List.any_eq_true.1 hm
    simp only [decide_eq_true_eq] at h10
    exact (fldE_list h10 (hE r hr)).1
/-- The rows, those of one number behind all others. -/
def rowsB (L : List SRow) (nu : Int) : List SRow := L.filter (fun r => !decide ((r.num : Int) = nu)) ++ L.filter (fun r => decide ((r.num : Int) = nu))
theorem rowsB_perm (L : List SRow) (nu : Int) : (rowsB L nu).Perm L := by
  unfold rowsB
  exact List.perm_append_comm.trans (List.filter_append_perm _ _)
/-- What the fields of one number, put behind all others, come to. -/
theorem wf_out {M : MV} (v nu : Int) (hn : ∀ i, M.num i ≤ 18446744073709551615) (hsm : MvSm M) (hc : (chkV M (ofL (M.k : Int) v)).1 = 0) {pre f1 f2 : List FV} (h : fvAll pre (flds (encB M (ofL (M.k : Int) v)) (encB M (ofL (M.k : Int) v)).length 0).1)
    (h1 : f1.map fvK = (pre.filter fun f => decide (¬ f.num = nu)).map fvK) (h2 : f2.map fvK = (pre.filter fun f => decide (f.num = nu)).map fvK) :
    (f1 ++ f2).length ≤ 100 ∧ (∀ f ∈ f1 ++ f2, KOk (fvK f)) ∧ putsE (f1 ++ f2) 0 = (0, 0) ∧ (f1 ++ f2).flatMap pBF = (allP M (rowsB (ofL (M.k : Int) v) nu)).flatMap wB ∧ ((allP M (rowsB (ofL (M.k : Int) v) nu)).flatMap wB).length = (encB M (ofL (M.k : Int) v)).length := by
  have h70 : M.l.length ≤ 70 := Nat.le_trans (len64 hc) (by decide)
  have hp := wo_pre v hn hsm h70 hc h
  have h4 := pre_k4 M.k v hn hsm hc h
  have hL : ∀ r ∈ ofL (M.k : Int) v, r ∈ ROWS := fun r hr => ofL_mem _ _ hr
  have key : ∀ (fs : List FV) (p : Int → Bool), fs.map fvK = (pre.filter fun f => p f.num).map fvK → fs.map k4 = allP M ((ofL (M.k : Int) v).filter fun r => p (r.num : Int)) := fun fs p he => by
    have e := congrArg (List.map fun (y : Int × Int × Nat × List UInt8 × Int) => (y.1, y.2.1, y.2.2.1, y.2.2.2.1)) he
    rw [List.map_map, List.map_map] at e
    rw [← allP_filter p _ hL, ← h4, List.filter_map]
    exact e
  have k1 := key f1 (fun x => decide (¬ x = nu)) h1
  have k2 := key f2 (fun x => decide (x = nu)) h2
  have hfk : (f1 ++ f2).map k4 = allP M (rowsB (ofL (M.k : Int) v) nu) := by
    have e0 : (fun r : SRow => decide (¬ (r.num : Int) = nu)) = fun r => !decide ((r.num : Int) = nu) := by funext r; simp
    rw [e0] at k1
    unfold rowsB
    rw [List.map_append, k1, k2]
    unfold allP
    rw [List.flatMap_append]
  have hmemf : ∀ f ∈ f1 ++ f2, KOk (fvK f) := fun f hf => by
    rcases List.mem_append.1 hf with hf | hf
    · have hm : fvK f ∈ (pre.filter fun f => decide (¬ f.num = nu)).map fvK := by rw [← h1]; exact List.mem_map_of_mem hf
      obtain ⟨g, hg, e⟩ := List.mem_map.1 hm
      rw [← e]; exact hp.2 g (List.mem_filter.1 hg).1
    · have hm : fvK f ∈ (pre.filter fun f => decide (f.num = nu)).map fvK := by rw [← h2]; exact List.mem_map_of_mem hf
      obtain ⟨g, hg, e⟩ := List.mem_map.1 hm
      rw [← e]; exact hp.2 g (List.mem_filter.1 hg).1
  have hperm := rowsB_perm (ofL (M.k : Int) v) nu
  have hap : (allP M (rowsB (ofL (M.k : Int) v) nu)).Perm (allP M (ofL (M.k : Int) v)) := by unfold allP; exact hperm.flatMap_right _
  refine ⟨?_, hmemf, putsE_zero _ (fun f hf => ?_) 0, ?_, ?_⟩
  · have e := congrArg List.length hfk
    rw [List.length_map, hap.length_eq] at e
    have h2 := allP_cnt h70 (ofL (M.k : Int) v)
    have h3 := cntr_all M.k v
    omega
  · have hm : k4 f ∈ allP M (rowsB (ofL (M.k : Int) v) nu) := by rw [← hfk]; exact List.mem_map_of_mem hf
    obtain ⟨r, hr, hyr⟩ := allP_ok hn hsm hL (hap.mem_iff.1 hm)
    exact (hyr.put (hL r hr)).1
  · rw [← hfk, List.flatMap_map]
    rfl
  · rw [encB_allP hsm hL hc]
    exact (hap.flatMap_right wB).length_eq
/-- A message is read of its fields in any order of the rows. -/
theorem wf_read {M : MV} (v nu : Int) (hn : ∀ i, M.num i ≤ 18446744073709551615) (hsm : MvSm M) (hc : (chkV M (ofL (M.k : Int) v)).1 = 0) : ∃ M2 oth, readR M.k v ((allP M (rowsB (ofL (M.k : Int) v) nu)).flatMap wB) = (M2, oth, 0, 0) ∧ sameB M2 M = true ∧ strD M.k v ((allP M (rowsB (ofL (M.k : Int) v) nu)).flatMap wB) = if encB M (ofL (M.k : Int) v) = (allP M (rowsB (ofL (M.k : Int) v) nu)).flatMap wB then (M2, 0, 0) else (ZM, 3, unl ((allP M (rowsB (ofL (M.k : Int) v) nu)).flatMap wB) (encB M (ofL (M.k : Int) v))) := by
  have hz := chkV_zero hc
  obtain ⟨M2, oth, h1, h2, h3⟩ := read_rows v v hn hsm hc hz.2.1 _ (rowsB_perm (ofL (M.k : Int) v) nu)
  have hs : sameB M2 M = true := by
    obtain ⟨a1, ⟨a2, a3, a4, a5, a6, a7⟩, ⟨a8, a9⟩, a10⟩ := (sameB_iff _ _).1 h2
    obtain ⟨b1, ⟨b2, b3, b4, b5, b6, b7⟩, ⟨b8, b9⟩, b10⟩ := (sameB_iff _ _).1 (same_symm hz.2.2.2)
    exact (sameB_iff _ _).2 ⟨a1.trans b1, ⟨a2.trans b2, a3.trans b3, a4.trans b4, a5.trans b5, a6.trans b6, a7.trans b7⟩, ⟨a8.trans b8, a9.trans b9⟩, a10.trans b10⟩
  refine ⟨M2, oth, h1, hs, ?_⟩
  unfold strD
  rw [h1, if_pos rfl]
  simp only
  rw [enc_alike hs]
end Go.Proofs.Ytealjpolomhdeaa
