/- skip.read: a field at a reader's place. -/
import Derived.Test.YtefoccpgnijamaaM4
import Derived.Test.YtefoccpgnijamaaM1
import Derived.Test.YtefoccpgnijamaaFldMath
import Derived.RegionTactic
import Derived.ChangeAlike
set_option linter.unusedVariables false
namespace Go.Proofs.Ytefoccpgnijamaa
open Go.RowKit
section
variable {S : Nat → Prop} {w w' : World} {q : Nat}
theorem Rin.chgS {t : TypeId} {A : Option Addr} {c : Nat} {bs : List UInt8} {p : Nat} (h : Rin t w q A c bs p) (hc : Chg S w w') (hq : ¬ S q) (hf : FarS A bs.length S) : Rin t w' q A c bs p := ⟨hc.blk h.blk hq, hc.sl h.sl hf (by simp), h.le, h.far⟩
theorem Only.chgS {w0 : World} (h : Only q w0 w) (hc : Chg S w w') (hS : ∀ k, S k → w0.heap.size ≤ k) : Only q w0 w' :=
  ⟨hc.os.trans h.os, hc.tape.trans h.tape, hc.output.trans h.output, Nat.le_trans h.size hc.size, fun k hk hq => (hc.block k (Nat.lt_of_lt_of_le hk h.size) fun hs => by have := hS k hs; omega).trans (h.block k hk hq)⟩
end
/-- Five cells of one block, two of another one, and a draw. -/
theorem chg52 (w : World) (g h : Nat) (x0 x1 x2 x3 x4 y0 y1 : Value) : Chg (fun k => k = g ∨ k = h) w ((((((((w.setCell ⟨g, 0, none⟩ x0).setCell ⟨g, 1, none⟩ x1).setCell ⟨g, 2, none⟩ x2).setCell ⟨g, 3, none⟩ x3).setCell ⟨g, 4, none⟩ x4).setCell ⟨h, 0, none⟩ y0).setCell ⟨h, 1, none⟩ y1).drew) :=
  (((((((((Chg.refl _ w).set_ (.inl (.inl rfl)) 0 x0).set_ (.inl (.inl rfl)) 1 x1).set_ (.inl (.inl rfl)) 2 x2).set_ (.inl (.inl rfl)) 3 x3).set_ (.inl (.inl rfl)) 4 x4).set_ (.inl (.inr rfl)) 0 y0).set_ (.inl (.inr rfl)) 1 y1)).drew
set_option maxRecDepth 100000 in
set_option maxHeartbeats 400000 in
theorem sread_bad (num x : Int) (e p1 : Nat) (w : World) (q : Nat) (A : Option Addr) (c : Nat) (bs : List UInt8) (p : Nat) (hh : rHead bs p = (num, x, e, p1)) (he : e ≠ 0) (h : Rin 122 w q A c bs p) :
    Calls Try.prog 66 #[.pointer (some ⟨q, 0, none⟩)] w fun e' w' => e' = .returned (.tuple #[.agg #[.int .i64 0, .int .u8 0, .int .u64 0, .slice none 0 0, .int .i64 0], .agg #[.int .i64 (e : Int), .int .i64 (p : Int)]]) ∧ Rin 122 w' q A c bs p ∧ Only q w w' := by
  have hlt := h.blk.lt
  have hat := fun W hb => iat_any 0 W q A c bs p (h.below hb)
  have htg := fun W hb => itagm_any W q A c bs p (h.below hb)
  have hfn := fun g (hg : w.heap.size ≤ g) => far_new h.sl hg
  simp only [hh, he, if_false, flt, plc] at htg
  have heb : ((e : Int) != 0) = true := by simp; omega
  have HAT := hid hat
  have HTG := hid htg
  have HFN := hid hfn
  clear hat htg hfn h hh he
  go_enter Try.func66, Try.ntmps66
  go_wp2_with fail
  generalize hW : World.alloc _ _ = W
  have hbW : Below w.heap.size w W := by rw [← hW]; exact bw_a (bw_a (Below.refl _ w) _) _
  have hoW : Only q w W := .of_below hbW
  have hq2 : Blk W w.heap.size 41 #[.int .i64 0, .int .u8 0, .int .u64 0, .slice none 0 0, .int .i64 0] := by rw [← hW]; exact (Blk.new w _ _).alloc _
  have hq3 : Blk W (w.heap.size + 1) 51 #[.int .i64 0, .int .i64 0] := by
    rw [← hW]
    have := Blk.new (w.alloc (.cells #[.int .i64 0, .int .u8 0, .int .u64 0, .slice none 0 0, .int .i64 0] 41)) 51 #[.int .i64 0, .int .i64 0]
    simpa using this
  clear hW
  refine (HAT.out _ hbW).mono ?_
  rintro e1 w1 ⟨rfl, rfl⟩
  go_wp2_with fail
  refine (HTG.out _ hbW).mono ?_
  rintro e1 w1 ⟨rfl, hrin, ho⟩
  have hk2 := ho.blk hq2 (by omega)
  have hk3 := ho.blk hq3 (by omega)
  have hO := hoW.trans ho
  clear hq2 hq3 hoW ho
  go_wp2_with fail
  generalize hW3 : World.alloc _ _ = W3
  have hb3 : Below w1.heap.size w1 W3 := by rw [← hW3]; exact bw_a (Below.refl _ w1) _
  have hk7 : Blk W3 w1.heap.size 51 #[.int .i64 (e : Int), .int .i64 (p : Int)] := by rw [← hW3]; exact Blk.new w1 _ _
  have m2 := hk2.below hb3 hk2.lt
  have m3 := hk3.below hb3 hk3.lt
  have hn7 : w1.heap.size ≠ w.heap.size := by have := hk2.lt; omega
  have hn8 : w1.heap.size ≠ w.heap.size + 1 := by have := hk3.lt; omega
  have a0 : W3.cell? ⟨w.heap.size, 0, none⟩ = some (.int .i64 0) := m2.cell 0
  have a1 : W3.cell? ⟨w.heap.size, 1, none⟩ = some (.int .u8 0) := m2.cell 1
  have a2 : W3.cell? ⟨w.heap.size, 2, none⟩ = some (.int .u64 0) := m2.cell 2
  have a3 : W3.cell? ⟨w.heap.size, 3, none⟩ = some (.slice none 0 0) := m2.cell 3
  have a4 : W3.cell? ⟨w.heap.size, 4, none⟩ = some (.int .i64 0) := m2.cell 4
  have g0 := m2.frozen 0
  have g1 := m2.frozen 1
  have g2 := m2.frozen 2
  have g3 := m2.frozen 3
  have g4 := m2.frozen 4
  have b0 : W3.cell? ⟨w.heap.size + 1, 0, none⟩ = some (.int .i64 0) := m3.cell 0
  have b1 : W3.cell? ⟨w.heap.size + 1, 1, none⟩ = some (.int .i64 0) := m3.cell 1
  have i0 := m3.frozen 0
  have i1 := m3.frozen 1
  have e0 : W3.cell? ⟨w1.heap.size, 0, none⟩ = some (.int .i64 (e : Int)) := hk7.cell 0
  have e1 : W3.cell? ⟨w1.heap.size, 1, none⟩ = some (.int .i64 (p : Int)) := hk7.cell 1
  have hl2 := m2.lt
  have hl3 := m3.lt
  have hl7 := hk7.lt
  have HR3 := hid (hrin.below hb3)
  have HO3 := hid (hO.trans (.of_below hb3))
  clear hW3 hb3 hk7 m2 m3 hk2 hk3 hrin hO
  go_region
  all_goals go_wp2_with fail
  all_goals refine bodyPost_ret (v := .tuple #[.agg #[.int .i64 0, .int .u8 0, .int .u64 0, .slice none 0 0, .int .i64 0], .agg #[.int .i64 (e : Int), .int .i64 (p : Int)]]) (by simp [results, Try.results66, go_sem, a0, a1, a2, a3, a4, b0, b1]) rfl ⟨rfl, ?_, ?_⟩
  · exact HR3.out.chgS (chg52 W3 w.heap.size (w.heap.size + 1) _ _ _ _ _ _ _) (by omega) (fun hp b o he hS => hS.elim (fun h => HFN.out b (by omega) hp b o he rfl) (fun h => HFN.out b (by omega) hp b o he rfl))
  · exact HO3.out.chgS (chg52 W3 w.heap.size (w.heap.size + 1) _ _ _ _ _ _ _) (fun k hk => by omega)
theorem sval0 (w : World) (q : Nat) (A : Option Addr) (c : Nat) (bs : List UInt8) (p : Nat) (h : Rin 122 w q A c bs p) :
    Calls Try.prog 73 #[.pointer (some ⟨q, 0, none⟩)] w fun e w' => e = .returned (.tuple #[.int .u64 ((rVal 0 bs p).1 : Nat), .agg #[.int .i64 ((rVal 0 bs p).2.2.1 : Nat), .int .i64 (flt (rVal 0 bs p).2.2.1 p : Nat)]]) ∧ Rin 122 w' q A c bs (rVal 0 bs p).2.2.2 ∧ Only q w w' := by
  have h1 := inumm_any w q A c bs p h
  have hr : rVal 0 bs p = (if (M.get (bs.drop p)).2.2 = 0 then (M.get (bs.drop p)).1 else 0, [], (M.get (bs.drop p)).2.2, plc (M.get (bs.drop p)).2.2 p (p + (M.get (bs.drop p)).2.1)) := by unfold rVal; rw [if_pos rfl]
  rw [hr]
  exact h1
theorem sval1 (w : World) (q : Nat) (A : Option Addr) (c : Nat) (bs : List UInt8) (p : Nat) (h : Rin 122 w q A c bs p) :
    Calls Try.prog 74 #[.pointer (some ⟨q, 0, none⟩)] w fun e w' => e = .returned (.tuple #[.int .u64 ((rVal 1 bs p).1 : Nat), .agg #[.int .i64 ((rVal 1 bs p).2.2.1 : Nat), .int .i64 (flt (rVal 1 bs p).2.2.1 p : Nat)]]) ∧ Rin 122 w' q A c bs (rVal 1 bs p).2.2.2 ∧ Only q w w' := by
  have h1 := ieightm_any w q A c bs p h
  have hr : rVal 1 bs p = (if (rFix 8 bs p).2.1 = 0 then (rFix 8 bs p).1 else 0, [], (rFix 8 bs p).2.1, plc (rFix 8 bs p).2.1 p (rFix 8 bs p).2.2) := by unfold rVal; rw [if_neg (by omega), if_pos rfl]
  rw [hr]
  exact h1
theorem sval2 (w : World) (q : Nat) (A : Option Addr) (c : Nat) (bs : List UInt8) (p : Nat) (h : Rin 122 w q A c bs p) :
    Calls Try.prog 75 #[.pointer (some ⟨q, 0, none⟩), .int .i64 8192] w fun e w' => ∃ A' c', e = .returned (.tuple #[.slice A' (rVal 2 bs p).2.1.length c', .agg #[.int .i64 ((rVal 2 bs p).2.2.1 : Nat), .int .i64 (flt (rVal 2 bs p).2.2.1 p : Nat)]]) ∧ Sl w' A' c' ((rVal 2 bs p).2.1.map bv) ∧ (∀ q', Far A bs.length q' → Far A' (rVal 2 bs p).2.1.length q') ∧ Rin 122 w' q A c bs (rVal 2 bs p).2.2.2 ∧ Only q w w' := by
  have h1 := ibytesm_any 8192 w q A c bs p (by omega) (by omega) h
  have hr : rVal 2 bs p = (0, if (rCount 8192 bs p).2.1 = 0 then (rCount 8192 bs p).1 else [], (rCount 8192 bs p).2.1, plc (rCount 8192 bs p).2.1 p (rCount 8192 bs p).2.2) := by unfold rVal; rw [if_neg (by omega), if_neg (by omega), if_pos rfl]
  rw [hr]
  exact h1
theorem sval5 (w : World) (q : Nat) (A : Option Addr) (c : Nat) (bs : List UInt8) (p : Nat) (h : Rin 122 w q A c bs p) :
    Calls Try.prog 76 #[.pointer (some ⟨q, 0, none⟩)] w fun e w' => e = .returned (.tuple #[.int .u32 ((rVal 5 bs p).1 : Nat), .agg #[.int .i64 ((rVal 5 bs p).2.2.1 : Nat), .int .i64 (flt (rVal 5 bs p).2.2.1 p : Nat)]]) ∧ Rin 122 w' q A c bs (rVal 5 bs p).2.2.2 ∧ Only q w w' := by
  have h1 := ifourm_any w q A c bs p h
  have hr : rVal 5 bs p = (if (rFix 4 bs p).2.1 = 0 then (rFix 4 bs p).1 else 0, [], (rFix 4 bs p).2.1, plc (rFix 4 bs p).2.1 p (rFix 4 bs p).2.2) := by unfold rVal; rw [if_neg (by omega), if_neg (by omega), if_neg (by omega)]
  rw [hr]
  exact h1
set_option maxRecDepth 100000 in
set_option maxHeartbeats 1000000 in
theorem sread_0 (num : Int) (p1 : Nat) (v er fa nx : Nat) (w : World) (q : Nat) (A : Option Addr) (c : Nat) (bs : List UInt8) (p : Nat) (hh : rHead bs p = (num, 0, 0, p1)) (hv : rVal 0 bs p1 = (v, [], er, nx)) (hfa : flt er p1 = fa) (hvn : True) (h : Rin 122 w q A c bs p) :
    Calls Try.prog 66 #[.pointer (some ⟨q, 0, none⟩)] w fun e' w' => e' = .returned (.tuple #[.agg #[.int .i64 num, .int .u8 0, .int .u64 (v : Int), .slice none 0 0, .int .i64 (p : Int)], .agg #[.int .i64 (er : Int), .int .i64 (fa : Int)]]) ∧ Rin 122 w' q A c bs nx ∧ Only q w w' := by
  have hlt := h.blk.lt
  have hat := fun W hb => iat_any 0 W q A c bs p (h.below hb)
  have htg := fun W hb => itagm_any W q A c bs p (h.below hb)
  have hvl := fun W hr => sval0 W q A c bs p1 hr
  have hfn := fun g (hg : w.heap.size ≤ g) => far_new h.sl hg
  simp only [hh, if_true, flt, plc] at htg
  simp only [hv, hfa] at hvl
  have HAT := hid hat
  have HTG := hid htg
  have HVL := hid hvl
  have HFN := hid hfn
  clear hat htg hvl hfn h hh hv hfa
  go_enter Try.func66, Try.ntmps66
  go_wp2_with fail
  generalize hW : World.alloc _ _ = W
  have hbW : Below w.heap.size w W := by rw [← hW]; exact bw_a (bw_a (Below.refl _ w) _) _
  have hoW : Only q w W := .of_below hbW
  have hq2 : Blk W w.heap.size 41 #[.int .i64 0, .int .u8 0, .int .u64 0, .slice none 0 0, .int .i64 0] := by rw [← hW]; exact (Blk.new w _ _).alloc _
  have hq3 : Blk W (w.heap.size + 1) 51 #[.int .i64 0, .int .i64 0] := by
    rw [← hW]
    have := Blk.new (w.alloc (.cells #[.int .i64 0, .int .u8 0, .int .u64 0, .slice none 0 0, .int .i64 0] 41)) 51 #[.int .i64 0, .int .i64 0]
    simpa using this
  clear hW
  refine (HAT.out _ hbW).mono ?_
  rintro e1 w1 ⟨rfl, rfl⟩
  go_wp2_with fail
  refine (HTG.out _ hbW).mono ?_
  rintro e1 w1 ⟨rfl, hrin, ho⟩
  have hk2 := ho.blk hq2 (by omega)
  have hk3 := ho.blk hq3 (by omega)
  have hO := hoW.trans ho
  clear hq2 hq3 hoW ho
  go_wp2_with fail
  generalize hW3 : World.alloc _ _ = W3
  have hb3 : Below w1.heap.size w1 W3 := by rw [← hW3]; exact bw_a (bw_a (Below.refl _ w1) _) _
  have hk7 : Blk W3 w1.heap.size 51 #[.int .i64 0, .int .i64 0] := by rw [← hW3]; exact (Blk.new w1 _ _).alloc _
  have hk8 : Blk W3 (w1.heap.size + 1) 41 #[.int .i64 num, .int .u8 0, .int .u64 0, .slice none 0 0, .int .i64 (p : Int)] := by
    rw [← hW3]
    have := Blk.new (w1.alloc (.cells #[.int .i64 0, .int .i64 0] 51)) 41 #[.int .i64 num, .int .u8 0, .int .u64 0, .slice none 0 0, .int .i64 (p : Int)]
    simpa using this
  have hl2 := hk2.lt
  have hl3 := hk3.lt
  have hkk2 := hk2.below hb3 hk2.lt
  have hkk3 := hk3.below hb3 hk3.lt
  have hO3 := hO.trans (.of_below hb3)
  refine (HVL.out _ (hrin.below hb3)).mono ?_
  rintro e5 w5 ⟨rfl, hr5, ho5⟩
  have m2 := ho5.blk hkk2 (by omega)
  have m3 := ho5.blk hkk3 (by omega)
  have m7 := ho5.blk hk7 (by omega)
  have m8 := ho5.blk hk8 (by omega)
  have hO5 := hO3.trans ho5
  clear hW3 hb3 hk7 hk8 hkk2 hkk3 hO3 ho5 hk2 hk3 hO hrin HVL HTG HAT
  have s70 : w5.cell? ⟨w1.heap.size, 0, none⟩ = some (.int .i64 0) := m7.cell 0
  have s71 : w5.cell? ⟨w1.heap.size, 1, none⟩ = some (.int .i64 0) := m7.cell 1
  have s82 : w5.cell? ⟨w1.heap.size + 1, 2, none⟩ = some (.int .u64 0) := m8.cell 2
  have s83 : w5.cell? ⟨w1.heap.size + 1, 3, none⟩ = some (.slice none 0 0) := m8.cell 3
  have y70 := m7.frozen 0
  have y71 := m7.frozen 1
  have y82 := m8.frozen 2
  have y83 := m8.frozen 3
  have hl7 := m7.lt
  have hl8 := m8.lt
  have HR5 := hid hr5
  have HO5 := hid hO5
  have M2 := hid m2
  have M3 := hid m3
  have M7 := hid m7
  have M8 := hid m8
  clear hr5 hO5 m2 m3 m7 m8 
  go_wp2_with fail
  have n8 : Blk (((w5.setCell ⟨w1.heap.size + 1, 2, none⟩ (.int .u64 (v : Int))).setCell ⟨w1.heap.size, 0, none⟩ (.int .i64 (er : Int))).setCell ⟨w1.heap.size, 1, none⟩ (.int .i64 (fa : Int))) (w1.heap.size + 1) 41 #[.int .i64 num, .int .u8 0, .int .u64 (v : Int), .slice none 0 0, .int .i64 (p : Int)] := by
    have := ((M8.out.set_ 2 (.int .u64 (v : Int))).far (p := ⟨w1.heap.size, 0, none⟩) (by simp) (.int .i64 (er : Int))).far (p := ⟨w1.heap.size, 1, none⟩) (by simp) (.int .i64 (fa : Int))
    simpa using this
  have n7 : Blk (((w5.setCell ⟨w1.heap.size + 1, 2, none⟩ (.int .u64 (v : Int))).setCell ⟨w1.heap.size, 0, none⟩ (.int .i64 (er : Int))).setCell ⟨w1.heap.size, 1, none⟩ (.int .i64 (fa : Int))) w1.heap.size 51 #[.int .i64 (er : Int), .int .i64 (fa : Int)] := by
    have := ((M7.out.far (p := ⟨w1.heap.size + 1, 2, none⟩) (by simp) (.int .u64 (v : Int))).set_ 0 (.int .i64 (er : Int))).set_ 1 (.int .i64 (fa : Int))
    simpa using this
  have hc6 : Chg (fun k => k = w1.heap.size ∨ k = w1.heap.size + 1) w5 (((w5.setCell ⟨w1.heap.size + 1, 2, none⟩ (.int .u64 (v : Int))).setCell ⟨w1.heap.size, 0, none⟩ (.int .i64 (er : Int))).setCell ⟨w1.heap.size, 1, none⟩ (.int .i64 (fa : Int))) := ((((Chg.refl _ w5).set_ (.inl (.inr rfl)) 2 (.int .u64 (v : Int))).set_ (.inl (.inl rfl)) 0 (.int .i64 (er : Int))).set_ (.inl (.inl rfl)) 1 (.int .i64 (fa : Int)))
  generalize ((w5.setCell ⟨w1.heap.size + 1, 2, none⟩ (.int .u64 (v : Int))).setCell ⟨w1.heap.size, 0, none⟩ (.int .i64 (er : Int))).setCell ⟨w1.heap.size, 1, none⟩ (.int .i64 (fa : Int)) = W6 at *
  have n2 := hc6.blk M2.out (by omega)
  have n3 := hc6.blk M3.out (by omega)
  have a0 : W6.cell? ⟨w.heap.size, 0, none⟩ = some (.int .i64 0) := n2.cell 0
  have a1 : W6.cell? ⟨w.heap.size, 1, none⟩ = some (.int .u8 0) := n2.cell 1
  have a2 : W6.cell? ⟨w.heap.size, 2, none⟩ = some (.int .u64 0) := n2.cell 2
  have a3 : W6.cell? ⟨w.heap.size, 3, none⟩ = some (.slice none 0 0) := n2.cell 3
  have a4 : W6.cell? ⟨w.heap.size, 4, none⟩ = some (.int .i64 0) := n2.cell 4
  have g0 := n2.frozen 0
  have g1 := n2.frozen 1
  have g2 := n2.frozen 2
  have g3 := n2.frozen 3
  have g4 := n2.frozen 4
  have b0 : W6.cell? ⟨w.heap.size + 1, 0, none⟩ = some (.int .i64 0) := n3.cell 0
  have b1 : W6.cell? ⟨w.heap.size + 1, 1, none⟩ = some (.int .i64 0) := n3.cell 1
  have i0 := n3.frozen 0
  have i1 := n3.frozen 1
  have e0 : W6.cell? ⟨w1.heap.size, 0, none⟩ = some (.int .i64 (er : Int)) := n7.cell 0
  have e1 : W6.cell? ⟨w1.heap.size, 1, none⟩ = some (.int .i64 (fa : Int)) := n7.cell 1
  have f0 : W6.cell? ⟨w1.heap.size + 1, 0, none⟩ = some (.int .i64 num) := n8.cell 0
  have f1 : W6.cell? ⟨w1.heap.size + 1, 1, none⟩ = some (.int .u8 0) := n8.cell 1
  have f2 : W6.cell? ⟨w1.heap.size + 1, 2, none⟩ = some (.int .u64 (v : Int)) := n8.cell 2
  have f3 : W6.cell? ⟨w1.heap.size + 1, 3, none⟩ = some (.slice none 0 0) := n8.cell 3
  have f4 : W6.cell? ⟨w1.heap.size + 1, 4, none⟩ = some (.int .i64 (p : Int)) := n8.cell 4
  have hn7 : w1.heap.size ≠ w.heap.size := by omega
  have hn8 : w1.heap.size ≠ w.heap.size + 1 := by omega
  have hn9 : w1.heap.size + 1 ≠ w.heap.size := by omega
  have hn10 : w1.heap.size + 1 ≠ w.heap.size + 1 := by omega
  have hla := n2.lt
  have hlb := n3.lt
  have hlc := n7.lt
  have hld := n8.lt
  have HC6 := hid hc6
  clear n2 n3 n7 n8 hc6 M2 M3 M7 M8 s70 s71 s82 s83 y70 y71 y82 y83
  go_region
  all_goals go_wp2_with fail
  refine bodyPost_ret (v := .tuple #[.agg #[.int .i64 num, .int .u8 0, .int .u64 (v : Int), .slice none 0 0, .int .i64 (p : Int)], .agg #[.int .i64 (er : Int), .int .i64 (fa : Int)]]) (by simp [results, Try.results66, go_sem, a0, a1, a2, a3, a4, b0, b1]) rfl ⟨rfl, ?_, ?_⟩
  · exact (HR5.out.chgS HC6.out (by omega) (fun hp b o he hS => hS.elim (fun h => HFN.out b (by omega) hp b o he rfl) (fun h => HFN.out b (by omega) hp b o he rfl))).chgS (chg52 W6 w.heap.size (w.heap.size + 1) _ _ _ _ _ _ _) (by omega) (fun hp b o he hS => hS.elim (fun h => HFN.out b (by omega) hp b o he rfl) (fun h => HFN.out b (by omega) hp b o he rfl))
  · exact (HO5.out.chgS HC6.out (fun k hk => by omega)).chgS (chg52 W6 w.heap.size (w.heap.size + 1) _ _ _ _ _ _ _) (fun k hk => by omega)
set_option maxRecDepth 100000 in
set_option maxHeartbeats 1000000 in
theorem sread_1 (num : Int) (p1 : Nat) (v er fa nx : Nat) (w : World) (q : Nat) (A : Option Addr) (c : Nat) (bs : List UInt8) (p : Nat) (hh : rHead bs p = (num, 1, 0, p1)) (hv : rVal 1 bs p1 = (v, [], er, nx)) (hfa : flt er p1 = fa) (hvn : True) (h : Rin 122 w q A c bs p) :
    Calls Try.prog 66 #[.pointer (some ⟨q, 0, none⟩)] w fun e' w' => e' = .returned (.tuple #[.agg #[.int .i64 num, .int .u8 1, .int .u64 (v : Int), .slice none 0 0, .int .i64 (p : Int)], .agg #[.int .i64 (er : Int), .int .i64 (fa : Int)]]) ∧ Rin 122 w' q A c bs nx ∧ Only q w w' := by
  have hlt := h.blk.lt
  have hat := fun W hb => iat_any 0 W q A c bs p (h.below hb)
  have htg := fun W hb => itagm_any W q A c bs p (h.below hb)
  have hvl := fun W hr => sval1 W q A c bs p1 hr
  have hfn := fun g (hg : w.heap.size ≤ g) => far_new h.sl hg
  simp only [hh, if_true, flt, plc] at htg
  simp only [hv, hfa] at hvl
  have HAT := hid hat
  have HTG := hid htg
  have HVL := hid hvl
  have HFN := hid hfn
  clear hat htg hvl hfn h hh hv hfa
  go_enter Try.func66, Try.ntmps66
  go_wp2_with fail
  generalize hW : World.alloc _ _ = W
  have hbW : Below w.heap.size w W := by rw [← hW]; exact bw_a (bw_a (Below.refl _ w) _) _
  have hoW : Only q w W := .of_below hbW
  have hq2 : Blk W w.heap.size 41 #[.int .i64 0, .int .u8 0, .int .u64 0, .slice none 0 0, .int .i64 0] := by rw [← hW]; exact (Blk.new w _ _).alloc _
  have hq3 : Blk W (w.heap.size + 1) 51 #[.int .i64 0, .int .i64 0] := by
    rw [← hW]
    have := Blk.new (w.alloc (.cells #[.int .i64 0, .int .u8 0, .int .u64 0, .slice none 0 0, .int .i64 0] 41)) 51 #[.int .i64 0, .int .i64 0]
    simpa using this
  clear hW
  refine (HAT.out _ hbW).mono ?_
  rintro e1 w1 ⟨rfl, rfl⟩
  go_wp2_with fail
  refine (HTG.out _ hbW).mono ?_
  rintro e1 w1 ⟨rfl, hrin, ho⟩
  have hk2 := ho.blk hq2 (by omega)
  have hk3 := ho.blk hq3 (by omega)
  have hO := hoW.trans ho
  clear hq2 hq3 hoW ho
  go_wp2_with fail
  generalize hW3 : World.alloc _ _ = W3
  have hb3 : Below w1.heap.size w1 W3 := by rw [← hW3]; exact bw_a (bw_a (Below.refl _ w1) _) _
  have hk7 : Blk W3 w1.heap.size 51 #[.int .i64 0, .int .i64 0] := by rw [← hW3]; exact (Blk.new w1 _ _).alloc _
  have hk8 : Blk W3 (w1.heap.size + 1) 41 #[.int .i64 num, .int .u8 1, .int .u64 0, .slice none 0 0, .int .i64 (p : Int)] := by
    rw [← hW3]
    have := Blk.new (w1.alloc (.cells #[.int .i64 0, .int .i64 0] 51)) 41 #[.int .i64 num, .int .u8 1, .int .u64 0, .slice none 0 0, .int .i64 (p : Int)]
    simpa using this
  have hl2 := hk2.lt
  have hl3 := hk3.lt
  have hkk2 := hk2.below hb3 hk2.lt
  have hkk3 := hk3.below hb3 hk3.lt
  have hO3 := hO.trans (.of_below hb3)
  refine (HVL.out _ (hrin.below hb3)).mono ?_
  rintro e5 w5 ⟨rfl, hr5, ho5⟩
  have m2 := ho5.blk hkk2 (by omega)
  have m3 := ho5.blk hkk3 (by omega)
  have m7 := ho5.blk hk7 (by omega)
  have m8 := ho5.blk hk8 (by omega)
  have hO5 := hO3.trans ho5
  clear hW3 hb3 hk7 hk8 hkk2 hkk3 hO3 ho5 hk2 hk3 hO hrin HVL HTG HAT
  have s70 : w5.cell? ⟨w1.heap.size, 0, none⟩ = some (.int .i64 0) := m7.cell 0
  have s71 : w5.cell? ⟨w1.heap.size, 1, none⟩ = some (.int .i64 0) := m7.cell 1
  have s82 : w5.cell? ⟨w1.heap.size + 1, 2, none⟩ = some (.int .u64 0) := m8.cell 2
  have s83 : w5.cell? ⟨w1.heap.size + 1, 3, none⟩ = some (.slice none 0 0) := m8.cell 3
  have y70 := m7.frozen 0
  have y71 := m7.frozen 1
  have y82 := m8.frozen 2
  have y83 := m8.frozen 3
  have hl7 := m7.lt
  have hl8 := m8.lt
  have HR5 := hid hr5
  have HO5 := hid hO5
  have M2 := hid m2
  have M3 := hid m3
  have M7 := hid m7
  have M8 := hid m8
  clear hr5 hO5 m2 m3 m7 m8 
  go_wp2_with fail
  have n8 : Blk (((w5.setCell ⟨w1.heap.size + 1, 2, none⟩ (.int .u64 (v : Int))).setCell ⟨w1.heap.size, 0, none⟩ (.int .i64 (er : Int))).setCell ⟨w1.heap.size, 1, none⟩ (.int .i64 (fa : Int))) (w1.heap.size + 1) 41 #[.int .i64 num, .int .u8 1, .int .u64 (v : Int), .slice none 0 0, .int .i64 (p : Int)] := by
    have := ((M8.out.set_ 2 (.int .u64 (v : Int))).far (p := ⟨w1.heap.size, 0, none⟩) (by simp) (.int .i64 (er : Int))).far (p := ⟨w1.heap.size, 1, none⟩) (by simp) (.int .i64 (fa : Int))
    simpa using this
  have n7 : Blk (((w5.setCell ⟨w1.heap.size + 1, 2, none⟩ (.int .u64 (v : Int))).setCell ⟨w1.heap.size, 0, none⟩ (.int .i64 (er : Int))).setCell ⟨w1.heap.size, 1, none⟩ (.int .i64 (fa : Int))) w1.heap.size 51 #[.int .i64 (er : Int), .int .i64 (fa : Int)] := by
    have := ((M7.out.far (p := ⟨w1.heap.size + 1, 2, none⟩) (by simp) (.int .u64 (v : Int))).set_ 0 (.int .i64 (er : Int))).set_ 1 (.int .i64 (fa : Int))
    simpa using this
  have hc6 : Chg (fun k => k = w1.heap.size ∨ k = w1.heap.size + 1) w5 (((w5.setCell ⟨w1.heap.size + 1, 2, none⟩ (.int .u64 (v : Int))).setCell ⟨w1.heap.size, 0, none⟩ (.int .i64 (er : Int))).setCell ⟨w1.heap.size, 1, none⟩ (.int .i64 (fa : Int))) := ((((Chg.refl _ w5).set_ (.inl (.inr rfl)) 2 (.int .u64 (v : Int))).set_ (.inl (.inl rfl)) 0 (.int .i64 (er : Int))).set_ (.inl (.inl rfl)) 1 (.int .i64 (fa : Int)))
  generalize ((w5.setCell ⟨w1.heap.size + 1, 2, none⟩ (.int .u64 (v : Int))).setCell ⟨w1.heap.size, 0, none⟩ (.int .i64 (er : Int))).setCell ⟨w1.heap.size, 1, none⟩ (.int .i64 (fa : Int)) = W6 at *
  have n2 := hc6.blk M2.out (by omega)
  have n3 := hc6.blk M3.out (by omega)
  have a0 : W6.cell? ⟨w.heap.size, 0, none⟩ = some (.int .i64 0) := n2.cell 0
  have a1 : W6.cell? ⟨w.heap.size, 1, none⟩ = some (.int .u8 0) := n2.cell 1
  have a2 : W6.cell? ⟨w.heap.size, 2, none⟩ = some (.int .u64 0) := n2.cell 2
  have a3 : W6.cell? ⟨w.heap.size, 3, none⟩ = some (.slice none 0 0) := n2.cell 3
  have a4 : W6.cell? ⟨w.heap.size, 4, none⟩ = some (.int .i64 0) := n2.cell 4
  have g0 := n2.frozen 0
  have g1 := n2.frozen 1
  have g2 := n2.frozen 2
  have g3 := n2.frozen 3
  have g4 := n2.frozen 4
  have b0 : W6.cell? ⟨w.heap.size + 1, 0, none⟩ = some (.int .i64 0) := n3.cell 0
  have b1 : W6.cell? ⟨w.heap.size + 1, 1, none⟩ = some (.int .i64 0) := n3.cell 1
  have i0 := n3.frozen 0
  have i1 := n3.frozen 1
  have e0 : W6.cell? ⟨w1.heap.size, 0, none⟩ = some (.int .i64 (er : Int)) := n7.cell 0
  have e1 : W6.cell? ⟨w1.heap.size, 1, none⟩ = some (.int .i64 (fa : Int)) := n7.cell 1
  have f0 : W6.cell? ⟨w1.heap.size + 1, 0, none⟩ = some (.int .i64 num) := n8.cell 0
  have f1 : W6.cell? ⟨w1.heap.size + 1, 1, none⟩ = some (.int .u8 1) := n8.cell 1
  have f2 : W6.cell? ⟨w1.heap.size + 1, 2, none⟩ = some (.int .u64 (v : Int)) := n8.cell 2
  have f3 : W6.cell? ⟨w1.heap.size + 1, 3, none⟩ = some (.slice none 0 0) := n8.cell 3
  have f4 : W6.cell? ⟨w1.heap.size + 1, 4, none⟩ = some (.int .i64 (p : Int)) := n8.cell 4
  have hn7 : w1.heap.size ≠ w.heap.size := by omega
  have hn8 : w1.heap.size ≠ w.heap.size + 1 := by omega
  have hn9 : w1.heap.size + 1 ≠ w.heap.size := by omega
  have hn10 : w1.heap.size + 1 ≠ w.heap.size + 1 := by omega
  have hla := n2.lt
  have hlb := n3.lt
  have hlc := n7.lt
  have hld := n8.lt
  have HC6 := hid hc6
  clear n2 n3 n7 n8 hc6 M2 M3 M7 M8 s70 s71 s82 s83 y70 y71 y82 y83
  go_region
  all_goals go_wp2_with fail
  refine bodyPost_ret (v := .tuple #[.agg #[.int .i64 num, .int .u8 1, .int .u64 (v : Int), .slice none 0 0, .int .i64 (p : Int)], .agg #[.int .i64 (er : Int), .int .i64 (fa : Int)]]) (by simp [results, Try.results66, go_sem, a0, a1, a2, a3, a4, b0, b1]) rfl ⟨rfl, ?_, ?_⟩
  · exact (HR5.out.chgS HC6.out (by omega) (fun hp b o he hS => hS.elim (fun h => HFN.out b (by omega) hp b o he rfl) (fun h => HFN.out b (by omega) hp b o he rfl))).chgS (chg52 W6 w.heap.size (w.heap.size + 1) _ _ _ _ _ _ _) (by omega) (fun hp b o he hS => hS.elim (fun h => HFN.out b (by omega) hp b o he rfl) (fun h => HFN.out b (by omega) hp b o he rfl))
  · exact (HO5.out.chgS HC6.out (fun k hk => by omega)).chgS (chg52 W6 w.heap.size (w.heap.size + 1) _ _ _ _ _ _ _) (fun k hk => by omega)
set_option maxRecDepth 100000 in
set_option maxHeartbeats 1000000 in
theorem sread_2 (num : Int) (p1 : Nat) (er fa nx : Nat) (xs : List UInt8) (xl : Nat) (w : World) (q : Nat) (A : Option Addr) (c : Nat) (bs : List UInt8) (p : Nat) (hh : rHead bs p = (num, 2, 0, p1)) (hv : rVal 2 bs p1 = (0, xs, er, nx)) (hxl : xs.length = xl) (hfa : flt er p1 = fa) (hvn : True) (h : Rin 122 w q A c bs p) :
    Calls Try.prog 66 #[.pointer (some ⟨q, 0, none⟩)] w fun e' w' => ∃ A' c', e' = .returned (.tuple #[.agg #[.int .i64 num, .int .u8 2, .int .u64 0, .slice A' xl c', .int .i64 (p : Int)], .agg #[.int .i64 (er : Int), .int .i64 (fa : Int)]]) ∧ Sl w' A' c' (xs.map bv) ∧ (∀ q', Far A bs.length q' → Far A' xl q') ∧ Rin 122 w' q A c bs nx ∧ Only q w w' := by
  have hlt := h.blk.lt
  have hat := fun W hb => iat_any 0 W q A c bs p (h.below hb)
  have htg := fun W hb => itagm_any W q A c bs p (h.below hb)
  have hvl := fun W hr => sval2 W q A c bs p1 hr
  have hfn := fun g (hg : w.heap.size ≤ g) => far_new h.sl hg
  simp only [hh, if_true, flt, plc] at htg
  simp only [hv, hfa] at hvl
  simp only [hxl] at hvl
  have HXL := hid hxl
  have HAT := hid hat
  have HTG := hid htg
  have HVL := hid hvl
  have HFN := hid hfn
  clear hat htg hvl hfn h hh hv hfa hxl
  go_enter Try.func66, Try.ntmps66
  go_wp2_with fail
  generalize hW : World.alloc _ _ = W
  have hbW : Below w.heap.size w W := by rw [← hW]; exact bw_a (bw_a (Below.refl _ w) _) _
  have hoW : Only q w W := .of_below hbW
  have hq2 : Blk W w.heap.size 41 #[.int .i64 0, .int .u8 0, .int .u64 0, .slice none 0 0, .int .i64 0] := by rw [← hW]; exact (Blk.new w _ _).alloc _
  have hq3 : Blk W (w.heap.size + 1) 51 #[.int .i64 0, .int .i64 0] := by
    rw [← hW]
    have := Blk.new (w.alloc (.cells #[.int .i64 0, .int .u8 0, .int .u64 0, .slice none 0 0, .int .i64 0] 41)) 51 #[.int .i64 0, .int .i64 0]
    simpa using this
  clear hW
  refine (HAT.out _ hbW).mono ?_
  rintro e1 w1 ⟨rfl, rfl⟩
  go_wp2_with fail
  refine (HTG.out _ hbW).mono ?_
  rintro e1 w1 ⟨rfl, hrin, ho⟩
  have hk2 := ho.blk hq2 (by omega)
  have hk3 := ho.blk hq3 (by omega)
  have hO := hoW.trans ho
  clear hq2 hq3 hoW ho
  go_wp2_with fail
  generalize hW3 : World.alloc _ _ = W3
  have hb3 : Below w1.heap.size w1 W3 := by rw [← hW3]; exact bw_a (bw_a (Below.refl _ w1) _) _
  have hk7 : Blk W3 w1.heap.size 51 #[.int .i64 0, .int .i64 0] := by rw [← hW3]; exact (Blk.new w1 _ _).alloc _
  have hk8 : Blk W3 (w1.heap.size + 1) 41 #[.int .i64 num, .int .u8 2, .int .u64 0, .slice none 0 0, .int .i64 (p : Int)] := by
    rw [← hW3]
    have := Blk.new (w1.alloc (.cells #[.int .i64 0, .int .i64 0] 51)) 41 #[.int .i64 num, .int .u8 2, .int .u64 0, .slice none 0 0, .int .i64 (p : Int)]
    simpa using this
  have hl2 := hk2.lt
  have hl3 := hk3.lt
  have hkk2 := hk2.below hb3 hk2.lt
  have hkk3 := hk3.below hb3 hk3.lt
  have hO3 := hO.trans (.of_below hb3)
  refine (HVL.out _ (hrin.below hb3)).mono ?_
  rintro e5 w5 ⟨A9, c9, rfl, hs9, hf9, hr5, ho5⟩
  have m2 := ho5.blk hkk2 (by omega)
  have m3 := ho5.blk hkk3 (by omega)
  have m7 := ho5.blk hk7 (by omega)
  have m8 := ho5.blk hk8 (by omega)
  have hO5 := hO3.trans ho5
  clear hW3 hb3 hk7 hk8 hkk2 hkk3 hO3 ho5 hk2 hk3 hO hrin HVL HTG HAT
  have s70 : w5.cell? ⟨w1.heap.size, 0, none⟩ = some (.int .i64 0) := m7.cell 0
  have s71 : w5.cell? ⟨w1.heap.size, 1, none⟩ = some (.int .i64 0) := m7.cell 1
  have s82 : w5.cell? ⟨w1.heap.size + 1, 2, none⟩ = some (.int .u64 0) := m8.cell 2
  have s83 : w5.cell? ⟨w1.heap.size + 1, 3, none⟩ = some (.slice none 0 0) := m8.cell 3
  have y70 := m7.frozen 0
  have y71 := m7.frozen 1
  have y82 := m8.frozen 2
  have y83 := m8.frozen 3
  have hl7 := m7.lt
  have hl8 := m8.lt
  have HR5 := hid hr5
  have HS9 := hid hs9
  have HF9 := hid hf9
  have HO5 := hid hO5
  have M2 := hid m2
  have M3 := hid m3
  have M7 := hid m7
  have M8 := hid m8
  clear hr5 hO5 m2 m3 m7 m8 hs9 hf9 
  go_wp2_with fail
  have n8 : Blk (((w5.setCell ⟨w1.heap.size + 1, 3, none⟩ (.slice A9 xl c9)).setCell ⟨w1.heap.size, 0, none⟩ (.int .i64 (er : Int))).setCell ⟨w1.heap.size, 1, none⟩ (.int .i64 (fa : Int))) (w1.heap.size + 1) 41 #[.int .i64 num, .int .u8 2, .int .u64 0, .slice A9 xl c9, .int .i64 (p : Int)] := by
    have := ((M8.out.set_ 3 (.slice A9 xl c9)).far (p := ⟨w1.heap.size, 0, none⟩) (by simp) (.int .i64 (er : Int))).far (p := ⟨w1.heap.size, 1, none⟩) (by simp) (.int .i64 (fa : Int))
    simpa using this
  have n7 : Blk (((w5.setCell ⟨w1.heap.size + 1, 3, none⟩ (.slice A9 xl c9)).setCell ⟨w1.heap.size, 0, none⟩ (.int .i64 (er : Int))).setCell ⟨w1.heap.size, 1, none⟩ (.int .i64 (fa : Int))) w1.heap.size 51 #[.int .i64 (er : Int), .int .i64 (fa : Int)] := by
    have := ((M7.out.far (p := ⟨w1.heap.size + 1, 3, none⟩) (by simp) (.slice A9 xl c9)).set_ 0 (.int .i64 (er : Int))).set_ 1 (.int .i64 (fa : Int))
    simpa using this
  have hc6 : Chg (fun k => k = w1.heap.size ∨ k = w1.heap.size + 1) w5 (((w5.setCell ⟨w1.heap.size + 1, 3, none⟩ (.slice A9 xl c9)).setCell ⟨w1.heap.size, 0, none⟩ (.int .i64 (er : Int))).setCell ⟨w1.heap.size, 1, none⟩ (.int .i64 (fa : Int))) := ((((Chg.refl _ w5).set_ (.inl (.inr rfl)) 3 (.slice A9 xl c9)).set_ (.inl (.inl rfl)) 0 (.int .i64 (er : Int))).set_ (.inl (.inl rfl)) 1 (.int .i64 (fa : Int)))
  generalize ((w5.setCell ⟨w1.heap.size + 1, 3, none⟩ (.slice A9 xl c9)).setCell ⟨w1.heap.size, 0, none⟩ (.int .i64 (er : Int))).setCell ⟨w1.heap.size, 1, none⟩ (.int .i64 (fa : Int)) = W6 at *
  have n2 := hc6.blk M2.out (by omega)
  have n3 := hc6.blk M3.out (by omega)
  have a0 : W6.cell? ⟨w.heap.size, 0, none⟩ = some (.int .i64 0) := n2.cell 0
  have a1 : W6.cell? ⟨w.heap.size, 1, none⟩ = some (.int .u8 0) := n2.cell 1
  have a2 : W6.cell? ⟨w.heap.size, 2, none⟩ = some (.int .u64 0) := n2.cell 2
  have a3 : W6.cell? ⟨w.heap.size, 3, none⟩ = some (.slice none 0 0) := n2.cell 3
  have a4 : W6.cell? ⟨w.heap.size, 4, none⟩ = some (.int .i64 0) := n2.cell 4
  have g0 := n2.frozen 0
  have g1 := n2.frozen 1
  have g2 := n2.frozen 2
  have g3 := n2.frozen 3
  have g4 := n2.frozen 4
  have b0 : W6.cell? ⟨w.heap.size + 1, 0, none⟩ = some (.int .i64 0) := n3.cell 0
  have b1 : W6.cell? ⟨w.heap.size + 1, 1, none⟩ = some (.int .i64 0) := n3.cell 1
  have i0 := n3.frozen 0
  have i1 := n3.frozen 1
  have e0 : W6.cell? ⟨w1.heap.size, 0, none⟩ = some (.int .i64 (er : Int)) := n7.cell 0
  have e1 : W6.cell? ⟨w1.heap.size, 1, none⟩ = some (.int .i64 (fa : Int)) := n7.cell 1
  have f0 : W6.cell? ⟨w1.heap.size + 1, 0, none⟩ = some (.int .i64 num) := n8.cell 0
  have f1 : W6.cell? ⟨w1.heap.size + 1, 1, none⟩ = some (.int .u8 2) := n8.cell 1
  have f2 : W6.cell? ⟨w1.heap.size + 1, 2, none⟩ = some (.int .u64 0) := n8.cell 2
  have f3 : W6.cell? ⟨w1.heap.size + 1, 3, none⟩ = some (.slice A9 xl c9) := n8.cell 3
  have f4 : W6.cell? ⟨w1.heap.size + 1, 4, none⟩ = some (.int .i64 (p : Int)) := n8.cell 4
  have hn7 : w1.heap.size ≠ w.heap.size := by omega
  have hn8 : w1.heap.size ≠ w.heap.size + 1 := by omega
  have hn9 : w1.heap.size + 1 ≠ w.heap.size := by omega
  have hn10 : w1.heap.size + 1 ≠ w.heap.size + 1 := by omega
  have hla := n2.lt
  have hlb := n3.lt
  have hlc := n7.lt
  have hld := n8.lt
  have HC6 := hid hc6
  clear n2 n3 n7 n8 hc6 M2 M3 M7 M8 s70 s71 s82 s83 y70 y71 y82 y83
  go_region
  all_goals go_wp2_with fail
  refine bodyPost_ret (v := .tuple #[.agg #[.int .i64 num, .int .u8 2, .int .u64 0, .slice A9 xl c9, .int .i64 (p : Int)], .agg #[.int .i64 (er : Int), .int .i64 (fa : Int)]]) (by simp [results, Try.results66, go_sem, a0, a1, a2, a3, a4, b0, b1]) rfl ⟨A9, c9, rfl, (HC6.out.sl HS9.out (n := xl) (fun hp b o he hS => hS.elim (fun h => HF9.out b (HFN.out b (by omega)) hp b o he rfl) (fun h => HF9.out b (HFN.out b (by omega)) hp b o he rfl)) (by rw [List.length_map]; exact HXL.out) |> fun h => (chg52 W6 w.heap.size (w.heap.size + 1) _ _ _ _ _ _ _).sl h (n := xl) (fun hp b o he hS => hS.elim (fun h => HF9.out b (HFN.out b (by omega)) hp b o he rfl) (fun h => HF9.out b (HFN.out b (by omega)) hp b o he rfl)) (by rw [List.length_map]; exact HXL.out)), HF9.out, ?_, ?_⟩
  · exact (HR5.out.chgS HC6.out (by omega) (fun hp b o he hS => hS.elim (fun h => HFN.out b (by omega) hp b o he rfl) (fun h => HFN.out b (by omega) hp b o he rfl))).chgS (chg52 W6 w.heap.size (w.heap.size + 1) _ _ _ _ _ _ _) (by omega) (fun hp b o he hS => hS.elim (fun h => HFN.out b (by omega) hp b o he rfl) (fun h => HFN.out b (by omega) hp b o he rfl))
  · exact (HO5.out.chgS HC6.out (fun k hk => by omega)).chgS (chg52 W6 w.heap.size (w.heap.size + 1) _ _ _ _ _ _ _) (fun k hk => by omega)
set_option maxRecDepth 100000 in
set_option maxHeartbeats 1000000 in
theorem sread_5 (num : Int) (p1 : Nat) (v er fa nx : Nat) (w : World) (q : Nat) (A : Option Addr) (c : Nat) (bs : List UInt8) (p : Nat) (hh : rHead bs p = (num, 5, 0, p1)) (hv : rVal 5 bs p1 = (v, [], er, nx)) (hfa : flt er p1 = fa) (hvn : v ≤ 4294967295) (h : Rin 122 w q A c bs p) :
    Calls Try.prog 66 #[.pointer (some ⟨q, 0, none⟩)] w fun e' w' => e' = .returned (.tuple #[.agg #[.int .i64 num, .int .u8 5, .int .u64 (v : Int), .slice none 0 0, .int .i64 (p : Int)], .agg #[.int .i64 (er : Int), .int .i64 (fa : Int)]]) ∧ Rin 122 w' q A c bs nx ∧ Only q w w' := by
  have hlt := h.blk.lt
  have hat := fun W hb => iat_any 0 W q A c bs p (h.below hb)
  have htg := fun W hb => itagm_any W q A c bs p (h.below hb)
  have hvl := fun W hr => sval5 W q A c bs p1 hr
  have hfn := fun g (hg : w.heap.size ≤ g) => far_new h.sl hg
  simp only [hh, if_true, flt, plc] at htg
  simp only [hv, hfa] at hvl
  have hw9 : IntKind.u64.wrap (v : Int) = (v : Int) := IntWalk.u64_in _ (by omega)
  have HAT := hid hat
  have HTG := hid htg
  have HVL := hid hvl
  have HFN := hid hfn
  clear hat htg hvl hfn h hh hv hfa
  go_enter Try.func66, Try.ntmps66
  go_wp2_with fail
  generalize hW : World.alloc _ _ = W
  have hbW : Below w.heap.size w W := by rw [← hW]; exact bw_a (bw_a (Below.refl _ w) _) _
  have hoW : Only q w W := .of_below hbW
  have hq2 : Blk W w.heap.size 41 #[.int .i64 0, .int .u8 0, .int .u64 0, .slice none 0 0, .int .i64 0] := by rw [← hW]; exact (Blk.new w _ _).alloc _
  have hq3 : Blk W (w.heap.size + 1) 51 #[.int .i64 0, .int .i64 0] := by
    rw [← hW]
    have := Blk.new (w.alloc (.cells #[.int .i64 0, .int .u8 0, .int .u64 0, .slice none 0 0, .int .i64 0] 41)) 51 #[.int .i64 0, .int .i64 0]
    simpa using this
  clear hW
  refine (HAT.out _ hbW).mono ?_
  rintro e1 w1 ⟨rfl, rfl⟩
  go_wp2_with fail
  refine (HTG.out _ hbW).mono ?_
  rintro e1 w1 ⟨rfl, hrin, ho⟩
  have hk2 := ho.blk hq2 (by omega)
  have hk3 := ho.blk hq3 (by omega)
  have hO := hoW.trans ho
  clear hq2 hq3 hoW ho
  go_wp2_with fail
  generalize hW3 : World.alloc _ _ = W3
  have hb3 : Below w1.heap.size w1 W3 := by rw [← hW3]; exact bw_a (bw_a (Below.refl _ w1) _) _
  have hk7 : Blk W3 w1.heap.size 51 #[.int .i64 0, .int .i64 0] := by rw [← hW3]; exact (Blk.new w1 _ _).alloc _
  have hk8 : Blk W3 (w1.heap.size + 1) 41 #[.int .i64 num, .int .u8 5, .int .u64 0, .slice none 0 0, .int .i64 (p : Int)] := by
    rw [← hW3]
    have := Blk.new (w1.alloc (.cells #[.int .i64 0, .int .i64 0] 51)) 41 #[.int .i64 num, .int .u8 5, .int .u64 0, .slice none 0 0, .int .i64 (p : Int)]
    simpa using this
  have hl2 := hk2.lt
  have hl3 := hk3.lt
  have hkk2 := hk2.below hb3 hk2.lt
  have hkk3 := hk3.below hb3 hk3.lt
  have hO3 := hO.trans (.of_below hb3)
  refine (HVL.out _ (hrin.below hb3)).mono ?_
  rintro e5 w5 ⟨rfl, hr5, ho5⟩
  have m2 := ho5.blk hkk2 (by omega)
  have m3 := ho5.blk hkk3 (by omega)
  have m7 := ho5.blk hk7 (by omega)
  have m8 := ho5.blk hk8 (by omega)
  have hO5 := hO3.trans ho5
  clear hW3 hb3 hk7 hk8 hkk2 hkk3 hO3 ho5 hk2 hk3 hO hrin HVL HTG HAT
  have s70 : w5.cell? ⟨w1.heap.size, 0, none⟩ = some (.int .i64 0) := m7.cell 0
  have s71 : w5.cell? ⟨w1.heap.size, 1, none⟩ = some (.int .i64 0) := m7.cell 1
  have s82 : w5.cell? ⟨w1.heap.size + 1, 2, none⟩ = some (.int .u64 0) := m8.cell 2
  have s83 : w5.cell? ⟨w1.heap.size + 1, 3, none⟩ = some (.slice none 0 0) := m8.cell 3
  have y70 := m7.frozen 0
  have y71 := m7.frozen 1
  have y82 := m8.frozen 2
  have y83 := m8.frozen 3
  have hl7 := m7.lt
  have hl8 := m8.lt
  have HR5 := hid hr5
  have HO5 := hid hO5
  have M2 := hid m2
  have M3 := hid m3
  have M7 := hid m7
  have M8 := hid m8
  clear hr5 hO5 m2 m3 m7 m8 
  go_wp2_with fail
  have n8 : Blk (((w5.setCell ⟨w1.heap.size, 0, none⟩ (.int .i64 (er : Int))).setCell ⟨w1.heap.size, 1, none⟩ (.int .i64 (fa : Int))).setCell ⟨w1.heap.size + 1, 2, none⟩ (.int .u64 (v : Int))) (w1.heap.size + 1) 41 #[.int .i64 num, .int .u8 5, .int .u64 (v : Int), .slice none 0 0, .int .i64 (p : Int)] := by
    have := ((M8.out.far (p := ⟨w1.heap.size, 0, none⟩) (by simp) (.int .i64 (er : Int))).far (p := ⟨w1.heap.size, 1, none⟩) (by simp) (.int .i64 (fa : Int))).set_ 2 (.int .u64 (v : Int))
    simpa using this
  have n7 : Blk (((w5.setCell ⟨w1.heap.size, 0, none⟩ (.int .i64 (er : Int))).setCell ⟨w1.heap.size, 1, none⟩ (.int .i64 (fa : Int))).setCell ⟨w1.heap.size + 1, 2, none⟩ (.int .u64 (v : Int))) w1.heap.size 51 #[.int .i64 (er : Int), .int .i64 (fa : Int)] := by
    have := ((M7.out.set_ 0 (.int .i64 (er : Int))).set_ 1 (.int .i64 (fa : Int))).far (p := ⟨w1.heap.size + 1, 2, none⟩) (by simp) (.int .u64 (v : Int))
    simpa using this
  have hc6 : Chg (fun k => k = w1.heap.size ∨ k = w1.heap.size + 1) w5 (((w5.setCell ⟨w1.heap.size, 0, none⟩ (.int .i64 (er : Int))).setCell ⟨w1.heap.size, 1, none⟩ (.int .i64 (fa : Int))).setCell ⟨w1.heap.size + 1, 2, none⟩ (.int .u64 (v : Int))) := ((((Chg.refl _ w5).set_ (.inl (.inl rfl)) 0 (.int .i64 (er : Int))).set_ (.inl (.inl rfl)) 1 (.int .i64 (fa : Int))).set_ (.inl (.inr rfl)) 2 (.int .u64 (v : Int)))
  generalize ((w5.setCell ⟨w1.heap.size, 0, none⟩ (.int .i64 (er : Int))).setCell ⟨w1.heap.size, 1, none⟩ (.int .i64 (fa : Int))).setCell ⟨w1.heap.size + 1, 2, none⟩ (.int .u64 (v : Int)) = W6 at *
  have n2 := hc6.blk M2.out (by omega)
  have n3 := hc6.blk M3.out (by omega)
  have a0 : W6.cell? ⟨w.heap.size, 0, none⟩ = some (.int .i64 0) := n2.cell 0
  have a1 : W6.cell? ⟨w.heap.size, 1, none⟩ = some (.int .u8 0) := n2.cell 1
  have a2 : W6.cell? ⟨w.heap.size, 2, none⟩ = some (.int .u64 0) := n2.cell 2
  have a3 : W6.cell? ⟨w.heap.size, 3, none⟩ = some (.slice none 0 0) := n2.cell 3
  have a4 : W6.cell? ⟨w.heap.size, 4, none⟩ = some (.int .i64 0) := n2.cell 4
  have g0 := n2.frozen 0
  have g1 := n2.frozen 1
  have g2 := n2.frozen 2
  have g3 := n2.frozen 3
  have g4 := n2.frozen 4
  have b0 : W6.cell? ⟨w.heap.size + 1, 0, none⟩ = some (.int .i64 0) := n3.cell 0
  have b1 : W6.cell? ⟨w.heap.size + 1, 1, none⟩ = some (.int .i64 0) := n3.cell 1
  have i0 := n3.frozen 0
  have i1 := n3.frozen 1
  have e0 : W6.cell? ⟨w1.heap.size, 0, none⟩ = some (.int .i64 (er : Int)) := n7.cell 0
  have e1 : W6.cell? ⟨w1.heap.size, 1, none⟩ = some (.int .i64 (fa : Int)) := n7.cell 1
  have f0 : W6.cell? ⟨w1.heap.size + 1, 0, none⟩ = some (.int .i64 num) := n8.cell 0
  have f1 : W6.cell? ⟨w1.heap.size + 1, 1, none⟩ = some (.int .u8 5) := n8.cell 1
  have f2 : W6.cell? ⟨w1.heap.size + 1, 2, none⟩ = some (.int .u64 (v : Int)) := n8.cell 2
  have f3 : W6.cell? ⟨w1.heap.size + 1, 3, none⟩ = some (.slice none 0 0) := n8.cell 3
  have f4 : W6.cell? ⟨w1.heap.size + 1, 4, none⟩ = some (.int .i64 (p : Int)) := n8.cell 4
  have hn7 : w1.heap.size ≠ w.heap.size := by omega
  have hn8 : w1.heap.size ≠ w.heap.size + 1 := by omega
  have hn9 : w1.heap.size + 1 ≠ w.heap.size := by omega
  have hn10 : w1.heap.size + 1 ≠ w.heap.size + 1 := by omega
  have hla := n2.lt
  have hlb := n3.lt
  have hlc := n7.lt
  have hld := n8.lt
  have HC6 := hid hc6
  clear n2 n3 n7 n8 hc6 M2 M3 M7 M8 s70 s71 s82 s83 y70 y71 y82 y83
  go_region
  all_goals go_wp2_with fail
  refine bodyPost_ret (v := .tuple #[.agg #[.int .i64 num, .int .u8 5, .int .u64 (v : Int), .slice none 0 0, .int .i64 (p : Int)], .agg #[.int .i64 (er : Int), .int .i64 (fa : Int)]]) (by simp [results, Try.results66, go_sem, a0, a1, a2, a3, a4, b0, b1]) rfl ⟨rfl, ?_, ?_⟩
  · exact (HR5.out.chgS HC6.out (by omega) (fun hp b o he hS => hS.elim (fun h => HFN.out b (by omega) hp b o he rfl) (fun h => HFN.out b (by omega) hp b o he rfl))).chgS (chg52 W6 w.heap.size (w.heap.size + 1) _ _ _ _ _ _ _) (by omega) (fun hp b o he hS => hS.elim (fun h => HFN.out b (by omega) hp b o he rfl) (fun h => HFN.out b (by omega) hp b o he rfl))
  · exact (HO5.out.chgS HC6.out (fun k hk => by omega)).chgS (chg52 W6 w.heap.size (w.heap.size + 1) _ _ _ _ _ _ _) (fun k hk => by omega)
end Go.Proofs.Ytefoccpgnijamaa
