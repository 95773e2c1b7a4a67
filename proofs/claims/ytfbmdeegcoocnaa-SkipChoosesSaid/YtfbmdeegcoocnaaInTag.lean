/- The inlet's tag: head, told, Tag. -/
import Derived.Test.YtfbmdeegcoocnaaProg
import Derived.Test.YtfbmdeegcoocnaaBase
import Derived.Test.YtfbmdeegcoocnaaInTold
import Derived.Deep.RegionHeld3
import Derived.StillTailTactics
set_option linter.unusedVariables false
namespace Go.Proofs.Ytfbmdeegcoocnaa
open Go.RowKit
/-- A tag: number, wire type, what is wrong, the place behind. -/
def rHead (bs : List UInt8) (p : Nat) : Int × Int × Nat × Nat :=
  if (M.get (bs.drop p)).2.2 = 0 then ((spl (M.get (bs.drop p)).1).1, (spl (M.get (bs.drop p)).1).2.1, (spl (M.get (bs.drop p)).1).2.2.toNat, p + (M.get (bs.drop p)).2.1) else (0, 0, (M.get (bs.drop p)).2.2, p)
theorem spl_err (n : Int) : 0 ≤ (spl n).2.2 ∧ (spl n).2.2 ≤ 7 ∧ ((spl n).2.2 ≠ 0 → (spl n).1 = 0 ∧ (spl n).2.1 = 0) := by
  unfold spl
  split
  · simp
  · split <;> simp
set_option maxRecDepth 100000 in
set_option maxHeartbeats 1000000 in
theorem ihead_any (w : World) (q : Nat) (A : Option Addr) (c : Nat) (bs : List UInt8) (p : Nat) (h : Rin 113 w q A c bs p) :
    Calls Try.prog 99 #[.pointer (some ⟨q, 0, none⟩)] w fun e w' => e = .returned (.tuple #[.agg #[.int .i64 (rHead bs p).1, .int .u8 (rHead bs p).2.1], .int .i64 ((rHead bs p).2.2.1 : Nat)]) ∧ Rin 113 w' q A c bs (rHead bs p).2.2.2 ∧ Only q w w' := by
  have hlt := h.blk.lt
  have h0 := h.below ((Below.refl _ w).alloc (Nat.le_refl _) (.cells #[.int .i64 0, .int .u8 0] 138))
  have hc := inum_any _ q A c bs p h0
  have hf := M.get_facts (bs.drop p)
  have hr : rHead bs p = if (M.get (bs.drop p)).2.2 = 0 then ((spl (M.get (bs.drop p)).1).1, (spl (M.get (bs.drop p)).1).2.1, (spl (M.get (bs.drop p)).1).2.2.toNat, p + (M.get (bs.drop p)).2.1) else (0, 0, (M.get (bs.drop p)).2.2, p) := rfl
  have hfn := far_new h.sl (Nat.le_refl _)
  have hq : Blk (w.alloc (.cells #[.int .i64 0, .int .u8 0] 138)) w.heap.size 138 #[.int .i64 0, .int .u8 0] := Blk.new w _ _
  clear h h0
  generalize M.get (bs.drop p) = g at *
  obtain ⟨v, k, e⟩ := g
  simp only at hc hf hr
  have HC := hid hc
  clear hc
  by_cases he : e = 0
  · subst he
    have hv := (hf.1 rfl).2.2.2
    rw [if_pos rfl] at hr
    have hsp := fun w => split_any (v : Int) w (by omega) (by omega)
    have hse := spl_err (v : Int)
    rw [hr]
    clear hf hr
    generalize spl (v : Int) = s at *
    obtain ⟨s1, s2, s3⟩ := s
    simp only at hsp hse
    obtain ⟨e3, rfl⟩ : ∃ n : Nat, s3 = (n : Int) := ⟨s3.toNat, by omega⟩
    rw [show ((e3 : Nat) : Int).toNat = e3 from rfl]
    have HS := hid hsp
    clear hsp hse
    go_enter Try.func99, Try.ntmps99
    go_wp2_with fail
    refine HC.out.mono ?_
    rintro e1 w1 ⟨rfl, hrin, ho⟩
    have hq1 := ho.blk hq (by omega)
    have c0 : w1.cell? ⟨w.heap.size, 0, none⟩ = some (.int .i64 0) := hq1.cell 0
    have c1 : w1.cell? ⟨w.heap.size, 1, none⟩ = some (.int .u8 0) := hq1.cell 1
    have f0 := hq1.frozen 0
    have f1 := hq1.frozen 1
    have hl := hq1.lt
    have HO := hid ho
    have HR := hid hrin
    clear hq hq1 ho hrin
    go_wp2_with fail
    refine (HS.out _).mono ?_
    rintro e2 w2 ⟨rfl, rfl⟩
    go_wp2_with fail
    refine bodyPost_ret (v := .tuple #[.agg #[.int .i64 s1, .int .u8 s2], .int .i64 (e3 : Int)]) (by simp [results, Try.results99, go_sem, c0, c1]) rfl ⟨rfl, ?_, ?_⟩
    · exact (HR.out.far_set (by omega) hfn _ _).far_set (by omega) hfn _ _
    · have hw := (Only.refl q w).alloc (.cells #[.int .i64 0, .int .u8 0] 138)
      exact ((hw.trans HO.out).new_ (Nat.le_refl _) _ _).new_ (Nat.le_refl _) _ _
  · have heb : ((e : Int) != 0) = true := by simp; omega
    have hk := (hf.2 he).2.1
    subst hk
    rw [if_neg he] at hr
    rw [hr]
    clear hf hr he
    go_enter Try.func99, Try.ntmps99
    go_wp2_with fail
    refine HC.out.mono ?_
    rintro e1 w1 ⟨rfl, hrin, ho⟩
    have hq1 := ho.blk hq (by omega)
    have c0 : w1.cell? ⟨w.heap.size, 0, none⟩ = some (.int .i64 0) := hq1.cell 0
    have c1 : w1.cell? ⟨w.heap.size, 1, none⟩ = some (.int .u8 0) := hq1.cell 1
    have f0 := hq1.frozen 0
    have f1 := hq1.frozen 1
    have hl := hq1.lt
    have HO := hid ho
    have HR := hid hrin
    clear hq hq1 ho hrin
    go_wp2_with fail
    refine bodyPost_ret (v := .tuple #[.agg #[.int .i64 0, .int .u8 0], .int .i64 (e : Int)]) (by simp [results, Try.results99, go_sem, c0, c1]) rfl ⟨rfl, ?_, ?_⟩
    · exact (HR.out.far_set (by omega) hfn _ _).far_set (by omega) hfn _ _
    · have hw := (Only.refl q w).alloc (.cells #[.int .i64 0, .int .u8 0] 138)
      exact ((hw.trans HO.out).new_ (Nat.le_refl _) _ _).new_ (Nat.le_refl _) _ _
set_option maxRecDepth 100000 in
set_option maxHeartbeats 1000000 in
theorem told_head (w : World) (q : Nat) (A : Option Addr) (c : Nat) (bs : List UInt8) (p : Nat) (h : Rin 113 w q A c bs p) :
    Calls Try.prog 98 #[.pointer (some ⟨q, 0, none⟩), .func (.func 99) #[.pointer (some ⟨q, 0, none⟩)] #[]] w fun e w' => e = .returned (.tuple #[.agg #[.int .i64 (if (rHead bs p).2.2.1 = 0 then (rHead bs p).1 else 0), .int .u8 (if (rHead bs p).2.2.1 = 0 then (rHead bs p).2.1 else 0)], .agg #[.int .i64 ((rHead bs p).2.2.1 : Nat), .int .i64 (flt (rHead bs p).2.2.1 p : Nat)]]) ∧ Rin 113 w' q A c bs (plc (rHead bs p).2.2.1 p (rHead bs p).2.2.2) ∧ Only q w w' := by
  have hlt := h.blk.lt
  have hlt1 : q < w.heap.size + 1 := by omega
  have hlt2 : q < w.heap.size + 1 + 1 := by omega
  have hc := fun W hb => ihead_any W q A c bs p (h.below hb)
  have hset := fun (W w1 : World) (p1 : Nat) hb (hr : Rin 113 w1 q A c bs p1) => (h.below (w' := W) hb).set_ hr
  have c1 : w.cell? ⟨q, 1, none⟩ = some (.int .i64 (p : Int)) := by simpa using h.blk.cell 1
  have hfn := fun g (hg : w.heap.size ≤ g) => far_new h.sl hg
  have HC := hid hc
  have HSET := hid hset
  have HFN := hid hfn
  clear hc h hset hfn
  generalize rHead bs p = rr at *
  obtain ⟨s1, s2, e, p1⟩ := rr
  simp only at HC
  by_cases he : e = 0
  case' pos =>
    subst he
    simp only [flt, plc, if_true]
  case' neg =>
    have heb : ((e : Int) != 0) = true := by simp; omega
    simp only [flt, plc, he, if_false]
    clear he
  all_goals
    go_enter Try.func98, Try.ntmps98
    go_wp2_with fail
    generalize hW : World.alloc _ _ = W
    have hbW : Below w.heap.size w W := by rw [← hW]; exact ((((Below.refl _ w).alloc (Nat.le_refl _) _).alloc (by simp) _).alloc (by simp; omega) _)
    have hoW : Only q w W := by rw [← hW]; exact ((((Only.refl q w).alloc _).alloc _).alloc _)
    have hq4 : Blk W w.heap.size 138 #[.int .i64 0, .int .u8 0] := by rw [← hW]; exact (((Blk.new w _ _).alloc _).alloc _)
    have hq5 : Blk W (w.heap.size + 1) 27 #[.int .i64 0, .int .i64 0] := by
      rw [← hW]
      have h1 : ∀ (o1 o3 : Obj), Blk (((w.alloc o1).alloc (.cells #[.int .i64 0, .int .i64 0] 27)).alloc o3) (w.heap.size + 1) 27 #[.int .i64 0, .int .i64 0] := by
        intro o1 o3
        have := (Blk.new (w.alloc o1) 27 #[.int .i64 0, .int .i64 0]).alloc o3
        simpa using this
      exact h1 _ _
    have hq6 : Blk W (w.heap.size + 1 + 1) 138 #[.int .i64 0, .int .u8 0] := by
      rw [← hW]
      have h1 : ∀ (o1 o2 : Obj), Blk (((w.alloc o1).alloc o2).alloc (.cells #[.int .i64 0, .int .u8 0] 138)) (w.heap.size + 1 + 1) 138 #[.int .i64 0, .int .u8 0] := by
        intro o1 o2
        have := Blk.new ((w.alloc o1).alloc o2) 138 #[.int .i64 0, .int .u8 0]
        simpa using this
      exact h1 _ _
    clear hW
    refine (HC.out _ hbW).mono ?_
    rintro e1 w1 ⟨rfl, hrin, ho⟩
    have hq4' := ho.blk hq4 (by omega)
    have hq5' := ho.blk hq5 (by omega)
    have hq6' := ho.blk hq6 (by omega)
    have c40 : w1.cell? ⟨w.heap.size, 0, none⟩ = some (.int .i64 0) := hq4'.cell 0
    have c41 : w1.cell? ⟨w.heap.size, 1, none⟩ = some (.int .u8 0) := hq4'.cell 1
    have f40 := hq4'.frozen 0
    have f41 := hq4'.frozen 1
    have c50 : w1.cell? ⟨w.heap.size + 1, 0, none⟩ = some (.int .i64 0) := hq5'.cell 0
    have c51 : w1.cell? ⟨w.heap.size + 1, 1, none⟩ = some (.int .i64 0) := hq5'.cell 1
    have f50 := hq5'.frozen 0
    have f51 := hq5'.frozen 1
    have c60 : w1.cell? ⟨w.heap.size + 1 + 1, 0, none⟩ = some (.int .i64 0) := hq6'.cell 0
    have c61 : w1.cell? ⟨w.heap.size + 1 + 1, 1, none⟩ = some (.int .u8 0) := hq6'.cell 1
    have l4 := hq4'.lt
    have l5 := hq5'.lt
    have l6 := hq6'.lt
    have r1 := hrin.blk.frozen 1
    have rl := hrin.blk.lt
    have rc : w1.cell? ⟨q, 1, none⟩ = some (.int .i64 (p1 : Int)) := by simpa using hrin.blk.cell 1
    have HO := hid (hoW.trans ho)
    have HR := hid hrin
    have HB := hid hbW
    clear hq4 hq5 hq6 hq4' hq5' hq6' ho hrin hoW hbW
    go_wp2_with fail
  · refine bodyPost_ret (v := .tuple #[.agg #[.int .i64 0, .int .u8 0], .agg #[.int .i64 (e : Int), .int .i64 (p : Int)]]) (by simp [results, Try.results98, go_sem, c40, c41, c50, c51, l4, l5]) rfl ⟨rfl, ?_, ?_⟩
    · have h8 := HSET.out _ _ _ HB.out HR.out
      exact ((((h8.far_set (by omega) (HFN.out _ (by omega)) _ _).far_set (by omega) (HFN.out _ (by omega)) _ _).far_set (by omega) (HFN.out _ (by omega)) _ _).far_set (by omega) (HFN.out _ (by omega)) _ _).below ((Below.refl _ _).alloc (Nat.le_refl _) _)
    · exact (((((HO.out.set_ 1 _).new_ (by omega) _ _).new_ (by omega) _ _).new_ (by omega) _ _).new_ (by omega) _ _).alloc _
  · refine bodyPost_ret (v := .tuple #[.agg #[.int .i64 s1, .int .u8 s2], .agg #[.int .i64 0, .int .i64 0]]) (by simp [results, Try.results98, go_sem, c40, c41, c50, c51, l4, l5]) rfl ⟨rfl, ?_, ?_⟩
    · exact ((((HR.out.far_set (by omega) (HFN.out _ (by omega)) _ _).far_set (by omega) (HFN.out _ (by omega)) _ _).far_set (by omega) (HFN.out _ (by omega)) _ _).far_set (by omega) (HFN.out _ (by omega)) _ _).below ((Below.refl _ _).alloc (Nat.le_refl _) _)
    · exact ((((HO.out.new_ (by omega) _ _).new_ (by omega) _ _).new_ (by omega) _ _).new_ (by omega) _ _).alloc _
theorem cell_far2 {W : World} {g b o i j : Nat} {u v : Value} (h : b ≠ g) : (((W.setCell ⟨g, i, none⟩ u).setCell ⟨g, j, none⟩ v).drew).cell? ⟨b, o, none⟩ = W.cell? ⟨b, o, none⟩ :=
  World.cell?_of_block (a := ⟨b, o, none⟩) ((Below.heap_setCell _ ⟨g, j, none⟩ v b h).trans (Below.heap_setCell _ ⟨g, i, none⟩ u b h))
set_option maxRecDepth 100000 in
set_option maxHeartbeats 1000000 in
theorem itagm_any (w : World) (q : Nat) (A : Option Addr) (c : Nat) (bs : List UInt8) (p : Nat) (h : Rin 113 w q A c bs p) :
    Calls Try.prog 76 #[.pointer (some ⟨q, 0, none⟩)] w fun e w' => e = .returned (.tuple #[.int .i64 (if (rHead bs p).2.2.1 = 0 then (rHead bs p).1 else 0), .int .u8 (if (rHead bs p).2.2.1 = 0 then (rHead bs p).2.1 else 0), .agg #[.int .i64 ((rHead bs p).2.2.1 : Nat), .int .i64 (flt (rHead bs p).2.2.1 p : Nat)]]) ∧ Rin 113 w' q A c bs (plc (rHead bs p).2.2.1 p (rHead bs p).2.2.2) ∧ Only q w w' := by
  have hlt := h.blk.lt
  have h0 := h.below ((Below.refl _ w).alloc (Nat.le_refl _) (.cells #[.int .i64 0, .int .i64 0] 27))
  have hc := told_head _ q A c bs p h0
  have hfn := fun g (hg : w.heap.size ≤ g) => far_new h.sl hg
  have HC := hid hc
  have HFN := hid hfn
  clear hc h h0 hfn
  have hq : Blk (w.alloc (.cells #[.int .i64 0, .int .i64 0] 27)) w.heap.size 27 #[.int .i64 0, .int .i64 0] := Blk.new w _ _
  generalize (if (rHead bs p).2.2.1 = 0 then (rHead bs p).1 else 0) = v1 at *
  generalize (if (rHead bs p).2.2.1 = 0 then (rHead bs p).2.1 else 0) = v2 at *
  generalize plc (rHead bs p).2.2.1 p (rHead bs p).2.2.2 = p1 at *
  generalize (flt (rHead bs p).2.2.1 p : Nat) = fa at *
  generalize (rHead bs p).2.2.1 = e at *
  have hmf := func_run (P := Try.prog)
  go_enter Try.func76, Try.ntmps76
  go_wp2_with fail
  refine HC.out.mono ?_
  rintro e1 w1 ⟨rfl, hrin, ho⟩
  have hq1 := ho.blk hq (by omega)
  have c0 : w1.cell? ⟨w.heap.size, 0, none⟩ = some (.int .i64 0) := hq1.cell 0
  have c1 : w1.cell? ⟨w.heap.size, 1, none⟩ = some (.int .i64 0) := hq1.cell 1
  have f0 := hq1.frozen 0
  have f1 := hq1.frozen 1
  have hl := hq1.lt
  have HO := hid ho
  have HR := hid hrin
  clear hq hq1 ho hrin
  go_wp2_with fail
  have hne1 : w1.heap.size ≠ w.heap.size := by omega
  have hne2 : w1.heap.size + 1 ≠ w.heap.size := by omega
  have hll : w.heap.size < w1.heap.size + 1 := by omega
  have hll2 : w.heap.size < w1.heap.size + 1 + 1 := by omega
  generalize hW : World.alloc _ _ = W
  have hbW : Below w1.heap.size w1 W := by rw [← hW]; exact ((Below.refl _ w1).alloc (Nat.le_refl _) _).alloc (by simp) _
  have d0 : W.cell? ⟨w1.heap.size, 0, none⟩ = some (.int .i64 v1) := by rw [← hW]; exact ((Blk.new w1 138 #[.int .i64 v1, .int .u8 v2]).alloc _).cell 0
  have d1 : W.cell? ⟨w1.heap.size, 1, none⟩ = some (.int .u8 v2) := by rw [← hW]; exact ((Blk.new w1 138 #[.int .i64 v1, .int .u8 v2]).alloc _).cell 1
  have hbk : Blk W (w1.heap.size + 1) 27 #[.int .i64 (e : Int), .int .i64 (fa : Int)] := by
    rw [← hW]
    have := Blk.new (w1.alloc (.cells #[.int .i64 v1, .int .u8 v2] 138)) 27 #[.int .i64 (e : Int), .int .i64 (fa : Int)]
    simpa using this
  have d2 : W.cell? ⟨w1.heap.size + 1, 0, none⟩ = some (.int .i64 (e : Int)) := hbk.cell 0
  have d3 : W.cell? ⟨w1.heap.size + 1, 1, none⟩ = some (.int .i64 (fa : Int)) := hbk.cell 1
  have dl := hbk.lt
  have c0' : W.cell? ⟨w.heap.size, 0, none⟩ = some (.int .i64 0) := (hbW.cell (p := ⟨w.heap.size, 0, none⟩) hl).trans c0
  have c1' : W.cell? ⟨w.heap.size, 1, none⟩ = some (.int .i64 0) := (hbW.cell (p := ⟨w.heap.size, 1, none⟩) hl).trans c1
  have f0' : W.frozen? ⟨w.heap.size, 0, none⟩ = false := (hbW.frozen (p := ⟨w.heap.size, 0, none⟩) hl).trans f0
  have f1' : W.frozen? ⟨w.heap.size, 1, none⟩ = false := (hbW.frozen (p := ⟨w.heap.size, 1, none⟩) hl).trans f1
  have HB := hid hbW
  clear hW hbW hbk c0 c1 f0 f1
  go_still_tail 7, (by kernel_rfl)
  change wpList _ _ _ _ _ W.drew
  go_wp2_with fail
  refine bodyPost_ret (v := .tuple #[.int .i64 v1, .int .u8 v2, .agg #[.int .i64 (e : Int), .int .i64 (fa : Int)]]) (by simp [results, Try.results76, go_sem, c0', c1']) rfl ⟨rfl, ?_, ?_⟩
  · have h1 := (HR.out.below HB.out).below (below_drewN (Below.refl W.heap.size W) 1)
    exact (h1.far_set (by omega) (HFN.out _ (by omega)) _ _).far_set (by omega) (HFN.out _ (by omega)) _ _
  · exact ((((((Only.refl q w).alloc _).trans HO.out).trans (.of_below HB.out)).drewN 1).new_ (by omega) _ _).new_ (by omega) _ _
end Go.Proofs.Ytfbmdeegcoocnaa
