/- What the inlet tells: told, at each kind, and the methods that read. -/
import Derived.Test.YtfbmdeegcoocnaaProg
import Derived.Test.YtfbmdeegcoocnaaBase
import Derived.Test.YtfbmdeegcoocnaaInNext
set_option linter.unusedVariables false
namespace Go.Proofs.Ytfbmdeegcoocnaa
open Go.RowKit
theorem func_run {P : Program} (fn : Fn) (first cap : Array Value) (w : World) : (Instr.makeFunc fn first cap).run P w = .ok (.func fn first cap) w := rfl
/-- The place of a fault. -/
def flt (e p : Nat) : Nat := if e = 0 then 0 else p
/-- Where the reader is behind. -/
def plc (e p p1 : Nat) : Nat := if e = 0 then p1 else p
theorem Rin.set_ {t : TypeId} {w w1 : World} {q : Nat} {A : Option Addr} {c : Nat} {bs : List UInt8} {p p1 : Nat} (h : Rin t w q A c bs p) (h1 : Rin t w1 q A c bs p1) : Rin t (w1.setCell ⟨q, 1, none⟩ (.int .i64 (p : Int))) q A c bs p := by
  refine h1.move ((Only.refl q w1).set_ 1 _) ?_ h.le
  have := h1.blk.set_ 1 (.int .i64 (p : Int))
  simpa using this
theorem Rin.far_set {t : TypeId} {w : World} {q g : Nat} {A : Option Addr} {c : Nat} {bs : List UInt8} {p : Nat} (h : Rin t w q A c bs p) (hq : q ≠ g) (hf : Far A bs.length g) (i : Nat) (u : Value) : Rin t (w.setCell ⟨g, i, none⟩ u) q A c bs p :=
  h.other ((Only.refl g w).set_ i u) hq hf
theorem far_new {w : World} {A : Option Addr} {c : Nat} {bs : List UInt8} {g : Nat} (h : Sl w A c (bs.map bv)) (hg : w.heap.size ≤ g) : Far A bs.length g := by
  intro hpos b off he
  obtain ⟨b', off', hA, hlt, _⟩ := h.rd 0 (bv (bs[0]'hpos)) (by simp [List.getElem?_eq_getElem hpos])
  rw [he] at hA
  injection hA with hA
  injection hA with h1 h2
  omega
set_option maxRecDepth 100000 in
set_option maxHeartbeats 1000000 in
theorem told_num (w : World) (q : Nat) (A : Option Addr) (c : Nat) (bs : List UInt8) (p : Nat) (h : Rin 113 w q A c bs p) :
    Calls Try.prog 100 #[.pointer (some ⟨q, 0, none⟩), .func (.func 101) #[.pointer (some ⟨q, 0, none⟩)] #[]] w fun e w' => e = .returned (.tuple #[.int .u64 (if (M.get (bs.drop p)).2.2 = 0 then (M.get (bs.drop p)).1 else 0 : Nat), .agg #[.int .i64 ((M.get (bs.drop p)).2.2 : Nat), .int .i64 (flt (M.get (bs.drop p)).2.2 p : Nat)]]) ∧ Rin 113 w' q A c bs (plc (M.get (bs.drop p)).2.2 p (p + (M.get (bs.drop p)).2.1)) ∧ Only q w w' := by
  have hlt := h.blk.lt
  have h0 := h.below ((Below.refl _ w).alloc (Nat.le_refl _) (.cells #[.int .i64 0, .int .i64 0] 27))
  have hc := inum_any _ q A c bs p h0
  have c1 : w.cell? ⟨q, 1, none⟩ = some (.int .i64 (p : Int)) := by simpa using h.blk.cell 1
  have hfn := far_new h.sl (Nat.le_refl _)
  have HC := hid hc
  have H0 := hid h0
  clear hc h h0
  have hq : Blk (w.alloc (.cells #[.int .i64 0, .int .i64 0] 27)) w.heap.size 27 #[.int .i64 0, .int .i64 0] := Blk.new w _ _
  generalize (M.get (bs.drop p)).2.2 = e at *
  generalize (M.get (bs.drop p)).1 = v at *
  generalize (p + (M.get (bs.drop p)).2.1) = p1 at *
  by_cases he : e = 0
  · subst he
    simp only [flt, plc, if_true]
    go_enter Try.func100, Try.ntmps100
    go_wp2_with fail
    refine HC.out.mono ?_
    rintro e1 w1 ⟨rfl, hrin, ho⟩
    have hq1 := ho.blk hq (by omega)
    have c0 : w1.cell? ⟨w.heap.size, 0, none⟩ = some (.int .i64 0) := hq1.cell 0
    have c1 : w1.cell? ⟨w.heap.size, 1, none⟩ = some (.int .i64 0) := hq1.cell 1
    have f0 := hq1.frozen 0
    have f1 := hq1.frozen 1
    have hsz := ho.size
    have hl := hq1.lt
    have HO := hid ho
    have HR := hid hrin
    clear hq hq1 ho hrin
    go_wp2_with fail
    refine bodyPost_ret (v := .tuple #[.int .u64 (v : Nat), .agg #[.int .i64 0, .int .i64 0]]) (by simp [results, Try.results100, go_sem, c0, c1]) rfl ⟨rfl, ?_, ?_⟩
    · exact (HR.out.far_set (by omega) hfn _ _).far_set (by omega) hfn _ _
    · have hw := (Only.refl q w).alloc (.cells #[.int .i64 0, .int .i64 0] 27)
      exact ((hw.trans HO.out).new_ (Nat.le_refl _) _ _).new_ (Nat.le_refl _) _ _
  · have heb : ((e : Int) != 0) = true := by simp; omega
    simp only [flt, plc, he, if_false]
    clear he
    go_enter Try.func100, Try.ntmps100
    go_wp2_with fail
    refine HC.out.mono ?_
    rintro e1 w1 ⟨rfl, hrin, ho⟩
    have hq1 := ho.blk hq (by omega)
    have c0 : w1.cell? ⟨w.heap.size, 0, none⟩ = some (.int .i64 0) := hq1.cell 0
    have c1 : w1.cell? ⟨w.heap.size, 1, none⟩ = some (.int .i64 0) := hq1.cell 1
    have f0 := hq1.frozen 0
    have f1 := hq1.frozen 1
    have r1 := hrin.blk.frozen 1
    have rl := hrin.blk.lt
    have rc : w1.cell? ⟨q, 1, none⟩ = some (.int .i64 (p1 : Int)) := by simpa using hrin.blk.cell 1
    have hsz := ho.size
    have hl := hq1.lt
    have HO := hid ho
    have HR := hid hrin
    clear hq hq1 ho hrin
    go_wp2_with fail
    refine bodyPost_ret (v := .tuple #[.int .u64 0, .agg #[.int .i64 (e : Int), .int .i64 (p : Int)]]) (by simp [results, Try.results100, go_sem, c0, c1]) rfl ⟨rfl, ?_, ?_⟩
    · exact ((H0.out.set_ HR.out).far_set (by omega) hfn _ _).far_set (by omega) hfn _ _
    · have hw := (Only.refl q w).alloc (.cells #[.int .i64 0, .int .i64 0] 27)
      exact (((hw.trans HO.out).set_ 1 _).new_ (Nat.le_refl _) _ _).new_ (Nat.le_refl _) _ _
set_option maxRecDepth 100000 in
set_option maxHeartbeats 1000000 in
theorem told_four (w : World) (q : Nat) (A : Option Addr) (c : Nat) (bs : List UInt8) (p : Nat) (h : Rin 113 w q A c bs p) :
    Calls Try.prog 106 #[.pointer (some ⟨q, 0, none⟩), .func (.func 107) #[.pointer (some ⟨q, 0, none⟩)] #[]] w fun e w' => e = .returned (.tuple #[.int .u32 (if (rFix 4 bs p).2.1 = 0 then (rFix 4 bs p).1 else 0 : Nat), .agg #[.int .i64 ((rFix 4 bs p).2.1 : Nat), .int .i64 (flt (rFix 4 bs p).2.1 p : Nat)]]) ∧ Rin 113 w' q A c bs (plc (rFix 4 bs p).2.1 p (rFix 4 bs p).2.2) ∧ Only q w w' := by
  have hlt := h.blk.lt
  have h0 := h.below ((Below.refl _ w).alloc (Nat.le_refl _) (.cells #[.int .i64 0, .int .i64 0] 27))
  have hc := ifour_any _ q A c bs p h0
  have c1 : w.cell? ⟨q, 1, none⟩ = some (.int .i64 (p : Int)) := by simpa using h.blk.cell 1
  have hfn := far_new h.sl (Nat.le_refl _)
  have HC := hid hc
  have H0 := hid h0
  clear hc h h0
  have hq : Blk (w.alloc (.cells #[.int .i64 0, .int .i64 0] 27)) w.heap.size 27 #[.int .i64 0, .int .i64 0] := Blk.new w _ _
  generalize (rFix 4 bs p).2.1 = e at *
  generalize (rFix 4 bs p).1 = v at *
  generalize (rFix 4 bs p).2.2 = p1 at *
  by_cases he : e = 0
  · subst he
    simp only [flt, plc, if_true]
    go_enter Try.func106, Try.ntmps106
    go_wp2_with fail
    refine HC.out.mono ?_
    rintro e1 w1 ⟨rfl, hrin, ho⟩
    have hq1 := ho.blk hq (by omega)
    have c0 : w1.cell? ⟨w.heap.size, 0, none⟩ = some (.int .i64 0) := hq1.cell 0
    have c1 : w1.cell? ⟨w.heap.size, 1, none⟩ = some (.int .i64 0) := hq1.cell 1
    have f0 := hq1.frozen 0
    have f1 := hq1.frozen 1
    have hsz := ho.size
    have hl := hq1.lt
    have HO := hid ho
    have HR := hid hrin
    clear hq hq1 ho hrin
    go_wp2_with fail
    refine bodyPost_ret (v := .tuple #[.int .u32 (v : Nat), .agg #[.int .i64 0, .int .i64 0]]) (by simp [results, Try.results106, go_sem, c0, c1]) rfl ⟨rfl, ?_, ?_⟩
    · exact (HR.out.far_set (by omega) hfn _ _).far_set (by omega) hfn _ _
    · have hw := (Only.refl q w).alloc (.cells #[.int .i64 0, .int .i64 0] 27)
      exact ((hw.trans HO.out).new_ (Nat.le_refl _) _ _).new_ (Nat.le_refl _) _ _
  · have heb : ((e : Int) != 0) = true := by simp; omega
    simp only [flt, plc, he, if_false]
    clear he
    go_enter Try.func106, Try.ntmps106
    go_wp2_with fail
    refine HC.out.mono ?_
    rintro e1 w1 ⟨rfl, hrin, ho⟩
    have hq1 := ho.blk hq (by omega)
    have c0 : w1.cell? ⟨w.heap.size, 0, none⟩ = some (.int .i64 0) := hq1.cell 0
    have c1 : w1.cell? ⟨w.heap.size, 1, none⟩ = some (.int .i64 0) := hq1.cell 1
    have f0 := hq1.frozen 0
    have f1 := hq1.frozen 1
    have r1 := hrin.blk.frozen 1
    have rl := hrin.blk.lt
    have rc : w1.cell? ⟨q, 1, none⟩ = some (.int .i64 (p1 : Int)) := by simpa using hrin.blk.cell 1
    have hsz := ho.size
    have hl := hq1.lt
    have HO := hid ho
    have HR := hid hrin
    clear hq hq1 ho hrin
    go_wp2_with fail
    refine bodyPost_ret (v := .tuple #[.int .u32 0, .agg #[.int .i64 (e : Int), .int .i64 (p : Int)]]) (by simp [results, Try.results106, go_sem, c0, c1]) rfl ⟨rfl, ?_, ?_⟩
    · exact ((H0.out.set_ HR.out).far_set (by omega) hfn _ _).far_set (by omega) hfn _ _
    · have hw := (Only.refl q w).alloc (.cells #[.int .i64 0, .int .i64 0] 27)
      exact (((hw.trans HO.out).set_ 1 _).new_ (Nat.le_refl _) _ _).new_ (Nat.le_refl _) _ _
set_option maxRecDepth 100000 in
set_option maxHeartbeats 1000000 in
theorem told_eight (w : World) (q : Nat) (A : Option Addr) (c : Nat) (bs : List UInt8) (p : Nat) (h : Rin 113 w q A c bs p) :
    Calls Try.prog 100 #[.pointer (some ⟨q, 0, none⟩), .func (.func 102) #[.pointer (some ⟨q, 0, none⟩)] #[]] w fun e w' => e = .returned (.tuple #[.int .u64 (if (rFix 8 bs p).2.1 = 0 then (rFix 8 bs p).1 else 0 : Nat), .agg #[.int .i64 ((rFix 8 bs p).2.1 : Nat), .int .i64 (flt (rFix 8 bs p).2.1 p : Nat)]]) ∧ Rin 113 w' q A c bs (plc (rFix 8 bs p).2.1 p (rFix 8 bs p).2.2) ∧ Only q w w' := by
  have hlt := h.blk.lt
  have h0 := h.below ((Below.refl _ w).alloc (Nat.le_refl _) (.cells #[.int .i64 0, .int .i64 0] 27))
  have hc := ieight_any _ q A c bs p h0
  have c1 : w.cell? ⟨q, 1, none⟩ = some (.int .i64 (p : Int)) := by simpa using h.blk.cell 1
  have hfn := far_new h.sl (Nat.le_refl _)
  have HC := hid hc
  have H0 := hid h0
  clear hc h h0
  have hq : Blk (w.alloc (.cells #[.int .i64 0, .int .i64 0] 27)) w.heap.size 27 #[.int .i64 0, .int .i64 0] := Blk.new w _ _
  generalize (rFix 8 bs p).2.1 = e at *
  generalize (rFix 8 bs p).1 = v at *
  generalize (rFix 8 bs p).2.2 = p1 at *
  by_cases he : e = 0
  · subst he
    simp only [flt, plc, if_true]
    go_enter Try.func100, Try.ntmps100
    go_wp2_with fail
    refine HC.out.mono ?_
    rintro e1 w1 ⟨rfl, hrin, ho⟩
    have hq1 := ho.blk hq (by omega)
    have c0 : w1.cell? ⟨w.heap.size, 0, none⟩ = some (.int .i64 0) := hq1.cell 0
    have c1 : w1.cell? ⟨w.heap.size, 1, none⟩ = some (.int .i64 0) := hq1.cell 1
    have f0 := hq1.frozen 0
    have f1 := hq1.frozen 1
    have hsz := ho.size
    have hl := hq1.lt
    have HO := hid ho
    have HR := hid hrin
    clear hq hq1 ho hrin
    go_wp2_with fail
    refine bodyPost_ret (v := .tuple #[.int .u64 (v : Nat), .agg #[.int .i64 0, .int .i64 0]]) (by simp [results, Try.results100, go_sem, c0, c1]) rfl ⟨rfl, ?_, ?_⟩
    · exact (HR.out.far_set (by omega) hfn _ _).far_set (by omega) hfn _ _
    · have hw := (Only.refl q w).alloc (.cells #[.int .i64 0, .int .i64 0] 27)
      exact ((hw.trans HO.out).new_ (Nat.le_refl _) _ _).new_ (Nat.le_refl _) _ _
  · have heb : ((e : Int) != 0) = true := by simp; omega
    simp only [flt, plc, he, if_false]
    clear he
    go_enter Try.func100, Try.ntmps100
    go_wp2_with fail
    refine HC.out.mono ?_
    rintro e1 w1 ⟨rfl, hrin, ho⟩
    have hq1 := ho.blk hq (by omega)
    have c0 : w1.cell? ⟨w.heap.size, 0, none⟩ = some (.int .i64 0) := hq1.cell 0
    have c1 : w1.cell? ⟨w.heap.size, 1, none⟩ = some (.int .i64 0) := hq1.cell 1
    have f0 := hq1.frozen 0
    have f1 := hq1.frozen 1
    have r1 := hrin.blk.frozen 1
    have rl := hrin.blk.lt
    have rc : w1.cell? ⟨q, 1, none⟩ = some (.int .i64 (p1 : Int)) := by simpa using hrin.blk.cell 1
    have hsz := ho.size
    have hl := hq1.lt
    have HO := hid ho
    have HR := hid hrin
    clear hq hq1 ho hrin
    go_wp2_with fail
    refine bodyPost_ret (v := .tuple #[.int .u64 0, .agg #[.int .i64 (e : Int), .int .i64 (p : Int)]]) (by simp [results, Try.results100, go_sem, c0, c1]) rfl ⟨rfl, ?_, ?_⟩
    · exact ((H0.out.set_ HR.out).far_set (by omega) hfn _ _).far_set (by omega) hfn _ _
    · have hw := (Only.refl q w).alloc (.cells #[.int .i64 0, .int .i64 0] 27)
      exact (((hw.trans HO.out).set_ 1 _).new_ (Nat.le_refl _) _ _).new_ (Nat.le_refl _) _ _
set_option maxRecDepth 100000 in
set_option maxHeartbeats 1000000 in
theorem inumm_any (w : World) (q : Nat) (A : Option Addr) (c : Nat) (bs : List UInt8) (p : Nat) (h : Rin 113 w q A c bs p) :
    Calls Try.prog 77 #[.pointer (some ⟨q, 0, none⟩)] w fun e w' => e = .returned (.tuple #[.int .u64 (if (M.get (bs.drop p)).2.2 = 0 then (M.get (bs.drop p)).1 else 0 : Nat), .agg #[.int .i64 ((M.get (bs.drop p)).2.2 : Nat), .int .i64 (flt (M.get (bs.drop p)).2.2 p : Nat)]]) ∧ Rin 113 w' q A c bs (plc (M.get (bs.drop p)).2.2 p (p + (M.get (bs.drop p)).2.1)) ∧ Only q w w' := by
  have hlt := h.blk.lt
  have h0 := h.below ((Below.refl _ w).alloc (Nat.le_refl _) (.cells #[.int .i64 0, .int .i64 0] 27))
  have hc := told_num _ q A c bs p h0
  have hfn := far_new h.sl (Nat.le_refl _)
  have HC := hid hc
  clear hc h h0
  have hq : Blk (w.alloc (.cells #[.int .i64 0, .int .i64 0] 27)) w.heap.size 27 #[.int .i64 0, .int .i64 0] := Blk.new w _ _
  generalize (if (M.get (bs.drop p)).2.2 = 0 then (M.get (bs.drop p)).1 else 0 : Nat) = v at *
  generalize plc (M.get (bs.drop p)).2.2 p (p + (M.get (bs.drop p)).2.1) = p1 at *
  generalize (flt (M.get (bs.drop p)).2.2 p : Nat) = fa at *
  generalize (M.get (bs.drop p)).2.2 = e at *
  have hmf := func_run (P := Try.prog)
  go_enter Try.func77, Try.ntmps77
  go_wp2_with fail
  refine HC.out.mono ?_
  rintro e1 w1 ⟨rfl, hrin, ho⟩
  have hq1 := ho.blk hq (by omega)
  have c0 : w1.cell? ⟨w.heap.size, 0, none⟩ = some (.int .i64 0) := hq1.cell 0
  have c1 : w1.cell? ⟨w.heap.size, 1, none⟩ = some (.int .i64 0) := hq1.cell 1
  have f0 := hq1.frozen 0
  have f1 := hq1.frozen 1
  have hsz := ho.size
  have hl := hq1.lt
  have HO := hid ho
  have HR := hid hrin
  clear hq hq1 ho hrin
  go_wp2_with fail
  refine bodyPost_ret (v := .tuple #[.int .u64 (v : Nat), .agg #[.int .i64 (e : Int), .int .i64 (fa : Int)]]) (by simp [results, Try.results77, go_sem, c0, c1]) rfl ⟨rfl, ?_, ?_⟩
  · exact (HR.out.far_set (by omega) hfn _ _).far_set (by omega) hfn _ _
  · have hw := (Only.refl q w).alloc (.cells #[.int .i64 0, .int .i64 0] 27)
    exact ((hw.trans HO.out).new_ (Nat.le_refl _) _ _).new_ (Nat.le_refl _) _ _
set_option maxRecDepth 100000 in
set_option maxHeartbeats 1000000 in
theorem ifourm_any (w : World) (q : Nat) (A : Option Addr) (c : Nat) (bs : List UInt8) (p : Nat) (h : Rin 113 w q A c bs p) :
    Calls Try.prog 80 #[.pointer (some ⟨q, 0, none⟩)] w fun e w' => e = .returned (.tuple #[.int .u32 (if (rFix 4 bs p).2.1 = 0 then (rFix 4 bs p).1 else 0 : Nat), .agg #[.int .i64 ((rFix 4 bs p).2.1 : Nat), .int .i64 (flt (rFix 4 bs p).2.1 p : Nat)]]) ∧ Rin 113 w' q A c bs (plc (rFix 4 bs p).2.1 p (rFix 4 bs p).2.2) ∧ Only q w w' := by
  have hlt := h.blk.lt
  have h0 := h.below ((Below.refl _ w).alloc (Nat.le_refl _) (.cells #[.int .i64 0, .int .i64 0] 27))
  have hc := told_four _ q A c bs p h0
  have hfn := far_new h.sl (Nat.le_refl _)
  have HC := hid hc
  clear hc h h0
  have hq : Blk (w.alloc (.cells #[.int .i64 0, .int .i64 0] 27)) w.heap.size 27 #[.int .i64 0, .int .i64 0] := Blk.new w _ _
  generalize (if (rFix 4 bs p).2.1 = 0 then (rFix 4 bs p).1 else 0 : Nat) = v at *
  generalize plc (rFix 4 bs p).2.1 p (rFix 4 bs p).2.2 = p1 at *
  generalize (flt (rFix 4 bs p).2.1 p : Nat) = fa at *
  generalize (rFix 4 bs p).2.1 = e at *
  have hmf := func_run (P := Try.prog)
  go_enter Try.func80, Try.ntmps80
  go_wp2_with fail
  refine HC.out.mono ?_
  rintro e1 w1 ⟨rfl, hrin, ho⟩
  have hq1 := ho.blk hq (by omega)
  have c0 : w1.cell? ⟨w.heap.size, 0, none⟩ = some (.int .i64 0) := hq1.cell 0
  have c1 : w1.cell? ⟨w.heap.size, 1, none⟩ = some (.int .i64 0) := hq1.cell 1
  have f0 := hq1.frozen 0
  have f1 := hq1.frozen 1
  have hsz := ho.size
  have hl := hq1.lt
  have HO := hid ho
  have HR := hid hrin
  clear hq hq1 ho hrin
  go_wp2_with fail
  refine bodyPost_ret (v := .tuple #[.int .u32 (v : Nat), .agg #[.int .i64 (e : Int), .int .i64 (fa : Int)]]) (by simp [results, Try.results80, go_sem, c0, c1]) rfl ⟨rfl, ?_, ?_⟩
  · exact (HR.out.far_set (by omega) hfn _ _).far_set (by omega) hfn _ _
  · have hw := (Only.refl q w).alloc (.cells #[.int .i64 0, .int .i64 0] 27)
    exact ((hw.trans HO.out).new_ (Nat.le_refl _) _ _).new_ (Nat.le_refl _) _ _
set_option maxRecDepth 100000 in
set_option maxHeartbeats 1000000 in
theorem ieightm_any (w : World) (q : Nat) (A : Option Addr) (c : Nat) (bs : List UInt8) (p : Nat) (h : Rin 113 w q A c bs p) :
    Calls Try.prog 78 #[.pointer (some ⟨q, 0, none⟩)] w fun e w' => e = .returned (.tuple #[.int .u64 (if (rFix 8 bs p).2.1 = 0 then (rFix 8 bs p).1 else 0 : Nat), .agg #[.int .i64 ((rFix 8 bs p).2.1 : Nat), .int .i64 (flt (rFix 8 bs p).2.1 p : Nat)]]) ∧ Rin 113 w' q A c bs (plc (rFix 8 bs p).2.1 p (rFix 8 bs p).2.2) ∧ Only q w w' := by
  have hlt := h.blk.lt
  have h0 := h.below ((Below.refl _ w).alloc (Nat.le_refl _) (.cells #[.int .i64 0, .int .i64 0] 27))
  have hc := told_eight _ q A c bs p h0
  have hfn := far_new h.sl (Nat.le_refl _)
  have HC := hid hc
  clear hc h h0
  have hq : Blk (w.alloc (.cells #[.int .i64 0, .int .i64 0] 27)) w.heap.size 27 #[.int .i64 0, .int .i64 0] := Blk.new w _ _
  generalize (if (rFix 8 bs p).2.1 = 0 then (rFix 8 bs p).1 else 0 : Nat) = v at *
  generalize plc (rFix 8 bs p).2.1 p (rFix 8 bs p).2.2 = p1 at *
  generalize (flt (rFix 8 bs p).2.1 p : Nat) = fa at *
  generalize (rFix 8 bs p).2.1 = e at *
  have hmf := func_run (P := Try.prog)
  go_enter Try.func78, Try.ntmps78
  go_wp2_with fail
  refine HC.out.mono ?_
  rintro e1 w1 ⟨rfl, hrin, ho⟩
  have hq1 := ho.blk hq (by omega)
  have c0 : w1.cell? ⟨w.heap.size, 0, none⟩ = some (.int .i64 0) := hq1.cell 0
  have c1 : w1.cell? ⟨w.heap.size, 1, none⟩ = some (.int .i64 0) := hq1.cell 1
  have f0 := hq1.frozen 0
  have f1 := hq1.frozen 1
  have hsz := ho.size
  have hl := hq1.lt
  have HO := hid ho
  have HR := hid hrin
  clear hq hq1 ho hrin
  go_wp2_with fail
  refine bodyPost_ret (v := .tuple #[.int .u64 (v : Nat), .agg #[.int .i64 (e : Int), .int .i64 (fa : Int)]]) (by simp [results, Try.results78, go_sem, c0, c1]) rfl ⟨rfl, ?_, ?_⟩
  · exact (HR.out.far_set (by omega) hfn _ _).far_set (by omega) hfn _ _
  · have hw := (Only.refl q w).alloc (.cells #[.int .i64 0, .int .i64 0] 27)
    exact ((hw.trans HO.out).new_ (Nat.le_refl _) _ _).new_ (Nat.le_refl _) _ _
end Go.Proofs.Ytfbmdeegcoocnaa
