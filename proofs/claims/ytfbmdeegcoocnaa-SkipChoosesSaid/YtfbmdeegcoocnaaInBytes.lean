/- The inlet's methods that read bytes: Bytes, Take. -/
import Derived.Test.YtfbmdeegcoocnaaProg
import Derived.Test.YtfbmdeegcoocnaaBase
import Derived.Test.YtfbmdeegcoocnaaInTold
set_option linter.unusedVariables false
namespace Go.Proofs.Ytfbmdeegcoocnaa
open Go.RowKit
theorem cell_second (w : World) (o1 o3 : Obj) (v : Value) (t : TypeId) : (((w.alloc o1).alloc (.cells #[v] t)).alloc o3).cell? ⟨w.heap.size + 1, 0, none⟩ = some v := by
  have h := ((Blk.new (w.alloc o1) t #[v]).alloc o3).cell 0
  simpa using h
theorem blk_third (w : World) (o1 o2 : Obj) (cs : Array Value) (t : TypeId) : Blk (((w.alloc o1).alloc o2).alloc (.cells cs t)) (w.heap.size + 1 + 1) t cs := by
  have h := Blk.new ((w.alloc o1).alloc o2) t cs
  simpa using h
set_option maxRecDepth 100000 in
set_option maxHeartbeats 1000000 in
theorem bytes_clo (n : Int) (w : World) (q x y : Nat) (A : Option Addr) (c : Nat) (bs : List UInt8) (p : Nat) (hn1 : -9223372036854775808 ≤ n) (hn2 : n ≤ 9223372036854775807) (h : Rin 113 w q A c bs p)
    (hx : w.cell? ⟨x, 0, none⟩ = some (.pointer (some ⟨q, 0, none⟩))) (hy : w.cell? ⟨y, 0, none⟩ = some (.int .i64 n)) :
    Calls Try.prog 104 #[.pointer (some ⟨x, 0, none⟩), .pointer (some ⟨y, 0, none⟩)] w fun e w' => ∃ A' c', e = .returned (.tuple #[.slice A' (rCount n bs p).1.length c', .int .i64 ((rCount n bs p).2.1 : Nat)]) ∧ Sl w' A' c' ((rCount n bs p).1.map bv) ∧ (∀ q', Far A bs.length q' → Far A' (rCount n bs p).1.length q') ∧ Rin 113 w' q A c bs (rCount n bs p).2.2 ∧ Only q w w' := by
  have hc := icounted_any n w q A c bs p hn1 hn2 h
  generalize rCount n bs p = rr at *
  have HC := hid hc
  clear hc h
  go_enter Try.func104, Try.ntmps104
  go_wp2_with fail
  refine HC.out.mono ?_
  rintro e1 w1 ⟨A', c', rfl, hs, hf, hrin, ho⟩
  go_wp2_with fail
  go_ret2
  exact ⟨A', c', rfl, hs, hf, hrin, ho⟩
set_option maxRecDepth 100000 in
set_option maxHeartbeats 1000000 in
theorem bytes_told (n : Int) (w : World) (q x y : Nat) (A : Option Addr) (c : Nat) (bs : List UInt8) (p : Nat) (hn1 : -9223372036854775808 ≤ n) (hn2 : n ≤ 9223372036854775807) (h : Rin 113 w q A c bs p)
    (hx : w.cell? ⟨x, 0, none⟩ = some (.pointer (some ⟨q, 0, none⟩))) (hy : w.cell? ⟨y, 0, none⟩ = some (.int .i64 n)) :
    Calls Try.prog 103 #[.pointer (some ⟨q, 0, none⟩), .func (.func 104) #[] #[.pointer (some ⟨x, 0, none⟩), .pointer (some ⟨y, 0, none⟩)]] w fun e w' => ∃ A' c', e = .returned (.tuple #[.slice A' (if (rCount n bs p).2.1 = 0 then (rCount n bs p).1 else []).length c', .agg #[.int .i64 ((rCount n bs p).2.1 : Nat), .int .i64 (flt (rCount n bs p).2.1 p : Nat)]]) ∧ Sl w' A' c' ((if (rCount n bs p).2.1 = 0 then (rCount n bs p).1 else []).map bv) ∧ (∀ q', Far A bs.length q' → Far A' (if (rCount n bs p).2.1 = 0 then (rCount n bs p).1 else []).length q') ∧ Rin 113 w' q A c bs (plc (rCount n bs p).2.1 p (rCount n bs p).2.2) ∧ Only q w w' := by
  have hlt := h.blk.lt
  have hxl := World.block_lt_of_cell? w _ hx
  have hyl := World.block_lt_of_cell? w _ hy
  simp only at hxl hyl
  have hb0 : Below w.heap.size w (w.alloc (.cells #[.int .i64 0, .int .i64 0] 27)) := (Below.refl _ w).alloc (Nat.le_refl _) _
  have h0 := h.below hb0
  have hc := bytes_clo n _ q x y A c bs p hn1 hn2 h0 ((hb0.cell (p := ⟨x, 0, none⟩) hxl).trans hx) ((hb0.cell (p := ⟨y, 0, none⟩) hyl).trans hy)
  have c1 : w.cell? ⟨q, 1, none⟩ = some (.int .i64 (p : Int)) := by simpa using h.blk.cell 1
  have hfn := far_new h.sl (Nat.le_refl _)
  have HC := hid hc
  have H0 := hid h0
  clear hc h h0 hb0 hx hy hxl hyl
  have hq : Blk (w.alloc (.cells #[.int .i64 0, .int .i64 0] 27)) w.heap.size 27 #[.int .i64 0, .int .i64 0] := Blk.new w _ _
  generalize rCount n bs p = rr at *
  obtain ⟨l, e, p1⟩ := rr
  simp only at HC
  by_cases he : e = 0
  · subst he
    simp only [flt, plc, if_true]
    go_enter Try.func103, Try.ntmps103
    go_wp2_with fail
    refine HC.out.mono ?_
    rintro e1 w1 ⟨A', c', rfl, hs, hf, hrin, ho⟩
    have hq1 := ho.blk hq (by omega)
    have c0 : w1.cell? ⟨w.heap.size, 0, none⟩ = some (.int .i64 0) := hq1.cell 0
    have c1 : w1.cell? ⟨w.heap.size, 1, none⟩ = some (.int .i64 0) := hq1.cell 1
    have f0 := hq1.frozen 0
    have f1 := hq1.frozen 1
    have hsz := ho.size
    have hl := hq1.lt
    have HO := hid ho
    have HR := hid hrin
    have HS := hid hs
    have HF := hid hf
    clear hq hq1 ho hrin hs hf
    go_wp2_with fail
    refine bodyPost_ret (v := .tuple #[.slice A' l.length c', .agg #[.int .i64 0, .int .i64 0]]) (by simp [results, Try.results103, go_sem, c0, c1]) rfl ⟨A', c', rfl, ?_, HF.out, ?_, ?_⟩
    · have hfg := HF.out _ hfn
      have o1 := (Only.refl w.heap.size w1).set_ 0 (.int .i64 0)
      have s1 := o1.sl HS.out hfg (by simp)
      exact ((Only.refl w.heap.size _).set_ 1 (.int .i64 0)).sl s1 hfg (by simp)
    · exact (HR.out.far_set (by omega) hfn _ _).far_set (by omega) hfn _ _
    · have hw := (Only.refl q w).alloc (.cells #[.int .i64 0, .int .i64 0] 27)
      exact ((hw.trans HO.out).new_ (Nat.le_refl _) _ _).new_ (Nat.le_refl _) _ _
  · have heb : ((e : Int) != 0) = true := by simp; omega
    simp only [flt, plc, he, if_false]
    clear he
    go_enter Try.func103, Try.ntmps103
    go_wp2_with fail
    refine HC.out.mono ?_
    rintro e1 w1 ⟨A', c', rfl, hs, hf, hrin, ho⟩
    have hq1 := ho.blk hq (by omega)
    have c0 : w1.cell? ⟨w.heap.size, 0, none⟩ = some (.int .i64 0) := hq1.cell 0
    have c1 : w1.cell? ⟨w.heap.size, 1, none⟩ = some (.int .i64 0) := hq1.cell 1
    have f0 := hq1.frozen 0
    have f1 := hq1.frozen 1
    have r1 := hrin.blk.frozen 1
    have rl := hrin.blk.lt
    have rc : w1.cell? ⟨q, 1, none⟩ = some (.int .i64 (p1 : Int)) := by simpa using hrin.blk.cell 1
    have hsz := ho.size
    have hl := hq1.lt
    have HO := hid ho
    have HR := hid hrin
    clear hq hq1 ho hrin hs hf
    go_wp2_with fail
    refine bodyPost_ret (v := .tuple #[.slice none 0 0, .agg #[.int .i64 (e : Int), .int .i64 (p : Int)]]) (by simp [results, Try.results103, go_sem, c0, c1]) rfl ⟨none, 0, rfl, Sl.nil_ _, fun q' _ hp => by simp at hp, ?_, ?_⟩
    · exact ((H0.out.set_ HR.out).far_set (by omega) hfn _ _).far_set (by omega) hfn _ _
    · have hw := (Only.refl q w).alloc (.cells #[.int .i64 0, .int .i64 0] 27)
      exact (((hw.trans HO.out).set_ 1 _).new_ (Nat.le_refl _) _ _).new_ (Nat.le_refl _) _ _
set_option maxRecDepth 100000 in
set_option maxHeartbeats 1000000 in
theorem ibytesm_any (n : Int) (w : World) (q : Nat) (A : Option Addr) (c : Nat) (bs : List UInt8) (p : Nat) (hn1 : -9223372036854775808 ≤ n) (hn2 : n ≤ 9223372036854775807) (h : Rin 113 w q A c bs p) :
    Calls Try.prog 79 #[.pointer (some ⟨q, 0, none⟩), .int .i64 n] w fun e w' => ∃ A' c', e = .returned (.tuple #[.slice A' (if (rCount n bs p).2.1 = 0 then (rCount n bs p).1 else []).length c', .agg #[.int .i64 ((rCount n bs p).2.1 : Nat), .int .i64 (flt (rCount n bs p).2.1 p : Nat)]]) ∧ Sl w' A' c' ((if (rCount n bs p).2.1 = 0 then (rCount n bs p).1 else []).map bv) ∧ (∀ q', Far A bs.length q' → Far A' (if (rCount n bs p).2.1 = 0 then (rCount n bs p).1 else []).length q') ∧ Rin 113 w' q A c bs (plc (rCount n bs p).2.1 p (rCount n bs p).2.2) ∧ Only q w w' := by
  have hlt := h.blk.lt
  have ht := fun W hW hx hy => bytes_told n W q w.heap.size (w.heap.size + 1) A c bs p hn1 hn2 (h.below hW) hx hy
  have hfn2 : Far A bs.length (w.heap.size + 1 + 1) := far_new h.sl (by omega)
  generalize (if (rCount n bs p).2.1 = 0 then (rCount n bs p).1 else []) = l at *
  generalize (flt (rCount n bs p).2.1 p : Nat) = fa at *
  generalize plc (rCount n bs p).2.1 p (rCount n bs p).2.2 = p1 at *
  generalize (rCount n bs p).2.1 = e at *
  have HT := hid ht
  clear ht h
  have hmf := func_run (P := Try.prog)
  go_enter Try.func79, Try.ntmps79
  go_wp2_with fail
  generalize hW : World.alloc _ _ = W
  have hbW : Below w.heap.size w W := by rw [← hW]; exact ((((Below.refl _ w).alloc (Nat.le_refl _) _).alloc (by simp) _).alloc (by simp; omega) _)
  have hoW : Only q w W := by rw [← hW]; exact ((((Only.refl q w).alloc _).alloc _).alloc _)
  have hx : W.cell? ⟨w.heap.size, 0, none⟩ = some (.pointer (some ⟨q, 0, none⟩)) := by
    rw [← hW]
    have h1 : ∀ (t : TypeId) (o2 o3 : Obj), (((w.alloc (.cells #[.pointer (some ⟨q, 0, none⟩)] t)).alloc o2).alloc o3).cell? ⟨w.heap.size, 0, none⟩ = some (.pointer (some ⟨q, 0, none⟩)) := fun t o2 o3 => (((Blk.new w t #[.pointer (some ⟨q, 0, none⟩)]).alloc o2).alloc o3).cell 0
    exact h1 _ _ _
  have hy : W.cell? ⟨w.heap.size + 1, 0, none⟩ = some (.int .i64 n) := by rw [← hW]; exact cell_second w _ _ _ _
  have hq : Blk W (w.heap.size + 1 + 1) 27 #[.int .i64 0, .int .i64 0] := by rw [← hW]; exact blk_third w _ _ _ _
  clear hW
  refine (HT.out _ hbW hx hy).mono ?_
  rintro e1 w1 ⟨A', c', rfl, hs, hf, hrin, ho⟩
  have hq1 := ho.blk hq (by omega)
  have c0 : w1.cell? ⟨w.heap.size + 1 + 1, 0, none⟩ = some (.int .i64 0) := hq1.cell 0
  have c1 : w1.cell? ⟨w.heap.size + 1 + 1, 1, none⟩ = some (.int .i64 0) := hq1.cell 1
  have f0 := hq1.frozen 0
  have f1 := hq1.frozen 1
  have hl := hq1.lt
  have HO := hid (hoW.trans ho)
  have HR := hid hrin
  have HS := hid hs
  have HF := hid hf
  clear hq hq1 ho hrin hs hf hbW hoW hx hy
  go_wp2_with fail
  refine bodyPost_ret (v := .tuple #[.slice A' l.length c', .agg #[.int .i64 (e : Int), .int .i64 (fa : Int)]]) (by simp [results, Try.results79, go_sem, c0, c1]) rfl ⟨A', c', rfl, ?_, HF.out, ?_, ?_⟩
  · have hfg := HF.out _ hfn2
    have s1 := ((Only.refl (w.heap.size + 1 + 1) w1).set_ 0 (.int .i64 (e : Int))).sl HS.out hfg (by simp)
    exact ((Only.refl (w.heap.size + 1 + 1) _).set_ 1 (.int .i64 (fa : Int))).sl s1 hfg (by simp)
  · exact (HR.out.far_set (by omega) hfn2 _ _).far_set (by omega) hfn2 _ _
  · exact (HO.out.new_ (by omega) _ _).new_ (by omega) _ _
end Go.Proofs.Ytfbmdeegcoocnaa
