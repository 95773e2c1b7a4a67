/- The walk of ValueCopies. -/
import Derived.Test.YtehjibbjkadoiaaLive9
import Derived.Test.YtehjibbjkadoiaaVGrow
import Derived.Test.YtehjibbjkadoiaaVRef4
import Derived.Test.YtehjibbjkadoiaaRegInv
set_option linter.unusedVariables false
namespace Go.Proofs.Ytehjibbjkadoiaa
open Go.RowKit
theorem cells10 {w : World} {g0 : Nat} {x0 x1 x2 x3 x4 x5 x6 x7 x8 x9 : Value} (h0 : Blk w g0 27 #[x0, x1, x2, x3, x4, x5, x6, x7, x8, x9]) : w.cell? ⟨g0, 0, none⟩ = some x0 ∧ w.cell? ⟨g0, 1, none⟩ = some x1 ∧ w.cell? ⟨g0, 2, none⟩ = some x2 ∧ w.cell? ⟨g0, 3, none⟩ = some x3 ∧ w.cell? ⟨g0, 4, none⟩ = some x4 ∧ w.cell? ⟨g0, 5, none⟩ = some x5 ∧ w.cell? ⟨g0, 6, none⟩ = some x6 ∧ w.cell? ⟨g0, 7, none⟩ = some x7 ∧ w.cell? ⟨g0, 8, none⟩ = some x8 ∧ w.cell? ⟨g0, 9, none⟩ = some x9 :=
  ⟨h0.cell 0, h0.cell 1, h0.cell 2, h0.cell 3, h0.cell 4, h0.cell 5, h0.cell 6, h0.cell 7, h0.cell 8, h0.cell 9⟩
theorem cells40 {w : World} {g0 g1 g2 g3 : Nat} {x0 x1 x2 x3 x4 x5 x6 x7 x8 x9 x10 x11 x12 x13 x14 x15 x16 x17 x18 x19 x20 x21 x22 x23 x24 x25 x26 x27 x28 x29 x30 x31 x32 x33 x34 x35 x36 x37 x38 x39 : Value} (h0 : Blk w g0 27 #[x0, x1, x2, x3, x4, x5, x6, x7, x8, x9]) (h1 : Blk w g1 27 #[x10, x11, x12, x13, x14, x15, x16, x17, x18, x19]) (h2 : Blk w g2 27 #[x20, x21, x22, x23, x24, x25, x26, x27, x28, x29]) (h3 : Blk w g3 27 #[x30, x31, x32, x33, x34, x35, x36, x37, x38, x39]) : w.cell? ⟨g0, 0, none⟩ = some x0 ∧ w.cell? ⟨g0, 1, none⟩ = some x1 ∧ w.cell? ⟨g0, 2, none⟩ = some x2 ∧ w.cell? ⟨g0, 3, none⟩ = some x3 ∧ w.cell? ⟨g0, 4, none⟩ = some x4 ∧ w.cell? ⟨g0, 5, none⟩ = some x5 ∧ w.cell? ⟨g0, 6, none⟩ = some x6 ∧ w.cell? ⟨g0, 7, none⟩ = some x7 ∧ w.cell? ⟨g0, 8, none⟩ = some x8 ∧ w.cell? ⟨g0, 9, none⟩ = some x9 ∧ w.cell? ⟨g1, 0, none⟩ = some x10 ∧ w.cell? ⟨g1, 1, none⟩ = some x11 ∧ w.cell? ⟨g1, 2, none⟩ = some x12 ∧ w.cell? ⟨g1, 3, none⟩ = some x13 ∧ w.cell? ⟨g1, 4, none⟩ = some x14 ∧ w.cell? ⟨g1, 5, none⟩ = some x15 ∧ w.cell? ⟨g1, 6, none⟩ = some x16 ∧ w.cell? ⟨g1, 7, none⟩ = some x17 ∧ w.cell? ⟨g1, 8, none⟩ = some x18 ∧ w.cell? ⟨g1, 9, none⟩ = some x19 ∧ w.cell? ⟨g2, 0, none⟩ = some x20 ∧ w.cell? ⟨g2, 1, none⟩ = some x21 ∧ w.cell? ⟨g2, 2, none⟩ = some x22 ∧ w.cell? ⟨g2, 3, none⟩ = some x23 ∧ w.cell? ⟨g2, 4, none⟩ = some x24 ∧ w.cell? ⟨g2, 5, none⟩ = some x25 ∧ w.cell? ⟨g2, 6, none⟩ = some x26 ∧ w.cell? ⟨g2, 7, none⟩ = some x27 ∧ w.cell? ⟨g2, 8, none⟩ = some x28 ∧ w.cell? ⟨g2, 9, none⟩ = some x29 ∧ w.cell? ⟨g3, 0, none⟩ = some x30 ∧ w.cell? ⟨g3, 1, none⟩ = some x31 ∧ w.cell? ⟨g3, 2, none⟩ = some x32 ∧ w.cell? ⟨g3, 3, none⟩ = some x33 ∧ w.cell? ⟨g3, 4, none⟩ = some x34 ∧ w.cell? ⟨g3, 5, none⟩ = some x35 ∧ w.cell? ⟨g3, 6, none⟩ = some x36 ∧ w.cell? ⟨g3, 7, none⟩ = some x37 ∧ w.cell? ⟨g3, 8, none⟩ = some x38 ∧ w.cell? ⟨g3, 9, none⟩ = some x39 :=
  ⟨h0.cell 0, h0.cell 1, h0.cell 2, h0.cell 3, h0.cell 4, h0.cell 5, h0.cell 6, h0.cell 7, h0.cell 8, h0.cell 9, h1.cell 0, h1.cell 1, h1.cell 2, h1.cell 3, h1.cell 4, h1.cell 5, h1.cell 6, h1.cell 7, h1.cell 8, h1.cell 9, h2.cell 0, h2.cell 1, h2.cell 2, h2.cell 3, h2.cell 4, h2.cell 5, h2.cell 6, h2.cell 7, h2.cell 8, h2.cell 9, h3.cell 0, h3.cell 1, h3.cell 2, h3.cell 3, h3.cell 4, h3.cell 5, h3.cell 6, h3.cell 7, h3.cell 8, h3.cell 9⟩
theorem bk_step {w w' : World} {g : Nat} {t : TypeId} {cs : Array Value} (hb : Below w.heap.size w w') (h : Blk w g t cs) : Blk w' g t cs := h.below hb h.lt
/-- A copied list, in a block of its own. -/
structure CpyV (base : Nat) (l : List ByteArray) (n : Nat) (w : World) (A' : Option Addr) (c' : Nat) : Prop where
  sl : Sl w A' c' (l.map sv)
  own : 0 < n → ∃ g cur, A' = some ⟨g, 0, none⟩ ∧ base ≤ g ∧ Blk w g 9 cur ∧ n ≤ cur.size ∧ n ≤ c'
theorem CpyV.step {base : Nat} {l : List ByteArray} {n : Nat} {w w' : World} {A' : Option Addr} {c' : Nat} (hb : Below w.heap.size w w') (h : CpyV base l n w A' c') : CpyV base l n w' A' c' := by
  refine ⟨h.sl.below hb, fun h0 => ?_⟩
  obtain ⟨g, cur, e, h1, h2, h3, h4⟩ := h.own h0
  exact ⟨g, cur, e, h1, h2.below hb h2.lt, h3, h4⟩
theorem CpyV.of_own {base : Nat} {l : List ByteArray} {n : Nat} {w : World} {A' : Option Addr} {c' : Nat} (hl : l.length = n) (h : w.ownsRow base 9 1 (.slice A' n c') n (l.map sv)) : CpyV base l n w A' c' := by
  obtain ⟨A2, c2, he, -, hs⟩ := Sl.of_own h
  injection he with e1 e2 e3
  subst e1; subst e3
  refine ⟨hs, fun h0 => ?_⟩
  rcases h.2 with ⟨e, hx⟩ | ⟨g, cap, cur, e, hb, hg, hnc, hcm, hcs, htake⟩
  · omega
  · injection e with e1 e2 e3
    exact ⟨g, cur, e1, hb, hg, by omega, by omega⟩
theorem CpyV.mono {base b2 : Nat} {l : List ByteArray} {n : Nat} {w : World} {A' : Option Addr} {c' : Nat} (hle : b2 ≤ base) (h : CpyV base l n w A' c') : CpyV b2 l n w A' c' := by
  refine ⟨h.sl, fun h0 => ?_⟩
  obtain ⟨g, cur, e, h1, h2, h3, h4⟩ := h.own h0
  exact ⟨g, cur, e, Nat.le_trans hle h1, h2, h3, h4⟩
theorem Sl.step {w w' : World} {A : Option Addr} {c : Nat} {xs : List Value} (hb : Below w.heap.size w w') (h : Sl w A c xs) : Sl w' A c xs := h.below hb
theorem CpyV.drewN {base : Nat} {l : List ByteArray} {n : Nat} {w : World} {A : Option Addr} {c : Nat} (h : CpyV base l n w A c) (k : Nat) : CpyV base l n (w.drewN k) A c := ⟨h.sl.drewN k, h.own⟩
theorem CpyV.chg {base : Nat} {l : List ByteArray} {n q : Nat} {w w' : World} {A' : Option Addr} {c' : Nat} {cs : Array Value} (hl : l.length = n) (h : CpyV base l n w A' c') (hb : Blk w q 27 cs) (hc : Chg (fun k => k = q) w w') : CpyV base l n w' A' c' := by
  by_cases h0 : 0 < n
  · obtain ⟨g, cur, rfl, h1, h2, h3, h4⟩ := h.own h0
    have hne : g ≠ q := by
      rintro rfl
      have := h2.symm.trans hb
      simp at this
    refine ⟨hc.sl h.sl (n := (l.map sv).length) (fun _ b o he hS => ?_) rfl, fun _ => ⟨g, cur, rfl, h1, hc.blk h2 hne, h3, h4⟩⟩
    injection he with he
    injection he with he1
    omega
  · obtain rfl : l = [] := List.eq_nil_of_length_eq_zero (by omega)
    exact ⟨⟨h.sl.cap, h.sl.small, h.sl.nil0, Rd.nil_ _ _⟩, fun h1 => absurd h1 h0⟩
def R5 (s : Nat) (va : Value) (v : Int) (fc fk : Option Addr → Nat → Array Value) (lc lk : List ByteArray) (nc nk : Nat) (z : Array Value) (a0 : Act) (w0 : World) (f : Nat → Bool) (a : Act) (w : World) : Prop :=
  ∃ x0 x1 x2 x3 x4 x5 x6 : Value, a = (((((((a0.put (some 20) x0).put (some 21) x1).put (some 22) x2).put (some 23) x3).put (some 24) x4).put (some 7) x5).put (some 8) x6) ∧
    (f 0 = true → x0 = va) ∧ (f 1 = true → ∃ A c, x1 = .agg (fc A c) ∧ CpyV s lc nc w A c) ∧ (f 2 = true → x2 = va) ∧ (f 3 = true → x3 = .int .i64 v) ∧ (f 4 = true → ∃ A c, x4 = .agg (fk A c) ∧ CpyV s lk nk w A c) ∧
    (f 5 = true → ∃ g, x5 = .pointer (some ⟨g, 0, none⟩) ∧ w0.heap.size ≤ g ∧ (f 7 = false → Blk w g 27 z) ∧ (f 7 = true → ∃ A c, Blk w g 27 (fc A c) ∧ CpyV s lc nc w A c)) ∧
    (f 6 = true → ∃ g, x6 = .pointer (some ⟨g, 0, none⟩) ∧ w0.heap.size ≤ g ∧ (f 8 = false → Blk w g 27 z) ∧ (f 8 = true → ∃ A c, Blk w g 27 (fk A c) ∧ CpyV s lk nk w A c)) ∧
    (f 5 = true → f 6 = true → x5 ≠ x6) ∧ (f 7 = true → f 5 = true) ∧ (f 8 = true → f 6 = true) ∧ Below w0.heap.size w0 w
set_option maxRecDepth 100000 in
set_option maxHeartbeats 8000000 in
theorem valCopies_any (a b : MV) (v : Int) (w : World) (hoka : MvOk w a) (hokb : MvOk w b) (hv1 : -9223372036854775808 ≤ v) (hv2 : v ≤ 9223372036854775807) : Calls Try.prog 3 #[mvV a, mvV b, .int .i64 v] w fun e w' => e = .returned (.bool true) ∧ Below w.heap.size w w' := by
  have hsma := fun W (hW : Below w.heap.size w W) => small9_any a W (hoka.l.below hW)
  have hsmb := fun W (hW : Below w.heap.size w W) => small9_any b W (hokb.l.below hW)
  have hcp : smallB a = true → ∀ W (hW : Below w.heap.size w W), Calls Try.prog 12 #[mvV a] W fun e w' => ∃ A' c', e = .returned (mvV { a with A := A', c := c' }) ∧ CpyV w.heap.size a.l a.l.length w' A' c' ∧ Below W.heap.size W w' := fun hs W hW => by
    refine (vcopy_any a W (by have := (smallB_facts hs).2.2.1; omega) (hoka.l.below hW)).mono ?_
    rintro e w' ⟨A', c', rfl, ho, hb⟩
    exact ⟨A', c', rfl, (CpyV.of_own rfl ho).mono (by have := hW.size; omega), hb⟩
  have hcl : smallB a = true → ∀ W (hW : Below w.heap.size w W), Calls Try.prog 13 #[mvV a, .int .i64 v] W fun e w' => ∃ A' c', e = .returned (mvV { keptM (ofL (a.k : Int) v) a with A := A', c := c' }) ∧ CpyV w.heap.size (keptM (ofL (a.k : Int) v) a).l (keptM (ofL (a.k : Int) v) a).l.length w' A' c' ∧ Below W.heap.size W w' := fun hs W hW => by
    refine (vclean_any a v W (by have := (smallB_facts hs).2.2.1; omega) (hoka.l.below hW) hv1 hv2).mono ?_
    rintro e w' ⟨A', c', rfl, ho, hb⟩
    exact ⟨A', c', rfl, (CpyV.of_own rfl ho).mono (by have := hW.size; omega), hb⟩
  have hrc := fun W => rclean_any a v W hoka.k hv1 hv2
  have hs1 := fun W (hW : Below w.heap.size w W) => vsame_any a b W (hoka.l.below hW) (hokb.l.below hW)
  have hs2 := fun W (hW : Below w.heap.size w W) => rsame9_any a b W (hoka.l.below hW) (hokb.l.below hW)
  have hs3 : ∀ W A' c' (hW : Below w.heap.size w W) (hC : Sl W A' c' (a.l.map sv)), Calls Try.prog 15 #[mvV { a with A := A', c := c' }, mvV a] W fun e w' => e = .returned (.bool true) ∧ Below W.heap.size W w' := fun W A' c' hW hC => by
    have h := rsame9_any { a with A := A', c := c' } a W hC (hoka.l.below hW)
    rw [show sameB { a with A := A', c := c' } a = true from (sameB_iff _ _).2 ⟨rfl, ⟨rfl, rfl, rfl, rfl, rfl, rfl⟩, ⟨rfl, rfl⟩, rfl⟩] at h
    exact h
  have hs4 : ∀ W A' c' (hW : Below w.heap.size w W) (hC : Sl W A' c' ((keptM (ofL (a.k : Int) v) a).l.map sv)), Calls Try.prog 15 #[mvV { keptM (ofL (a.k : Int) v) a with A := A', c := c' }, mvV (keptM (ofL (a.k : Int) v) a)] W fun e w' => e = .returned (.bool true) ∧ Below W.heap.size W w' := fun W A' c' hW hC => by
    have h := rsame9_any { keptM (ofL (a.k : Int) v) a with A := A', c := c' } (keptM (ofL (a.k : Int) v) a) W hC (kept_sl _ (hoka.l.below hW))
    rw [show sameB { keptM (ofL (a.k : Int) v) a with A := A', c := c' } (keptM (ofL (a.k : Int) v) a) = true from (sameB_iff _ _).2 ⟨rfl, ⟨rfl, rfl, rfl, rfl, rfl, rfl⟩, ⟨rfl, rfl⟩, rfl⟩] at h
    exact h
  have hla := hoka.l
  generalize ofL (a.k : Int) v = L at *
  obtain ⟨KV, hKV⟩ : ∃ KV, mvV (keptM L a) = KV := ⟨_, rfl⟩
  rw [hKV] at hrc hs4
  obtain ⟨a1, a2, a3, a4, a5, a6, t7, t8, lk, hlk, hxx⟩ : ∃ (a1 a2 a3 a4 a5 a6 : Nat) (t7 t8 : ByteArray) (lk : Nat), lk = (keptM L a).l.length ∧ ∀ A8 c8, mvV { keptM L a with A := A8, c := c8 } = .agg #[.int .u8 (a.k : Int), .int .u64 (a1 : Int), .int .u64 (a2 : Int), .int .u64 (a3 : Int), .int .u64 (a4 : Int), .int .u64 (a5 : Int), .int .u64 (a6 : Int), .string t7, .string t8, .slice A8 lk c8] := ⟨(keptM L a).n0, (keptM L a).n1, (keptM L a).n2, (keptM L a).n3, (keptM L a).n4, (keptM L a).n5, (keptM L a).s0, (keptM L a).s1, (keptM L a).l.length, rfl, fun _ _ => rfl⟩
  simp only [hxx] at hcl hs4
  rw [← hlk] at hcl
  generalize (keptM L a).l = kl at *
  have HLK := hid hlk.symm
  clear hlk
  clear hKV hxx
  generalize sameB a b = sab at *
  have hsz := fun (h : smallB a = true) => (smallB_facts h).2.2.2
  generalize smallB a = sba at *
  have HSZ := hid hsz
  clear hsz
  generalize smallB b = sbb at *
  clear hoka hokb
  unfold mvV mvA at *
  simp only at hcp hs3
  obtain ⟨la, hlaE⟩ : ∃ n, a.l.length = n := ⟨_, rfl⟩
  obtain ⟨lb, hlbE⟩ : ∃ n, b.l.length = n := ⟨_, rfl⟩
  simp only [hlaE, hlbE] at hsma hsmb hcp hcl hrc hs1 hs2 hs3 hs4 ⊢
  clear hlbE
  obtain ⟨s, hws⟩ : ∃ s, w.heap.size = s := ⟨_, rfl⟩
  rw [hws] at hsma hsmb hcp hcl hs1 hs2 hs3 hs4 ⊢
  have HLA := hid hla
  have HLE := hid hlaE
  have HSMA := hid hsma
  have HSMB := hid hsmb
  have HCP := hid hcp
  have HCL := hid hcl
  have HRC := hid hrc
  have HS1 := hid hs1
  have HS2 := hid hs2
  have HS3 := hid hs3
  have HS4 := hid hs4
  clear hla hlaE hsma hsmb hcp hcl hrc hs1 hs2 hs3 hs4
  obtain ⟨W, hW⟩ : ∃ W, (w.alloc (.cells #[.int .u8 (a.k : Int), .int .u64 (a.n0 : Int), .int .u64 (a.n1 : Int), .int .u64 (a.n2 : Int), .int .u64 (a.n3 : Int), .int .u64 (a.n4 : Int), .int .u64 (a.n5 : Int), .string a.s0, .string a.s1, .slice a.A la a.c] 27)).alloc (.cells #[.int .u8 (b.k : Int), .int .u64 (b.n0 : Int), .int .u64 (b.n1 : Int), .int .u64 (b.n2 : Int), .int .u64 (b.n3 : Int), .int .u64 (b.n4 : Int), .int .u64 (b.n5 : Int), .string b.s0, .string b.s1, .slice b.A lb b.c] 27) = W := ⟨_, rfl⟩
  have hk0 : Blk W s 27 #[.int .u8 (a.k : Int), .int .u64 (a.n0 : Int), .int .u64 (a.n1 : Int), .int .u64 (a.n2 : Int), .int .u64 (a.n3 : Int), .int .u64 (a.n4 : Int), .int .u64 (a.n5 : Int), .string a.s0, .string a.s1, .slice a.A la a.c] := by rw [← hW, ← hws]; exact (Blk.new w _ _).alloc _
  have hk1 : Blk W (s + 1) 27 #[.int .u8 (b.k : Int), .int .u64 (b.n0 : Int), .int .u64 (b.n1 : Int), .int .u64 (b.n2 : Int), .int .u64 (b.n3 : Int), .int .u64 (b.n4 : Int), .int .u64 (b.n5 : Int), .string b.s0, .string b.s1, .slice b.A lb b.c] := by
    have h1 := Blk.new (w.alloc (.cells #[.int .u8 (a.k : Int), .int .u64 (a.n0 : Int), .int .u64 (a.n1 : Int), .int .u64 (a.n2 : Int), .int .u64 (a.n3 : Int), .int .u64 (a.n4 : Int), .int .u64 (a.n5 : Int), .string a.s0, .string a.s1, .slice a.A la a.c] 27)) 27 #[.int .u8 (b.k : Int), .int .u64 (b.n0 : Int), .int .u64 (b.n1 : Int), .int .u64 (b.n2 : Int), .int .u64 (b.n3 : Int), .int .u64 (b.n4 : Int), .int .u64 (b.n5 : Int), .string b.s0, .string b.s1, .slice b.A lb b.c]
    rw [World.size_alloc, hws, hW] at h1; exact h1
  have hB : Below s w W := by rw [← hW, ← hws]; exact bw_a (bw_a (Below.refl _ w) _) _
  have HK0 := hid hk0
  have HK1 := hid hk1
  have HB := hid hB
  have hlt := hk1.lt
  clear hk0 hk1 hB
  go_enter Try.func3, Try.ntmps3
  go_wp2_with fail
  clear hW
  refine (live9_any W).mono ?_
  rintro e w1 ⟨rfl, hb1⟩
  have HB1 := hid (HB.out.trans (hb1.mono (by omega)))
  have HK01 := hid (bk_step hb1 HK0.out)
  have HK11 := hid (bk_step hb1 HK1.out)
  have hlt1 := (bk_step hb1 HK1.out).lt
  clear hb1
  have c0 := HK01.out.cell 0
  have c1 := HK01.out.cell 1
  have c2 := HK01.out.cell 2
  have c3 := HK01.out.cell 3
  have c4 := HK01.out.cell 4
  have c5 := HK01.out.cell 5
  have c6 := HK01.out.cell 6
  have c7 := HK01.out.cell 7
  have c8 := HK01.out.cell 8
  have c9 := HK01.out.cell 9
  simp only [List.getElem?_toArray, List.getElem?_cons_zero, List.getElem?_cons_succ] at c0 c1 c2 c3 c4 c5 c6 c7 c8 c9
  go_wp2_with fail
  refine (HSMA.out _ HB1.out).mono ?_
  rintro e w2 ⟨rfl, hb2⟩
  have HB2 := hid (HB1.out.trans (hb2.mono (by omega)))
  have HK02 := hid (bk_step hb2 HK01.out)
  have HK12 := hid (bk_step hb2 HK11.out)
  have hlt2 := (bk_step hb2 HK11.out).lt
  clear hb2 c0 c1 c2 c3 c4 c5 c6 c7 c8 c9
  have d0 := HK12.out.cell 0
  have d1 := HK12.out.cell 1
  have d2 := HK12.out.cell 2
  have d3 := HK12.out.cell 3
  have d4 := HK12.out.cell 4
  have d5 := HK12.out.cell 5
  have d6 := HK12.out.cell 6
  have d7 := HK12.out.cell 7
  have d8 := HK12.out.cell 8
  have d9 := HK12.out.cell 9
  simp only [List.getElem?_toArray, List.getElem?_cons_zero, List.getElem?_cons_succ] at d0 d1 d2 d3 d4 d5 d6 d7 d8 d9
  cases sba with
  | false =>
    go_wp2_with fail
    go_ret
    exact ⟨rfl, HB2.out⟩
  | true =>
    have HCPT := hid (HCP.out rfl)
    have HCLT := hid (HCL.out rfl)
    clear HCP HCL
    go_wp2_with fail
    refine (HSMB.out _ HB2.out).mono ?_
    rintro e w3 ⟨rfl, hb3⟩
    have HB3 := hid (HB2.out.trans (hb3.mono (by omega)))
    have HK03 := hid (bk_step hb3 HK02.out)
    have HK13 := hid (bk_step hb3 HK12.out)
    have hlt3 := (bk_step hb3 HK12.out).lt
    clear hb3 d0 d1 d2 d3 d4 d5 d6 d7 d8 d9
    cases sbb with
    | false =>
      go_wp2_with fail
      go_ret
      exact ⟨rfl, HB3.out⟩
    | true =>
      have hlt03 := HK03.out.lt
      have hw3 : s ≤ w3.heap.size := by have := HB3.out.size; omega
      go_wp2_with fail
      refine wp_region_inv (by kernel_rfl) (by kernel_rfl) (R5 s (.agg #[.int .u8 (a.k : Int), .int .u64 (a.n0 : Int), .int .u64 (a.n1 : Int), .int .u64 (a.n2 : Int), .int .u64 (a.n3 : Int), .int .u64 (a.n4 : Int), .int .u64 (a.n5 : Int), .string a.s0, .string a.s1, .slice a.A la a.c]) v (fun A c => #[.int .u8 (a.k : Int), .int .u64 (a.n0 : Int), .int .u64 (a.n1 : Int), .int .u64 (a.n2 : Int), .int .u64 (a.n3 : Int), .int .u64 (a.n4 : Int), .int .u64 (a.n5 : Int), .string a.s0, .string a.s1, .slice A la c]) (fun A c => #[.int .u8 (a.k : Int), .int .u64 (a1 : Int), .int .u64 (a2 : Int), .int .u64 (a3 : Int), .int .u64 (a4 : Int), .int .u64 (a5 : Int), .int .u64 (a6 : Int), .string t7, .string t8, .slice A lk c]) a.l kl la lk #[.int .u8 0, .int .u64 0, .int .u64 0, .int .u64 0, .int .u64 0, .int .u64 0, .int .u64 0, .string ⟨#[]⟩, .string ⟨#[]⟩, .slice none 0 0]) ?_ ?_ ?_
      · exact ⟨undef, undef, undef, undef, undef, undef, undef, (by simp only [Act.put, List.setIfInBounds_toArray, List.set_cons_succ, List.set_cons_zero]), by simp, by simp, by simp, by simp, by simp, by simp, by simp, by simp, by simp, by simp, ⟨rfl, rfl, rfl, Nat.le_refl _, fun _ _ => rfl⟩⟩
      · intro f a' wr i o ho hf hdep hI
        have hi : i < 9 := (Array.getElem?_eq_some_iff.1 ho).1
        have hcase : i = 0 ∨ i = 1 ∨ i = 2 ∨ i = 3 ∨ i = 4 ∨ i = 5 ∨ i = 6 ∨ i = 7 ∨ i = 8 := by omega
        clear hi
        rcases hcase with rfl | rfl | rfl | rfl | rfl | rfl | rfl | rfl | rfl
        all_goals
          simp only [List.getElem?_toArray, List.getElem?_cons_zero, List.getElem?_cons_succ, Option.some.injEq] at ho
          subst ho
        · -- 0
          obtain ⟨x0, x1, x2, x3, x4, x5, x6, rfl, h0, h1, h2, h3, h4, h5, h6, h9, h7, h8, hB⟩ := hI
          have hkw := HK03.out.below hB hlt03
          have c0 := hkw.cell 0
          have c1 := hkw.cell 1
          have c2 := hkw.cell 2
          have c3 := hkw.cell 3
          have c4 := hkw.cell 4
          have c5 := hkw.cell 5
          have c6 := hkw.cell 6
          have c7 := hkw.cell 7
          have c8 := hkw.cell 8
          have c9 := hkw.cell 9
          simp only [List.getElem?_toArray, List.getElem?_cons_zero, List.getElem?_cons_succ] at c0 c1 c2 c3 c4 c5 c6 c7 c8 c9
          clear hkw
          have H0 := hid h0; have H1 := hid h1; have H2 := hid h2; have H3 := hid h3; have H4 := hid h4; have H5 := hid h5; have H6 := hid h6; have H9 := hid h9; have H7 := hid h7; have H8 := hid h8; have HB := hid hB; clear h0 h1 h2 h3 h4 h5 h6 h9 h7 h8 hB
          simp only [Act.put, List.setIfInBounds_toArray, List.set_cons_succ, List.set_cons_zero]
          go_wp2_with fail
          have h0 := H0.out; have h1 := H1.out; have h2 := H2.out; have h3 := H3.out; have h4 := H4.out; have h5 := H5.out; have h6 := H6.out; have h9 := H9.out; have h7 := H7.out; have h8 := H8.out; have hB := HB.out
          exact ⟨_, x1, x2, x3, x4, x5, x6, (by simp only [Act.put, List.setIfInBounds_toArray, List.set_cons_succ, List.set_cons_zero]), fun _ => rfl, (fun h => by obtain ⟨A, c, e, hc⟩ := h1 (by simpa using h); exact ⟨A, c, e, CpyV.step (Below.refl _ _) hc⟩), (fun h => h2 (by simpa using h)), (fun h => h3 (by simpa using h)), (fun h => by obtain ⟨A, c, e, hc⟩ := h4 (by simpa using h); exact ⟨A, c, e, CpyV.step (Below.refl _ _) hc⟩), (fun h => by obtain ⟨g, e, hg, k1, k2⟩ := h5 (by simpa using h); exact ⟨g, e, hg, fun h => bk_step (Below.refl _ _) (k1 (by simpa using h)), fun h => by obtain ⟨A, c, hk, hc⟩ := k2 (by simpa using h); exact ⟨A, c, bk_step (Below.refl _ _) hk, CpyV.step (Below.refl _ _) hc⟩⟩), (fun h => by obtain ⟨g, e, hg, k1, k2⟩ := h6 (by simpa using h); exact ⟨g, e, hg, fun h => bk_step (Below.refl _ _) (k1 (by simpa using h)), fun h => by obtain ⟨A, c, hk, hc⟩ := k2 (by simpa using h); exact ⟨A, c, bk_step (Below.refl _ _) hk, CpyV.step (Below.refl _ _) hc⟩⟩), (fun g1 g2 => h9 (by simpa using g1) (by simpa using g2)), (fun g1 => by have := h7 (by simpa using g1); simpa using this), (fun g1 => by have := h8 (by simpa using g1); simpa using this), hB⟩
        · -- 1
          obtain ⟨x0, x1, x2, x3, x4, x5, x6, rfl, h0, h1, h2, h3, h4, h5, h6, h9, h7, h8, hB⟩ := hI
          simp [Region.binds] at hdep
          obtain rfl := h0 (by first | exact hdep | exact hdep.1 | exact hdep.2 | exact hdep.2.1 | exact hdep.2.2 | exact hdep.2.2.1 | exact hdep.2.2.2 | simp_all)
          have HCC := hid (HCPT.out wr (HB3.out.trans (hB.mono (by omega))))
          have H0 := hid h0; have H1 := hid h1; have H2 := hid h2; have H3 := hid h3; have H4 := hid h4; have H5 := hid h5; have H6 := hid h6; have H9 := hid h9; have H7 := hid h7; have H8 := hid h8; have HB := hid hB; clear h0 h1 h2 h3 h4 h5 h6 h9 h7 h8 hB
          simp only [Act.put, List.setIfInBounds_toArray, List.set_cons_succ, List.set_cons_zero]
          go_wp2_with fail
          refine HCC.out.mono ?_
          rintro e w8 ⟨A7, c7, rfl, hcpy, hb8⟩
          have HCPY := hid hcpy; have HB88 := hid hb8; clear hcpy hb8
          go_wp2_with fail
          have hcpy := HCPY.out; have hb8 := HB88.out
          have h0 := H0.out; have h1 := H1.out; have h2 := H2.out; have h3 := H3.out; have h4 := H4.out; have h5 := H5.out; have h6 := H6.out; have h9 := H9.out; have h7 := H7.out; have h8 := H8.out; have hB := HB.out
          exact ⟨_, _, x2, x3, x4, x5, x6, (by simp only [Act.put, List.setIfInBounds_toArray, List.set_cons_succ, List.set_cons_zero]), (fun _ => rfl), fun _ => ⟨A7, c7, rfl, hcpy⟩, (fun h => h2 (by simpa using h)), (fun h => h3 (by simpa using h)), (fun h => by obtain ⟨A, c, e, hc⟩ := h4 (by simpa using h); exact ⟨A, c, e, CpyV.step hb8 hc⟩), (fun h => by obtain ⟨g, e, hg, k1, k2⟩ := h5 (by simpa using h); exact ⟨g, e, hg, fun h => bk_step hb8 (k1 (by simpa using h)), fun h => by obtain ⟨A, c, hk, hc⟩ := k2 (by simpa using h); exact ⟨A, c, bk_step hb8 hk, CpyV.step hb8 hc⟩⟩), (fun h => by obtain ⟨g, e, hg, k1, k2⟩ := h6 (by simpa using h); exact ⟨g, e, hg, fun h => bk_step hb8 (k1 (by simpa using h)), fun h => by obtain ⟨A, c, hk, hc⟩ := k2 (by simpa using h); exact ⟨A, c, bk_step hb8 hk, CpyV.step hb8 hc⟩⟩), (fun g1 g2 => h9 (by simpa using g1) (by simpa using g2)), (fun g1 => by have := h7 (by simpa using g1); simpa using this), (fun g1 => by have := h8 (by simpa using g1); simpa using this), (hB.trans (hb8.mono hB.size))⟩
        · -- 2
          obtain ⟨x0, x1, x2, x3, x4, x5, x6, rfl, h0, h1, h2, h3, h4, h5, h6, h9, h7, h8, hB⟩ := hI
          have hkw := HK03.out.below hB hlt03
          have c0 := hkw.cell 0
          have c1 := hkw.cell 1
          have c2 := hkw.cell 2
          have c3 := hkw.cell 3
          have c4 := hkw.cell 4
          have c5 := hkw.cell 5
          have c6 := hkw.cell 6
          have c7 := hkw.cell 7
          have c8 := hkw.cell 8
          have c9 := hkw.cell 9
          simp only [List.getElem?_toArray, List.getElem?_cons_zero, List.getElem?_cons_succ] at c0 c1 c2 c3 c4 c5 c6 c7 c8 c9
          clear hkw
          have H0 := hid h0; have H1 := hid h1; have H2 := hid h2; have H3 := hid h3; have H4 := hid h4; have H5 := hid h5; have H6 := hid h6; have H9 := hid h9; have H7 := hid h7; have H8 := hid h8; have HB := hid hB; clear h0 h1 h2 h3 h4 h5 h6 h9 h7 h8 hB
          simp only [Act.put, List.setIfInBounds_toArray, List.set_cons_succ, List.set_cons_zero]
          go_wp2_with fail
          have h0 := H0.out; have h1 := H1.out; have h2 := H2.out; have h3 := H3.out; have h4 := H4.out; have h5 := H5.out; have h6 := H6.out; have h9 := H9.out; have h7 := H7.out; have h8 := H8.out; have hB := HB.out
          exact ⟨x0, x1, _, x3, x4, x5, x6, (by simp only [Act.put, List.setIfInBounds_toArray, List.set_cons_succ, List.set_cons_zero]), (fun h => h0 (by simpa using h)), (fun h => by obtain ⟨A, c, e, hc⟩ := h1 (by simpa using h); exact ⟨A, c, e, CpyV.step (Below.refl _ _) hc⟩), fun _ => rfl, (fun h => h3 (by simpa using h)), (fun h => by obtain ⟨A, c, e, hc⟩ := h4 (by simpa using h); exact ⟨A, c, e, CpyV.step (Below.refl _ _) hc⟩), (fun h => by obtain ⟨g, e, hg, k1, k2⟩ := h5 (by simpa using h); exact ⟨g, e, hg, fun h => bk_step (Below.refl _ _) (k1 (by simpa using h)), fun h => by obtain ⟨A, c, hk, hc⟩ := k2 (by simpa using h); exact ⟨A, c, bk_step (Below.refl _ _) hk, CpyV.step (Below.refl _ _) hc⟩⟩), (fun h => by obtain ⟨g, e, hg, k1, k2⟩ := h6 (by simpa using h); exact ⟨g, e, hg, fun h => bk_step (Below.refl _ _) (k1 (by simpa using h)), fun h => by obtain ⟨A, c, hk, hc⟩ := k2 (by simpa using h); exact ⟨A, c, bk_step (Below.refl _ _) hk, CpyV.step (Below.refl _ _) hc⟩⟩), (fun g1 g2 => h9 (by simpa using g1) (by simpa using g2)), (fun g1 => by have := h7 (by simpa using g1); simpa using this), (fun g1 => by have := h8 (by simpa using g1); simpa using this), hB⟩
        · -- 3
          obtain ⟨x0, x1, x2, x3, x4, x5, x6, rfl, h0, h1, h2, h3, h4, h5, h6, h9, h7, h8, hB⟩ := hI
          have H0 := hid h0; have H1 := hid h1; have H2 := hid h2; have H3 := hid h3; have H4 := hid h4; have H5 := hid h5; have H6 := hid h6; have H9 := hid h9; have H7 := hid h7; have H8 := hid h8; have HB := hid hB; clear h0 h1 h2 h3 h4 h5 h6 h9 h7 h8 hB
          simp only [Act.put, List.setIfInBounds_toArray, List.set_cons_succ, List.set_cons_zero]
          go_wp2_with fail
          have h0 := H0.out; have h1 := H1.out; have h2 := H2.out; have h3 := H3.out; have h4 := H4.out; have h5 := H5.out; have h6 := H6.out; have h9 := H9.out; have h7 := H7.out; have h8 := H8.out; have hB := HB.out
          exact ⟨x0, x1, x2, _, x4, x5, x6, (by simp only [Act.put, List.setIfInBounds_toArray, List.set_cons_succ, List.set_cons_zero]), (fun h => h0 (by simpa using h)), (fun h => by obtain ⟨A, c, e, hc⟩ := h1 (by simpa using h); exact ⟨A, c, e, CpyV.step (Below.refl _ _) hc⟩), (fun h => h2 (by simpa using h)), fun _ => rfl, (fun h => by obtain ⟨A, c, e, hc⟩ := h4 (by simpa using h); exact ⟨A, c, e, CpyV.step (Below.refl _ _) hc⟩), (fun h => by obtain ⟨g, e, hg, k1, k2⟩ := h5 (by simpa using h); exact ⟨g, e, hg, fun h => bk_step (Below.refl _ _) (k1 (by simpa using h)), fun h => by obtain ⟨A, c, hk, hc⟩ := k2 (by simpa using h); exact ⟨A, c, bk_step (Below.refl _ _) hk, CpyV.step (Below.refl _ _) hc⟩⟩), (fun h => by obtain ⟨g, e, hg, k1, k2⟩ := h6 (by simpa using h); exact ⟨g, e, hg, fun h => bk_step (Below.refl _ _) (k1 (by simpa using h)), fun h => by obtain ⟨A, c, hk, hc⟩ := k2 (by simpa using h); exact ⟨A, c, bk_step (Below.refl _ _) hk, CpyV.step (Below.refl _ _) hc⟩⟩), (fun g1 g2 => h9 (by simpa using g1) (by simpa using g2)), (fun g1 => by have := h7 (by simpa using g1); simpa using this), (fun g1 => by have := h8 (by simpa using g1); simpa using this), hB⟩
        · -- 4
          obtain ⟨x0, x1, x2, x3, x4, x5, x6, rfl, h0, h1, h2, h3, h4, h5, h6, h9, h7, h8, hB⟩ := hI
          simp [Region.binds] at hdep
          obtain rfl := h2 (by first | exact hdep | exact hdep.1 | exact hdep.2 | exact hdep.2.1 | exact hdep.2.2 | exact hdep.2.2.1 | exact hdep.2.2.2 | simp_all)
          obtain rfl := h3 (by first | exact hdep | exact hdep.1 | exact hdep.2 | exact hdep.2.1 | exact hdep.2.2 | exact hdep.2.2.1 | exact hdep.2.2.2 | simp_all)
          have HCC := hid (HCLT.out wr (HB3.out.trans (hB.mono (by omega))))
          have H0 := hid h0; have H1 := hid h1; have H2 := hid h2; have H3 := hid h3; have H4 := hid h4; have H5 := hid h5; have H6 := hid h6; have H9 := hid h9; have H7 := hid h7; have H8 := hid h8; have HB := hid hB; clear h0 h1 h2 h3 h4 h5 h6 h9 h7 h8 hB
          simp only [Act.put, List.setIfInBounds_toArray, List.set_cons_succ, List.set_cons_zero]
          go_wp2_with fail
          refine HCC.out.mono ?_
          rintro e w8 ⟨A7, c7, rfl, hcpy, hb8⟩
          have HCPY := hid hcpy; have HB88 := hid hb8; clear hcpy hb8
          go_wp2_with fail
          have hcpy := HCPY.out; have hb8 := HB88.out
          have h0 := H0.out; have h1 := H1.out; have h2 := H2.out; have h3 := H3.out; have h4 := H4.out; have h5 := H5.out; have h6 := H6.out; have h9 := H9.out; have h7 := H7.out; have h8 := H8.out; have hB := HB.out
          exact ⟨x0, x1, _, _, _, x5, x6, (by simp only [Act.put, List.setIfInBounds_toArray, List.set_cons_succ, List.set_cons_zero]), (fun h => h0 (by simpa using h)), (fun h => by obtain ⟨A, c, e, hc⟩ := h1 (by simpa using h); exact ⟨A, c, e, CpyV.step hb8 hc⟩), (fun _ => rfl), (fun _ => rfl), fun _ => ⟨A7, c7, rfl, hcpy⟩, (fun h => by obtain ⟨g, e, hg, k1, k2⟩ := h5 (by simpa using h); exact ⟨g, e, hg, fun h => bk_step hb8 (k1 (by simpa using h)), fun h => by obtain ⟨A, c, hk, hc⟩ := k2 (by simpa using h); exact ⟨A, c, bk_step hb8 hk, CpyV.step hb8 hc⟩⟩), (fun h => by obtain ⟨g, e, hg, k1, k2⟩ := h6 (by simpa using h); exact ⟨g, e, hg, fun h => bk_step hb8 (k1 (by simpa using h)), fun h => by obtain ⟨A, c, hk, hc⟩ := k2 (by simpa using h); exact ⟨A, c, bk_step hb8 hk, CpyV.step hb8 hc⟩⟩), (fun g1 g2 => h9 (by simpa using g1) (by simpa using g2)), (fun g1 => by have := h7 (by simpa using g1); simpa using this), (fun g1 => by have := h8 (by simpa using g1); simpa using this), (hB.trans (hb8.mono hB.size))⟩
        · -- 5
          obtain ⟨x0, x1, x2, x3, x4, x5, x6, rfl, h0, h1, h2, h3, h4, h5, h6, h9, h7, h8, hB⟩ := hI
          have H0 := hid h0; have H1 := hid h1; have H2 := hid h2; have H3 := hid h3; have H4 := hid h4; have H5 := hid h5; have H6 := hid h6; have H9 := hid h9; have H7 := hid h7; have H8 := hid h8; have HB := hid hB; clear h0 h1 h2 h3 h4 h5 h6 h9 h7 h8 hB
          simp only [Act.put, List.setIfInBounds_toArray, List.set_cons_succ, List.set_cons_zero]
          go_wp2_with fail
          have h0 := H0.out; have h1 := H1.out; have h2 := H2.out; have h3 := H3.out; have h4 := H4.out; have h5 := H5.out; have h6 := H6.out; have h9 := H9.out; have h7 := H7.out; have h8 := H8.out; have hB := HB.out
          exact ⟨x0, x1, x2, x3, x4, _, x6, (by simp only [Act.put, List.setIfInBounds_toArray, List.set_cons_succ, List.set_cons_zero]), (fun h => h0 (by simpa using h)), (fun h => by obtain ⟨A, c, e, hc⟩ := h1 (by simpa using h); exact ⟨A, c, e, CpyV.step (bw_a (Below.refl _ wr) _) hc⟩), (fun h => h2 (by simpa using h)), (fun h => h3 (by simpa using h)), (fun h => by obtain ⟨A, c, e, hc⟩ := h4 (by simpa using h); exact ⟨A, c, e, CpyV.step (bw_a (Below.refl _ wr) _) hc⟩), fun _ => ⟨wr.heap.size, rfl, hB.size, fun _ => Blk.new wr _ _, fun h => by simp at h; have := h7 h; rw [hf] at this; cases this⟩, (fun h => by obtain ⟨g, e, hg, k1, k2⟩ := h6 (by simpa using h); exact ⟨g, e, hg, fun h => bk_step (bw_a (Below.refl _ wr) _) (k1 (by simpa using h)), fun h => by obtain ⟨A, c, hk, hc⟩ := k2 (by simpa using h); exact ⟨A, c, bk_step (bw_a (Below.refl _ wr) _) hk, CpyV.step (bw_a (Below.refl _ wr) _) hc⟩⟩), (fun _ hh => by obtain ⟨g, e, hg⟩ : ∃ g, x6 = .pointer (some ⟨g, 0, none⟩) ∧ g < wr.heap.size := (by obtain ⟨g, e, hg, k1, k2⟩ := h6 (by simpa using hh); cases hx : f 8 with | false => exact ⟨g, e, (k1 hx).lt⟩ | true => obtain ⟨A, c, hk, -⟩ := k2 hx; exact ⟨g, e, hk.lt⟩); subst e; intro e; injection e with e; injection e with e; injection e with e1; omega), (fun _ => by simp), (fun g1 => by have := h8 (by simpa using g1); simpa using this), (hB.trans ((bw_a (Below.refl _ wr) _).mono hB.size))⟩
        · -- 6
          obtain ⟨x0, x1, x2, x3, x4, x5, x6, rfl, h0, h1, h2, h3, h4, h5, h6, h9, h7, h8, hB⟩ := hI
          have H0 := hid h0; have H1 := hid h1; have H2 := hid h2; have H3 := hid h3; have H4 := hid h4; have H5 := hid h5; have H6 := hid h6; have H9 := hid h9; have H7 := hid h7; have H8 := hid h8; have HB := hid hB; clear h0 h1 h2 h3 h4 h5 h6 h9 h7 h8 hB
          simp only [Act.put, List.setIfInBounds_toArray, List.set_cons_succ, List.set_cons_zero]
          go_wp2_with fail
          have h0 := H0.out; have h1 := H1.out; have h2 := H2.out; have h3 := H3.out; have h4 := H4.out; have h5 := H5.out; have h6 := H6.out; have h9 := H9.out; have h7 := H7.out; have h8 := H8.out; have hB := HB.out
          exact ⟨x0, x1, x2, x3, x4, x5, _, (by simp only [Act.put, List.setIfInBounds_toArray, List.set_cons_succ, List.set_cons_zero]), (fun h => h0 (by simpa using h)), (fun h => by obtain ⟨A, c, e, hc⟩ := h1 (by simpa using h); exact ⟨A, c, e, CpyV.step (bw_a (Below.refl _ wr) _) hc⟩), (fun h => h2 (by simpa using h)), (fun h => h3 (by simpa using h)), (fun h => by obtain ⟨A, c, e, hc⟩ := h4 (by simpa using h); exact ⟨A, c, e, CpyV.step (bw_a (Below.refl _ wr) _) hc⟩), (fun h => by obtain ⟨g, e, hg, k1, k2⟩ := h5 (by simpa using h); exact ⟨g, e, hg, fun h => bk_step (bw_a (Below.refl _ wr) _) (k1 (by simpa using h)), fun h => by obtain ⟨A, c, hk, hc⟩ := k2 (by simpa using h); exact ⟨A, c, bk_step (bw_a (Below.refl _ wr) _) hk, CpyV.step (bw_a (Below.refl _ wr) _) hc⟩⟩), fun _ => ⟨wr.heap.size, rfl, hB.size, fun _ => Blk.new wr _ _, fun h => by simp at h; have := h8 h; rw [hf] at this; cases this⟩, (fun hh _ => by obtain ⟨g, e, hg⟩ : ∃ g, x5 = .pointer (some ⟨g, 0, none⟩) ∧ g < wr.heap.size := (by obtain ⟨g, e, hg, k1, k2⟩ := h5 (by simpa using hh); cases hx : f 7 with | false => exact ⟨g, e, (k1 hx).lt⟩ | true => obtain ⟨A, c, hk, -⟩ := k2 hx; exact ⟨g, e, hk.lt⟩); subst e; intro e; injection e with e; injection e with e; injection e with e1; omega), (fun g1 => by have := h7 (by simpa using g1); simpa using this), (fun _ => by simp), (hB.trans ((bw_a (Below.refl _ wr) _).mono hB.size))⟩
        · -- 7
          obtain ⟨x0, x1, x2, x3, x4, x5, x6, rfl, h0, h1, h2, h3, h4, h5, h6, h9, h7, h8, hB⟩ := hI
          simp [Region.binds] at hdep
          obtain ⟨A8, c8, rfl, hc8⟩ := h1 (by first | exact hdep | exact hdep.1 | exact hdep.2 | exact hdep.2.1 | exact hdep.2.2 | exact hdep.2.2.1 | exact hdep.2.2.2 | simp_all)
          have hfb : f 5 = true := (by first | exact hdep | exact hdep.1 | exact hdep.2 | exact hdep.2.1 | exact hdep.2.2 | exact hdep.2.2.1 | exact hdep.2.2.2 | simp_all)
          obtain ⟨g, rfl, hg, k1, -⟩ := h5 hfb
          have hkg := k1 hf
          have hst := fun y0 y1 y2 y3 y4 y5 y6 y7 y8 y9 => mstore hkg y0 y1 y2 y3 y4 y5 y6 y7 y8 y9
          have y0 := hkg.cell 0
          have y1 := hkg.cell 1
          have y2 := hkg.cell 2
          have y3 := hkg.cell 3
          have y4 := hkg.cell 4
          have y5 := hkg.cell 5
          have y6 := hkg.cell 6
          have y7 := hkg.cell 7
          have y8 := hkg.cell 8
          have y9 := hkg.cell 9
          simp only [List.getElem?_toArray, List.getElem?_cons_zero, List.getElem?_cons_succ] at y0 y1 y2 y3 y4 y5 y6 y7 y8 y9
          have z0 := hkg.frozen 0
          have z1 := hkg.frozen 1
          have z2 := hkg.frozen 2
          have z3 := hkg.frozen 3
          have z4 := hkg.frozen 4
          have z5 := hkg.frozen 5
          have z6 := hkg.frozen 6
          have z7 := hkg.frozen 7
          have z8 := hkg.frozen 8
          have z9 := hkg.frozen 9
          have HKG := hid hkg; have HST := hid hst; have HC8 := hid hc8; have HG := hid hg
          clear hkg hst hc8 hg k1
          have H0 := hid h0; have H1 := hid h1; have H2 := hid h2; have H3 := hid h3; have H4 := hid h4; have H5 := hid h5; have H6 := hid h6; have H9 := hid h9; have H7 := hid h7; have H8 := hid h8; have HB := hid hB; clear h0 h1 h2 h3 h4 h5 h6 h9 h7 h8 hB
          have hf2 : ¬ f 7 = true := by simp [hf]
          simp only [Act.put, List.setIfInBounds_toArray, List.set_cons_succ, List.set_cons_zero]
          go_wp2_with fail
          have h0 := H0.out; have h1 := H1.out; have h2 := H2.out; have h3 := H3.out; have h4 := H4.out; have h5 := H5.out; have h6 := H6.out; have h9 := H9.out; have h7 := H7.out; have h8 := H8.out; have hB := HB.out
          obtain ⟨hkn, hcn⟩ := HST.out _ _ _ _ _ _ _ _ _ _
          exact ⟨x0, .agg #[.int .u8 (a.k : Int), .int .u64 (a.n0 : Int), .int .u64 (a.n1 : Int), .int .u64 (a.n2 : Int), .int .u64 (a.n3 : Int), .int .u64 (a.n4 : Int), .int .u64 (a.n5 : Int), .string a.s0, .string a.s1, .slice A8 la c8], x2, x3, x4, .pointer (some ⟨g, 0, none⟩), x6, (by simp only [Act.put, List.setIfInBounds_toArray, List.set_cons_succ, List.set_cons_zero]), (fun h => h0 (by simpa using h)), (fun h => by obtain ⟨A, c, e, hc⟩ := h1 (by simpa using h); exact ⟨A, c, e, CpyV.chg HLE.out hc HKG.out hcn⟩), (fun h => h2 (by simpa using h)), (fun h => h3 (by simpa using h)), (fun h => by obtain ⟨A, c, e, hc⟩ := h4 (by simpa using h); exact ⟨A, c, e, CpyV.chg HLK.out hc HKG.out hcn⟩), (fun _ => ⟨g, rfl, HG.out, fun h => by simp at h, fun _ => ⟨A8, c8, hkn, CpyV.chg HLE.out HC8.out HKG.out hcn⟩⟩), (fun hh => by have hne := (h9 hfb (by simpa using hh)); obtain ⟨g2, rfl, hg2, k1, k2⟩ := h6 (by simpa using hh); have hgg : g2 ≠ g := (fun e => hne (by rw [e])); exact ⟨g2, rfl, hg2, fun h => hcn.blk (k1 (by simpa using h)) hgg, fun h => by obtain ⟨A, c, hk, hc⟩ := k2 (by simpa using h); exact ⟨A, c, hcn.blk hk hgg, CpyV.chg HLK.out hc HKG.out hcn⟩⟩), (fun g1 g2 => h9 (by simpa using g1) (by simpa using g2)), (fun g1 => by simp [hfb]), (fun g1 => by have := h8 (by simpa using g1); simpa using this), (hB.trans (hcn.below (B := _) (fun k hk => by rw [hk]; exact HG.out) hB.size))⟩
        · -- 8
          obtain ⟨x0, x1, x2, x3, x4, x5, x6, rfl, h0, h1, h2, h3, h4, h5, h6, h9, h7, h8, hB⟩ := hI
          simp [Region.binds] at hdep
          obtain ⟨A8, c8, rfl, hc8⟩ := h4 (by first | exact hdep | exact hdep.1 | exact hdep.2 | exact hdep.2.1 | exact hdep.2.2 | exact hdep.2.2.1 | exact hdep.2.2.2 | simp_all)
          have hfb : f 6 = true := (by first | exact hdep | exact hdep.1 | exact hdep.2 | exact hdep.2.1 | exact hdep.2.2 | exact hdep.2.2.1 | exact hdep.2.2.2 | simp_all)
          obtain ⟨g, rfl, hg, k1, -⟩ := h6 hfb
          have hkg := k1 hf
          have hst := fun y0 y1 y2 y3 y4 y5 y6 y7 y8 y9 => mstore hkg y0 y1 y2 y3 y4 y5 y6 y7 y8 y9
          have y0 := hkg.cell 0
          have y1 := hkg.cell 1
          have y2 := hkg.cell 2
          have y3 := hkg.cell 3
          have y4 := hkg.cell 4
          have y5 := hkg.cell 5
          have y6 := hkg.cell 6
          have y7 := hkg.cell 7
          have y8 := hkg.cell 8
          have y9 := hkg.cell 9
          simp only [List.getElem?_toArray, List.getElem?_cons_zero, List.getElem?_cons_succ] at y0 y1 y2 y3 y4 y5 y6 y7 y8 y9
          have z0 := hkg.frozen 0
          have z1 := hkg.frozen 1
          have z2 := hkg.frozen 2
          have z3 := hkg.frozen 3
          have z4 := hkg.frozen 4
          have z5 := hkg.frozen 5
          have z6 := hkg.frozen 6
          have z7 := hkg.frozen 7
          have z8 := hkg.frozen 8
          have z9 := hkg.frozen 9
          have HKG := hid hkg; have HST := hid hst; have HC8 := hid hc8; have HG := hid hg
          clear hkg hst hc8 hg k1
          have H0 := hid h0; have H1 := hid h1; have H2 := hid h2; have H3 := hid h3; have H4 := hid h4; have H5 := hid h5; have H6 := hid h6; have H9 := hid h9; have H7 := hid h7; have H8 := hid h8; have HB := hid hB; clear h0 h1 h2 h3 h4 h5 h6 h9 h7 h8 hB
          have hf2 : ¬ f 8 = true := by simp [hf]
          simp only [Act.put, List.setIfInBounds_toArray, List.set_cons_succ, List.set_cons_zero]
          go_wp2_with fail
          have h0 := H0.out; have h1 := H1.out; have h2 := H2.out; have h3 := H3.out; have h4 := H4.out; have h5 := H5.out; have h6 := H6.out; have h9 := H9.out; have h7 := H7.out; have h8 := H8.out; have hB := HB.out
          obtain ⟨hkn, hcn⟩ := HST.out _ _ _ _ _ _ _ _ _ _
          exact ⟨x0, x1, x2, x3, .agg #[.int .u8 (a.k : Int), .int .u64 (a1 : Int), .int .u64 (a2 : Int), .int .u64 (a3 : Int), .int .u64 (a4 : Int), .int .u64 (a5 : Int), .int .u64 (a6 : Int), .string t7, .string t8, .slice A8 lk c8], x5, .pointer (some ⟨g, 0, none⟩), (by simp only [Act.put, List.setIfInBounds_toArray, List.set_cons_succ, List.set_cons_zero]), (fun h => h0 (by simpa using h)), (fun h => by obtain ⟨A, c, e, hc⟩ := h1 (by simpa using h); exact ⟨A, c, e, CpyV.chg HLE.out hc HKG.out hcn⟩), (fun h => h2 (by simpa using h)), (fun h => h3 (by simpa using h)), (fun h => by obtain ⟨A, c, e, hc⟩ := h4 (by simpa using h); exact ⟨A, c, e, CpyV.chg HLK.out hc HKG.out hcn⟩), (fun hh => by have hne := (h9 (by simpa using hh) hfb); obtain ⟨g2, rfl, hg2, k1, k2⟩ := h5 (by simpa using hh); have hgg : g2 ≠ g := (fun e => hne (by rw [e])); exact ⟨g2, rfl, hg2, fun h => hcn.blk (k1 (by simpa using h)) hgg, fun h => by obtain ⟨A, c, hk, hc⟩ := k2 (by simpa using h); exact ⟨A, c, hcn.blk hk hgg, CpyV.chg HLE.out hc HKG.out hcn⟩⟩), (fun _ => ⟨g, rfl, HG.out, fun h => by simp at h, fun _ => ⟨A8, c8, hkn, CpyV.chg HLK.out HC8.out HKG.out hcn⟩⟩), (fun g1 g2 => h9 (by simpa using g1) (by simpa using g2)), (fun g1 => by have := h7 (by simpa using g1); simpa using this), (fun g1 => by simp [hfb]), (hB.trans (hcn.below (B := _) (fun k hk => by rw [hk]; exact HG.out) hB.size))⟩
      · intro f a' wr hall hI
        obtain ⟨x0, x1, x2, x3, x4, x5, x6, rfl, h0, h1, h2, h3, h4, h5, h6, h9, h7, h8, hB⟩ := hI
        obtain rfl := h0 (hall 0 (by simp))
        obtain ⟨A1, c1, rfl, -⟩ := h1 (hall 1 (by simp))
        obtain rfl := h2 (hall 2 (by simp))
        obtain rfl := h3 (hall 3 (by simp))
        obtain ⟨A4, c4, rfl, -⟩ := h4 (hall 4 (by simp))
        obtain ⟨g5, rfl, hg5, -, k5⟩ := h5 (hall 5 (by simp))
        obtain ⟨A5, c5, hk5, hc5⟩ := k5 (hall 7 (by simp))
        obtain ⟨g6, rfl, hg6, -, k6⟩ := h6 (hall 6 (by simp))
        obtain ⟨A6, c6, hk6, hc6⟩ := k6 (hall 8 (by simp))
        have HKA := hid (HK03.out.below hB hlt03)
        have HKB := hid (HK13.out.below hB hlt3)
        have HKC := hid hk5
        have HKD := hid hk6
        have HCC := hid hc5
        have HCD := hid hc6
        have hlC := hk5.lt
        have hlD := hk6.lt
        have HB4 := hid (HB3.out.trans (hB.mono hw3))
        have hs4 : s + 1 < wr.heap.size := by have := hB.size; omega
        clear h0 h1 h2 h3 h4 h5 h6 h7 h8 h9 k5 k6 hk5 hk6 hc5 hc6 hB hall HCPT HCLT HSMA HSMB
        clear f
        simp only [Act.put, List.setIfInBounds_toArray, List.set_cons_succ, List.set_cons_zero]
        go_wp2_with fail
        go_region_held3 (fun w' => w'.cell? ⟨s, 0, none⟩ = some (.int .u8 (a.k : Int)) ∧ w'.cell? ⟨s, 1, none⟩ = some (.int .u64 (a.n0 : Int)) ∧ w'.cell? ⟨s, 2, none⟩ = some (.int .u64 (a.n1 : Int)) ∧ w'.cell? ⟨s, 3, none⟩ = some (.int .u64 (a.n2 : Int)) ∧ w'.cell? ⟨s, 4, none⟩ = some (.int .u64 (a.n3 : Int)) ∧ w'.cell? ⟨s, 5, none⟩ = some (.int .u64 (a.n4 : Int)) ∧ w'.cell? ⟨s, 6, none⟩ = some (.int .u64 (a.n5 : Int)) ∧ w'.cell? ⟨s, 7, none⟩ = some (.string a.s0) ∧ w'.cell? ⟨s, 8, none⟩ = some (.string a.s1) ∧ w'.cell? ⟨s, 9, none⟩ = some (.slice a.A la a.c) ∧ w'.cell? ⟨s + 1, 0, none⟩ = some (.int .u8 (b.k : Int)) ∧ w'.cell? ⟨s + 1, 1, none⟩ = some (.int .u64 (b.n0 : Int)) ∧ w'.cell? ⟨s + 1, 2, none⟩ = some (.int .u64 (b.n1 : Int)) ∧ w'.cell? ⟨s + 1, 3, none⟩ = some (.int .u64 (b.n2 : Int)) ∧ w'.cell? ⟨s + 1, 4, none⟩ = some (.int .u64 (b.n3 : Int)) ∧ w'.cell? ⟨s + 1, 5, none⟩ = some (.int .u64 (b.n4 : Int)) ∧ w'.cell? ⟨s + 1, 6, none⟩ = some (.int .u64 (b.n5 : Int)) ∧ w'.cell? ⟨s + 1, 7, none⟩ = some (.string b.s0) ∧ w'.cell? ⟨s + 1, 8, none⟩ = some (.string b.s1) ∧ w'.cell? ⟨s + 1, 9, none⟩ = some (.slice b.A lb b.c) ∧ w'.cell? ⟨g5, 0, none⟩ = some (.int .u8 (a.k : Int)) ∧ w'.cell? ⟨g5, 1, none⟩ = some (.int .u64 (a.n0 : Int)) ∧ w'.cell? ⟨g5, 2, none⟩ = some (.int .u64 (a.n1 : Int)) ∧ w'.cell? ⟨g5, 3, none⟩ = some (.int .u64 (a.n2 : Int)) ∧ w'.cell? ⟨g5, 4, none⟩ = some (.int .u64 (a.n3 : Int)) ∧ w'.cell? ⟨g5, 5, none⟩ = some (.int .u64 (a.n4 : Int)) ∧ w'.cell? ⟨g5, 6, none⟩ = some (.int .u64 (a.n5 : Int)) ∧ w'.cell? ⟨g5, 7, none⟩ = some (.string a.s0) ∧ w'.cell? ⟨g5, 8, none⟩ = some (.string a.s1) ∧ w'.cell? ⟨g5, 9, none⟩ = some (.slice A5 la c5) ∧ w'.cell? ⟨g6, 0, none⟩ = some (.int .u8 (a.k : Int)) ∧ w'.cell? ⟨g6, 1, none⟩ = some (.int .u64 (a1 : Int)) ∧ w'.cell? ⟨g6, 2, none⟩ = some (.int .u64 (a2 : Int)) ∧ w'.cell? ⟨g6, 3, none⟩ = some (.int .u64 (a3 : Int)) ∧ w'.cell? ⟨g6, 4, none⟩ = some (.int .u64 (a4 : Int)) ∧ w'.cell? ⟨g6, 5, none⟩ = some (.int .u64 (a5 : Int)) ∧ w'.cell? ⟨g6, 6, none⟩ = some (.int .u64 (a6 : Int)) ∧ w'.cell? ⟨g6, 7, none⟩ = some (.string t7) ∧ w'.cell? ⟨g6, 8, none⟩ = some (.string t8) ∧ w'.cell? ⟨g6, 9, none⟩ = some (.slice A6 lk c6)) (first | exact cells40 HKA9.out HKB9.out HKC9.out HKD9.out | exact cells40 HKA8.out HKB8.out HKC8.out HKD8.out | exact cells40 HKA7.out HKB7.out HKC7.out HKD7.out | exact cells40 HKA6.out HKB6.out HKC6.out HKD6.out | exact cells40 HKA5.out HKB5.out HKC5.out HKD5.out | exact cells40 HKA.out HKB.out HKC.out HKD.out | go_keep) (first | (go_at_call 15; refine (HS4.out _ A6 c6 HBB8.out HCD8.out.sl).mono ?_; rintro e w9 ⟨rfl, hb9⟩; have HKA9 := hid (bk_step hb9 HKA8.out); have HKB9 := hid (bk_step hb9 HKB8.out); have HKC9 := hid (bk_step hb9 HKC8.out); have HKD9 := hid (bk_step hb9 HKD8.out); have HCC9 := hid (CpyV.step hb9 HCC8.out); have HCD9 := hid (CpyV.step hb9 HCD8.out); have HBB9 := hid (Below.trans HBB8.out (hb9.mono (by have := (HBB8.out).size; omega))))| (go_at_call 16; refine (HRC.out _).mono ?_; rintro e w8 ⟨rfl, hb8⟩; have HKA8 := hid (bk_step hb8 HKA7.out); have HKB8 := hid (bk_step hb8 HKB7.out); have HKC8 := hid (bk_step hb8 HKC7.out); have HKD8 := hid (bk_step hb8 HKD7.out); have HCC8 := hid (CpyV.step hb8 HCC7.out); have HCD8 := hid (CpyV.step hb8 HCD7.out); have HBB8 := hid (Below.trans HBB7.out (hb8.mono (by have := (HBB7.out).size; omega))))| (go_at_call 15; refine (HS3.out _ A5 c5 HBB6.out HCC6.out.sl).mono ?_; rintro e w7 ⟨rfl, hb7⟩; have HKA7 := hid (bk_step hb7 HKA6.out); have HKB7 := hid (bk_step hb7 HKB6.out); have HKC7 := hid (bk_step hb7 HKC6.out); have HKD7 := hid (bk_step hb7 HKD6.out); have HCC7 := hid (CpyV.step hb7 HCC6.out); have HCD7 := hid (CpyV.step hb7 HCD6.out); have HBB7 := hid (Below.trans HBB6.out (hb7.mono (by have := (HBB6.out).size; omega))))| (go_at_call 15; refine (HS2.out _ HBB5.out).mono ?_; rintro e w6 ⟨rfl, hb6⟩; have HKA6 := hid (bk_step hb6 HKA5.out); have HKB6 := hid (bk_step hb6 HKB5.out); have HKC6 := hid (bk_step hb6 HKC5.out); have HKD6 := hid (bk_step hb6 HKD5.out); have HCC6 := hid (CpyV.step hb6 HCC5.out); have HCD6 := hid (CpyV.step hb6 HCD5.out); have HBB6 := hid (Below.trans HBB5.out (hb6.mono (by have := (HBB5.out).size; omega))))| (go_at_call 14; refine (HS1.out _ (bw_d' HB4.out 1)).mono ?_; rintro e w5 ⟨rfl, hb5⟩; have HKA5 := hid (bk_step (w := wr.drewN 1) hb5 HKA.out); have HKB5 := hid (bk_step (w := wr.drewN 1) hb5 HKB.out); have HKC5 := hid (bk_step (w := wr.drewN 1) hb5 HKC.out); have HKD5 := hid (bk_step (w := wr.drewN 1) hb5 HKD.out); have HCC5 := hid (CpyV.step hb5 (CpyV.drewN HCC.out 1)); have HCD5 := hid (CpyV.step hb5 (CpyV.drewN HCD.out 1)); have HBB5 := hid (Below.trans (bw_d' HB4.out 1) (hb5.mono (by have := ((bw_d' HB4.out 1)).size; omega)))))
        have HBE := HBB9
        have HAE := HKA9
        have HCE := HKC9
        have HCS := HCC9
        clear HBB5 HBB6 HBB7 HBB8 HBB9 HKA5 HKA6 HKA7 HKA8 HKA9 HKB5 HKB6 HKB7 HKB8 HKB9 HKC5 HKC6 HKC7 HKC8 HKC9 HKD5 HKD6 HKD7 HKD8 HKD9 HCC5 HCC6 HCC7 HCC8 HCC9 HCD5 HCD6 HCD7 HCD8 HCD9 hb5 hb6 hb7 hb8 hb9 HKA HKB HKC HKD HB4 HB3 HB2 HB1
        by_cases hla : la = 0
        · subst hla
          have hq := HCE.out.cell 9
          simp only [List.getElem?_toArray, List.getElem?_cons_zero, List.getElem?_cons_succ] at hq
          go_wp2_with fail
          go_ret
          exact ⟨rfl, HBE.out⟩
        · have hl1 : 0 < la := by omega
          have hr := HAE.out.cell 9
          obtain ⟨t0, ht0⟩ : ∃ x, a.l[0]? = some x := ⟨_, List.getElem?_eq_getElem (by have := HLE.out; omega)⟩
          have htz := HSZ.out (by first | trivial | rfl) t0 (List.mem_of_getElem? ht0)
          have hm0 : (a.l.map sv)[0]? = some (.string t0) := by rw [List.getElem?_map, ht0]; rfl
          generalize a.A = aA at *
          obtain ⟨b0, off, rfl, hbw, hcl⟩ := HLA.out.rd 0 (.string t0) hm0
          obtain ⟨g, cur, rfl, hsg, hkg, hn1, hn2⟩ := HCS.out.own hl1
          obtain ⟨b2, off2, hA2, -, hgc⟩ := HCS.out.sl.rd 0 (.string t0) hm0
          injection hA2 with hA2
          injection hA2 with e1 e2
          subst e1
          subst e2
          have hcl2 := (HBE.out.cell (p := ⟨b0, off + 0, none⟩) (by rw [hws] at hbw; exact hbw)).trans hcl
          have hbg : b0 ≠ g := by omega
          have hfz := hkg.frozen 0
          have hlc : la ≤ a.c := by have := HLA.out.cap; rw [List.length_map, HLE.out] at this; exact this
          have hcn : a.c ≤ 9223372036854775807 := HLA.out.small
          have hq := HCE.out.cell 9
          simp only [List.getElem?_toArray, List.getElem?_cons_zero, List.getElem?_cons_succ, Nat.add_zero] at hq hr hcl2 hgc
          have hli : (0 : Int) < (la : Int) := by omega
          have hsz2 : ¬ (9223372036854775807 < t0.size + 1) := by omega
          have hch : Chg (fun k => k = g) w9 (w9.setCell ⟨g, 0, none⟩ (.string (t0 ++ ⟨#[120]⟩))) := (Chg.refl (fun k => k = g) w9).set_ (.inl rfl) 0 _
          have HEND := hid (HBE.out.trans (hch.below (B := s) (fun k hk => by omega) (by have := hkg.lt; omega)))
          have hgl := hkg.lt
          clear hch hkg hbw hcl hm0 ht0
          go_wp2_with fail
          go_ret
          exact ⟨by first | rfl | exact ret_bool (by simp), HEND.out⟩
end Go.Proofs.Ytehjibbjkadoiaa
