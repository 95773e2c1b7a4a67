/- The document's reader: fault, Varint. -/
import Derived.Test.YtapgjkbodfpdaaaProg
import Derived.Test.YtapgjkbodfpdaaaBase
import Derived.Test.YtapgjkbodfpdaaaInTag
import Derived.StillTailTactics
set_option linter.unusedVariables false
namespace Go.Proofs.Ytapgjkbodfpdaaa
open Go.RowKit
set_option maxRecDepth 100000 in
set_option maxHeartbeats 1000000 in
theorem rfault_any (e : Nat) (w : World) (q : Nat) (A : Option Addr) (c : Nat) (bs : List UInt8) (p : Nat) (h : Rin 70 w q A c bs p) :
    Calls Try.prog 104 #[.pointer (some ⟨q, 0, none⟩), .int .i64 (e : Int)] w fun r w' => r = .returned (.agg #[.int .i64 (e : Int), .int .i64 (flt e p : Nat)]) ∧ Below w.heap.size w w' := by
  have c1 : w.cell? ⟨q, 1, none⟩ = some (.int .i64 (p : Int)) := by simpa using h.blk.cell 1
  have hlt := h.blk.lt
  clear h
  by_cases he : e = 0
  · subst he
    simp only [flt, if_true]
    go_enter Try.func104, Try.ntmps104
    go_wp2
    refine bodyPost_ret (v := .agg #[.int .i64 0, .int .i64 0]) (by simp [results, Try.results104, go_sem]) rfl ⟨rfl, ?_⟩
    exact (Below.refl _ _).alloc (Nat.le_refl _) _
  · have heb : ((e : Int) == 0) = false := by simp; omega
    simp only [flt, he, if_false]
    clear he
    go_enter Try.func104, Try.ntmps104
    go_wp2
    refine bodyPost_ret (v := .agg #[.int .i64 (e : Int), .int .i64 (p : Int)]) (by simp [results, Try.results104, go_sem]) rfl ⟨rfl, ?_⟩
    exact (Below.refl _ _).alloc (Nat.le_refl _) _
/-- the document's Get of what is left, in a region that draws -/
theorem rget_rest {w : World} {q : Nat} {A : Option Addr} {c : Nat} {bs : List UInt8} {p : Nat} (h : Rin 70 w q A c bs p) (n : Nat) :
    Calls Try.prog 103 #[.slice (cutA A c p) (bs.length - p) (c - p)] (w.drewN n) fun e w' => e = .returned (.tuple #[.int .u64 (M.get (bs.drop p)).1, .int .i64 (M.get (bs.drop p)).2.1, .int .i64 (M.get (bs.drop p)).2.2]) ∧ w' = w.drewN n :=
  (rget_at (bs.drop p) (bs.length - p) (cutA A c p) (c - p) (w.drewN n) (by simp) (by have := h.cap; have := h.sl.small; omega) ((h.sl.cut p h.le).rd.drewN n)).mono fun _ _ ⟨a, b⟩ => ⟨a, b.symm⟩
set_option maxRecDepth 100000 in
set_option maxHeartbeats 1000000 in
theorem rvar_any (w : World) (q : Nat) (A : Option Addr) (c : Nat) (bs : List UInt8) (p : Nat) (h : Rin 70 w q A c bs p) :
    Calls Try.prog 78 #[.pointer (some ⟨q, 0, none⟩)] w fun e w' => e = .returned (.tuple #[.int .u64 ((M.get (bs.drop p)).1 : Nat), .agg #[.int .i64 ((M.get (bs.drop p)).2.2 : Nat), .int .i64 (flt (M.get (bs.drop p)).2.2 p : Nat)]]) ∧ Rin 70 w' q A c bs (p + (M.get (bs.drop p)).2.1) ∧ Only q w w' := by
  have hcap := h.cap
  have hsm := h.sl.small
  have hle := h.le
  have hlt := h.blk.lt
  have h0 := h.below ((Below.refl _ w).alloc (Nat.le_refl _) (.cells #[.int .i64 0, .int .i64 0] 51))
  have hc := rget_rest h0
  have hf := M.get_facts (bs.drop p)
  have hk : (M.get (bs.drop p)).2.1 ≤ bs.length - p := by
    by_cases he : (M.get (bs.drop p)).2.2 = 0
    · have := (hf.1 he).2.2.1; simpa using this
    · have := (hf.2 he).2.1; omega
  have c0 : w.cell? ⟨q, 0, none⟩ = some (.slice A bs.length c) := by simpa using h.blk.cell 0
  have c1 : w.cell? ⟨q, 1, none⟩ = some (.int .i64 (p : Int)) := by simpa using h.blk.cell 1
  have H0 := hid h0
  have HSL := hid h.sl
  clear hf h
  generalize M.get (bs.drop p) = g at *
  obtain ⟨v, k, e⟩ := g
  simp only at hk hc
  have HC := hid hc
  clear hc h0
  generalize hN : bs.length = N at *
  have hfa := fun W hb => rfault_any e W q A c bs p (H0.out.below hb)
  have HFA := hid hfa
  clear hfa
  have hq : Blk (w.alloc (.cells #[.int .i64 0, .int .i64 0] 51)) w.heap.size 51 #[.int .i64 0, .int .i64 0] := Blk.new w _ _
  have HQ := hid hq
  clear hq
  by_cases hcp : c = p
  case' pos =>
    obtain rfl : p = c := hcp.symm
    have hX : cutA A p p = A := by simp [cutA]
    rw [hX, Nat.sub_self, show N - p = 0 from by omega] at HC
  case' neg =>
    have hX : cutA A c p = Option.map (fun x => x.add p) A := by simp [cutA, hcp]
    rw [hX] at HC
  all_goals
    clear hX
    go_enter Try.func78, Try.ntmps78
    go_wp2_with fail
    go_quiet ((go_at_call 103; exact Calls.quiet_of_same (HC.out _)))
    go_wp2_with fail
    refine (HFA.out _ (below_drewN (Below.refl _ _) _)).mono ?_
    rintro e1 w2 ⟨rfl, hb2⟩
    have hbq : Below (w.alloc (.cells #[.int .i64 0, .int .i64 0] 51)).heap.size (w.alloc (.cells #[.int .i64 0, .int .i64 0] 51)) w2 := (below_drewN (Below.refl _ _) _).trans hb2
    have hr2 := H0.out.below hbq
    have hq2 := HQ.out.below hbq (by simp)
    clear hb2 c0 c1
    have c1 : w2.cell? ⟨q, 1, none⟩ = some (.int .i64 (p : Int)) := by simpa using hr2.blk.cell 1
    have r1 := hr2.blk.frozen 1
    have rl := hr2.blk.lt
    have d0 : w2.cell? ⟨w.heap.size, 0, none⟩ = some (.int .i64 0) := hq2.cell 0
    have d1 : w2.cell? ⟨w.heap.size, 1, none⟩ = some (.int .i64 0) := hq2.cell 1
    have f0 := hq2.frozen 0
    have f1 := hq2.frozen 1
    have dl := hq2.lt
    have hfn := fun g (hg : w.heap.size ≤ g) => far_new (w := w) (g := g) HSL.out hg
    have HFN := hid hfn
    have HB := hid hbq
    have HR2 := hid hr2
    have HQ2 := hid hq2
    clear hbq hr2 hq2 hfn
    go_wp2_with fail
    generalize hW : World.alloc _ _ = W
    have h1 : Only q w2 W := by rw [← hW]; exact ((Only.refl q w2).set_ 1 _).alloc _
    have ho : Only q w W := ((((Only.refl q w).alloc _).trans (.of_below HB.out))).trans h1
    have hr3 := HR2.out.move h1 (p' := p + k) (by
      rw [← hW]
      have hb := (HR2.out.blk.set_ 1 (.int .i64 ((p : Int) + (k : Int)))).alloc (.cells #[.int .i64 (e : Int), .int .i64 (flt e p : Nat)] 51)
      simpa using hb) (by omega)
    have e0 : W.cell? ⟨w2.heap.size, 0, none⟩ = some (.int .i64 (e : Int)) := by
      rw [← hW]
      have hb := (Blk.new (w2.setCell ⟨q, 1, none⟩ (.int .i64 ((p : Int) + (k : Int)))) 51 #[.int .i64 (e : Int), .int .i64 (flt e p : Nat)]).cell 0
      simpa using hb
    have e1 : W.cell? ⟨w2.heap.size, 1, none⟩ = some (.int .i64 (flt e p : Nat)) := by
      rw [← hW]
      have hb := (Blk.new (w2.setCell ⟨q, 1, none⟩ (.int .i64 ((p : Int) + (k : Int)))) 51 #[.int .i64 (e : Int), .int .i64 (flt e p : Nat)]).cell 1
      simpa using hb
    have hq3 := h1.blk HQ2.out (by omega)
    have d0' : W.cell? ⟨w.heap.size, 0, none⟩ = some (.int .i64 0) := hq3.cell 0
    have d1' : W.cell? ⟨w.heap.size, 1, none⟩ = some (.int .i64 0) := hq3.cell 1
    have f0' := hq3.frozen 0
    have f1' := hq3.frozen 1
    have dl' := hq3.lt
    have dl2 : w2.heap.size < W.heap.size := by rw [← hW]; simp
    have HO := hid ho
    have HR3 := hid hr3
    clear hW h1 ho hr3 hq3 c1 r1 d0 d1 f0 f1
    go_still_tail 3, (by kernel_rfl)
    change wpList _ _ _ _ _ W.drew
    go_wp2_with fail
    refine bodyPost_ret (v := .tuple #[.int .u64 (v : Nat), .agg #[.int .i64 (e : Int), .int .i64 (flt e p : Nat)]]) (by simp [results, Try.results78, go_sem, d0', d1']) rfl ⟨rfl, ?_, ?_⟩
    · have h1 := HR3.out.below (below_drewN (Below.refl W.heap.size W) 1)
      exact (h1.far_set (by omega) (HFN.out _ (by omega)) _ _).far_set (by omega) (HFN.out _ (by omega)) _ _
    · exact ((HO.out.drewN 1).new_ (by omega) _ _).new_ (by omega) _ _
end Go.Proofs.Ytapgjkbodfpdaaa
