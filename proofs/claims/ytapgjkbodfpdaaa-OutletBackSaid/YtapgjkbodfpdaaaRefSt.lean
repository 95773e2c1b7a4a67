/- A reader's method under way: the reader, and the fault that it answers in a block of its own. -/
import Derived.Test.YtapgjkbodfpdaaaProg
import Derived.Test.YtapgjkbodfpdaaaBase
import Derived.Test.YtapgjkbodfpdaaaRefIn
set_option linter.unusedVariables false
namespace Go.Proofs.Ytapgjkbodfpdaaa
open Go.RowKit
structure St (t : TypeId) (w W : World) (q : Nat) (A : Option Addr) (c : Nat) (bs : List UInt8) (p : Nat) : Prop where
  r : Rin t W q A c bs p
  f : Blk W w.heap.size 51 #[.int .i64 0, .int .i64 0]
  o : Only q w W
  lt : q < w.heap.size
  far : ∀ g, w.heap.size ≤ g → Far A bs.length g
section
variable {t : TypeId} {w W W' : World} {q : Nat} {A : Option Addr} {c : Nat} {bs : List UInt8} {p : Nat}
theorem St.start (h : Rin t w q A c bs p) : St t w (w.alloc (.cells #[.int .i64 0, .int .i64 0] 51)) q A c bs p :=
  ⟨h.below ((Below.refl _ w).alloc (Nat.le_refl _) _), Blk.new w _ _, (Only.refl q w).alloc _, h.blk.lt, fun g hg => far_new h.sl hg⟩
theorem St.below (h : St t w W q A c bs p) (hb : Below W.heap.size W W') : St t w W' q A c bs p :=
  ⟨h.r.below hb, h.f.below hb h.f.lt, h.o.trans (.of_below hb), h.lt, h.far⟩
theorem St.drewN (h : St t w W q A c bs p) (n : Nat) : St t w (W.drewN n) q A c bs p := h.below (below_drewN (Below.refl _ _) n)
theorem St.alloc (h : St t w W q A c bs p) (o : Obj) : St t w (W.alloc o) q A c bs p := h.below ((Below.refl _ _).alloc (Nat.le_refl _) o)
theorem St.only {p' : Nat} (h : St t w W q A c bs p) (ho : Only q W W') (hr : Rin t W' q A c bs p') : St t w W' q A c bs p' :=
  ⟨hr, ho.blk h.f (by have := h.lt; omega), h.o.trans ho, h.lt, h.far⟩
theorem St.move (h : St t w W q A c bs p) (p' : Nat) (hp : p' ≤ bs.length) : St t w (W.setCell ⟨q, 1, none⟩ (.int .i64 (p' : Int))) q A c bs p' := by
  have ho := (Only.refl q W).set_ 1 (.int .i64 (p' : Int))
  refine h.only ho (h.r.move ho ?_ hp)
  have hb := h.r.blk.set_ 1 (.int .i64 (p' : Int))
  simpa using hb
theorem St.c0 (h : St t w W q A c bs p) : W.cell? ⟨q, 0, none⟩ = some (.slice A bs.length c) := by simpa using h.r.blk.cell 0
theorem St.c1 (h : St t w W q A c bs p) : W.cell? ⟨q, 1, none⟩ = some (.int .i64 (p : Int)) := by simpa using h.r.blk.cell 1
theorem St.r1 (h : St t w W q A c bs p) : W.frozen? ⟨q, 1, none⟩ = false := h.r.blk.frozen 1
theorem St.ql (h : St t w W q A c bs p) : q < W.heap.size := h.r.blk.lt
theorem St.d0 (h : St t w W q A c bs p) : W.cell? ⟨w.heap.size, 0, none⟩ = some (.int .i64 0) := h.f.cell 0
theorem St.d1 (h : St t w W q A c bs p) : W.cell? ⟨w.heap.size, 1, none⟩ = some (.int .i64 0) := h.f.cell 1
theorem St.f0 (h : St t w W q A c bs p) : W.frozen? ⟨w.heap.size, 0, none⟩ = false := h.f.frozen 0
theorem St.f1 (h : St t w W q A c bs p) : W.frozen? ⟨w.heap.size, 1, none⟩ = false := h.f.frozen 1
theorem St.dl (h : St t w W q A c bs p) : w.heap.size < W.heap.size := h.f.lt
theorem St.fin (h : St t w W q A c bs p) (u v : Value) : Rin t ((W.setCell ⟨w.heap.size, 0, none⟩ u).setCell ⟨w.heap.size, 1, none⟩ v) q A c bs p ∧ Only q w ((W.setCell ⟨w.heap.size, 0, none⟩ u).setCell ⟨w.heap.size, 1, none⟩ v) := by
  have hl := h.lt
  refine ⟨(h.r.far_set (by omega) (h.far _ (Nat.le_refl _)) _ _).far_set (by omega) (h.far _ (Nat.le_refl _)) _ _, ?_⟩
  exact (h.o.new_ (Nat.le_refl _) _ _).new_ (Nat.le_refl _) _ _
theorem St.rfault (h : St 70 w W q A c bs p) (e : Nat) :
    Calls Try.prog 104 #[.pointer (some ⟨q, 0, none⟩), .int .i64 (e : Int)] W fun r w' => r = .returned (.agg #[.int .i64 (e : Int), .int .i64 (flt e p : Nat)]) ∧ Below W.heap.size W w' := rfault_any e W q A c bs p h.r
end
set_option maxRecDepth 100000 in
set_option maxHeartbeats 1000000 in
theorem rtag_any (w : World) (q : Nat) (A : Option Addr) (c : Nat) (bs : List UInt8) (p : Nat) (h : Rin 70 w q A c bs p) :
    Calls Try.prog 77 #[.pointer (some ⟨q, 0, none⟩)] w fun e w' => e = .returned (.tuple #[.int .i64 (if (rHead bs p).2.2.1 = 0 then (rHead bs p).1 else 0), .int .u8 (if (rHead bs p).2.2.1 = 0 then (rHead bs p).2.1 else 0), .agg #[.int .i64 ((rHead bs p).2.2.1 : Nat), .int .i64 (flt (rHead bs p).2.2.1 p : Nat)]]) ∧ Rin 70 w' q A c bs (plc (rHead bs p).2.2.1 p (rHead bs p).2.2.2) ∧ Only q w w' := by
  have hst := St.start h
  have hcap := h.cap
  have hsm := h.sl.small
  have hle := h.le
  have hlt := h.blk.lt
  have hc := rget_rest hst.r
  have hf := M.get_facts (bs.drop p)
  have hk : (M.get (bs.drop p)).2.1 ≤ bs.length - p := by
    by_cases he : (M.get (bs.drop p)).2.2 = 0
    · have := (hf.1 he).2.2.1; simpa using this
    · have := (hf.2 he).2.1; omega
  have hr : rHead bs p = if (M.get (bs.drop p)).2.2 = 0 then ((spl (M.get (bs.drop p)).1).1, (spl (M.get (bs.drop p)).1).2.1, (spl (M.get (bs.drop p)).1).2.2.toNat, p + (M.get (bs.drop p)).2.1) else (0, 0, (M.get (bs.drop p)).2.2, p) := rfl
  have c0 : w.cell? ⟨q, 0, none⟩ = some (.slice A bs.length c) := by simpa using h.blk.cell 0
  have c1 : w.cell? ⟨q, 1, none⟩ = some (.int .i64 (p : Int)) := by simpa using h.blk.cell 1
  clear h
  generalize M.get (bs.drop p) = g at *
  obtain ⟨v, k, e⟩ := g
  simp only at hk hc hf hr
  have HC := hid hc
  have HST := hid hst
  clear hc hst
  generalize hN : bs.length = N at *
  have HN := hid hN
  clear hN
  by_cases he : e = 0
  · subst he
    have hv := (hf.1 rfl).2.2.2
    rw [if_pos rfl] at hr
    have hsp := fun w => rsplit_any (v : Int) w (by omega) (by omega)
    have hse := spl_err (v : Int)
    rw [hr]
    clear hf hr
    generalize spl (v : Int) = s at *
    obtain ⟨s1, s2, s3⟩ := s
    simp only at hsp hse
    obtain ⟨e3, rfl⟩ : ∃ n : Nat, s3 = (n : Int) := ⟨s3.toNat, by omega⟩
    rw [show ((e3 : Nat) : Int).toNat = e3 from rfl]
    have HS := hid hsp
    clear hsp
    by_cases h3 : e3 = 0
    · subst h3
      simp only [plc, if_true]
      clear hse
      by_cases hcp : c = p
      case' pos =>
        obtain rfl : p = c := hcp.symm
        have hX : cutA A p p = A := by simp [cutA]
        rw [hX, Nat.sub_self, show N - p = 0 from by omega] at HC
      case' neg =>
        have hX : cutA A c p = Option.map (fun x => x.add p) A := by simp [cutA, hcp]
        rw [hX] at HC
      all_goals
        clear hX
        go_enter Try.func77, Try.ntmps77
        go_wp2_with fail
        go_quiet ((go_at_call 103; exact Calls.quiet_of_same (HC.out _)))
        go_wp2_with fail
        refine (HS.out _).mono ?_
        rintro e1 w1 ⟨rfl, rfl⟩
        have hs1 := HST.out.drewN nq
        go_wp2_with fail
        refine (hs1.rfault _).mono ?_
        rintro e1 w2 ⟨rfl, hb2⟩
        have hs2 := hs1.below hb2
        clear hb2 hs1 c0 c1
        have c1 := hs2.c1
        have r1 := hs2.r1
        have ql := hs2.ql
        have HS2 := hid hs2
        clear hs2
        go_wp2_with fail
        generalize hW : World.alloc _ _ = W
        have hs3 := (HS2.out.move (p + k) (by rw [HN.out]; omega)).alloc (.cells #[.int .i64 0, .int .i64 (flt 0 p : Nat)] 51)
        push_cast at hs3
        rw [hW] at hs3
        have hbk := Blk.new (w2.setCell ⟨q, 1, none⟩ (.int .i64 ((p : Int) + (k : Int)))) 51 #[.int .i64 0, .int .i64 (flt 0 p : Nat)]
        rw [hW] at hbk
        have e0 : W.cell? ⟨w2.heap.size, 0, none⟩ = some (.int .i64 0) := by simpa using hbk.cell 0
        have e1 : W.cell? ⟨w2.heap.size, 1, none⟩ = some (.int .i64 (flt 0 p : Nat)) := by simpa using hbk.cell 1
        have el : w2.heap.size < W.heap.size := by simpa using hbk.lt
        have d0 := hs3.d0
        have d1 := hs3.d1
        have f0 := hs3.f0
        have f1 := hs3.f1
        have dl := hs3.dl
        have HS3 := hid (hs3.drewN 1)
        clear hW hs3 hbk c1 r1
        go_still_tail 5, (by kernel_rfl)
        change wpList _ _ _ _ _ W.drew
        go_wp2_with fail
        exact bodyPost_ret (v := .tuple #[.int .i64 s1, .int .u8 s2, .agg #[.int .i64 0, .int .i64 (flt 0 p : Nat)]]) (by simp [results, Try.results77, go_sem, d0, d1]) rfl ⟨by simp [flt], HS3.out.fin _ _⟩
    · have heb : ((e3 : Int) == 0) = false := by simp; omega
      obtain ⟨rfl, rfl⟩ := hse.2.2 (by omega)
      simp only [plc, h3, if_false]
      clear h3 hse
      by_cases hcp : c = p
      case' pos =>
        obtain rfl : p = c := hcp.symm
        have hX : cutA A p p = A := by simp [cutA]
        rw [hX, Nat.sub_self, show N - p = 0 from by omega] at HC
      case' neg =>
        have hX : cutA A c p = Option.map (fun x => x.add p) A := by simp [cutA, hcp]
        rw [hX] at HC
      all_goals
        clear hX
        go_enter Try.func77, Try.ntmps77
        go_wp2_with fail
        go_quiet ((go_at_call 103; exact Calls.quiet_of_same (HC.out _)))
        go_wp2_with fail
        refine (HS.out _).mono ?_
        rintro e1 w1 ⟨rfl, rfl⟩
        have hs1 := HST.out.drewN nq
        go_wp2_with fail
        refine (hs1.rfault _).mono ?_
        rintro e1 w2 ⟨rfl, hb2⟩
        have hs2 := hs1.below hb2
        clear hb2 hs1 c0 c1
        have c1 := hs2.c1
        have r1 := hs2.r1
        have ql := hs2.ql
        have HS2 := hid hs2
        clear hs2
        go_wp2_with fail
        generalize hW : World.alloc _ _ = W
        have hs3 := HS2.out.alloc (.cells #[.int .i64 (e3 : Int), .int .i64 (flt e3 p : Nat)] 51)
        rw [hW] at hs3
        have hbk := Blk.new w2 51 #[.int .i64 (e3 : Int), .int .i64 (flt e3 p : Nat)]
        rw [hW] at hbk
        have e0 : W.cell? ⟨w2.heap.size, 0, none⟩ = some (.int .i64 (e3 : Int)) := hbk.cell 0
        have e1 : W.cell? ⟨w2.heap.size, 1, none⟩ = some (.int .i64 (flt e3 p : Nat)) := hbk.cell 1
        have el : w2.heap.size < W.heap.size := hbk.lt
        have d0 := hs3.d0
        have d1 := hs3.d1
        have f0 := hs3.f0
        have f1 := hs3.f1
        have dl := hs3.dl
        have HS3 := hid (hs3.drewN 1)
        clear hW hs3 hbk c1 r1
        go_still_tail 5, (by kernel_rfl)
        change wpList _ _ _ _ _ W.drew
        go_wp2_with fail
        exact bodyPost_ret (v := .tuple #[.int .i64 0, .int .u8 0, .agg #[.int .i64 (e3 : Int), .int .i64 (flt e3 p : Nat)]]) (by simp [results, Try.results77, go_sem, d0, d1]) rfl ⟨rfl, HS3.out.fin _ _⟩
  · have hz := (hf.2 he).2.1
    have heb : ((e : Int) != 0) = true := by simp; omega
    rw [if_neg he] at hr
    rw [hr]
    simp only [plc, he, if_false]
    clear hr hf he
    by_cases hcp : c = p
    case' pos =>
      obtain rfl : p = c := hcp.symm
      have hX : cutA A p p = A := by simp [cutA]
      rw [hX, Nat.sub_self, show N - p = 0 from by omega] at HC
    case' neg =>
      have hX : cutA A c p = Option.map (fun x => x.add p) A := by simp [cutA, hcp]
      rw [hX] at HC
    all_goals
      clear hX
      go_enter Try.func77, Try.ntmps77
      go_wp2_with fail
      go_quiet ((go_at_call 103; exact Calls.quiet_of_same (HC.out _)))
      go_wp2_with fail
      have hs1 := HST.out.drewN nq
      refine (hs1.rfault _).mono ?_
      rintro e1 w2 ⟨rfl, hb2⟩
      have hs2 := hs1.below hb2
      clear hb2 hs1 c0 c1
      have d0 := hs2.d0
      have d1 := hs2.d1
      have f0 := hs2.f0
      have f1 := hs2.f1
      have dl := hs2.dl
      have HS2 := hid hs2
      clear hs2
      go_wp2_with fail
      exact bodyPost_ret (v := .tuple #[.int .i64 0, .int .u8 0, .agg #[.int .i64 (e : Int), .int .i64 (flt e p : Nat)]]) (by simp [results, Try.results77, go_sem, d0, d1]) rfl ⟨rfl, HS2.out.fin _ _⟩
end Go.Proofs.Ytapgjkbodfpdaaa
