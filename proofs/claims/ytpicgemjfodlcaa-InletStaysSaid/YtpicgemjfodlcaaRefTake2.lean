/- The document's reader: Take. -/
import Derived.Test.YtpicgemjfodlcaaProg
import Derived.Test.YtpicgemjfodlcaaBase
import Derived.Test.YtpicgemjfodlcaaRefTake
import Derived.Deep.RegionHeld3
import Derived.IntWalk
set_option linter.unusedVariables false
namespace Go.Proofs.Ytpicgemjfodlcaa
open Go.RowKit
theorem rjoin_at (xs : List UInt8) (n : Nat) (A : Option Addr) (c : Nat) (w : World) (hn : xs.length = n) (hl : n ≤ 100000) (hs : Sl w A c (xs.map bv)) (B : Nat) (hB : B ≤ w.heap.size) :
    Calls Try.prog 39 #[.slice A n c, .slice none 0 0] w fun e w' => ∃ A' c', e = .returned (.slice A' n c') ∧ Sl w' A' c' (xs.map bv) ∧ (∀ g, g < B → Far A' n g) ∧ Below w.heap.size w w' := by
  refine (rjoin_any xs n A c w hn hl hs).mono ?_
  rintro e w' ⟨v, rfl, ho, hb⟩
  obtain ⟨A', c', rfl, hl', hs'⟩ := Sl.of_own ho
  refine ⟨A', c', rfl, hs', fun g hg hpos b off he => ?_, hb⟩
  have hbk := (ho.lt b (by subst he; rfl)).1
  omega
set_option maxRecDepth 100000 in
set_option maxHeartbeats 1000000 in
theorem rtake_any (n : Int) (w : World) (q : Nat) (A : Option Addr) (c : Nat) (bs : List UInt8) (p : Nat) (hn1 : -9223372036854775808 ≤ n) (hn2 : n ≤ 9223372036854775807) (hbl : bs.length ≤ 100000) (h : Rin 29 w q A c bs p) :
    Calls Try.prog 22 #[.pointer (some ⟨q, 0, none⟩), .int .i64 n] w fun e w' => ∃ A' c', e = .returned (.tuple #[.slice A' (rTake n bs p).1.length c', .agg #[.int .i64 ((rTake n bs p).2.1 : Nat), .int .i64 (flt (rTake n bs p).2.1 p : Nat)]]) ∧ Sl w' A' c' ((rTake n bs p).1.map bv) ∧ (∀ g, g < w.heap.size → Far A' (rTake n bs p).1.length g) ∧ Rin 29 w' q A c bs (rTake n bs p).2.2 ∧ Only q w w' := by
  have hst := St.start h
  have hcap := h.cap
  have hsm := h.sl.small
  have hle := h.le
  have hlt := h.blk.lt
  have c0 : w.cell? ⟨q, 0, none⟩ = some (.slice A bs.length c) := by simpa using h.blk.cell 0
  have c1 : w.cell? ⟨q, 1, none⟩ = some (.int .i64 (p : Int)) := by simpa using h.blk.cell 1
  have HST := hid hst
  clear h hst
  by_cases a1 : n < 0
  · rw [rTake_neg a1]
    go_enter Try.func22, Try.ntmps22
    go_wp2_with fail
    refine (HST.out.rfault 1).mono ?_
    rintro e1 w2 ⟨rfl, hb2⟩
    have hs2 := HST.out.below hb2
    clear hb2 c0 c1
    have d0 := hs2.d0
    have d1 := hs2.d1
    have f0 := hs2.f0
    have f1 := hs2.f1
    have dl := hs2.dl
    have HS2 := hid hs2
    clear hs2
    go_wp2_with fail
    exact bodyPost_ret (v := .tuple #[.slice none 0 0, .agg #[.int .i64 1, .int .i64 (flt 1 p : Nat)]]) (by simp [results, Try.results22, go_sem, d0, d1]) rfl ⟨none, 0, rfl, Sl.nil_ _, (fun g _ hp => by simp at hp), HS2.out.fin _ _⟩
  by_cases a2 : ((bs.length - p : Nat) : Int) < n
  · rw [rTake_short a1 a2]
    generalize hN : bs.length = N at *
    have HN := hid hN
    clear hN
    have hi : (N : Int) - (p : Int) < n := by omega
    clear a2
    go_enter Try.func22, Try.ntmps22
    go_wp2_with fail
    go_quiet (fail)
    go_wp2_with fail
    have hs1 := HST.out.drewN nq
    refine (hs1.rfault 4).mono ?_
    rintro e1 w2 ⟨rfl, hb2⟩
    have hs2 := hs1.below hb2
    clear hb2 hs1 c0 c1
    have d0 := hs2.d0
    have d1 := hs2.d1
    have f0 := hs2.f0
    have f1 := hs2.f1
    have dl := hs2.dl
    have HS2 := hid hs2
    clear hs2
    go_wp2_with fail
    exact bodyPost_ret (v := .tuple #[.slice none 0 0, .agg #[.int .i64 4, .int .i64 (flt 4 p : Nat)]]) (by simp [results, Try.results22, go_sem, d0, d1]) rfl ⟨none, 0, rfl, Sl.nil_ _, (fun g _ hp => by simp at hp), HS2.out.fin _ _⟩
  · rw [rTake_ok a1 a2]
    obtain ⟨m, rfl⟩ : ∃ m : Nat, n = (m : Int) := ⟨n.toNat, by omega⟩
    have hm : p + m ≤ bs.length := by omega
    rw [show (m : Int).toNat = m from rfl]
    have hlen : ((bs.drop p).take m).length = m := by simp; omega
    rw [hlen]
    have hpl : p ≤ bs.length := by omega
    have hjoin : ∀ (W : World) (k : Nat), St 29 w W q A c bs p → Calls Try.prog 39 #[.slice (cutA A c p) m (c - p), .slice none 0 0] (W.drewN k) fun e w' => ∃ A' c', e = .returned (.slice A' m c') ∧ Sl w' A' c' (((bs.drop p).take m).map bv) ∧ (∀ g, g < W.heap.size → Far A' m g) ∧ Below (W.drewN k).heap.size (W.drewN k) w' := by
      intro W k hst
      have hs := (hst.r.sl.cut p hpl).drewN k
      have hs2 : Sl (W.drewN k) (cutA A c p) (c - p) (((bs.drop p).take m).map bv) := ⟨by simp; omega, hs.small, hs.nil0, by have := hs.rd.take m; rwa [← List.map_take] at this⟩
      exact rjoin_at _ m _ _ _ hlen (by omega) hs2 W.heap.size (Nat.le_refl _)
    have HLEN := hid hlen
    have HJ := hid hjoin
    clear hlen hjoin hpl
    generalize hN : bs.length = N at *
    have HN := hid hN
    clear hN
    have hi : ¬ (N : Int) - (p : Int) < (m : Int) := by omega
    have hpm : (p : Int) + (m : Int) ≤ (c : Int) := by omega
    have hpm2 : (p : Int) ≤ (p : Int) + (m : Int) := by omega
    have hpm3 : p + m ≤ c := by omega
    clear a2
    by_cases hcp : c = p
    case' pos =>
      obtain rfl : p = c := hcp.symm
      obtain rfl : m = 0 := by omega
      have hX : cutA A p p = A := by simp [cutA]
      rw [hX, Nat.sub_self] at HJ
      have hw1 : IntKind.i64.wrap (p : Int) = (p : Int) := IntWalk.i64_in _ (by omega)
    case' neg =>
      have hX : cutA A c p = Option.map (fun x => x.add p) A := by simp [cutA, hcp]
      rw [hX] at HJ
      have hw1 : IntKind.i64.wrap ((p : Int) + (m : Int)) = (p : Int) + (m : Int) := IntWalk.i64_in _ (by omega)
      have hw2 : ((p : Int) + (m : Int)).toNat = p + m := by omega
      have hw3 : (0 : Int) ≤ (p : Int) + (m : Int) := by omega
    all_goals
      clear hX
      go_enter Try.func22, Try.ntmps22
      go_wp2_with fail
      go_quiet (fail)
      go_wp2_with fail
      generalize hW : World.drewN _ nq = W1
      have hs1 := HST.out.drewN nq
      rw [hW] at hs1
      have hp0 : (0 : Int) ≤ (p : Int) := by omega
      clear hW c0 c1
      have c0 := hs1.c0
      rw [HN.out] at c0
      have c1 := hs1.c1
      have ql := hs1.ql
      have HS1 := hid hs1
      clear hs1
      first
      | go_region_held3 (fun W => W.cell? ⟨q, 0, none⟩ = some (.slice A N c) ∧ W.cell? ⟨q, 1, none⟩ = some (.int .i64 (p : Int))) (first | go_keep | exact ⟨(hbj.cell (p := ⟨q, 0, none⟩) ql).trans c0, (hbj.cell (p := ⟨q, 1, none⟩) ql).trans c1⟩) (first | (go_at_call 39; refine (HJ.out W1 1 HS1.out).mono ?_; rintro e1 w2 ⟨A2, c2, rfl, hs2, hf2, hbj⟩))
      | go_region_held3 (fun W => W.cell? ⟨q, 0, none⟩ = some (.slice A N p) ∧ W.cell? ⟨q, 1, none⟩ = some (.int .i64 (p : Int))) (first | go_keep | exact ⟨(hbj.cell (p := ⟨q, 0, none⟩) ql).trans c0, (hbj.cell (p := ⟨q, 1, none⟩) ql).trans c1⟩) (first | (go_at_call 39; refine (HJ.out W1 1 HS1.out).mono ?_; rintro e1 w2 ⟨A2, c2, rfl, hs2, hf2, hbj⟩))
      have hs3 := (HS1.out.drewN 1).below hbj
      have hfq := hf2 q HS1.out.ql
      have hff := hf2 w.heap.size HS1.out.dl
      have hfa := fun g (hg : g < w.heap.size) => hf2 g (Nat.lt_trans hg HS1.out.dl)
      have HFA := hid hfa
      clear hfa
      clear c0 c1 ql hbj hf2
      have c1 := hs3.c1
      have r1 := hs3.r1
      have ql := hs3.ql
      have d0 := hs3.d0
      have d1 := hs3.d1
      have f0 := hs3.f0
      have f1 := hs3.f1
      have dl := hs3.dl
      have HS3 := hid hs3
      have HSL := hid hs2
      have HFQ := hid hfq
      have HFF := hid hff
      clear hs3 hs2 hfq hff
      go_wp2_with fail
    · have hs4 := HS3.out.move (p + m) (by rw [HN.out]; exact hm)
      push_cast at hs4
      refine bodyPost_ret (v := .tuple #[.slice A2 m c2, .agg #[.int .i64 0, .int .i64 0]]) (by simp [results, Try.results22, go_sem, d0, d1]) rfl ⟨A2, c2, by simp [flt], ?_, HFA.out, hs4.fin _ _⟩
      have s1 := ((Only.refl q w2).set_ 1 (.int .i64 ((p : Int) + (m : Int)))).sl HSL.out HFQ.out (by rw [List.length_map]; exact HLEN.out)
      have s2 := ((Only.refl w.heap.size _).set_ 0 (.int .i64 0)).sl s1 HFF.out (by rw [List.length_map]; exact HLEN.out)
      exact ((Only.refl w.heap.size _).set_ 1 (.int .i64 0)).sl s2 HFF.out (by rw [List.length_map]; exact HLEN.out)
    · have hs4 := HS3.out.move (p + 0) (by rw [HN.out]; exact hm)
      push_cast at hs4
      refine bodyPost_ret (v := .tuple #[.slice A2 0 c2, .agg #[.int .i64 0, .int .i64 0]]) (by simp [results, Try.results22, go_sem, d0, d1]) rfl ⟨A2, c2, by simp [flt], ?_, HFA.out, by simpa using hs4.fin (.int .i64 0) (.int .i64 0)⟩
      have s1 := ((Only.refl q w2).set_ 1 (.int .i64 (p : Int))).sl HSL.out HFQ.out (by rw [List.length_map]; exact HLEN.out)
      have s2 := ((Only.refl w.heap.size _).set_ 0 (.int .i64 0)).sl s1 HFF.out (by rw [List.length_map]; exact HLEN.out)
      exact ((Only.refl w.heap.size _).set_ 1 (.int .i64 0)).sl s2 HFF.out (by rw [List.length_map]; exact HLEN.out)
end Go.Proofs.Ytpicgemjfodlcaa
