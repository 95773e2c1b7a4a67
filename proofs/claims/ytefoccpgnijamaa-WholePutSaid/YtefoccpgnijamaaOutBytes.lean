/- A writer's Bytes; and what a nil writer answers. -/
import Derived.Test.YtefoccpgnijamaaOutAll
set_option linter.unusedVariables false
namespace Go.Proofs.Ytefoccpgnijamaa
open Go.RowKit
theorem allW_err {gs : List Wf} {bs b : List UInt8} {e : Nat} (h : allR gs bs = (b, e)) (he : e ≠ 0) : allW gs bs = (bs, e) := by unfold allW; rw [h, if_neg he]
theorem allW_ok {gs : List Wf} {bs b : List UInt8} (h : allR gs bs = (b, 0)) : allW gs bs = (b, 0) := by unfold allW; rw [h, if_pos rfl]
theorem allW_bytes (most : Nat) (bs ps xs : List UInt8) : allW [fun b => wput most b ps, fun b => wput most b xs] bs = wput most bs (ps ++ xs) := by
  by_cases h1 : most < bs.length + ps.length
  · have e1 : wput most bs ps = (bs, 14) := if_pos h1
    have e2 : wput most bs (ps ++ xs) = (bs, 14) := if_pos (by rw [List.length_append]; omega)
    rw [e2]
    exact allW_err (b := bs) (by simp [allR, e1]) (by omega)
  · have e1 : wput most bs ps = (bs ++ ps, 0) := if_neg h1
    by_cases h2 : most < (bs ++ ps).length + xs.length
    · have e2 : wput most (bs ++ ps) xs = (bs ++ ps, 14) := if_pos h2
      have e3 : wput most bs (ps ++ xs) = (bs, 14) := if_pos (by rw [List.length_append] at *; omega)
      rw [e3]
      exact allW_err (b := bs ++ ps) (by simp only [allR]; simp [e1, e2]) (by omega)
    · have e2 : wput most (bs ++ ps) xs = (bs ++ ps ++ xs, 0) := if_neg h2
      have e3 : wput most bs (ps ++ xs) = (bs ++ (ps ++ xs), 0) := if_neg (by rw [List.length_append] at *; omega)
      rw [e3, ← List.append_assoc]
      exact allW_ok (by simp only [allR]; simp [e1, e2])
section
variable (W : World) (B q : Nat) (v : Value) (bs : List UInt8) (most : Nat) (p n : Nat) (A : Option Addr) (c : Nat)
set_option maxRecDepth 100000 in
set_option maxHeartbeats 1000000 in
theorem obytes1_any (hc : W.cell? ⟨p, 0, none⟩ = some (.slice A n c)) (hn : n ≤ 1000000) (h : Wr W B q v bs most) :
    Calls Try.prog 48 #[.pointer (some ⟨q, 0, none⟩), .pointer (some ⟨p, 0, none⟩)] W fun e w' => ∃ v', e = .returned (.int .i64 ((wput most bs (putN n)).2 : Nat)) ∧ Wr w' B q v' (wput most bs (putN n)).1 most ∧ Stp q v v' bs.length W w' := by
  have hv := ovarint_any W B q v bs most n (by omega) h
  have hw9 : IntKind.u64.wrap (n : Int) = (n : Int) := IntWalk.u64_in _ (by omega)
  generalize wput most bs (putN n) = r at *
  have HV := hid hv
  clear hv h
  go_enter Try.func48, Try.ntmps48
  go_wp2_with fail
  refine HV.out.mono ?_
  rintro e w2 ⟨v', rfl, hw, hst⟩
  go_wp2_with fail
  go_ret
  exact ⟨v', rfl, hw, hst⟩
set_option maxRecDepth 100000 in
set_option maxHeartbeats 1000000 in
theorem obytes2_any (xs : List UInt8) (hc : W.cell? ⟨p, 0, none⟩ = some (.slice A n c)) (hn : xs.length = n) (hs : Sl W A c (xs.map bv)) (h : Wr W B q v bs most) :
    Calls Try.prog 49 #[.pointer (some ⟨q, 0, none⟩), .pointer (some ⟨p, 0, none⟩)] W fun e w' => ∃ v', e = .returned (.int .i64 ((wput most bs xs).2 : Nat)) ∧ Wr w' B q v' (wput most bs xs).1 most ∧ Stp q v v' bs.length W w' := by
  have hv := raw_any xs n A c W B q v bs most hn hs h
  generalize wput most bs xs = r at *
  have HV := hid hv
  clear hv h hn hs
  go_enter Try.func49, Try.ntmps49
  go_wp2_with fail
  refine HV.out.mono ?_
  rintro e w2 ⟨v', rfl, hw, hst⟩
  go_wp2_with fail
  go_ret
  exact ⟨v', rfl, hw, hst⟩
end
set_option maxRecDepth 100000 in
set_option maxHeartbeats 1000000 in
theorem obytes_any (xs : List UInt8) (n : Nat) (A : Option Addr) (c : Nat) (w : World) (B q : Nat) (v : Value) (bs : List UInt8) (most : Nat) (hn : xs.length = n) (hl : n ≤ 1000000) (hs : Sl w A c (xs.map bv)) (hf : FarS A n (Oset q v)) (h : Wr w B q v bs most) :
    Calls Try.prog 25 #[.pointer (some ⟨q, 0, none⟩), .slice A n c] w fun e w' => ∃ v', e = .returned (.int .i64 ((wput most bs (putN n ++ xs)).2 : Nat)) ∧ Wr w' B q v' (wput most bs (putN n ++ xs)).1 most ∧ Stp q v v' bs.length w w' := by
  have hmf := func_run (P := Try.prog)
  have HN := hid hn
  have HS := hid hs
  have HH := hid h
  have HF := hid hf
  clear hn hs h hf
  go_enter Try.func25, Try.ntmps25
  go_wp2_with fail
  have hBw : Below w.heap.size w ((w.alloc (.cells #[.slice A n c] 32)).alloc (.cells #[.func (.func 48) #[] #[.pointer (some ⟨w.heap.size, 0, none⟩)], .func (.func 49) #[] #[.pointer (some ⟨w.heap.size, 0, none⟩)]] 45)) := bw_a (bw_a (Below.refl _ w) _) _
  have hrd := Rd.new (w.alloc (.cells #[.slice A n c] 32)) 45 #[.func (.func 48) #[] #[.pointer (some ⟨w.heap.size, 0, none⟩)], .func (.func 49) #[] #[.pointer (some ⟨w.heap.size, 0, none⟩)]]
  rw [World.size_alloc] at hrd
  have hbx : Blk ((w.alloc (.cells #[.slice A n c] 32)).alloc (.cells #[.func (.func 48) #[] #[.pointer (some ⟨w.heap.size, 0, none⟩)], .func (.func 49) #[] #[.pointer (some ⟨w.heap.size, 0, none⟩)]] 45)) w.heap.size 32 #[.slice A n c] := (Blk.new w _ _).alloc _
  generalize World.alloc _ _ = w2 at *
  have hset := HH.out.sets
  have hno : ∀ k, w.heap.size ≤ k → ¬ Oset q v k := fun k hk ho => by have := (hset k ho).2; omega
  have hgo := oall_any [fun b => wput most b (putN n), fun b => wput most b xs] [.func (.func 48) #[] #[.pointer (some ⟨w.heap.size, 0, none⟩)], .func (.func 49) #[] #[.pointer (some ⟨w.heap.size, 0, none⟩)]] 2 (some ⟨w.heap.size + 1, 0, none⟩) 2 w2 B q v bs most rfl rfl
    ⟨by simp, by omega, (fun h => by cases h), hrd⟩ (fun b o he => hno b (by injection he with he; injection he with he; omega)) (by
      intro j h1 h2
      rcases j with _ | _ | j
      · refine .inr ⟨_, _, rfl, fun args W => by kernel_rfl, fun W v1 bs1 hw hst hle => ?_⟩
        refine (obytes1_any W B q v1 bs1 most w.heap.size n A c ((hst.chg.blk hbx (hno _ (Nat.le_refl _))).cell 0) hl hw).mono ?_
        rintro e w' ⟨v2, he, hw2, hst2⟩
        exact ⟨v2, he, hw2, hst2, wput_len _ _ _⟩
      · refine .inr ⟨_, _, rfl, fun args W => by kernel_rfl, fun W v1 bs1 hw hst hle => ?_⟩
        refine (obytes2_any W B q v1 bs1 most w.heap.size n A c xs ((hst.chg.blk hbx (hno _ (Nat.le_refl _))).cell 0) HN.out (hst.chg.sl (HS.out.below hBw) HF.out (by rw [List.length_map]; exact HN.out)) hw).mono ?_
        rintro e w' ⟨v2, he, hw2, hst2⟩
        exact ⟨v2, he, hw2, hst2, wput_len _ _ _⟩
      · simp at h1; omega) (HH.out.new hBw)
  rw [allW_bytes] at hgo
  have HGO := hid hgo
  clear hgo hno hset hbx hrd
  refine HGO.out.mono ?_
  rintro e w3 ⟨v', rfl, hw3, hst3, hle3⟩
  go_wp2_with fail
  go_ret
  exact ⟨v', rfl, hw3, (Stp.of_new hBw).trans hst3 (Nat.le_refl _)⟩
theorem raw_nil (A : Option Addr) (n c : Nat) (w : World) : Calls Try.prog 44 #[.pointer none, .slice A n c] w fun e w' => e = .returned (.int .i64 14) ∧ w = w' := by
  go_enter Try.func44, Try.ntmps44
  go_wp2_with fail
  go_ret
  exact ⟨rfl, rfl⟩
theorem oleft_nil (w : World) : Calls Try.prog 58 #[.pointer none] w fun e w' => e = .returned (.int .i64 0) ∧ w = w' := by
  go_enter Try.func58, Try.ntmps58
  go_wp2_with fail
  go_ret
  exact ⟨rfl, rfl⟩
theorem oout_nil (w : World) : Calls Try.prog 28 #[.pointer none] w fun e w' => e = .returned (.slice none 0 0) ∧ w = w' := by
  go_enter Try.func28, Try.ntmps28
  go_wp2_with fail
  go_ret
  exact ⟨rfl, rfl⟩
set_option maxRecDepth 100000 in
theorem oall_nil (A : Option Addr) (n c : Nat) (w : World) : Calls Try.prog 18 #[.pointer none, .slice A n c] w fun e w' => e = .returned (.int .i64 14) ∧ Below w.heap.size w w' := by
  go_enter_defers Try.func18, Try.ntmps18
  go_wp2_with fail
  exact ⟨.int .i64 14, by simp [results, Try.results18, go_sem], rfl, bw_a (bw_a (Below.refl _ w) _) _⟩
end Go.Proofs.Ytefoccpgnijamaa
