/- The document's reader: Bytes. -/
import Derived.Test.YtpicgemjfodlcaaProg
import Derived.Test.YtpicgemjfodlcaaBase
import Derived.Test.YtpicgemjfodlcaaRefTake2
set_option linter.unusedVariables false
namespace Go.Proofs.Ytpicgemjfodlcaa
open Go.RowKit
set_option maxRecDepth 100000 in
set_option maxHeartbeats 1000000 in
theorem rbytesm_any (most : Int) (w : World) (q : Nat) (A : Option Addr) (c : Nat) (bs : List UInt8) (p : Nat) (hn1 : -9223372036854775808 ≤ most) (hn2 : most ≤ 9223372036854775807) (hbl : bs.length ≤ 100000) (h : Rin 29 w q A c bs p) :
    Calls Try.prog 21 #[.pointer (some ⟨q, 0, none⟩), .int .i64 most] w fun e w' => ∃ A' c', e = .returned (.tuple #[.slice A' (if (rCount most bs p).2.1 = 0 then (rCount most bs p).1 else []).length c', .agg #[.int .i64 ((rCount most bs p).2.1 : Nat), .int .i64 (flt (rCount most bs p).2.1 p : Nat)]]) ∧ Sl w' A' c' ((if (rCount most bs p).2.1 = 0 then (rCount most bs p).1 else []).map bv) ∧ Rin 29 w' q A c bs (plc (rCount most bs p).2.1 p (rCount most bs p).2.2) ∧ Only q w w' := by
  have hst := St.start h
  have hcap := h.cap
  have hsm := h.sl.small
  have hle := h.le
  have hlt := h.blk.lt
  have hc := rget_rest hst.r
  have hf := M.get_facts (bs.drop p)
  have hr : rCount most bs p = if (M.get (bs.drop p)).2.2 ≠ 0 then ([], (M.get (bs.drop p)).2.2, p)
    else if most < 0 ∨ most < ((M.get (bs.drop p)).1 : Int) then ([], 2, p + (M.get (bs.drop p)).2.1)
    else rTake ((M.get (bs.drop p)).1 : Int) bs (p + (M.get (bs.drop p)).2.1) := rfl
  have c0 : w.cell? ⟨q, 0, none⟩ = some (.slice A bs.length c) := by simpa using h.blk.cell 0
  have c1 : w.cell? ⟨q, 1, none⟩ = some (.int .i64 (p : Int)) := by simpa using h.blk.cell 1
  clear h
  generalize M.get (bs.drop p) = g at *
  obtain ⟨v, k, e⟩ := g
  simp only at hc hf hr
  have HC := hid hc
  have HST := hid hst
  clear hc hst
  by_cases he : e = 0
  · subst he
    obtain ⟨hk1, _, hk2, hv⟩ := hf.1 rfl
    simp only [List.length_drop] at hk2
    rw [if_neg (by simp)] at hr
    have hcp : ¬ c = p := by omega
    have hX : cutA A c p = Option.map (fun x => x.add p) A := by simp [cutA, hcp]
    rw [hX] at HC
    clear hX hf
    by_cases a1 : most < 0
    · rw [if_pos (.inl a1)] at hr
      rw [hr]
      simp only [plc, if_false, show (2 : Nat) = 0 ↔ False from by simp]
      clear hr
      generalize hN : bs.length = N at *
      have HN := hid hN
      clear hN
      go_enter Try.func21, Try.ntmps21
      go_wp2_with fail
      go_quiet ((go_at_call 35; exact Calls.quiet_of_same (HC.out _)))
      go_wp2_with fail
      have hs1 := HST.out.drewN nq
      refine (hs1.rfault 2).mono ?_
      rintro e1 w2 ⟨rfl, hb2⟩
      have hs2 := hs1.below hb2
      clear hb2 hs1 c0 c1
      have d0 := hs2.d0
      have d1 := hs2.d1
      have f0 := hs2.f0
      have f1 := hs2.f1
      have dl := hs2.dl
      have HS2 := hid hs2
      clear hs2
      go_wp2_with fail
      exact bodyPost_ret (v := .tuple #[.slice none 0 0, .agg #[.int .i64 2, .int .i64 (flt 2 p : Nat)]]) (by simp [results, Try.results21, go_sem, d0, d1]) rfl ⟨none, 0, by simp, Sl.nil_ _, HS2.out.fin _ _⟩
    obtain ⟨mo, rfl⟩ : ∃ mo : Nat, most = (mo : Int) := ⟨most.toNat, by omega⟩
    have hmo : 0 ≤ (mo : Int) := by omega
    by_cases a2 : mo < v
    · rw [if_pos (.inr (by omega))] at hr
      rw [hr]
      simp only [plc, if_false, show (2 : Nat) = 0 ↔ False from by simp]
      clear hr
      generalize hN : bs.length = N at *
      have HN := hid hN
      clear hN
      go_enter Try.func21, Try.ntmps21
      go_wp2_with fail
      go_quiet ((go_at_call 35; exact Calls.quiet_of_same (HC.out _)))
      go_wp2_with fail
      have hs1 := HST.out.drewN nq
      refine (hs1.rfault 2).mono ?_
      rintro e1 w2 ⟨rfl, hb2⟩
      have hs2 := hs1.below hb2
      clear hb2 hs1 c0 c1
      have d0 := hs2.d0
      have d1 := hs2.d1
      have f0 := hs2.f0
      have f1 := hs2.f1
      have dl := hs2.dl
      have HS2 := hid hs2
      clear hs2
      go_wp2_with fail
      exact bodyPost_ret (v := .tuple #[.slice none 0 0, .agg #[.int .i64 2, .int .i64 (flt 2 p : Nat)]]) (by simp [results, Try.results21, go_sem, d0, d1]) rfl ⟨none, 0, by simp, Sl.nil_ _, HS2.out.fin _ _⟩
    rw [if_neg (by omega)] at hr
    rw [hr]
    have hv2 : (v : Int) ≤ 9223372036854775807 := by omega
    by_cases a3 : bs.length - (p + k) < v
    · rw [rTake_short (by omega) (by omega)]
      simp only [plc, if_false, show (4 : Nat) = 0 ↔ False from by simp]
      clear hr
      have hi : (bs.length : Int) - (p : Int) - (k : Int) < (v : Int) := by omega
      have hi0 : (0 : Int) ≤ (bs.length : Int) - (p : Int) - (k : Int) := by omega
      generalize hN : bs.length = N at *
      have HN := hid hN
      clear hN
      go_enter Try.func21, Try.ntmps21
      go_wp2_with fail
      go_quiet ((go_at_call 35; exact Calls.quiet_of_same (HC.out _)))
      go_wp2_with fail
      generalize hW : World.drewN _ nq = W1
      have hs1 := HST.out.drewN nq
      rw [hW] at hs1
      clear hW c0 c1
      have c0 := hs1.c0
      rw [HN.out] at c0
      have c1 := hs1.c1
      have ql := hs1.ql
      have HS1 := hid hs1
      clear hs1
      go_quiet (fail)
      go_wp2_with fail
      have hs1 := HS1.out.drewN nq
      refine (hs1.rfault 4).mono ?_
      rintro e1 w2 ⟨rfl, hb2⟩
      have hs2 := hs1.below hb2
      clear hb2 hs1 c0 c1
      have d0 := hs2.d0
      have d1 := hs2.d1
      have f0 := hs2.f0
      have f1 := hs2.f1
      have dl := hs2.dl
      have HS2 := hid hs2
      clear hs2
      go_wp2_with fail
      exact bodyPost_ret (v := .tuple #[.slice none 0 0, .agg #[.int .i64 4, .int .i64 (flt 4 p : Nat)]]) (by simp [results, Try.results21, go_sem, d0, d1]) rfl ⟨none, 0, by simp, Sl.nil_ _, HS2.out.fin _ _⟩
    · have htk := rTake_ok (n := (v : Int)) (bs := bs) (p := p + k) (by omega) (by omega)
      have hi : ¬ (bs.length : Int) - (p : Int) - (k : Int) < (v : Int) := by omega
      have hi0 : (0 : Int) ≤ (bs.length : Int) - (p : Int) - (k : Int) := by omega
      have hpk : p + k ≤ bs.length := by omega
      have htake := fun W hr => rtake_any (v : Int) W q A c bs (p + k) (by omega) hv2 hbl hr
      rw [htk] at htake ⊢
      simp only [plc, if_true, flt] at htake ⊢
      have HT := hid htake
      clear hr htk htake
      generalize hN : bs.length = N at *
      have HN := hid hN
      clear hN
      generalize (bs.drop (p + k)).take (v : Int).toNat = l at *
      generalize p + k + (v : Int).toNat = p2 at *
      go_enter Try.func21, Try.ntmps21
      go_wp2_with fail
      go_quiet ((go_at_call 35; exact Calls.quiet_of_same (HC.out _)))
      go_wp2_with fail
      generalize hW : World.drewN _ nq = W1
      have hs1 := HST.out.drewN nq
      rw [hW] at hs1
      clear hW c0 c1
      have c0 := hs1.c0
      rw [HN.out] at c0
      have c1 := hs1.c1
      have ql := hs1.ql
      have HS1 := hid hs1
      clear hs1
      go_quiet (fail)
      have hs1 := HS1.out.drewN nq
      have r1 := HS1.out.r1
      have hs2 := hs1.move (p + k) (by rw [HN.out]; exact hpk)
      push_cast at hs2
      have HS2 := hid hs2
      clear hs1 hs2
      go_wp2_with fail
      refine (HT.out _ HS2.out.r).mono ?_
      rintro e1 w3 ⟨A3, c3, rfl, hs3, hf3, hr3, ho3⟩
      have hst3 := HS2.out.only ho3 hr3
      clear c0 c1 r1
      have d0 := hst3.d0
      have d1 := hst3.d1
      have f0 := hst3.f0
      have f1 := hst3.f1
      have dl := hst3.dl
      have HS3 := hid hst3
      have hff := hf3 w.heap.size HS2.out.dl
      have HSL := hid hs3
      have HFF := hid hff
      clear hst3 hs3 hr3 ho3 hf3 hff
      go_wp2_with fail
      refine bodyPost_ret (v := .tuple #[.slice A3 l.length c3, .agg #[.int .i64 0, .int .i64 0]]) (by simp [results, Try.results21, go_sem, d0, d1, dl]) rfl ⟨A3, c3, rfl, ?_, ?_⟩
      · have s1 := ((Only.refl w.heap.size w3).set_ 0 (.int .i64 0)).sl HSL.out HFF.out (by simp)
        have s2 := ((Only.refl w.heap.size _).set_ 1 (.int .i64 0)).sl s1 HFF.out (by simp)
        exact s2.below ((Below.refl _ _).alloc (Nat.le_refl _) _)
      · have hfi := HS3.out.fin (.int .i64 0) (.int .i64 0)
        exact ⟨hfi.1.below ((Below.refl _ _).alloc (Nat.le_refl _) _), hfi.2.alloc _⟩
  · have hz := (hf.2 he).2.1
    have heb : ((e : Int) != 0) = true := by simp; omega
    rw [if_pos he] at hr
    rw [hr]
    simp only [plc, he, if_false]
    generalize hN : bs.length = N at *
    have HN := hid hN
    clear hN
    clear hr hf he
    by_cases hcp : c = p
    case' pos =>
      obtain rfl : p = c := hcp.symm
      have hX : cutA A p p = A := by simp [cutA]
      rw [hX, Nat.sub_self, show N - p = 0 from by omega] at HC
    case' neg =>
      have hX : cutA A c p = Option.map (fun x => x.add p) A := by simp [cutA, hcp]
      rw [hX] at HC
    all_goals
      clear hX
      go_enter Try.func21, Try.ntmps21
      go_wp2_with fail
      go_quiet ((go_at_call 35; exact Calls.quiet_of_same (HC.out _)))
      go_wp2_with fail
      have hs1 := HST.out.drewN nq
      refine (hs1.rfault e).mono ?_
      rintro e1 w2 ⟨rfl, hb2⟩
      have hs2 := hs1.below hb2
      clear hb2 hs1 c0 c1
      have d0 := hs2.d0
      have d1 := hs2.d1
      have f0 := hs2.f0
      have f1 := hs2.f1
      have dl := hs2.dl
      have HS2 := hid hs2
      clear hs2
      go_wp2_with fail
      exact bodyPost_ret (v := .tuple #[.slice none 0 0, .agg #[.int .i64 (e : Int), .int .i64 (flt e p : Nat)]]) (by simp [results, Try.results21, go_sem, d0, d1]) rfl ⟨none, 0, by simp, Sl.nil_ _, HS2.out.fin _ _⟩
end Go.Proofs.Ytpicgemjfodlcaa
