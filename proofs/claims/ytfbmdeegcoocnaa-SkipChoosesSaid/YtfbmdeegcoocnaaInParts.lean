/- The inlet's own parts: At, Left, four, eight, next, counted, head. -/
import Derived.Test.YtfbmdeegcoocnaaProg
import Derived.Test.YtfbmdeegcoocnaaBase
import Derived.Test.YtfbmdeegcoocnaaInRest
import Derived.Test.YtfbmdeegcoocnaaFix
import Derived.Test.YtfbmdeegcoocnaaTagNum
set_option linter.unusedVariables false
namespace Go.Proofs.Ytfbmdeegcoocnaa
open Go.RowKit
theorem ileft_any (w : World) (q : Nat) (A : Option Addr) (c : Nat) (bs : List UInt8) (p : Nat) (h : Rin 113 w q A c bs p) :
    Calls Try.prog 75 #[.pointer (some ⟨q, 0, none⟩)] w fun e w' => e = .returned (.int .i64 ((bs.length - p : Nat) : Int)) ∧ ∃ n, w' = w.drewN n := by
  have hcap := h.cap
  have hsm := h.sl.small
  have hle := h.le
  have c0 := h.blk.cell 0
  have c1 := h.blk.cell 1
  simp at c0 c1
  clear h
  generalize bs.length = n at *
  have hc : ((n - p : Nat) : Int) = (n : Int) - (p : Int) := by omega
  have HC := hid hc
  clear hc
  go_enter Try.func75, Try.ntmps75
  go_wp2
  go_quiet (fail)
  go_wp2
  go_ret
  exact ⟨ret_int (by rw [HC.out]), _, rfl⟩
theorem ileft_nil (w : World) :
    Calls Try.prog 75 #[.pointer none] w fun e w' => e = .returned (.int .i64 0) ∧ w = w' := by
  go_enter Try.func75, Try.ntmps75
  go_wp2
  go_ret
  exact ⟨rfl, rfl⟩
/-- So many bytes, read as a number: it, what is wrong, and the place behind. -/
def rFix (k : Nat) (bs : List UInt8) (p : Nat) : Nat × Nat × Nat := if bs.length - p < k then (0, 4, p) else (unfixN ((bs.drop p).take k), 0, p + k)
theorem g32_at (bs : List UInt8) (n : Nat) (A : Option Addr) (c : Nat) (w : World) (hn : bs.length = n) (hR : Sl w A c (bs.map bv)) :
    Calls Try.prog 72 #[.slice A n c] w fun e w' => e = .returned (.tuple #[.int .u32 (if n < 4 then 0 else unfixN (bs.take 4)), .int .i64 (if n < 4 then 4 else 0)]) ∧ w = w' := by
  subst hn; exact get32_any bs A c w hR
theorem g64_at (bs : List UInt8) (n : Nat) (A : Option Addr) (c : Nat) (w : World) (hn : bs.length = n) (hR : Sl w A c (bs.map bv)) :
    Calls Try.prog 115 #[.slice A n c] w fun e w' => e = .returned (.tuple #[.int .u64 (if n < 8 then 0 else unfixN (bs.take 8)), .int .i64 (if n < 8 then 4 else 0)]) ∧ w = w' := by
  subst hn; exact get64_any bs A c w hR
set_option maxRecDepth 100000 in
set_option maxHeartbeats 1000000 in
theorem ifour_any (w : World) (q : Nat) (A : Option Addr) (c : Nat) (bs : List UInt8) (p : Nat) (h : Rin 113 w q A c bs p) :
    Calls Try.prog 107 #[.pointer (some ⟨q, 0, none⟩)] w fun e w' => e = .returned (.tuple #[.int .u32 ((rFix 4 bs p).1 : Nat), .int .i64 ((rFix 4 bs p).2.1 : Nat)]) ∧ Rin 113 w' q A c bs (rFix 4 bs p).2.2 ∧ Only q w w' := by
  have hcap := h.cap
  have hsm := h.sl.small
  have hle := h.le
  have hget := fun n => g32_at (bs.drop p) (bs.length - p) (cutA A c p) (c - p) (w.drewN n) (by simp) ((h.sl.cut p hle).drewN n)
  have hrest := irest_any w q A c bs p h
  have hr : rFix 4 bs p = if bs.length - p < 4 then (0, 4, p) else (unfixN ((bs.drop p).take 4), 0, p + 4) := rfl
  have HR := hid hrest
  have HRin := hid h
  have b1 := h.blk
  have l1 := b1.lt
  clear hrest h
  have c1 : w.cell? ⟨q, 1, none⟩ = some (.int .i64 (p : Int)) := by simpa using b1.cell 1
  have f1 := b1.frozen 1
  have B1 := hid b1
  clear b1
  generalize hN : bs.length = N at *
  by_cases hlt : N - p < 4
  · rw [if_pos hlt] at hr
    simp only [hlt, if_true] at hget
    rw [hr]
    have HG := hid hget
    clear hget hr
    go_enter Try.func107, Try.ntmps107
    go_wp2_with fail
    refine HR.out.mono ?_
    rintro e1 w1 ⟨rfl, n, rfl⟩
    go_wp2_with fail
    refine (HG.out n).mono ?_
    rintro e2 w2 ⟨rfl, rfl⟩
    go_wp2_with fail
    go_ret2
    exact ⟨rfl, HRin.out.move ((Only.refl q w).drewN n) (by rw [hN]; exact B1.out) (by omega), (Only.refl q w).drewN n⟩
  · rw [if_neg hlt] at hr
    simp only [hlt, if_false] at hget
    rw [hr]
    generalize unfixN ((bs.drop p).take 4) = v at *
    have HG := hid hget
    clear hget hr
    go_enter Try.func107, Try.ntmps107
    go_wp2_with fail
    refine HR.out.mono ?_
    rintro e1 w1 ⟨rfl, n, rfl⟩
    go_wp2_with fail
    refine (HG.out n).mono ?_
    rintro e2 w2 ⟨rfl, rfl⟩
    go_wp2_with fail
    go_ret2
    have ho : Only q w ((w.drewN n).setCell ⟨q, 1, none⟩ (.int .i64 ((p : Int) + 4))) := ((Only.refl q w).drewN n).set_ 1 _
    refine ⟨rfl, ?_, ho⟩
    have hb2 : Blk (w.drewN n) q 113 #[.slice A N c, .int .i64 (p : Int)] := B1.out
    have hb3 := hb2.set_ 1 (.int .i64 ((p : Int) + 4))
    refine HRin.out.move ho ?_ (by omega)
    simpa [hN] using hb3
set_option maxRecDepth 100000 in
set_option maxHeartbeats 1000000 in
theorem ieight_any (w : World) (q : Nat) (A : Option Addr) (c : Nat) (bs : List UInt8) (p : Nat) (h : Rin 113 w q A c bs p) :
    Calls Try.prog 102 #[.pointer (some ⟨q, 0, none⟩)] w fun e w' => e = .returned (.tuple #[.int .u64 ((rFix 8 bs p).1 : Nat), .int .i64 ((rFix 8 bs p).2.1 : Nat)]) ∧ Rin 113 w' q A c bs (rFix 8 bs p).2.2 ∧ Only q w w' := by
  have hcap := h.cap
  have hsm := h.sl.small
  have hle := h.le
  have hget := fun n => g64_at (bs.drop p) (bs.length - p) (cutA A c p) (c - p) (w.drewN n) (by simp) ((h.sl.cut p hle).drewN n)
  have hrest := irest_any w q A c bs p h
  have hr : rFix 8 bs p = if bs.length - p < 8 then (0, 4, p) else (unfixN ((bs.drop p).take 8), 0, p + 8) := rfl
  have HR := hid hrest
  have HRin := hid h
  have b1 := h.blk
  have l1 := b1.lt
  clear hrest h
  have c1 : w.cell? ⟨q, 1, none⟩ = some (.int .i64 (p : Int)) := by simpa using b1.cell 1
  have f1 := b1.frozen 1
  have B1 := hid b1
  clear b1
  generalize hN : bs.length = N at *
  by_cases hlt : N - p < 8
  · rw [if_pos hlt] at hr
    simp only [hlt, if_true] at hget
    rw [hr]
    have HG := hid hget
    clear hget hr
    go_enter Try.func102, Try.ntmps102
    go_wp2_with fail
    refine HR.out.mono ?_
    rintro e1 w1 ⟨rfl, n, rfl⟩
    go_wp2_with fail
    refine (HG.out n).mono ?_
    rintro e2 w2 ⟨rfl, rfl⟩
    go_wp2_with fail
    go_ret2
    exact ⟨rfl, HRin.out.move ((Only.refl q w).drewN n) (by rw [hN]; exact B1.out) (by omega), (Only.refl q w).drewN n⟩
  · rw [if_neg hlt] at hr
    simp only [hlt, if_false] at hget
    rw [hr]
    generalize unfixN ((bs.drop p).take 8) = v at *
    have HG := hid hget
    clear hget hr
    go_enter Try.func102, Try.ntmps102
    go_wp2_with fail
    refine HR.out.mono ?_
    rintro e1 w1 ⟨rfl, n, rfl⟩
    go_wp2_with fail
    refine (HG.out n).mono ?_
    rintro e2 w2 ⟨rfl, rfl⟩
    go_wp2_with fail
    go_ret2
    have ho : Only q w ((w.drewN n).setCell ⟨q, 1, none⟩ (.int .i64 ((p : Int) + 8))) := ((Only.refl q w).drewN n).set_ 1 _
    refine ⟨rfl, ?_, ho⟩
    have hb2 : Blk (w.drewN n) q 113 #[.slice A N c, .int .i64 (p : Int)] := B1.out
    have hb3 := hb2.set_ 1 (.int .i64 ((p : Int) + 8))
    refine HRin.out.move ho ?_ (by omega)
    simpa [hN] using hb3
end Go.Proofs.Ytfbmdeegcoocnaa
