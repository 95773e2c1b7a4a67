/- What happens to a stream: nothing, if the kind isn't known. -/
import Derived.Test.YtgiealcfhlcpoaaStmFlip
set_option linter.unusedVariables false
namespace Go.Proofs.Ytgiealcfhlcpoaa
open Go.RowKit
set_option maxRecDepth 100000 in
set_option maxHeartbeats 2000000 in
theorem sedit_none (bs : List UInt8) (kd at_ nn to_ : Int) (A2 : Option Addr) (m2 c2 : Nat) (B : Nat) (A : Option Addr) (n c p k : Nat) (w : World) (h : EdS B w A n c bs) (hl : n ≤ 1048576) (h1 : -9223372036854775808 ≤ at_) (h2 : at_ ≤ 9223372036854775807) (h3 : -9223372036854775808 ≤ nn) (h4 : nn ≤ 9223372036854775807) (hp : at_ % ((n : Int) + 1) = (p : Int)) (hk : nn % (((n - p : Nat) : Int) + 1) = (k : Int)) (hkd : kd < 1 ∨ 5 < kd) :
    Calls Try.prog 18 #[.slice A n c, .agg #[.int .i64 kd, .int .i64 at_, .int .i64 nn, .int .i64 to_, .slice A2 m2 c2]] w fun e w' => e = .returned (.slice A n n) ∧ EdS B w' A n n bs ∧ Chg (fun q => ∃ o, A = some ⟨q, o, none⟩) w w' := by
  obtain ⟨s, hws⟩ : ∃ s, w.heap.size = s := ⟨_, rfl⟩
  have hn := h.len
  have hcap := h.sl.cap
  have hsm := h.sl.small
  rw [List.length_map, hn] at hcap
  have hpm := rest_in at_ ((n : Int) + 1) (by omega)
  rw [hp] at hpm
  have hkm := rest_in nn (((n - p : Nat) : Int) + 1) (by omega)
  rw [hk] at hkm
  have hr1 := fun W => srest_any at_ ((n : Int) + 1) W h1 h2 (by omega) (by omega)
  rw [hp] at hr1
  have hr2 := fun W => srest_any nn (((n - p : Nat) : Int) + 1) W h3 h4 (by omega) (by omega)
  rw [hk] at hr2
  have e1 : IntKind.i64.wrap ((n : Int) + 1) = (n : Int) + 1 := IntWalk.i64_in _ (by omega)
  have e2 : IntKind.i64.wrap ((n : Int) - (p : Int)) = ((n - p : Nat) : Int) := by rw [IntWalk.i64_in _ (by omega)]; omega
  have e3 : IntKind.i64.wrap (((n - p : Nat) : Int) + 1) = ((n - p : Nat) : Int) + 1 := IntWalk.i64_in _ (by omega)
  have e4 : IntKind.i64.wrap ((p : Int) + (k : Int)) = (p : Int) + (k : Int) := IntWalk.i64_in _ (by omega)
  have HR1 := hid hr1
  have HR2 := hid hr2
  have HH := hid h
  have HN := hid hn
  have hbk := Blk.new w 32 #[.int .i64 kd, .int .i64 at_, .int .i64 nn, .int .i64 to_, .slice A2 m2 c2]
  rw [hws] at hbk
  have hb0 := bw_a (Below.refl w.heap.size w) (.cells #[.int .i64 kd, .int .i64 at_, .int .i64 nn, .int .i64 to_, .slice A2 m2 c2] 32)
  have HB0 := hid hb0
  have HBK := hid hbk
  have x1 : (kd == 1) = false := by simp; omega
  have x2 : (kd == 2) = false := by simp; omega
  have x3 : (kd == 3) = false := by simp; omega
  have x4 : (kd == 4) = false := by simp; omega
  have x5 : (kd == 5) = false := by simp; omega
  clear hr1 hr2 h hn hp hk hb0 hbk hkm hkd
  go_enter Try.func18, Try.ntmps18
  go_wp2_with fail
  refine (HR1.out _).mono ?_
  rintro e w1 ⟨rfl, rfl⟩
  go_wp2_with fail
  refine (HR2.out _).mono ?_
  rintro e w1 ⟨rfl, rfl⟩
  have hmn : min (n : Int) 1048576 = (n : Int) := by omega
  have hed : EdS B (w.alloc (.cells #[.int .i64 kd, .int .i64 at_, .int .i64 nn, .int .i64 to_, .slice A2 m2 c2] 32)) A n n bs := ⟨⟨by rw [List.length_map, HN.out]; exact Nat.le_refl _, by omega, fun e => by have := HH.out.sl.nil0 e; omega, (HH.out.sl.below HB0.out).rd⟩, HN.out, HH.out.own.imp id fun ⟨g, cs, e, hB, hk⟩ => ⟨g, cs, e, hB, hk.alloc _⟩⟩
  have hA : A = none ∧ n = 0 ∨ ∃ g, A = some ⟨g, 0, none⟩ := by
    rcases HH.out.own with e | ⟨g, cs, e, -⟩
    · exact .inl ⟨e, by have := HH.out.sl.nil0 e; omega⟩
    · exact .inr ⟨g, e⟩
  have HED := hid hed
  have c0 := HBK.out.cell 0
  simp only [List.getElem?_toArray, List.getElem?_cons_zero, List.getElem?_cons_succ] at c0
  clear hed
  rcases hA with ⟨rfl, rfl⟩ | ⟨g, rfl⟩
  · go_wp2_with fail
    go_ret
    exact ⟨rfl, HED.out, Chg.of_new HB0.out⟩
  · go_wp2_with fail
    go_ret
    exact ⟨rfl, HED.out, Chg.of_new HB0.out⟩
end Go.Proofs.Ytgiealcfhlcpoaa
