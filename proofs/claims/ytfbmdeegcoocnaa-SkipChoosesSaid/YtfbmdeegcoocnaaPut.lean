/- varint.Put: a range over a function. -/
import Derived.Test.YtfbmdeegcoocnaaInfo8
import Derived.Test.YtfbmdeegcoocnaaSevens
set_option linter.unusedVariables false
namespace Go.Proofs.Ytfbmdeegcoocnaa
open Go.RowKit Go.Shelf
attribute [local go_sem] Oper.semAt_some

def sevB (x : Sev) : UInt8 := if x.1.2 then UInt8.ofNat (x.1.1 + 128) else UInt8.ofNat x.1.1
def putN (n : Nat) : List UInt8 := (sevs n).map sevB

theorem sevs_length (k : Nat) : ∀ n, n < 128 ^ (k + 1) → (sevs n).length ≤ k + 1 := by
  induction k with
  | zero => intro n h; rw [sevs, dif_pos (by simpa using h)]; simp
  | succ k ih =>
    intro n h
    rw [sevs]
    split
    · simp
    · have := ih (n / 128) (by rw [Nat.div_lt_iff_lt_mul (by omega), ← Nat.pow_succ]; exact h)
      simp; omega
theorem sevs_length10 {n : Nat} (h : n ≤ 18446744073709551615) : (sevs n).length ≤ 10 := sevs_length 9 n (by omega)
theorem sevs_pos (n : Nat) : 0 < (sevs n).length := by rw [sevs]; split <;> simp
abbrev sevBs (xs : List Sev) : List Value := xs.map fun x => bv (sevB x)

set_option maxRecDepth 100000 in
set_option maxHeartbeats 2000000 in
theorem Put_in (F : Fence) (k : Nat) (hf1 : F.fn 65) (hf2 : F.fn 92) (hf3 : F.fn 108) (hro : F.round = none) (hn : 3 ≤ k) (n : Nat) (hn64 : n ≤ 18446744073709551615) (w : World) :
    CallsIn F k Try.prog 65 #[.int .u64 (n : Int)] w fun e W' => ∃ v, e = .returned v ∧ W'.ownsRow w.heap.size 5 1 v (putN n).length ((putN n).map bv) ∧ Below w.heap.size w W' := by
  have h1 : 1 ≤ k := by omega
  obtain ⟨i0, hi, hz0, hz1, hz2⟩ := info_parts Try.info5
  have hmk : ∀ u : World, (Instr.makeSlice 22 (.int .i64 0) (.int .i64 10)).run Try.prog u = .ok (.slice (some ⟨u.heap.size, 0, none⟩) 0 10) (u.alloc (.cells #[.int .u8 0, .int .u8 0, .int .u8 0, .int .u8 0, .int .u8 0, .int .u8 0, .int .u8 0, .int .u8 0, .int .u8 0, .int .u8 0] 5)) := fun _ => by kernel_rfl
  refine callsIn_of_wp_marks Try.func65 rfl hf1 ?_ hro
  simp only [Try.ntmps65, List.size_toArray, List.length_cons, List.length_nil, Nat.reduceAdd, Nat.reduceSub, Array.replicate_succ, Array.replicate_zero, List.push_toArray, List.append_toArray, List.nil_append, List.cons_append]
  gi_wp2_with (gi_at_call 92; refine (sevens_in F (k - 1) hf2 hro _ _).mono ?_; rintro e w' ⟨rfl, rfl⟩)
  have hlen := sevs_length10 hn64
  generalize hW0 : (w.alloc _) = Wa
  have bO := Boxed.new Wa 22 (.slice (some ⟨w.heap.size, 0, none⟩) 0 10)
  have bN := Boxed.new (Wa.alloc (.cells #[.slice (some ⟨w.heap.size, 0, none⟩) 0 10] 22)) 37 (.int .u64 (n : Int))
  have hz : Wa.heap.size = w.heap.size + 1 := by rw [← hW0]; simp
  rw [World.size_alloc, hz] at bN
  rw [hz] at bO
  have hrow : Wa.ownsRow w.heap.size 5 1 (.slice (some ⟨w.heap.size, 0, none⟩) 0 10) 0 [] := by
    rw [← hW0]; exact World.ownsRow_made _ _ _ (Nat.le_refl _) (by decide) rfl
  have hBa : Below w.heap.size w Wa := by rw [← hW0]; exact (Below.refl _ w).alloc (Nat.le_refl _) _
  have hB0 : Below w.heap.size w ((Wa.alloc (.cells #[.slice (some ⟨w.heap.size, 0, none⟩) 0 10] 22)).alloc (.cells #[.int .u64 (n : Int)] 37)) := (hBa.alloc hBa.size _).alloc (by simp; omega) _
  clear hW0
  refine wpIn_rangeFunc_ownG hro h1 (gf := 108) (lb := #[.pointer (some ⟨w.heap.size + 1 + 1, 0, none⟩)]) rfl hf3 (enters_of Try.func108 (by kernel_rfl) rfl)
    (sevens_stops F (k - 1) hf3 hro (by omega) (w.heap.size + 1 + 1) w.heap.size n hn64 _ (by simp; omega) bN.cell) belowK_t (belowK_b (by simp; omega)) (Below.refl _ _) (fun _ => rfl)
    (fun pre W => (∃ v, Boxed W (w.heap.size + 1) 22 v ∧ W.ownsRow w.heap.size 5 1 v pre.length (sevBs pre) ∧ True) ∧ Below w.heap.size w W)
    (fun _ _ _ => False)
    (OwnFrom.and (Own.from (holdsRow_own w.heap.size (w.heap.size + 1) 22 5 1 (fun pre => pre.length) sevBs (fun _ _ => True)) _) (ownFrom_below (Nat.le_refl _) (by simp; omega)))
    (fun _ _ _ _ _ hs _ _ => hs)
    ⟨⟨_, bO.alloc _, (hrow.alloc _).alloc _, trivial⟩, hB0⟩
    (fun x => { tmps := #[.int .u64 (n : Int), undef, .slice none 0 0, .pointer (some ⟨w.heap.size + 1, 0, none⟩), .int .u8 (x.1.1 : Int), .bool x.1.2, .slice (some ⟨w.heap.size, 0, none⟩) 0 10, .int .u64 (n : Int), .func (.func 108) #[] #[.pointer (some ⟨w.heap.size + 1 + 1, 0, none⟩)], .int .u8 (x.1.1 : Int), .bool x.1.2, undef, undef, undef, undef, undef, undef, undef, undef], defers := [] }) ?assign ?body ?done ?stop
  case assign =>
    intro l x W K hK
    gi_wp2
    exact hK
  case body =>
    rintro l pre ⟨⟨a, t⟩, ha⟩ W ⟨⟨v, hv, hrow, _⟩, hB⟩ hlt
    have hc := hv.cell
    cases t
    · have hb : bv (sevB ⟨(a, false), ha⟩) = .int .u8 (a : Int) := by
        simp only [sevB, bv, UInt8.toNat_ofNat', Bool.false_eq_true, if_false]
        rw [Nat.mod_eq_of_lt (by omega)]
      have HB := hid hb
      clear hb
      gi_wp2_with (gi_at_builtin; refine wpListIn_append_own _ rfl _ _ 22 rfl w.heap.size 5 i0 (.int .u8 0) 1 1 Try.underlying22 hi hz0 hz1 hz2 rfl (by decide) _ _ _ rfl (hrow.alloc _) ⟨W.heap.size, 0, none⟩ 1 1 [.int .u8 (a : Int)] rfl rfl (cell_one_new _ _ _) (by simp [Value.oneCell']) (by simp only [maxLen]; omega) (by omega) (by have := hB.size; simp; omega) ?_; intro v' w1 hown' hgrow _; obtain ⟨g', cap', rfl⟩ := ownsRow_succ hown'; obtain ⟨hv1, hv2, hr2, hk2, hb2⟩ := hv.appended (by decide) hrow hB.size (by omega) hown' hgrow; have hc1 := hv1.cell; have hf1 := hv1.frozen)
      exact ⟨hk2.from _, hb2, ⟨_, hv2, by simpa [sevBs, HB.out] using hr2, trivial⟩, hB.trans hb2⟩
    · have hb : bv (sevB ⟨(a, true), ha⟩) = .int .u8 ((a : Int) + 128) := by
        simp only [sevB, bv, UInt8.toNat_ofNat', if_true]
        rw [Nat.mod_eq_of_lt (by omega)]
        congr 1
      have HB := hid hb
      clear hb
      gi_wp2_with (gi_at_builtin; refine wpListIn_append_own _ rfl _ _ 22 rfl w.heap.size 5 i0 (.int .u8 0) 1 1 Try.underlying22 hi hz0 hz1 hz2 rfl (by decide) _ _ _ rfl (hrow.alloc _) ⟨W.heap.size, 0, none⟩ 1 1 [.int .u8 ((a : Int) + 128)] rfl rfl (cell_one_new _ _ _) (by simp [Value.oneCell']) (by simp only [maxLen]; omega) (by omega) (by have := hB.size; simp; omega) ?_; intro v' w1 hown' hgrow _; obtain ⟨g', cap', rfl⟩ := ownsRow_succ hown'; obtain ⟨hv1, hv2, hr2, hk2, hb2⟩ := hv.appended (by decide) hrow hB.size (by omega) hown' hgrow; have hc1 := hv1.cell; have hf1 := hv1.frozen)
      exact ⟨hk2.from _, hb2, ⟨_, hv2, by simpa [sevBs, HB.out] using hr2, trivial⟩, hB.trans hb2⟩
  case done =>
    rintro D ys W hD rfl ⟨⟨v, hv, hrow, _⟩, hB⟩ hK
    have hc := hv.cell
    gi_wp2
    refine ⟨by simp, .inl ⟨_, _, rfl, run_takeDeferred hK, ?_⟩⟩
    exact ⟨_, results_tmp rfl _ _ _, v, rfl, by simpa [putN, sevBs, Function.comp_def] using ownsRow_putObj hrow _ hK rfl, hB.trans (belowK_b (w := w) (Nat.le_refl _) W D _ _ (by simp at hD; omega) hK rfl rfl)⟩
  case stop =>
    rintro D c pre W _ _ h _
    exact h.elim

theorem put_any (n : Nat) (hn64 : n ≤ 18446744073709551615) (w : World) :
    Calls Try.prog 65 #[.int .u64 (n : Int)] w fun e W' => ∃ v, e = .returned v ∧ W'.ownsRow w.heap.size 5 1 v (putN n).length ((putN n).map bv) ∧ Below w.heap.size w W' :=
  (callsIn_wide (n := 3)).1 (Put_in Fence.wide 3 trivial trivial trivial rfl (Nat.le_refl _) n hn64 w)
end Go.Proofs.Ytfbmdeegcoocnaa
