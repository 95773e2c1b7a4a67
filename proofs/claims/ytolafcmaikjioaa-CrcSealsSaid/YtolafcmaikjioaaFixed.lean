/- tag.lowest, tag.fixed, Fix32, Fix64: a range over a function. -/
import Derived.Test.YtolafcmaikjioaaSevens
import Derived.Test.YtolafcmaikjioaaRefPut
set_option linter.unusedVariables false
namespace Go.Proofs.Ytolafcmaikjioaa
open Go.RowKit Go.Shelf
attribute [local go_sem] Oper.semAt_some
abbrev Byt : Type := { p : Nat // p < 256 }
abbrev bytEnc (x : Byt) : Array Value := #[.int .u8 (x.1 : Int)]
def lows (n k : Nat) : List Byt := (List.range k).map fun i => ⟨n / 2 ^ (8 * i) % 256, by omega⟩
theorem lows_succ (n k : Nat) : lows n (k + 1) = lows n k ++ [⟨n / 2 ^ (8 * k) % 256, by omega⟩] := by simp [lows, List.range_succ]
theorem lows_pre (n : Nat) {j k : Nat} (h : j ≤ k) : lows n j <+: lows n k := by
  obtain ⟨d, rfl⟩ : ∃ d, k = j + d := ⟨k - j, by omega⟩
  clear h
  induction d with
  | zero => exact List.prefix_rfl
  | succ d ih => rw [← Nat.add_assoc, lows_succ]; exact ih.trans (List.prefix_append _ _)
theorem lows_length (n k : Nat) : (lows n k).length = k := by simp [lows]
theorem lows_fix (n k : Nat) : (lows n k).map (fun x => b8 x.1) = fixN k n := by
  induction k generalizing n with
  | zero => rfl
  | succ k ih =>
    rw [fixN, ← ih (n / 256)]
    simp only [lows, List.range_succ_eq_map, List.map_cons, List.map_map]
    congr 1
    · simp
    · apply List.map_congr_left
      intro i _
      simp only [Function.comp]
      rw [show 8 * (i + 1) = 8 + 8 * i from by omega, Nat.pow_add, ← Nat.div_div_eq_div_mul]

theorem lowest_in (F : Fence) (m : Nat) (hf : F.fn 50) (hro : F.round = none) (n k : Int) (w : World) :
    CallsIn F m Try.prog 50 #[.int .u64 n, .int .i64 k] w fun e w' => e = .returned (.func (.func 52) #[] #[.pointer (some ⟨w.heap.size + 1, 0, none⟩), .pointer (some ⟨w.heap.size, 0, none⟩)]) ∧ w' = (w.alloc (.cells #[.int .u64 n] 76)).alloc (.cells #[.int .i64 k] 3) := by
  refine callsIn_of_wp Try.func50 rfl hf ?_ hro
  simp only [Try.ntmps50, List.size_toArray, List.length_cons, List.length_nil, Nat.reduceAdd, Nat.reduceSub, Array.replicate_succ, Array.replicate_zero, List.push_toArray, List.append_toArray, List.nil_append, List.cons_append]
  gi_wp2
  go_ret
  exact ⟨rfl, rfl⟩
/-- What a round must keep: block B lies as it lay. -/
def KB (B : Nat) (o : Obj) (A A' : World) : Prop := A.heap[B]? = some o → A'.heap[B]? = some o
theorem KB.t {B : Nat} {o : Obj} {A A' A'' : World} (h : KB B o A A') (h' : KB B o A' A'') : KB B o A A'' := fun hA => h' (h hA)
theorem KB.b {B N : Nat} {o : Obj} (hB : B < N) (W : World) (l : Nat) (p p' : Obj) (hl : N ≤ l) (_ : W.heap[l]? = some p) (_ : p.isCells = false) (_ : p.isWalk = false) : KB B o W (W.putObj l p') :=
  fun hA => (World.putObj_heap_other (by omega)).trans hA
set_option maxRecDepth 100000 in
set_option maxHeartbeats 1000000 in
theorem lowest1_in (F : Fence) (m : Nat) (hf : F.fn 52) (hro : F.round = none) (hm : 1 ≤ m) (l B1 B2 : Nat) (n k : Nat) (hn64 : n ≤ 18446744073709551615) (hk : k ≤ 8) (J Jx : List Byt → World → Prop)
    (hY : ∀ pre x W, J pre W → pre.length < (lows n k).length → YieldAt F (m - 1) Try.prog l (bytEnc x) W fun e W' =>
      (e = .returned (.bool true) ∧ J (pre ++ [x]) W' ∧ KB B2 (.cells #[.int .u64 (n : Int)] 76 (0, 0)) W W') ∨ (e = .returned (.bool false) ∧ Jx (pre ++ [x]) W'))
    (W : World) (hB1c : W.cell? ⟨B1, 0, none⟩ = some (.int .i64 (k : Int))) (hB2c : Boxed W B2 76 (.int .u64 (n : Int))) (h0 : J [] W) :
    CallsIn F m Try.prog 52 #[.func (.yield l) #[] #[], .pointer (some ⟨B1, 0, none⟩), .pointer (some ⟨B2, 0, none⟩)] W fun e W' => (∃ v, e = .returned v) ∧
      ((∃ ys, ys = lows n k ∧ J ys W') ∨ (∃ pre, pre <+: lows n k ∧ Jx pre W')) := by
  refine callsIn_of_wp Try.func52 rfl hf ?_ hro
  simp only [Try.ntmps52, List.size_toArray, List.length_cons, List.length_nil, Nat.reduceAdd, Nat.reduceSub, Array.replicate_succ, Array.replicate_zero, List.push_toArray, List.append_toArray, List.nil_append, List.cons_append]
  gi_wp2
  gi_loopw [4, 6] (fun _ p wr => ∃ (j : Nat), p = .int .i64 (j : Int) ∧ j ≤ k ∧ J (lows n j) wr ∧ Boxed wr B2 76 (.int .u64 (n : Int)))
    (fun _ p _ => k - (intOf p).toNat)
  case atStart =>
    exact ⟨0, rfl, by omega, h0, hB2c⟩
  case round =>
    obtain ⟨j, rfl, hj, hJs, hbx⟩ := hrel
    have hc2 := hbx.cell
    by_cases hlt : j < k
    · obtain ⟨fn, tmps, assign, body, hy, hR⟩ := hY (lows n j) ⟨n / 2 ^ (8 * j) % 256, by omega⟩ wr hJs (by rw [lows_length, lows_length]; omega)
      dsimp only [bytEnc] at hy
      rw [show ((n / 2 ^ (8 * j) % 256 : Nat) : Int) = (n : Int) / 2 ^ (8 * j) % 256 from by simp] at hy
      gi_wp2
      refine hR.mono ?_
      rintro e W3 (⟨rfl, hJ3, hk3⟩ | ⟨rfl, hJx3⟩)
      · gi_wp2
        go_roundw
        case rel => exact ⟨j + 1, by go_num, by omega, by rw [lows_succ]; exact hJ3, hk3 hbx⟩
        case measure => simp [intOf] <;> omega
      · gi_wp2
        refine bodyPost_ret (results_none rfl _ _ _) rfl ?_
        exact ⟨⟨_, rfl⟩, .inr ⟨_, by rw [← lows_succ]; exact lows_pre n (by omega), hJx3⟩⟩
    · obtain rfl : j = k := by omega
      gi_wp2
      go_end0
      exact ⟨⟨_, rfl⟩, .inl ⟨_, rfl, hJs⟩⟩
theorem lowest_stops (F : Fence) (m : Nat) (hf : F.fn 52) (hro : F.round = none) (hm : 1 ≤ m) (B1 B2 : Nat) (n k : Nat) (hn64 : n ≤ 18446744073709551615) (hk : k ≤ 8) (w : World)
    (h1 : Boxed w B1 3 (.int .i64 (k : Int))) (h2 : Boxed w B2 76 (.int .u64 (n : Int))) :
    SeqStopsK F m Try.prog 52 #[.pointer (some ⟨B1, 0, none⟩), .pointer (some ⟨B2, 0, none⟩)] bytEnc (KB B2 (.cells #[.int .u64 (n : Int)] 76 (0, 0))) (fun ys => ys = lows n k) (fun pre => pre <+: lows n k) (lows n k).length w := fun l J Jx W hW _ _ hY h0 =>
  lowest1_in F m hf hro hm l B1 B2 n k hn64 hk J Jx hY W ((hW.cell (p := ⟨B1, 0, none⟩) h1.lt).trans h1.cell) ((hW.block B2 h2.lt).trans h2) h0

def bytBs (xs : List Byt) : List Value := xs.map fun x => bv (b8 x.1)
set_option maxRecDepth 100000 in
set_option maxHeartbeats 2000000 in
theorem fixed_in (F : Fence) (m : Nat) (hf1 : F.fn 45) (hf2 : F.fn 50) (hf3 : F.fn 52) (hro : F.round = none) (hm : 3 ≤ m) (n k : Nat) (hn64 : n ≤ 18446744073709551615) (hk : k ≤ 8) (w : World) :
    CallsIn F m Try.prog 45 #[.int .u64 (n : Int), .int .i64 (k : Int)] w fun e W' => ∃ v, e = .returned v ∧ W'.ownsRow w.heap.size 5 1 v (fixN k n).length ((fixN k n).map bv) ∧ Below w.heap.size w W' := by
  have h1 : 1 ≤ m := by omega
  obtain ⟨i0, hi, hz0, hz1, hz2⟩ := info_parts Try.info5
  have hmk : ∀ u : World, (Instr.makeSlice 22 (.int .i64 0) (.int .i64 (k : Int))).run Try.prog u = .ok (.slice (some ⟨u.heap.size, 0, none⟩) 0 k) (u.alloc (.cells (madeCells #[.int .u8 0] k) 5)) := fun u => by
    have h := run_make (P := Try.prog) u 22 5 i0 (.int .u8 0) Try.underlying22 hi hz0 .i64 .i64 0 (k : Int) (by omega) (by omega) (by rw [hz2]; omega) (by omega)
    simpa [hz1, Value.cells] using h
  refine callsIn_of_wp_marks Try.func45 rfl hf1 ?_ hro
  simp only [Try.ntmps45, List.size_toArray, List.length_cons, List.length_nil, Nat.reduceAdd, Nat.reduceSub, Array.replicate_succ, Array.replicate_zero, List.push_toArray, List.append_toArray, List.nil_append, List.cons_append]
  gi_wp2_with (gi_at_call 50; refine (lowest_in F (m - 1) hf2 hro _ _ _).mono ?_; rintro e w' ⟨rfl, rfl⟩)
  generalize hW0 : (w.alloc _) = Wa
  have bO := Boxed.new Wa 22 (.slice (some ⟨w.heap.size, 0, none⟩) 0 k)
  have bN := Boxed.new (Wa.alloc (.cells #[.slice (some ⟨w.heap.size, 0, none⟩) 0 k] 22)) 76 (.int .u64 (n : Int))
  have bK := Boxed.new ((Wa.alloc (.cells #[.slice (some ⟨w.heap.size, 0, none⟩) 0 k] 22)).alloc (.cells #[.int .u64 (n : Int)] 76)) 3 (.int .i64 (k : Int))
  have hz : Wa.heap.size = w.heap.size + 1 := by rw [← hW0]; simp
  rw [World.size_alloc, World.size_alloc, hz] at bK
  rw [World.size_alloc, hz] at bN
  rw [hz] at bO
  have hrow : Wa.ownsRow w.heap.size 5 1 (.slice (some ⟨w.heap.size, 0, none⟩) 0 k) 0 [] := by
    rw [← hW0]; exact World.ownsRow_made _ _ _ (Nat.le_refl _) (by simp only [maxLen]; omega) (by rw [size_madeCells]; omega)
  have hBa : Below w.heap.size w Wa := by rw [← hW0]; exact (Below.refl _ w).alloc (Nat.le_refl _) _
  have hB0 := ((hBa.alloc hBa.size (.cells #[.slice (some ⟨w.heap.size, 0, none⟩) 0 k] 22)).alloc (by simp; omega) (.cells #[.int .u64 (n : Int)] 76)).alloc (by simp; omega) (.cells #[.int .i64 (k : Int)] 3)
  clear hW0
  refine wpIn_rangeFunc_ownG hro h1 (gf := 52) (lb := #[.pointer (some ⟨w.heap.size + 1 + 1 + 1, 0, none⟩), .pointer (some ⟨w.heap.size + 1 + 1, 0, none⟩)]) rfl hf3 (enters_of Try.func52 (by kernel_rfl) rfl)
    (lowest_stops F (m - 1) hf3 hro (by omega) (w.heap.size + 1 + 1 + 1) (w.heap.size + 1 + 1) n k hn64 hk _ bK (bN.alloc _)) KB.t (KB.b (by simp; omega)) (Below.refl _ _) (fun _ => rfl)
    (fun pre W => (∃ v, Boxed W (w.heap.size + 1) 22 v ∧ W.ownsRow w.heap.size 5 1 v pre.length (bytBs pre) ∧ True) ∧ Below w.heap.size w W)
    (fun _ _ _ => False)
    (OwnFrom.and (Own.from (holdsRow_own w.heap.size (w.heap.size + 1) 22 5 1 (fun pre => pre.length) bytBs (fun _ _ => True)) _) (ownFrom_below (Nat.le_refl _) (by simp; omega)))
    (fun _ _ _ _ _ hs _ _ => hs)
    ⟨⟨_, (bO.alloc _).alloc _, ((hrow.alloc _).alloc _).alloc _, trivial⟩, hB0⟩
    (fun x => { tmps := #[.int .u64 (n : Int), .int .i64 (k : Int), undef, undef, .slice none 0 0, .pointer (some ⟨w.heap.size + 1, 0, none⟩), .int .u8 (x.1 : Int), .int .i64 (k : Int), .slice (some ⟨w.heap.size, 0, none⟩) 0 k, .int .u64 (n : Int), .int .i64 (k : Int), .func (.func 52) #[] #[.pointer (some ⟨w.heap.size + 1 + 1 + 1, 0, none⟩), .pointer (some ⟨w.heap.size + 1 + 1, 0, none⟩)], .int .u8 (x.1 : Int), undef, undef, undef, undef, undef], defers := [] }) ?assign ?body ?done ?stop
  case assign =>
    intro l x W K hK
    gi_wp2
    exact hK
  case body =>
    rintro l pre ⟨a, ha⟩ W ⟨⟨v, hv, hrow, _⟩, hB⟩ hlt
    have hc := hv.cell
    rw [lows_length] at hlt
    have HB := hid (bv_b8 a ha)
    gi_wp2_with (gi_at_builtin; refine wpListIn_append_own _ rfl _ _ 22 rfl w.heap.size 5 i0 (.int .u8 0) 1 1 Try.underlying22 hi hz0 hz1 hz2 rfl (by decide) _ _ _ rfl (hrow.alloc _) ⟨W.heap.size, 0, none⟩ 1 1 [.int .u8 (a : Int)] rfl rfl (cell_one_new _ _ _) (by simp [Value.oneCell']) (by simp only [maxLen]; omega) (by omega) (by have := hB.size; simp; omega) ?_; intro v' w1 hown' hgrow _; obtain ⟨g', cap', rfl⟩ := ownsRow_succ hown'; obtain ⟨hv1, hv2, hr2, hk2, hb2⟩ := hv.appended (by decide) hrow hB.size (by omega) hown' hgrow; have hc1 := hv1.cell; have hf1 := hv1.frozen)
    have hkb : KB (w.heap.size + 1 + 1) (.cells #[.int .u64 (n : Int)] 76 (0, 0)) W (w1.setCell ⟨w.heap.size + 1, 0, none⟩ (.slice (some ⟨g', 0, none⟩) (pre.length + 1) cap')) := fun hA =>
      Boxed.other (((show Boxed W _ _ _ from hA).alloc _).kept hgrow (Boxed.not_row hA (by decide) hrow)) (by omega) _
    have he : bytBs (pre ++ [⟨a, ha⟩]) = bytBs pre ++ [.int .u8 (a : Int)] := by simp only [bytBs, List.map_append, List.map_cons, List.map_nil, HB.out]
    exact ⟨hk2.from _, hkb, ⟨_, hv2, by rw [he, List.length_append]; exact hr2⟩, hB.trans hb2⟩
  case done =>
    rintro D xs W hD rfl ⟨⟨v, hv, hrow, _⟩, hB⟩ hK
    have hc := hv.cell
    gi_wp2
    refine ⟨by simp, .inl ⟨_, _, rfl, run_takeDeferred hK, ?_⟩⟩
    have hlf := lows_fix n k
    have hl2 : (fixN k n).map bv = bytBs (lows n k) := by rw [← hlf, List.map_map]; rfl
    exact ⟨_, results_tmp rfl _ _ _, v, rfl, by have h := ownsRow_putObj hrow (.deferred none) hK rfl; rw [lows_length] at h; rw [hl2, length_fixN]; exact h, hB.trans (belowK_b (w := w) (Nat.le_refl _) W D _ _ (by simp at hD; omega) hK rfl rfl)⟩
  case stop =>
    rintro D c pre W _ _ h _
    exact h.elim
theorem fixed_any (n k : Nat) (hn64 : n ≤ 18446744073709551615) (hk : k ≤ 8) (w : World) :
    Calls Try.prog 45 #[.int .u64 (n : Int), .int .i64 (k : Int)] w fun e W' => ∃ A c, e = .returned (.slice A (fixN k n).length c) ∧ Sl W' A c ((fixN k n).map bv) ∧ Below w.heap.size w W' :=
  ((callsIn_wide (n := 3)).1 (fixed_in Fence.wide 3 trivial trivial trivial rfl (Nat.le_refl _) n k hn64 hk w)).mono fun _ _ ⟨_, he, ho, hb⟩ => let ⟨A, c, hv, _, hs⟩ := Sl.of_own ho; ⟨A, c, by rw [he, hv], hs, hb⟩
set_option maxRecDepth 100000 in
set_option maxHeartbeats 400000 in
theorem fix32_any (n : Nat) (hn : n ≤ 4294967295) (w : World) :
    Calls Try.prog 38 #[.int .u32 (n : Int)] w fun e W' => ∃ A c, e = .returned (.slice A 4 c) ∧ Sl W' A c ((fixN 4 n).map bv) ∧ Below w.heap.size w W' := by
  have hc : Calls Try.prog 45 #[.int .u64 (n : Int), .int .i64 4] w _ := fixed_any n 4 (by omega) (by omega) w
  rw [length_fixN] at hc
  have HC := hid hc
  clear hc
  go_enter Try.func38, Try.ntmps38
  go_wp2_with (go_at_call 45; refine HC.out.mono ?_; rintro e w' ⟨A, c, rfl, hs, hb⟩)
  go_ret
  exact ⟨A, c, rfl, hs, hb⟩
end Go.Proofs.Ytolafcmaikjioaa
