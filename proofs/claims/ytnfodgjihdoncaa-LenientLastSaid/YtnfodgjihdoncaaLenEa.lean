/- lenient.each as an iterator. -/
import Derived.Test.YtnfodgjihdoncaaLenOw
set_option linter.unusedVariables false
namespace Go.Proofs.Ytnfodgjihdoncaa
open Go.RowKit Go.Shelf
attribute [local go_sem] Oper.semAt_some
theorem below_drw {B : Nat} {a b : World} (h : Below B a b) : Below B a b.drew := ⟨h.os, h.tape, h.output, h.size, h.block⟩
/-- What a round is given. -/
def LArg (pre : List FV) (L : List SRow) (j : Nat) (xs : Array Value) (W : World) : Prop := ∃ f, pre[j]? = some f ∧ xs = #[.agg (fvC f).toArray, specO (ownR L f.num f.w)]
theorem leach_in (m : Nat) (A B : Option Addr) (n c k d : Nat) (w : World) : CallsIn Fence.wide m Try.prog 82 #[.slice A n c, .slice B k d] w fun e w' => e = .returned (.func (.func 108) #[] #[.pointer (some ⟨w.heap.size, 0, none⟩), .pointer (some ⟨w.heap.size + 1, 0, none⟩)]) ∧ w' = (w.alloc (.cells #[.slice A n c] 87)).alloc (.cells #[.slice B k d] 130) := by
  refine callsIn_of_wp Try.func82 rfl trivial ?_ rfl
  simp only [Try.ntmps82, List.size_toArray, List.length_cons, List.length_nil, Nat.reduceAdd, Nat.reduceSub, Array.replicate_succ, Array.replicate_zero, List.push_toArray, List.append_toArray, List.nil_append, List.cons_append]
  gi_wp2
  go_ret
  exact ⟨rfl, rfl⟩
set_option maxRecDepth 100000 in
set_option maxHeartbeats 4000000 in
theorem leach1_in (m : Nat) (hm : 4 ≤ m) (pre : List FV) (L : List SRow) (n nL : Nat) (A AL : Option Addr) (c cL : Nat) (l Bl Bo B0 : Nat) (hn : pre.length = n) (hnL : L.length = nL) (hl : nL ≤ 1000) (J : Nat → Nat → World → Prop) (Jx : Nat → World → Prop) (W : World) (hB0 : W.heap.size = B0)
    (hJc : ∀ b j W, J b j W → Blk W Bl 87 #[.slice A n c] ∧ Blk W Bo 130 #[.slice AL nL cL] ∧ SlN W A n c 5 (pre.flatMap fvC) ∧ SlN W AL nL cL 3 (L.flatMap specC) ∧ B0 ≤ W.heap.size) (h0 : ∀ b W', B0 ≤ b → Below B0 W W' → J b 0 W') (hJn : ∀ b j W W', B0 ≤ b → J b j W → Chg (fun q => B0 ≤ q ∧ q < b) W W' → J b j W')
    (hY : ∀ b j W xs, j < n → B0 ≤ b → b ≤ W.heap.size → J b j W → LArg pre L j xs W → YieldAt Fence.wide (m - 1) Try.prog l xs W fun e W' => (e = .returned (.bool true) ∧ J b (j + 1) W' ∧ KBl B0 b W W' ∧ b ≤ W'.heap.size) ∨ (e = .returned (.bool false) ∧ Jx b W' ∧ KBl B0 b W W' ∧ b ≤ W'.heap.size)) :
    CallsIn Fence.wide m Try.prog 108 #[.func (.yield l) #[] #[], .pointer (some ⟨Bl, 0, none⟩), .pointer (some ⟨Bo, 0, none⟩)] W fun e W' => (∃ v, e = .returned v) ∧ ∃ b, B0 ≤ b ∧ (J b n W' ∨ Jx b W') := by
  have h1 : 1 ≤ m := by omega
  have hj0 := h0 B0 W (Nat.le_refl _) ⟨rfl, rfl, rfl, Nat.le_refl _, fun _ _ => rfl⟩
  obtain ⟨hbl, -, -, -, -⟩ := hJc _ _ _ hj0
  have c0 := hbl.cell 0
  simp only [List.getElem?_toArray, List.getElem?_cons_zero] at c0
  have hblt := hbl.lt
  have hncap := (hJc _ _ _ hj0).2.2.1.cap
  have hnsm := (hJc _ _ _ hj0).2.2.1.small
  have HN := hid hn
  have HNL := hid hnL
  have HY := hid hY
  have HJC := hid hJc
  have HJN := hid hJn
  have HJ0 := hid hj0
  have HZ := hid hB0
  clear hn hnL hY hJc hJn hj0 h0 hB0 hbl
  refine callsIn_of_wp Try.func108 rfl trivial ?_ rfl
  simp only [Try.ntmps108, List.size_toArray, List.length_cons, List.length_nil, Nat.reduceAdd, Nat.reduceSub, Array.replicate_succ, Array.replicate_zero, List.push_toArray, List.append_toArray, List.nil_append, List.cons_append]
  gi_wp2
  gi_loopw [5, 8] (fun _ i wr => ∃ j : Nat, j ≤ n ∧ i = .int .i64 (j : Int) ∧ J B0 j wr) (fun _ i _ => n - (intOf i).toNat)
  case atStart => exact ⟨0, by omega, rfl, HJ0.out⟩
  case round =>
    obtain ⟨j, hj, rfl, hjw⟩ := hrel
    by_cases hlt : j < n
    · have hjl : j < pre.length := by have := HN.out; omega
      have hfd : (wr.alloc (.cells (fvC pre[j]).toArray 95)).heap.size = wr.heap.size + 1 := World.size_alloc ..
      have hjc := HJC.out _ _ _ hjw
      have hca : Chg (fun _ => False) wr (wr.alloc (.cells (fvC pre[j]).toArray 95)) := (Chg.refl _ wr).alloc _
      have hja := HJN.out B0 j wr _ (Nat.le_refl _) hjw (hca.mono fun _ _ h => h.elim)
      have hn0 : (pre.flatMap fvC)[j * 5 + 0]? = _ := flatMap_get fvC 5 pre j 0 hjl (fun _ _ => rfl) (by omega)
      have hn1 : (pre.flatMap fvC)[j * 5 + 1]? = _ := flatMap_get fvC 5 pre j 1 hjl (fun _ _ => rfl) (by omega)
      have hn2 : (pre.flatMap fvC)[j * 5 + 2]? = _ := flatMap_get fvC 5 pre j 2 hjl (fun _ _ => rfl) (by omega)
      have hn3 : (pre.flatMap fvC)[j * 5 + 3]? = _ := flatMap_get fvC 5 pre j 3 hjl (fun _ _ => rfl) (by omega)
      have hn4 : (pre.flatMap fvC)[j * 5 + 4]? = _ := flatMap_get fvC 5 pre j 4 hjl (fun _ _ => rfl) (by omega)
      have hsl := hjc.2.2.1
      obtain ⟨q, off, hA, hqw, t0⟩ := hsl.rd _ _ hn0
      subst hA
      have t1 := hsl.rd.addr _ _ hn1
      have t2 := hsl.rd.addr _ _ hn2
      have t3 := hsl.rd.addr _ _ hn3
      have t4 := hsl.rd.addr _ _ hn4
      rw [addr_add] at t1 t2 t3 t4
      simp only [Nat.add_zero, ← Nat.add_assoc] at t0 t1 t2 t3 t4
      have hji : (j : Int) < (n : Int) := by omega
      have hj0 : (0 : Int) ≤ (j : Int) := by omega
      have hget : pre[j]? = some pre[j] := List.getElem?_eq_getElem hjl
      have hjca := HJC.out _ _ _ hja
      have hjca' : True ∧ B0 ≤ wr.heap.size := ⟨trivial, (HJC.out _ _ _ hjw).2.2.2.2⟩
      have hBoA := hjca.2.1
      have d0 := hBoA.cell 0
      simp only [List.getElem?_toArray, List.getElem?_cons_zero] at d0
      have hBol := hBoA.lt
      have hks := Blk.new wr 95 (fvC pre[j]).toArray
      have how := fun W' (hW : Below (wr.alloc (.cells (fvC pre[j]).toArray 95)).heap.size (wr.alloc (.cells (fvC pre[j]).toArray 95)) W') => lowner_any L nL AL cL pre[j].num pre[j].w pre[j].n pre[j].s.A pre[j].s.xs.length pre[j].s.c pre[j].at_ W' HNL.out hl (hjca.2.2.2.1.below hW)
      generalize pre[j] = f at *
      obtain ⟨fnum, fw, fn, ⟨fA, fc, fxs⟩, fat⟩ := f
      simp only [fvC] at t0 t1 t2 t3 t4 hks how hja hca hjca hBoA d0 hBol hfd
      have HGET := hid hget
      have HOW := hid how
      have HJA := hid hja
      have HCA := hid hca
      clear hn0 hn1 hn2 hn3 hn4 hsl hjc hget how hja hca hjca hjw
      have e0 := hks.cell 0
      have e1 := hks.cell 1
      have e2 := hks.cell 2
      have e3 := hks.cell 3
      have e4 := hks.cell 4
      have hkl := hks.lt
      simp only [List.getElem?_toArray, List.getElem?_cons_zero, List.getElem?_cons_succ] at e0 e1 e2 e3 e4
      clear hks hBoA
      gi_wp2
      have hbwa : B0 ≤ wr.heap.size := by have := hjca'.2; omega
      generalize hwa : (wr.alloc (.cells [Value.int .i64 fnum, .int .u8 fw, .int .u64 (fn : Int), .slice fA fxs.length fc, .int .i64 fat].toArray 95)) = wa at *
      have hfol : Try.prog.follows .mixedOrders = true := by kernel_rfl
      gi_region_with_o (first | (refine ⟨trivial, ?_⟩; gi_at_call 109; refine ((callsIn_wide (n := m - 1)).2 (HOW.out _ (by first | exact Below.refl _ _ | exact below_drw (Below.refl _ _) | exact bw_d (Below.refl _ _) _))).mono ?_; rintro e w2 ⟨rfl, hb2⟩; have hbq : Below wa.heap.size wa w2 := (by first | exact hb2 | exact (below_drw (Below.refl _ wa)).trans hb2); have e0' := (hbq.cell (p := ⟨wr.heap.size, 0, none⟩) hkl).trans e0; have e1' := (hbq.cell (p := ⟨wr.heap.size, 1, none⟩) hkl).trans e1; have e2' := (hbq.cell (p := ⟨wr.heap.size, 2, none⟩) hkl).trans e2; have e3' := (hbq.cell (p := ⟨wr.heap.size, 3, none⟩) hkl).trans e3; have e4' := (hbq.cell (p := ⟨wr.heap.size, 4, none⟩) hkl).trans e4; have hkl' := Nat.lt_of_lt_of_le hkl hbq.size; have hj2 := HJN.out B0 j wa w2 (Nat.le_refl _) HJA.out (Chg.of_new hbq); obtain ⟨fnx, tmps, assign, body, hy, hR⟩ := HY.out B0 j w2 #[.agg #[.int .i64 fnum, .int .u8 fw, .int .u64 (fn : Int), .slice fA fxs.length fc, .int .i64 fat], specO (ownR L fnum fw)] hlt (Nat.le_refl _) (by have := hbq.size; omega) hj2 ⟨_, HGET.out, rfl⟩; have HR := hid hR; clear hR hj2 hbq hb2) | (refine HR.out.mono ?_; rintro e w6 hw6; obtain ⟨bb, rfl, hw7⟩ : ∃ bb, e = .returned (.bool bb) ∧ ((bb = true ∧ J B0 (j + 1) w6) ∨ (bb = false ∧ Jx B0 w6)) := (by rcases hw6 with ⟨h1, h2, -⟩ | ⟨h1, h2, -⟩; exact ⟨true, h1, .inl ⟨rfl, h2⟩⟩; exact ⟨false, h1, .inr ⟨rfl, h2⟩⟩); clear hw6))
      all_goals
        rcases hw7 with ⟨rfl, hj6⟩ | ⟨rfl, hx6⟩
        · have HJ6 := hid hj6
          clear hj6
          gi_wp2
          go_roundw
          case rel => exact ⟨j + 1, by omega, by go_num, HJ6.out⟩
          case measure => simp [intOf]; omega
        · have HX6 := hid hx6
          clear hx6
          gi_wp2
          first | exact bodyPost_ret (results_none rfl _ _ _) rfl ⟨⟨_, rfl⟩, B0, Nat.le_refl _, .inr HX6.out⟩ | exact bodyPost_end (results_none rfl _ _ _) rfl ⟨⟨_, rfl⟩, B0, Nat.le_refl _, .inr HX6.out⟩ | exact ⟨⟨_, rfl⟩, B0, Nat.le_refl _, .inr HX6.out⟩ | trace_state
    · obtain rfl : j = n := by omega
      have HJ6 := hid hjw
      clear hjw
      gi_wp2
      first | exact bodyPost_ret (results_none rfl _ _ _) rfl ⟨⟨_, rfl⟩, B0, Nat.le_refl _, .inl HJ6.out⟩ | exact bodyPost_end (results_none rfl _ _ _) rfl ⟨⟨_, rfl⟩, B0, Nat.le_refl _, .inl HJ6.out⟩ | exact ⟨⟨_, rfl⟩, B0, Nat.le_refl _, .inl HJ6.out⟩ | trace_state
end Go.Proofs.Ytnfodgjihdoncaa
