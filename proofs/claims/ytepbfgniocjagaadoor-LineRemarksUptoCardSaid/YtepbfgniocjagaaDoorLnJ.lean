/- line.Join: a walk. -/
import Derived.Test.YtepbfgniocjagaaDoorLnE
import Derived.Test.YtepbfgniocjagaaDoorLnShelf
set_option linter.unusedVariables false
namespace Go.Proofs.YtepbfgniocjagaaDoor
open Go.RowKit
theorem bld_below {T e : TypeId} {B b : Nat} {bs : List Value} {w w' : World} (h : Lib.IsBuilderF T e B b bs w) (hb : Below w.heap.size w w') : Lib.IsBuilderF T e B b bs w' := by
  have key : ∀ p, Lib.BuilderAtF T e B b p bs w → Lib.BuilderAtF T e B b p bs w' := fun p h => by
    have hl := h.lt
    obtain ⟨hB, v, hk, hown, hne⟩ := h
    exact ⟨hB, v, (hb.block b hl).trans hk, hown.kept (row := none) ⟨hb.os, hb.tape, hb.output, hb.size, fun k hk _ => hb.block k hk⟩ (by cases hv : v.ownBlock <;> simp), hne⟩
  exact h.imp (key _) (key _)
/-- A line, as it is put. -/
def jLn (r : Nat × Nat × List UInt8) : List UInt8 := List.replicate (min r.2.1 100) 32 ++ r.2.2 ++ [10]
def jnL (X : List (Nat × Nat × List UInt8)) : List UInt8 := X.flatMap jLn
theorem jnL_take {X : List (Nat × Nat × List UInt8)} {k : Nat} (hk : k < X.length) : jnL (X.take (k + 1)) = jnL (X.take k) ++ jLn X[k] := by
  unfold jnL
  rw [List.take_succ_eq_append_getElem hk, List.flatMap_append]; simp
theorem jnL_len {X : List (Nat × Nat × List UInt8)} (hX : ∀ r ∈ X, r.2.2.length ≤ 1000000) (k : Nat) (hk : k ≤ X.length) : (jnL (X.take k)).length ≤ k * 1000101 := by
  induction k with
  | zero => simp [jnL]
  | succ k ih =>
    rw [jnL_take (by omega), List.length_append]
    have := ih (by omega)
    have h2 := hX X[k] (List.getElem_mem _)
    have : (jLn X[k]).length = min X[k].2.1 100 + X[k].2.2.length + 1 := by simp [jLn]; omega
    omega
theorem repL (c : Nat) : Lib.repeatL [32] c = List.replicate c 32 := by
  induction c with
  | zero => rfl
  | succ c ih => rw [Lib.repeatL, ih]; rfl
theorem byteC_app (a b : List UInt8) : Lib.byteCells (a ++ b) = Lib.byteCells a ++ Lib.byteCells b := by simp [Lib.byteCells]
theorem strC (l : List UInt8) : Lib.strCells ⟨l.toArray⟩ = Lib.byteCells l := by simp [Lib.strCells, Lib.byteCells]
set_option maxRecDepth 100000 in
set_option maxHeartbeats 4000000 in
theorem ljoin_any (X : List (Nat × Nat × List UInt8)) (n : Nat) (A : Option Addr) (c B1 : Nat) (w : World) (hn : X.length = n) (hl : n ≤ 1000000) (hX : ∀ r ∈ X, r.2.2.length ≤ 1000000 ∧ r.2.1 ≤ 1000000) (hA : w.ownsRow B1 35 3 (.slice A n c) n (X.flatMap lcC)) :
    Calls Tryd.prog 21 #[.slice A n c] w fun e w' => ∃ t : ByteArray, e = .returned (.string t) ∧ t.data.toList = jnL X ∧ Below w.heap.size w w' := by
  obtain ⟨s, hsz⟩ : ∃ s, w.heap.size = s := ⟨_, rfl⟩
  have HN := hid hn
  have HA := hid hA
  have HX := hid hX
  have HSZ := hid hsz
  have HJL := hid (fun k hk => jnL_len (fun r hr => (hX r hr).1) k hk)
  have hb0 := bw_a (Below.refl _ w) (.cells #[.pointer none, .slice none 0 0] 80)
  have hbd : Lib.IsBuilderF 80 5 s s (Lib.byteCells (jnL (X.take 0))) (w.alloc (.cells #[.pointer none, .slice none 0 0] 80)) := .inl ⟨Nat.le_refl _, .slice none 0 0, by rw [← hsz]; exact World.alloc_heap_new w _, by simp [jnL, Lib.byteCells]; exact World.ownsRowF_nil _ _ _ _, fun h => by cases h⟩
  have HB0 := hid hb0
  have HBD := hid hbd
  clear hn hA hX hb0 hbd
  go_enter Tryd.func21, Tryd.ntmps21
  go_wp2_with fail
  go_loopw [8] (fun i wr => ∃ k : Nat, k ≤ n ∧ i = .int .i64 (k : Int) ∧ Lib.IsBuilderF 80 5 s s (Lib.byteCells (jnL (X.take k))) wr ∧ Below w.heap.size w wr ∧ s + 1 ≤ wr.heap.size) (fun i _ => n - (intOf i).toNat)
  case atStart => exact ⟨0, by omega, rfl, HBD.out, HB0.out, by simp; omega⟩
  case round =>
    obtain ⟨k, hk, rfl, hbd, hbe, hsz1⟩ := hrel
    have HBD := hid hbd
    have HBE := hid hbe
    clear hbd hbe
    by_cases hlt : k < n
    · have hkl : k < X.length := by have := HN.out; omega
      obtain ⟨g, o, rfl, hg, -, s0, s1, s2⟩ := row3_at (own_below HA.out HBE.out) HN.out k hkl
      have hxk := HX.out _ (List.getElem_mem hkl)
      have htk := jnL_take hkl
      have hjl := HJL.out k (by omega)
      generalize X[k] = f at *
      obtain ⟨fn, fc, ft⟩ := f
      simp only at s0 s1 s2 hxk
      have hxd : (⟨ft.toArray⟩ : ByteArray).data.toList = ft := by simp
      have hxz : (⟨ft.toArray⟩ : ByteArray).size = ft.length := by rw [Lib.size_eq, hxd]
      have hki : (k : Int) < (n : Int) := by omega
      have hk0 : (0 : Int) ≤ (k : Int) := by omega
      have HTK := hid htk
      clear htk hxd hkl
      have hfl : ft.length ≤ 1000000 := hxk.1
      have HXZ := hid hxz
      have heq : Lib.byteCells (jnL (X.take k)) ++ Lib.strCells ⟨(List.replicate (min fc 100) 32).toArray⟩ ++ Lib.strCells ⟨ft.toArray⟩ ++ [.int .u8 10] = Lib.byteCells (jnL (X.take (k + 1))) := by rw [HTK.out, strC, strC]; unfold jLn; simp [byteC_app]; rfl
      have HEQ := hid heq
      have hbl : (Lib.byteCells (jnL (X.take k))).length ≤ 1000101000000 := by rw [Lib.byteCells_length]; omega
      have hbl2 : (Lib.byteCells (jnL (X.take k)) ++ Lib.strCells ⟨(List.replicate (min fc 100) 32).toArray⟩).length ≤ 1000101000100 := by rw [List.length_append, strC, Lib.byteCells_length (List.replicate _ _), List.length_replicate]; omega
      have hbl3 : (Lib.byteCells (jnL (X.take k)) ++ Lib.strCells ⟨(List.replicate (min fc 100) 32).toArray⟩ ++ Lib.strCells ⟨ft.toArray⟩).length ≤ 1000102000100 := by rw [List.length_append, strC ft, Lib.byteCells_length ft]; omega
      have hrs : (⟨(List.replicate (min fc 100) 32).toArray⟩ : ByteArray).size ≤ 100 := by rw [Lib.size_eq]; simp; omega
      have HHS := hid (And.intro hbl (And.intro hbl2 (And.intro hbl3 hrs)))
      clear heq hbl hbl2 hbl3 hrs hjl hxz
      go_wp2_with fail
      rw [show (min (fc : Int) 100) = ((min fc 100 : Nat) : Int) from by omega]
      refine (Tryd.j_Repeat ⟨#[32]⟩ (min fc 100) _ (by omega) (by show 1 * _ ≤ _; omega)).mono ?_
      rintro e w2 ⟨rfl, hb2⟩
      rw [show (⟨#[32]⟩ : ByteArray).data.toList = [32] from rfl, repL]
      have hk1 := (Blk.new wr 35 #[.int .i64 (fn : Int), .int .i64 (fc : Int), .string ⟨ft.toArray⟩]).below hb2 (by rw [World.size_alloc]; omega)
      have hbd2 := bld_below (HBD.out.alloc _) hb2
      have hb2' : Below w.heap.size w w2 := HBE.out.trans ((bw_a (Below.refl _ wr) (.cells #[.int .i64 (fn : Int), .int .i64 (fc : Int), .string ⟨ft.toArray⟩] 35)).mono (by omega) |>.trans (hb2.mono (by rw [World.size_alloc]; omega)))
      have hs2 : s + 1 ≤ w2.heap.size := by have := hb2.size; rw [World.size_alloc] at this; omega
      generalize hq : wr.heap.size = q at *
      have HB2 := hid hb2'
      have HK1 := hid hk1
      have HBD2 := hid hbd2
      clear hk1 hbd2 hb2 hb2' s0 s1 s2
      go_wp2_with fail
      refine (Tryd.j_WriteString s s (Lib.byteCells (jnL (X.take k))) ⟨(List.replicate (min fc 100) 32).toArray⟩ w2 HBD2.out (by have := HHS.out; omega) (by omega)).mono ?_
      rintro e w3 ⟨rfl, hbd3, hb3, hok3⟩
      have hk3 : Blk w3 q 35 #[.int .i64 (fn : Int), .int .i64 (fc : Int), .string ⟨ft.toArray⟩] := hok3 _ _ HK1.out (fun h => by injection h with h; omega) (fun c fz h => by injection h with _ h; exact absurd h (by decide))
      have d2 := hk3.cell 2
      simp only [List.getElem?_toArray, List.getElem?_cons_zero, List.getElem?_cons_succ] at d2
      have hs3 : s + 1 ≤ w3.heap.size := by have := hb3.size; omega
      have HB3 := hid hb3
      have HBD3 := hid hbd3
      clear hbd3 hb3 hok3 hk3
      go_wp2_with fail
      refine (Tryd.j_WriteString s s (Lib.byteCells (jnL (X.take k)) ++ Lib.strCells ⟨(List.replicate (min fc 100) 32).toArray⟩) ⟨ft.toArray⟩ w3 (.inr HBD3.out) (by have := HHS.out; have := HXZ.out; omega) (by omega)).mono ?_
      rintro e w4 ⟨rfl, hbd4, hb4, -⟩
      have hs4 : s + 1 ≤ w4.heap.size := by have := hb4.size; omega
      have HB4 := hid hb4
      have HBD4 := hid hbd4
      clear hbd4 hb4 d2
      go_wp2_with fail
      refine (Tryd.j_WriteByte s s (Lib.byteCells (jnL (X.take k)) ++ Lib.strCells ⟨(List.replicate (min fc 100) 32).toArray⟩ ++ Lib.strCells ⟨ft.toArray⟩) 10 w4 (.inr HBD4.out) (by have := HHS.out; omega) (by omega)).mono ?_
      rintro e w5 ⟨rfl, hbd5, hb5, -⟩
      have hs5 : s + 1 ≤ w5.heap.size := by have := hb5.size; omega
      have HB5 := hid hb5
      have HBD5 := hid hbd5
      clear hbd5 hb5
      go_wp2_with fail
      go_roundw
      case rel =>
        refine ⟨k + 1, by omega, by go_num, .inr ?_, ?_, hs5⟩
        · rw [← HEQ.out]; exact HBD5.out
        · have h1 := HB2.out
          rw [HSZ.out] at h1 ⊢
          exact ((h1.trans HB3.out).trans HB4.out).trans HB5.out
      case measure => simp [intOf] <;> omega
    · obtain rfl : k = n := by omega
      rw [List.take_of_length_le (by have := HN.out; omega)] at HBD
      go_wp2_with fail
      refine (Tryd.j_String s s (jnL X) _ HBD.out (by omega)).mono ?_
      rintro e w2 ⟨rfl, -, hb2, -⟩
      have HB2 := hid hb2
      clear hb2
      go_wp2_with fail
      go_ret
      refine ⟨_, rfl, by simp, ?_⟩
      have h1 := HBE.out
      rw [HSZ.out] at h1 ⊢
      exact h1.trans HB2.out
end Go.Proofs.YtepbfgniocjagaaDoor
