/- line.Join of any lines: a walk. -/
import Derived.Test.YtihkjopplmdkkaaDoorLnH
set_option linter.unusedVariables false
namespace Go.Proofs.YtihkjopplmdkkaaDoor
open Go.RowKit
/-- A line of whatever numbers. -/
def lcI (r : Int × Int × List UInt8) : List Value := [.int .i64 r.1, .int .i64 r.2.1, .string ⟨r.2.2.toArray⟩]
def jLi (r : Int × Int × List UInt8) : List UInt8 := List.replicate (min (max r.2.1 0) 100).toNat 32 ++ r.2.2 ++ [10]
def jnI (X : List (Int × Int × List UInt8)) : List UInt8 := X.flatMap jLi
theorem jnI_take {X : List (Int × Int × List UInt8)} {k : Nat} (hk : k < X.length) : jnI (X.take (k + 1)) = jnI (X.take k) ++ jLi X[k] := by
  unfold jnI
  rw [List.take_succ_eq_append_getElem hk, List.flatMap_append]; simp
theorem jnI_len {X : List (Int × Int × List UInt8)} (hX : ∀ r ∈ X, r.2.2.length ≤ 1000000) (k : Nat) (hk : k ≤ X.length) : (jnI (X.take k)).length ≤ k * 1000101 := by
  induction k with
  | zero => simp [jnI]
  | succ k ih =>
    rw [jnI_take (by omega), List.length_append]
    have := ih (by omega)
    have h2 := hX X[k] (List.getElem_mem _)
    have : (jLi X[k]).length = (min (max X[k].2.1 0) 100).toNat + X[k].2.2.length + 1 := by simp [jLi]; omega
    omega
set_option maxRecDepth 100000 in
set_option maxHeartbeats 4000000 in
theorem ljoinI_any (X : List (Int × Int × List UInt8)) (n : Nat) (A : Option Addr) (c : Nat) (w : World) (hn : X.length = n) (hl : n ≤ 1000000) (hX : ∀ r ∈ X, r.2.2.length ≤ 1000000) (hat : ∀ k, (hk : k < X.length) → ∃ g o, A = some ⟨g, o, none⟩ ∧ g < w.heap.size ∧ w.cell? ⟨g, o + k * 3, none⟩ = some (.int .i64 X[k].1) ∧ w.cell? ⟨g, o + k * 3 + 1, none⟩ = some (.int .i64 X[k].2.1) ∧ w.cell? ⟨g, o + k * 3 + 2, none⟩ = some (.string ⟨X[k].2.2.toArray⟩)) :
    Calls Tryd.prog 19 #[.slice A n c] w fun e w' => ∃ t : ByteArray, e = .returned (.string t) ∧ t.data.toList = jnI X ∧ Below w.heap.size w w' := by
  obtain ⟨s, hsz⟩ : ∃ s, w.heap.size = s := ⟨_, rfl⟩
  have HN := hid hn
  have HA := hid hat
  have HX := hid hX
  have HSZ := hid hsz
  have HJL := hid (fun k hk => jnI_len hX k hk)
  have hb0 := bw_a (Below.refl _ w) (.cells #[.pointer none, .slice none 0 0] 62)
  have hbd : Lib.IsBuilderF 62 5 s s (Lib.byteCells (jnI (X.take 0))) (w.alloc (.cells #[.pointer none, .slice none 0 0] 62)) := .inl ⟨Nat.le_refl _, .slice none 0 0, by rw [← hsz]; exact World.alloc_heap_new w _, by simp [jnI, Lib.byteCells]; exact World.ownsRowF_nil _ _ _ _, fun h => by cases h⟩
  have HB0 := hid hb0
  have HBD := hid hbd
  clear hn hat hX hb0 hbd
  go_enter Tryd.func19, Tryd.ntmps19
  go_wp2_with fail
  go_loopw [8] (fun i wr => ∃ k : Nat, k ≤ n ∧ i = .int .i64 (k : Int) ∧ Lib.IsBuilderF 62 5 s s (Lib.byteCells (jnI (X.take k))) wr ∧ Below w.heap.size w wr ∧ s + 1 ≤ wr.heap.size) (fun i _ => n - (intOf i).toNat)
  case atStart => exact ⟨0, by omega, rfl, HBD.out, HB0.out, by simp; omega⟩
  case round =>
    obtain ⟨k, hk, rfl, hbd, hbe, hsz1⟩ := hrel
    have HBD := hid hbd
    have HBE := hid hbe
    by_cases hlt : k < n
    · have hkl : k < X.length := by have := HN.out; omega
      obtain ⟨g, o, rfl, hg, s0', s1', s2'⟩ := HA.out k hkl
      have s0 := (hbe.cell (p := ⟨g, o + k * 3, none⟩) hg).trans s0'
      have s1 := (hbe.cell (p := ⟨g, o + k * 3 + 1, none⟩) hg).trans s1'
      have s2 := (hbe.cell (p := ⟨g, o + k * 3 + 2, none⟩) hg).trans s2'
      clear hbd hbe s0' s1' s2'
      have hxk := HX.out _ (List.getElem_mem hkl)
      have htk := jnI_take hkl
      have hjl := HJL.out k (by omega)
      generalize X[k] = f at *
      obtain ⟨fn, fc, ft⟩ := f
      simp only at s0 s1 s2 hxk
      have hxd : (⟨ft.toArray⟩ : ByteArray).data.toList = ft := by simp
      have hxz : (⟨ft.toArray⟩ : ByteArray).size = ft.length := by rw [Lib.size_eq, hxd]
      have hki : (k : Int) < (n : Int) := by omega
      have hk0 : (0 : Int) ≤ (k : Int) := by omega
      have HTK := hid htk
      clear htk hxd hkl
      obtain ⟨m, hm⟩ : ∃ m : Nat, (min (max fc 0) 100).toNat = m := ⟨_, rfl⟩
      have hm2 : (min (max fc 0) 100) = (m : Int) := by omega
      have hm3 : m ≤ 100 := by omega
      have hfl : ft.length ≤ 1000000 := hxk
      have HXZ := hid hxz
      have heq : Lib.byteCells (jnI (X.take k)) ++ Lib.strCells ⟨(List.replicate m 32).toArray⟩ ++ Lib.strCells ⟨ft.toArray⟩ ++ [.int .u8 10] = Lib.byteCells (jnI (X.take (k + 1))) := by rw [HTK.out, strC, strC]; unfold jLi; simp only; rw [hm]; simp [byteC_app]; rfl
      have HEQ := hid heq
      have hbl : (Lib.byteCells (jnI (X.take k))).length ≤ 1000101000000 := by rw [Lib.byteCells_length]; omega
      have hbl2 : (Lib.byteCells (jnI (X.take k)) ++ Lib.strCells ⟨(List.replicate m 32).toArray⟩).length ≤ 1000101000100 := by rw [List.length_append, strC, Lib.byteCells_length (List.replicate _ _), List.length_replicate]; omega
      have hbl3 : (Lib.byteCells (jnI (X.take k)) ++ Lib.strCells ⟨(List.replicate m 32).toArray⟩ ++ Lib.strCells ⟨ft.toArray⟩).length ≤ 1000102000100 := by rw [List.length_append, strC ft, Lib.byteCells_length ft]; omega
      have hrs : (⟨(List.replicate m 32).toArray⟩ : ByteArray).size ≤ 100 := by rw [Lib.size_eq]; simp; omega
      have HHS := hid (And.intro hbl (And.intro hbl2 (And.intro hbl3 hrs)))
      have HM := hid hm2
      clear heq hbl hbl2 hbl3 hrs hjl hxz hm hm2
      go_wp2_with fail
      rw [HM.out]
      refine (Tryd.j_Repeat ⟨#[32]⟩ m _ (by omega) (by show 1 * _ ≤ _; omega)).mono ?_
      rintro e w2 ⟨rfl, hb2⟩
      rw [show (⟨#[32]⟩ : ByteArray).data.toList = [32] from rfl, repL]
      have hk1 := (Blk.new wr 39 #[.int .i64 fn, .int .i64 fc, .string ⟨ft.toArray⟩]).below hb2 (by rw [World.size_alloc]; omega)
      have hbd2 := bld_below (HBD.out.alloc _) hb2
      have hb2' : Below w.heap.size w w2 := HBE.out.trans ((bw_a (Below.refl _ wr) (.cells #[.int .i64 fn, .int .i64 fc, .string ⟨ft.toArray⟩] 39)).mono (by omega) |>.trans (hb2.mono (by rw [World.size_alloc]; omega)))
      have hs2 : s + 1 ≤ w2.heap.size := by have := hb2.size; rw [World.size_alloc] at this; omega
      generalize hq : wr.heap.size = q at *
      have HB2 := hid hb2'
      have HK1 := hid hk1
      have HBD2 := hid hbd2
      clear hk1 hbd2 hb2 hb2' s0 s1 s2
      go_wp2_with fail
      refine (Tryd.j_WriteString s s (Lib.byteCells (jnI (X.take k))) ⟨(List.replicate m 32).toArray⟩ w2 HBD2.out (by have := HHS.out; omega) (by omega)).mono ?_
      rintro e w3 ⟨rfl, hbd3, hb3, hok3⟩
      have hk3 : Blk w3 q 39 #[.int .i64 fn, .int .i64 fc, .string ⟨ft.toArray⟩] := hok3 _ _ HK1.out (fun h => by injection h with h; omega) (fun c fz h => by injection h with _ h; exact absurd h (by decide))
      have d2 := hk3.cell 2
      simp only [List.getElem?_toArray, List.getElem?_cons_zero, List.getElem?_cons_succ] at d2
      have hs3 : s + 1 ≤ w3.heap.size := by have := hb3.size; omega
      have HB3 := hid hb3
      have HBD3 := hid hbd3
      clear hbd3 hb3 hok3 hk3
      go_wp2_with fail
      refine (Tryd.j_WriteString s s (Lib.byteCells (jnI (X.take k)) ++ Lib.strCells ⟨(List.replicate m 32).toArray⟩) ⟨ft.toArray⟩ w3 (.inr HBD3.out) (by have := HHS.out; have := HXZ.out; omega) (by omega)).mono ?_
      rintro e w4 ⟨rfl, hbd4, hb4, -⟩
      have hs4 : s + 1 ≤ w4.heap.size := by have := hb4.size; omega
      have HB4 := hid hb4
      have HBD4 := hid hbd4
      clear hbd4 hb4 d2
      go_wp2_with fail
      refine (Tryd.j_WriteByte s s (Lib.byteCells (jnI (X.take k)) ++ Lib.strCells ⟨(List.replicate m 32).toArray⟩ ++ Lib.strCells ⟨ft.toArray⟩) 10 w4 (.inr HBD4.out) (by have := HHS.out; omega) (by omega)).mono ?_
      rintro e w5 ⟨rfl, hbd5, hb5, -⟩
      have hs5 : s + 1 ≤ w5.heap.size := by have := hb5.size; omega
      have HB5 := hid hb5
      have HBD5 := hid hbd5
      clear hbd5 hb5
      go_wp2_with fail
      go_roundw
      case rel =>
        refine ⟨k + 1, by omega, by go_num, .inr ?_, ?_, hs5⟩
        · rw [← HEQ.out]; exact HBD5.out
        · have h1 := HB2.out
          rw [HSZ.out] at h1 ⊢
          exact ((h1.trans HB3.out).trans HB4.out).trans HB5.out
      case measure => simp [intOf] <;> omega
    · obtain rfl : k = n := by omega
      clear hbd hbe
      rw [List.take_of_length_le (by have := HN.out; omega)] at HBD
      go_wp2_with fail
      refine (Tryd.j_String s s (jnI X) _ HBD.out (by omega)).mono ?_
      rintro e w2 ⟨rfl, -, hb2, -⟩
      have HB2 := hid hb2
      clear hb2
      go_wp2_with fail
      go_ret
      refine ⟨_, rfl, by simp, ?_⟩
      have h1 := HBE.out
      rw [HSZ.out] at h1 ⊢
      exact h1.trans HB2.out
end Go.Proofs.YtihkjopplmdkkaaDoor
