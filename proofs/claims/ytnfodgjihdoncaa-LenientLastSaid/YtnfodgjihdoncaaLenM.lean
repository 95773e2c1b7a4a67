/- Reading a message: mathematics. -/
import Derived.Test.YtnfodgjihdoncaaLenSet
set_option linter.unusedVariables false
namespace Go.Proofs.Ytnfodgjihdoncaa
open Go.RowKit
theorem alloc4 {w W : World} {s : Nat} {o0 o1 o2 : Obj} {C : Array Value} {t : TypeId} (h : (((w.alloc o0).alloc o1).alloc o2).alloc (.cells C t) = W) (hs : w.heap.size = s) : Blk W (s + 1 + 1 + 1) t C ∧ Below s w W := by
  subst h
  refine ⟨?_, by rw [← hs]; exact bw_a (bw_a (bw_a (bw_a (Below.refl _ w) _) _) _) _⟩
  have h1 := Blk.new (((w.alloc o0).alloc o1).alloc o2) t C
  rw [World.size_alloc, World.size_alloc, World.size_alloc, hs] at h1
  exact h1
/-- Four boxes. -/
theorem bx4 {w : World} {s : Nat} (hws : w.heap.size = s) (C0 C1 C2 C3 : Array Value) (t0 t1 t2 t3 : TypeId) : Blk ((((w.alloc (.cells C0 t0)).alloc (.cells C1 t1)).alloc (.cells C2 t2)).alloc (.cells C3 t3)) (s) t0 C0 ∧ Blk ((((w.alloc (.cells C0 t0)).alloc (.cells C1 t1)).alloc (.cells C2 t2)).alloc (.cells C3 t3)) (s + 1) t1 C1 ∧ Blk ((((w.alloc (.cells C0 t0)).alloc (.cells C1 t1)).alloc (.cells C2 t2)).alloc (.cells C3 t3)) (s + 1 + 1) t2 C2 ∧ Blk ((((w.alloc (.cells C0 t0)).alloc (.cells C1 t1)).alloc (.cells C2 t2)).alloc (.cells C3 t3)) (s + 1 + 1 + 1) t3 C3 ∧ Below s w ((((w.alloc (.cells C0 t0)).alloc (.cells C1 t1)).alloc (.cells C2 t2)).alloc (.cells C3 t3)) := by
  subst hws
  refine ⟨(((Blk.new w t0 C0).alloc _).alloc _).alloc _, ?_, ?_, ?_, bw_a (bw_a (bw_a (bw_a (Below.refl _ w) _) _) _) _⟩
  · have h := ((Blk.new (w.alloc (.cells C0 t0)) t1 C1).alloc (.cells C2 t2)).alloc (.cells C3 t3)
    rw [World.size_alloc] at h; exact h
  · have h := (Blk.new ((w.alloc (.cells C0 t0)).alloc (.cells C1 t1)) t2 C2).alloc (.cells C3 t3)
    rw [World.size_alloc, World.size_alloc] at h; exact h
  · have h := Blk.new (((w.alloc (.cells C0 t0)).alloc (.cells C1 t1)).alloc (.cells C2 t2)) t3 C3
    rw [World.size_alloc, World.size_alloc, World.size_alloc] at h; exact h
/-- The row to which a field of bytes belongs. -/
def ownR (L : List SRow) (num w : Int) : Option SRow := L.find? fun r => decide ((r.num : Int) = num) && decide (((wireN (r.typ : Int) : Nat) : Int) = w)
/-- A field's bytes as a string. -/
def rfS (f : RF × Nat) : ByteArray := ⟨f.1.xs.toArray⟩
/-- A message behind fields: the message and the fields that belong to none, or what is wrong, and where. -/
def decF (L : List SRow) : MV → List (RF × Nat) → MV × List (RF × Nat) × Int × Nat
  | M, [] => (M, [], 0, 0)
  | M, f :: fs => match ownR L f.1.num f.1.w with
    | none => ((decF L M fs).1, f :: (decF L M fs).2.1, (decF L M fs).2.2)
    | some r => if setE M (r.typ : Int) (r.slot : Int) (rfS f) = 0 then decF L (setM M (r.typ : Int) (r.slot : Int) f.1.n (rfS f)) fs else (ZM, [], setE M (r.typ : Int) (r.slot : Int) (rfS f), f.2)
theorem decF_none {L : List SRow} {M : MV} {f : RF × Nat} {fs : List (RF × Nat)} (h : ownR L f.1.num f.1.w = none) : decF L M (f :: fs) = ((decF L M fs).1, f :: (decF L M fs).2.1, (decF L M fs).2.2) := by
  rw [decF, h]
theorem decF_ok {L : List SRow} {M : MV} {f : RF × Nat} {fs : List (RF × Nat)} {r : SRow} (h : ownR L f.1.num f.1.w = some r) (he : setE M (r.typ : Int) (r.slot : Int) (rfS f) = 0) : decF L M (f :: fs) = decF L (setM M (r.typ : Int) (r.slot : Int) f.1.n (rfS f)) fs := by
  rw [decF, h]; simp only; rw [if_pos he]
theorem decF_bad {L : List SRow} {M : MV} {f : RF × Nat} {fs : List (RF × Nat)} {r : SRow} (h : ownR L f.1.num f.1.w = some r) (he : setE M (r.typ : Int) (r.slot : Int) (rfS f) ≠ 0) : decF L M (f :: fs) = (ZM, [], setE M (r.typ : Int) (r.slot : Int) (rfS f), f.2) := by
  rw [decF, h]; simp only; rw [if_neg he]
/-- A message without where its list lies. -/
def MV.z (m : MV) : MV := { m with A := none, c := 0 }
theorem setE_z (m : MV) (A : Option Addr) (c : Nat) (t i : Int) (s : ByteArray) : setE { m with A := A, c := c } t i s = setE m t i s := rfl
theorem setM_z (m : MV) (t i : Int) (n : Nat) (s : ByteArray) (he : setE m t i s = 0) (A : Option Addr) (c : Nat) : setM { m with A := A, c := c } t i n s = { setM m t i n s with A := A, c := c } := by
  by_cases h6 : t ≤ 6
  · have e1 : setM { m with A := A, c := c } t i n s = ({ m with A := A, c := c } : MV).setN i (numV t n) := by unfold setM; rw [setE_z, he, if_neg (by simp), if_pos h6]
    have e2 : setM m t i n s = m.setN i (numV t n) := by unfold setM; rw [he, if_neg (by simp), if_pos h6]
    rw [e1, e2]; rfl
  · by_cases h9 : t ≤ 9
    · have e1 : setM { m with A := A, c := c } t i n s = ({ m with A := A, c := c } : MV).setS i s := by unfold setM; rw [setE_z, he, if_neg (by simp), if_neg h6, if_pos h9]
      have e2 : setM m t i n s = m.setS i s := by unfold setM; rw [he, if_neg (by simp), if_neg h6, if_pos h9]
      rw [e1, e2]; rfl
    · have e1 : setM { m with A := A, c := c } t i n s = { m with A := A, c := c, l := m.l ++ [s] } := by unfold setM; rw [setE_z, he, if_neg (by simp), if_neg h6, if_neg h9]
      have e2 : setM m t i n s = { m with l := m.l ++ [s] } := by unfold setM; rw [he, if_neg (by simp), if_neg h6, if_neg h9]
      rw [e1, e2]
theorem setM_zz (m : MV) (t i : Int) (n : Nat) (s : ByteArray) (hm : m.A = none ∧ m.c = 0) : (setM m t i n s).A = none ∧ (setM m t i n s).c = 0 := by
  unfold setM
  split
  · exact ⟨rfl, rfl⟩
  · split
    · exact hm
    · split <;> exact hm
/-- Setting makes a list longer by one at most. -/
theorem setM_len (m : MV) (t i : Int) (n : Nat) (s : ByteArray) (hl : m.l.length ≤ 64) : (setM m t i n s).l.length ≤ 64 := by
  unfold setM
  split
  · simp [ZM]
  · rename_i he
    split
    · exact hl
    · split
      · exact hl
      · rename_i h1 h2
        simp only [List.length_append, List.length_cons, List.length_nil]
        unfold setE at he
        by_cases hp : plB t i = false
        · rw [if_pos hp] at he; simp at he
        · rw [if_neg hp, if_neg h1, if_neg h2] at he
          by_cases h64 : 64 ≤ m.l.length
          · rw [if_pos h64] at he; simp at he
          · omega
theorem find_and {α : Type} (p q : α → Bool) (L : List α) (hu : ∀ a ∈ L, ∀ b ∈ L, p a = true → p b = true → a = b) : L.find? (fun a => p a && q a) = match L.find? p with | some r => if q r then some r else none | none => none := by
  induction L with
  | nil => rfl
  | cons x L ih =>
    have ih := ih (fun a ha b hb => hu a (List.mem_cons_of_mem _ ha) b (List.mem_cons_of_mem _ hb))
    rw [List.find?_cons, List.find?_cons]
    cases hp : p x
    · simp only [Bool.false_and]; exact ih
    · cases hq : q x
      · simp only [Bool.and_false]
        rw [hq]
        simp only [Bool.false_eq_true, if_false]
        rw [List.find?_eq_none]
        intro a ha h
        simp only [Bool.and_eq_true] at h
        have := hu a (List.mem_cons_of_mem _ ha) x (List.mem_cons_self ..) h.1 hp
        subst this
        rw [hq] at h; exact absurd h.2 (by simp)
      · simp [hq]
theorem rows_uni : ∀ a ∈ ROWS, ∀ b ∈ ROWS, a.kind = b.kind → a.num = b.num → a = b := by decide +kernel
theorem rows_wire : ∀ a ∈ ROWS, wireN (a.typ : Int) = wireD (a.typ : Int) := by decide +kernel
/-- To which row a field belongs: the one of its number, if its wire type is that of the row. -/
theorem ownR_fin (k v num w : Int) : ownR (ofL k v) num w = match finS k v num with | some r => if decide (((wireD (r.typ : Int) : Nat) : Int) = w) then some r else none | none => none := by
  have h1 : ownR (ofL k v) num w = (kn v).find? (fun r => pF k num r && decide (((wireN (r.typ : Int) : Nat) : Int) = w)) := by
    unfold ownR ofL
    rw [List.find?_filter]
    congr 1
    funext r
    unfold pF
    by_cases a : (r.kind : Int) = k <;> by_cases b : (r.num : Int) = num <;> simp [a, b]
  rw [h1, find_and (pF k num) (fun r => decide (((wireN (r.typ : Int) : Nat) : Int) = w)) (kn v) (by
    intro a ha b hb h2 h3
    unfold pF at h2 h3
    simp only [decide_eq_true_eq] at h2 h3
    exact rows_uni a (kn_mem v ha) b (kn_mem v hb) (by omega) (by omega))]
  have hf : finS k v num = (kn v).find? (pF k num) := rfl
  rw [hf]
  cases hq : (kn v).find? (pF k num) with
  | none => rfl
  | some r =>
    simp only
    rw [rows_wire r (kn_mem v (List.mem_of_find?_eq_some hq))]
end Go.Proofs.Ytnfodgjihdoncaa
