/- Arguments opened: a message, a field's Spec. -/
import Derived.Test.YtnfodgjihdoncaaV1
import Derived.Test.YtnfodgjihdoncaaM3
set_option linter.unusedVariables false
namespace Go.Proofs.Ytnfodgjihdoncaa
open Go.ChangeShapes Go.WideShapes Go.ChangeAt Go.RowKit
section
variable {P : Program} {W : World} {t : TypeId}
theorem opens_array {α : Type} {e : TypeId} {n : Nat} {en : α → Value} {ok : α → Prop} (ht : P.underlying t = some (.array n e)) (hc : P.cellsOf e = 1) (hC : P.cellsOf t = n) (ho : Opens P W e (fun a => [en a]) ok) :
    Opens P W t (fun l : List α => l.map en) (fun l => l.length = n ∧ ∀ a ∈ l, ok a) := by
  intro H enc base spare held fuel cs x h
  obtain ⟨xs, m, _, _, hl, hxn, hf⟩ := DataW.trod_array ht h
  have hcl : cs.length = n := by rw [hl, hC]
  have h1 : ∀ i, i < n → ∃ a, cs[i]? = some (en a) ∧ ok a := by
    intro i hi
    have g := hf i hi
    rw [hc, Nat.mul_one, List.getElem?_eq_getElem (by omega)] at g
    obtain ⟨a, ha, hok⟩ := ho _ _ _ _ _ _ _ _ g
    refine ⟨a, ?_, hok⟩
    have h2 : ((cs.drop i).take 1)[0]? = some (en a) := by rw [ha]; rfl
    simpa using h2
  obtain ⟨l, hll, hlp⟩ := list_choose h1
  refine ⟨l, ?_, hll, ?_⟩
  · apply List.ext_getElem?
    intro i
    by_cases hi : i < n
    · have h3 := (hlp i (by omega)).1
      rw [h3, List.getElem?_map, List.getElem?_eq_getElem (by omega)]; rfl
    · rw [List.getElem?_eq_none (by omega), List.getElem?_eq_none (by simp; omega)]
  · intro a ha
    obtain ⟨i, hi, rfl⟩ := List.getElem_of_mem ha
    exact (hlp i hi).2
theorem opens_msg {f0 f1 f2 f3 : Field} (ht : P.underlying t = some (.struct #[f0, f1, f2, f3])) (hC : P.cellsOf t = 10) (ho : f0.offset = 0 ∧ f1.offset = 1 ∧ f2.offset = 7 ∧ f3.offset = 9)
    (hc : P.cellsOf f0.type = 1 ∧ P.cellsOf f1.type = 6 ∧ P.cellsOf f2.type = 2 ∧ P.cellsOf f3.type = 1)
    (h0 : Opens P W f0.type (fun n : Int => [.int .u8 n]) (fun n => (Lit.int .u8 n).wf = true)) (h1 : Opens P W f1.type (fun l : List Int => l.map fun n => .int .u64 n) (fun l => l.length = 6 ∧ ∀ a ∈ l, (Lit.int .u64 a).wf = true))
    (h2 : Opens P W f2.type (fun l : List ByteArray => l.map fun n => .string n) (fun l => l.length = 2 ∧ ∀ a ∈ l, a.size ≤ 9223372036854775807))
    (h3 : Opens P W f3.type (fun s : SlV ByteArray => [.slice s.A s.xs.length s.c]) (fun s => (∀ x ∈ s.xs, x.size ≤ 9223372036854775807) ∧ SlN W s.A s.xs.length s.c 1 (s.xs.flatMap fun s => [.string s]))) :
    Opens P W t (fun m : MV => (mvA m).toList) (MvOk W) := by
  obtain ⟨o0, o1, o2, o3⟩ := ho
  obtain ⟨c0, c1, c2, c3⟩ := hc
  intro H en base spare held fuel cs x h
  obtain ⟨xs, n, _, _, hl, hlen, hf⟩ := DataW.trod_struct ht h
  have g0 := hf 0 f0 rfl
  have g1 := hf 1 f1 rfl
  have g2 := hf 2 f2 rfl
  have g3 := hf 3 f3 rfl
  rw [o0, c0, List.getElem?_eq_getElem (by rw [hlen]; show 0 < 4; omega)] at g0
  rw [o1, c1, List.getElem?_eq_getElem (by rw [hlen]; show 1 < 4; omega)] at g1
  rw [o2, c2, List.getElem?_eq_getElem (by rw [hlen]; show 2 < 4; omega)] at g2
  rw [o3, c3, List.getElem?_eq_getElem (by rw [hlen]; show 3 < 4; omega)] at g3
  rw [hC] at hl
  obtain ⟨a0, k0, w0⟩ := h0 _ _ _ _ _ _ _ _ g0
  obtain ⟨a1, k1, w1, v1⟩ := h1 _ _ _ _ _ _ _ _ g1
  obtain ⟨a2, k2, w2, v2⟩ := h2 _ _ _ _ _ _ _ _ g2
  obtain ⟨a3, k3, w3, v3⟩ := h3 _ _ _ _ _ _ _ _ g3
  clear g0 g1 g2 g3 hf h0 h1 h2 h3 h
  match a1, w1 with
  | [n0, n1, n2, n3, n4, n5], _ =>
    match a2, w2 with
    | [s0, s1], _ =>
      match cs, hl with
      | [x0, x1, x2, x3, x4, x5, x6, x7, x8, x9], _ =>
        simp at k0 k1 k2 k3
        obtain ⟨rfl, rfl, rfl, rfl, rfl, rfl⟩ := k1
        obtain ⟨rfl, rfl⟩ := k2
        subst k0 k3
        have e0 := wf_u8 w0
        have m0 := wf_u64 (v1 n0 (by simp))
        have m1 := wf_u64 (v1 n1 (by simp))
        have m2 := wf_u64 (v1 n2 (by simp))
        have m3 := wf_u64 (v1 n3 (by simp))
        have m4 := wf_u64 (v1 n4 (by simp))
        have m5 := wf_u64 (v1 n5 (by simp))
        have t0 := v2 s0 (by simp)
        have t1 := v2 s1 (by simp)
        refine ⟨⟨a0.toNat, n0.toNat, n1.toNat, n2.toNat, n3.toNat, n4.toNat, n5.toNat, s0, s1, a3.A, a3.c, a3.xs⟩, ?_, ?_, ?_, ?_, w3, ?_⟩
        · simp only [mvA]
          rw [Int.toNat_of_nonneg e0.1, Int.toNat_of_nonneg m0.1, Int.toNat_of_nonneg m1.1, Int.toNat_of_nonneg m2.1, Int.toNat_of_nonneg m3.1, Int.toNat_of_nonneg m4.1, Int.toNat_of_nonneg m5.1]
        · show a0.toNat ≤ 255; omega
        · intro i; unfold MV.num; split <;> first | (dsimp only; omega) | omega
        · intro i
          unfold MV.text
          split
          · exact t0
          · exact t1
          · show (0 : Nat) ≤ _; omega
        · have e : (a3.xs.flatMap fun s => [Value.string s]) = a3.xs.map sv := by
            induction a3.xs with
            | nil => rfl
            | cons x r ih => rw [List.flatMap_cons, ih]; rfl
          rw [e] at v3
          exact ⟨by rw [v3.len, Nat.mul_one]; exact v3.cap, v3.small, v3.nil0, v3.rd⟩
theorem opens_spec {f0 f1 f2 : Field} (ht : P.underlying t = some (.struct #[f0, f1, f2])) (hC : P.cellsOf t = 3) (ho : f0.offset = 0 ∧ f1.offset = 1 ∧ f2.offset = 2)
    (hc : P.cellsOf f0.type = 1 ∧ P.cellsOf f1.type = 1 ∧ P.cellsOf f2.type = 1)
    (h0 : Opens P W f0.type (fun n : Int => [.int .i64 n]) (fun n => (Lit.int .i64 n).wf = true)) (h1 : Opens P W f1.type (fun n : Int => [.int .i64 n]) (fun n => (Lit.int .i64 n).wf = true)) (h2 : Opens P W f2.type (fun n : Int => [.int .i64 n]) (fun n => (Lit.int .i64 n).wf = true)) :
    Opens P W t (fun m : Int × Int × Int => [.int .i64 m.1, .int .i64 m.2.1, .int .i64 m.2.2]) (fun m => ((Lit.int .i64 m.1).wf = true ∧ (Lit.int .i64 m.2.1).wf = true ∧ (Lit.int .i64 m.2.2).wf = true)) := by
  obtain ⟨o0, o1, o2⟩ := ho
  obtain ⟨c0, c1, c2⟩ := hc
  intro H en base spare held fuel cs x h
  obtain ⟨xs, n, _, _, hl, hlen, hf⟩ := DataW.trod_struct ht h
  have g0 := hf 0 f0 rfl
  have g1 := hf 1 f1 rfl
  have g2 := hf 2 f2 rfl
  rw [o0, c0, List.getElem?_eq_getElem (by rw [hlen]; show 0 < 3; omega)] at g0
  rw [o1, c1, List.getElem?_eq_getElem (by rw [hlen]; show 1 < 3; omega)] at g1
  rw [o2, c2, List.getElem?_eq_getElem (by rw [hlen]; show 2 < 3; omega)] at g2
  rw [hC] at hl
  obtain ⟨a0, k0, w0⟩ := h0 _ _ _ _ _ _ _ _ g0
  obtain ⟨a1, k1, w1⟩ := h1 _ _ _ _ _ _ _ _ g1
  obtain ⟨a2, k2, w2⟩ := h2 _ _ _ _ _ _ _ _ g2
  refine ⟨(a0, a1, a2), ?_, w0, w1, w2⟩
  clear g0 g1 g2 hf h0 h1 h2 h
  match cs, hl with
  | [x0, x1, x2], _ => simp at k0 k1 k2; subst k0 k1 k2; rfl
end
theorem openMsg (W : World) : Opens Try.prog W 27 (fun m : MV => (mvA m).toList) (MvOk W) :=
  opens_msg Try.underlying27 (by kernel_rfl) ⟨rfl, rfl, rfl, rfl⟩ ⟨by kernel_rfl, by kernel_rfl, by kernel_rfl, by kernel_rfl⟩
    (opens_int Try.underlying5) (opens_array Try.underlying23 (by kernel_rfl) (by kernel_rfl) (opens_int Try.underlying22)) (opens_array Try.underlying24 (by kernel_rfl) (by kernel_rfl) (opens_string Try.underlying9))
    (opens_slice (size := 1) Try.underlying25 (by kernel_rfl) (by omega) (fun _ => rfl) (opens_string Try.underlying9))
theorem openSpec3 (W : World) : Opens Try.prog W 93 (fun m : Int × Int × Int => [.int .i64 m.1, .int .i64 m.2.1, .int .i64 m.2.2]) (fun m => ((Lit.int .i64 m.1).wf = true ∧ (Lit.int .i64 m.2.1).wf = true ∧ (Lit.int .i64 m.2.2).wf = true)) :=
  opens_spec Try.underlying93 (by kernel_rfl) ⟨rfl, rfl, rfl⟩ ⟨by kernel_rfl, by kernel_rfl, by kernel_rfl⟩ (opens_int Try.underlying3) (opens_int Try.underlying3) (opens_int Try.underlying3)
end Go.Proofs.Ytnfodgjihdoncaa
