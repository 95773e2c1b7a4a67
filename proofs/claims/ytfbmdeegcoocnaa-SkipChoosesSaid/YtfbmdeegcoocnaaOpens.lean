/- What came in, whatever its type: cells that read as data are the cells of some value of a Lean type. -/
import Derived.Test.YtfbmdeegcoocnaaFrame
set_option linter.unusedVariables false
namespace Go.Proofs.Ytfbmdeegcoocnaa
open Go.ChangeShapes Go.WideShapes Go.ChangeAt Go.RowKit

/-- Cells of type t that read as data are enc a for some a that is ok. -/
def Opens (P : Program) (W : World) (t : TypeId) {α : Type} (enc : α → List Value) (ok : α → Prop) : Prop :=
  ∀ (H : Type) (en : TypeId × Value → H) (base : Nat) (spare : Nat → Bool) (held : Bool) (fuel : Nat) (cs : List Value) (x : DataW H × List MemPlace),
    DataW.trod en P W base spare held fuel t cs = some x → ∃ a : α, cs = enc a ∧ ok a
/-- A slice of n elements of so many cells each. -/
structure SlN (w : World) (A : Option Addr) (n c size : Nat) (flat : List Value) : Prop where
  len : flat.length = n * size
  cap : n ≤ c
  small : c ≤ 9223372036854775807
  nil0 : A = none → c = 0
  rd : Rd w A flat
theorem SlN.below {w w' : World} {A : Option Addr} {n c size : Nat} {xs : List Value} (h : SlN w A n c size xs) (hb : Below w.heap.size w w') : SlN w' A n c size xs := ⟨h.len, h.cap, h.small, h.nil0, h.rd.below hb⟩
/-- A slice value: where it lies, its capacity, what it holds. -/
structure SlV (α : Type) where
  A : Option Addr
  c : Nat
  xs : List α
section
variable {P : Program} {W : World} {t e : TypeId} {α β : Type}
theorem Opens.use {enc : α → List Value} {ok : α → Prop} (ho : Opens P W t enc ok) {H : Type} {en : TypeId × Value → H} {base : Nat} {spare : Nat → Bool} {held : Bool} {v : Value} {d : DataW H} {p : List MemPlace}
    (h : DataW.Trod en P W base spare held t v d p) : ∃ a, v.cells.toList = enc a ∧ ok a := let ⟨_, hf⟩ := h; ho _ _ _ _ _ _ _ _ hf
theorem sl_inj {A A' : Option Addr} {n n' c c' : Nat} (h : (Value.slice A n c).cells.toList = [Value.slice A' n' c']) : A = A' ∧ n = n' ∧ c = c' := by simpa [Value.cells] using h
theorem opens_int {k : IntKind} (ht : P.underlying t = some (.int k)) : Opens P W t (fun n : Int => [.int k n]) (fun n => (Lit.int k n).wf = true) :=
  fun H en base spare held fuel cs x h => let ⟨n, hc, _, hw⟩ := DataW.trod_int ht h; ⟨n, hc, hw⟩
theorem opens_bool (ht : P.underlying t = some .bool) : Opens P W t (fun b : Bool => [.bool b]) (fun _ => True) :=
  fun H en base spare held fuel cs x h => let ⟨n, hc, _⟩ := DataW.trod_bool ht h; ⟨n, hc, trivial⟩
theorem opens_string (ht : P.underlying t = some .string) : Opens P W t (fun s : ByteArray => [.string s]) (fun s => s.size ≤ 9223372036854775807) :=
  fun H en base spare held fuel cs x h => let ⟨n, hc, _, hw⟩ := DataW.trod_string ht h; ⟨n, hc, hw⟩
theorem Opens.imp {enc : α → List Value} {ok ok' : α → Prop} (h : Opens P W t enc ok) (hi : ∀ a, ok a → ok' a) : Opens P W t enc ok' :=
  fun H en base spare held fuel cs x hx => let ⟨a, hc, ho⟩ := h H en base spare held fuel cs x hx; ⟨a, hc, hi a ho⟩
/-- Another Lean type for the same cells. -/
theorem Opens.map {enc : α → List Value} {ok : α → Prop} {enc' : β → List Value} {ok' : β → Prop} (h : Opens P W t enc ok) (f : α → β) (hi : ∀ a, ok a → enc a = enc' (f a) ∧ ok' (f a)) : Opens P W t enc' ok' :=
  fun H en base spare held fuel cs x hx => let ⟨a, hc, ho⟩ := h H en base spare held fuel cs x hx; ⟨f a, hc.trans (hi a ho).1, (hi a ho).2⟩
theorem opens_struct2 {f0 f1 : Field} {k0 k1 : Nat} {enc0 : α → List Value} {ok0 : α → Prop} {enc1 : β → List Value} {ok1 : β → Prop} (ht : P.underlying t = some (.struct #[f0, f1]))
    (o0 : f0.offset = 0) (o1 : f1.offset = k0) (c0 : P.cellsOf f0.type = k0) (c1 : P.cellsOf f1.type = k1) (hC : P.cellsOf t = k0 + k1) (h0 : Opens P W f0.type enc0 ok0) (h1 : Opens P W f1.type enc1 ok1) :
    Opens P W t (fun p : α × β => enc0 p.1 ++ enc1 p.2) (fun p => ok0 p.1 ∧ ok1 p.2) := by
  intro H en base spare held fuel cs x h
  obtain ⟨xs, n, _, _, hl, hlen, hf⟩ := DataW.trod_struct ht h
  have g0 := hf 0 f0 rfl
  have g1 := hf 1 f1 rfl
  rw [o0, c0, List.drop_zero, List.getElem?_eq_getElem (by rw [hlen]; show 0 < 2; omega)] at g0
  rw [o1, c1, List.getElem?_eq_getElem (by rw [hlen]; show 1 < 2; omega)] at g1
  obtain ⟨a, ha, hoa⟩ := h0 _ _ _ _ _ _ _ _ g0
  obtain ⟨b, hb, hob⟩ := h1 _ _ _ _ _ _ _ _ g1
  refine ⟨(a, b), ?_, hoa, hob⟩
  show cs = enc0 a ++ enc1 b
  rw [← ha, ← hb, List.take_of_length_le (l := cs.drop k0) (by rw [List.length_drop, hl, hC]; omega), List.take_append_drop]
theorem flatMap_get {γ : Type} (enc : γ → List Value) (size : Nat) : ∀ (xs : List γ) (i j : Nat) (hi : i < xs.length), (∀ x ∈ xs, (enc x).length = size) → j < size →
    (xs.flatMap enc)[i * size + j]? = (enc xs[i])[j]?
  | [], i, _, hi, _, _ => by simp at hi
  | x :: xs, 0, j, _, h, hj => by
    rw [List.flatMap_cons, Nat.zero_mul, Nat.zero_add, List.getElem?_append_left (by rw [h x (by simp)]; exact hj)]; rfl
  | x :: xs, i + 1, j, hi, h, hj => by
    have hx := h x (by simp)
    rw [List.flatMap_cons, List.getElem?_append_right (by rw [hx, Nat.add_mul]; omega), hx,
      show (i + 1) * size + j - size = i * size + j from by rw [Nat.add_mul]; omega,
      flatMap_get enc size xs i j (by simpa using hi) (fun y hy => h y (by simp [hy])) hj]
    simp
theorem flatMap_length {γ : Type} (enc : γ → List Value) (size : Nat) : ∀ (xs : List γ), (∀ x ∈ xs, (enc x).length = size) → (xs.flatMap enc).length = xs.length * size
  | [], _ => by simp
  | x :: xs, h => by rw [List.flatMap_cons, List.length_append, h x (by simp), flatMap_length enc size xs (fun y hy => h y (by simp [hy])), List.length_cons, Nat.add_mul]; omega
theorem list_choose {γ : Type} {n : Nat} {p : Nat → γ → Prop} (h : ∀ i, i < n → ∃ a, p i a) : ∃ l : List γ, l.length = n ∧ ∀ i (hi : i < l.length), p i l[i] := by
  induction n with
  | zero => exact ⟨[], rfl, fun i hi => by simp at hi⟩
  | succ n ih =>
    obtain ⟨l, hl, hp⟩ := ih fun i hi => h i (by omega)
    obtain ⟨a, ha⟩ := h n (by omega)
    refine ⟨l ++ [a], by simp [hl], fun i hi => ?_⟩
    by_cases hin : i < l.length
    · rw [List.getElem_append_left hin]; exact hp i hin
    · obtain rfl : i = n := by simp [hl] at hi; omega
      rw [List.getElem_append_right (by omega)]; simpa [hl] using ha
theorem opens_slice {size : Nat} {enc : α → List Value} {ok : α → Prop} (ht : P.underlying t = some (.slice e)) (hc : P.cellsOf e = size) (hsz : 0 < size) (hlen : ∀ a, (enc a).length = size) (he : Opens P W e enc ok) :
    Opens P W t (fun s : SlV α => [.slice s.A s.xs.length s.c]) (fun s => (∀ x ∈ s.xs, ok x) ∧ SlN W s.A s.xs.length s.c size (s.xs.flatMap enc)) := by
  intro H en base spare held fuel cs x h
  rcases DataW.trod_slice ht h with ⟨rfl, _⟩ | ⟨a, len, cap, elems, rest, n, _, rfl, _, hb, hl, hm, hel, hat, _, _⟩
  · exact ⟨⟨none, 0, []⟩, rfl, by simp, ⟨by simp, by simp, by simp, fun _ => rfl, fun k u hk => by simp at hk⟩⟩
  · have each : ∀ i, i < len → ∃ v : α, ok v ∧ ∀ j, j < size → W.cell? (a.add (i * size + j)) = (enc v)[j]? := by
      intro i hi
      have hh := hat i hi
      rw [List.getElem?_eq_getElem (by omega), hc, Option.bind_eq_some_iff] at hh
      obtain ⟨cs', hcs, hy⟩ := hh
      obtain ⟨v, hv, hok⟩ := he _ _ _ _ _ _ _ _ hy
      obtain ⟨_, hcl, hcell⟩ := World.cells?_some hcs
      refine ⟨v, hok, fun j hj => ?_⟩
      have := hcell j hj
      rw [hv] at this
      rw [← this]
      congr 1
      unfold Addr.add
      by_cases h1 : i * size = 0 <;> by_cases h2 : j = 0 <;> simp [h1, h2, Nat.add_assoc] <;> omega
    obtain ⟨l, hll, hp⟩ := list_choose each
    have hle : ∀ x ∈ l, (enc x).length = size := fun x _ => hlen x
    refine ⟨⟨some a, cap, l⟩, by show _ = [Value.slice (some a) l.length cap]; rw [hll], ?_, ⟨flatMap_length enc size l hle, (by show l.length ≤ cap; rw [hll]; exact hl), hm, (fun h => by cases h), fun k u hk => ?_⟩⟩
    · intro x hx
      obtain ⟨i, hi, rfl⟩ := List.getElem_of_mem hx
      exact (hp i hi).1
    · have hk2 := (List.getElem?_eq_some_iff.1 hk).1
      rw [flatMap_length enc size l hle] at hk2
      have hi : k / size < l.length := Nat.div_lt_of_lt_mul (by rw [Nat.mul_comm]; exact hk2)
      have hj : k % size < size := Nat.mod_lt _ hsz
      have hkk : k / size * size + k % size = k := by rw [Nat.mul_comm]; exact Nat.div_add_mod k size
      have g := flatMap_get enc size l (k / size) (k % size) hi hle hj
      rw [hkk, hk] at g
      have hcell := (hp (k / size) hi).2 (k % size) hj
      rw [hkk, ← g] at hcell
      have hlt := World.block_lt_of_cell? W _ hcell
      obtain ⟨b, off, spot⟩ := a
      cases spot with
      | none => exact ⟨b, off, rfl, by rwa [addr_add] at hlt, by rwa [addr_add] at hcell⟩
      | some s =>
        have hl0 : 0 < l.length := Nat.lt_of_le_of_lt (Nat.zero_le _) hi
        have h0 := (hp 0 hl0).2 0 hsz
        have h1 : ∃ u, (enc (l[0]'hl0))[0]? = some u := ⟨_, List.getElem?_eq_getElem (by rw [hlen]; exact hsz)⟩
        obtain ⟨u, hu⟩ := h1
        rw [hu] at h0
        simp [World.cell?, Addr.add] at h0
        split at h0 <;> simp at h0
end
end Go.Proofs.Ytfbmdeegcoocnaa
