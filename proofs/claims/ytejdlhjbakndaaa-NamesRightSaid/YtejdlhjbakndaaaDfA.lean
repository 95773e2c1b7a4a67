/- Definitions, their steps, their notes, as they lie in memory: what an argument's reading tells of them. -/
import Derived.Test.YtejdlhjbakndaaaM1
import Derived.Test.YtejdlhjbakndaaaM3
import Derived.ProofKit
import Derived.OpenShut
set_option linter.unusedVariables false
namespace Go.Proofs.Ytejdlhjbakndaaa
open Go.ChangeShapes Go.WideShapes Go.ChangeAt Go.RowKit
/-- A node, as its five cells say. -/
structure NdV where
  kd : Int
  tx : ByteArray
  ks : SlV ByteArray
  cA : Option Addr
  cn : Nat
  cc : Nat
  ln : Int
def svC (s : ByteArray) : List Value := [.string s]
def ndC (v : NdV) : List Value := [.int .u8 v.kd, .string v.tx, .slice v.ks.A v.ks.xs.length v.ks.c, .slice v.cA v.cn v.cc, .int .i64 v.ln]
/-- A row of texts. -/
def TxOk (W : World) (s : SlV ByteArray) : Prop := (∀ x ∈ s.xs, x.size ≤ 9223372036854775807) ∧ SlN W s.A s.xs.length s.c 1 (s.xs.flatMap svC)
/-- A node whose kids may be read so many levels down. -/
def NdOk (W : World) : Nat → NdV → Prop
  | 0, v => (0 ≤ v.kd ∧ v.kd ≤ 255) ∧ (-9223372036854775808 ≤ v.ln ∧ v.ln ≤ 9223372036854775807) ∧ v.tx.size ≤ 9223372036854775807 ∧ TxOk W v.ks
  | d + 1, v => ((0 ≤ v.kd ∧ v.kd ≤ 255) ∧ (-9223372036854775808 ≤ v.ln ∧ v.ln ≤ 9223372036854775807) ∧ v.tx.size ≤ 9223372036854775807 ∧ TxOk W v.ks) ∧ ∃ l : List NdV, l.length = v.cn ∧ SlN W v.cA v.cn v.cc 5 (l.flatMap ndC) ∧ ∀ x ∈ l, NdOk W d x
theorem NdOk.base {W : World} {d : Nat} {v : NdV} (h : NdOk W d v) : (0 ≤ v.kd ∧ v.kd ≤ 255) ∧ (-9223372036854775808 ≤ v.ln ∧ v.ln ≤ 9223372036854775807) ∧ v.tx.size ≤ 9223372036854775807 ∧ TxOk W v.ks := by
  cases d with
  | zero => exact h
  | succ d => exact h.1
theorem TxOk.below {W W' : World} {s : SlV ByteArray} (h : TxOk W s) (hb : Below W.heap.size W W') : TxOk W' s := ⟨h.1, h.2.below hb⟩
theorem NdOk.below {W W' : World} (hb : Below W.heap.size W W') : ∀ {d : Nat} {v : NdV}, NdOk W d v → NdOk W' d v
  | 0, v, h => ⟨h.1, h.2.1, h.2.2.1, h.2.2.2.below hb⟩
  | d + 1, v, h => ⟨⟨h.1.1, h.1.2.1, h.1.2.2.1, h.1.2.2.2.below hb⟩, let ⟨l, h1, h2, h3⟩ := h.2; ⟨l, h1, h2.below hb, fun x hx => NdOk.below hb (h3 x hx)⟩⟩
section
variable {H : Type} {en : TypeId × Value → H} {P : Program} {W : World} {base : Nat} {spare : Nat → Bool} {held : Bool} {fuel : Nat} {t : TypeId} {cs : List Value} {x : DataW H × List MemPlace}
theorem field_at {fs : Array Field} (ht : P.underlying t = some (.struct fs)) (h : DataW.trod en P W base spare held fuel t cs = some x) {i : Nat} {f : Field} (hi : fs[i]? = some f) {α : Type} {enc : α → List Value} {ok : α → Prop} (ho : Opens P W f.type enc ok) {o k : Nat} (e1 : f.offset = o) (e2 : P.cellsOf f.type = k) :
    ∃ a, (cs.drop o).take k = enc a ∧ ok a := by
  obtain ⟨xs, n, _, _, hl, hlen, hf⟩ := DataW.trod_struct ht h
  have g := hf i f hi
  have hlt : i < xs.length := by
    rw [hlen]
    rcases Nat.lt_or_ge i fs.size with h | h
    · exact h
    · rw [Array.getElem?_eq_none h] at hi; cases hi
  rw [e1, e2, List.getElem?_eq_getElem hlt] at g
  exact ho _ _ _ _ _ _ _ _ g
theorem struct_len {fs : Array Field} (ht : P.underlying t = some (.struct fs)) (h : DataW.trod en P W base spare held fuel t cs = some x) : cs.length = P.cellsOf t := by
  obtain ⟨xs, n, _, _, hl, -, -⟩ := DataW.trod_struct ht h
  exact hl
end
theorem dsplit {cs l : List Value} {o k m : Nat} (h : (cs.drop o).take k = l) (hm : o + k = m) : cs.drop o = l ++ cs.drop m := by
  rw [← h, ← hm, ← List.drop_drop, List.take_append_drop]
theorem openTx (W : World) : Opens Try.prog W 35 (fun s : SlV ByteArray => [.slice s.A s.xs.length s.c]) (TxOk W) :=
  opens_slice (size := 1) (enc := svC) Try.underlying35 (by kernel_rfl) (by omega) (fun _ => rfl) (opens_string Try.underlying9)
/-- Any node, whatever its kids. -/
theorem openAny5 (W : World) : Opens Try.prog W 42 (fun l : {l : List Value // l.length = 5} => l.1) (fun _ => True) := by
  intro H en base spare held fuel cs x h
  exact ⟨⟨cs, (struct_len Try.underlying42 h).trans (by kernel_rfl)⟩, rfl, trivial⟩
theorem openNd (W : World) : ∀ d, Opens Try.prog W 42 ndC (NdOk W d)
  | 0 => by
    intro H en base spare held fuel cs x h
    have ht := Try.underlying42
    obtain ⟨a0, e0, k0⟩ := field_at ht h (i := 0) rfl (opens_int Try.underlying5) (o := 0) (k := 1) rfl (by kernel_rfl)
    obtain ⟨a1, e1, k1⟩ := field_at ht h (i := 1) rfl (opens_string Try.underlying9) (o := 1) (k := 1) rfl (by kernel_rfl)
    obtain ⟨a2, e2, k2⟩ := field_at ht h (i := 2) rfl (openTx W) (o := 2) (k := 1) rfl (by kernel_rfl)
    obtain ⟨a3, e3, k3⟩ := field_at ht h (i := 3) rfl (opens_slice (size := 5) Try.underlying40 (by kernel_rfl) (by omega) (fun a => a.2) (openAny5 W)) (o := 3) (k := 1) rfl (by kernel_rfl)
    obtain ⟨a4, e4, k4⟩ := field_at ht h (i := 4) rfl (opens_int Try.underlying3) (o := 4) (k := 1) rfl (by kernel_rfl)
    have hl : cs.length = 5 := (struct_len ht h).trans (by kernel_rfl)
    refine ⟨⟨a0, a1, a2, a3.A, a3.xs.length, a3.c, a4⟩, ?_, wf_u8 k0, wf_i64 k4, k1, k2⟩
    have e : cs = cs.drop 0 := rfl
    rw [e, dsplit e0 (m := 1) rfl, dsplit e1 (m := 2) rfl, dsplit e2 (m := 3) rfl, dsplit e3 (m := 4) rfl, dsplit e4 (m := 5) rfl, List.drop_eq_nil_of_le (by omega)]
    rfl
  | d + 1 => by
    intro H en base spare held fuel cs x h
    have ht := Try.underlying42
    obtain ⟨a0, e0, k0⟩ := field_at ht h (i := 0) rfl (opens_int Try.underlying5) (o := 0) (k := 1) rfl (by kernel_rfl)
    obtain ⟨a1, e1, k1⟩ := field_at ht h (i := 1) rfl (opens_string Try.underlying9) (o := 1) (k := 1) rfl (by kernel_rfl)
    obtain ⟨a2, e2, k2⟩ := field_at ht h (i := 2) rfl (openTx W) (o := 2) (k := 1) rfl (by kernel_rfl)
    obtain ⟨a3, e3, k3⟩ := field_at ht h (i := 3) rfl (opens_slice (size := 5) Try.underlying40 (by kernel_rfl) (by omega) (fun _ => rfl) (openNd W d)) (o := 3) (k := 1) rfl (by kernel_rfl)
    obtain ⟨a4, e4, k4⟩ := field_at ht h (i := 4) rfl (opens_int Try.underlying3) (o := 4) (k := 1) rfl (by kernel_rfl)
    have hl : cs.length = 5 := (struct_len ht h).trans (by kernel_rfl)
    refine ⟨⟨a0, a1, a2, a3.A, a3.xs.length, a3.c, a4⟩, ?_, ⟨wf_u8 k0, wf_i64 k4, k1, k2⟩, a3.xs, rfl, k3.2, k3.1⟩
    have e : cs = cs.drop 0 := rfl
    rw [e, dsplit e0 (m := 1) rfl, dsplit e1 (m := 2) rfl, dsplit e2 (m := 3) rfl, dsplit e3 (m := 4) rfl, dsplit e4 (m := 5) rfl, List.drop_eq_nil_of_le (by omega)]
    rfl
/-- A step, as its thirteen cells say. -/
structure StV where
  nm : ByteArray
  ac : ByteArray
  un : ByteArray
  af : SlV ByteArray
  r1 : Int
  r2 : Int
  r3 : Int
  lim : Int
  nd : NdV
def stC (s : StV) : List Value := [.string s.nm, .string s.ac, .string s.un, .slice s.af.A s.af.xs.length s.af.c, .int .i64 s.r1, .int .i64 s.r2, .int .i64 s.r3, .int .i64 s.lim, .int .u8 s.nd.kd, .string s.nd.tx, .slice s.nd.ks.A s.nd.ks.xs.length s.nd.ks.c, .slice s.nd.cA s.nd.cn s.nd.cc, .int .i64 s.nd.ln]
def i64ok (n : Int) : Prop := -9223372036854775808 ≤ n ∧ n ≤ 9223372036854775807
def StOk (W : World) (d : Nat) (s : StV) : Prop := (s.nm.size ≤ 9223372036854775807 ∧ s.ac.size ≤ 9223372036854775807 ∧ s.un.size ≤ 9223372036854775807) ∧ TxOk W s.af ∧ (i64ok s.r1 ∧ i64ok s.r2 ∧ i64ok s.r3 ∧ i64ok s.lim) ∧ NdOk W d s.nd
theorem StOk.below {W W' : World} {d : Nat} {s : StV} (h : StOk W d s) (hb : Below W.heap.size W W') : StOk W' d s := ⟨h.1, h.2.1.below hb, h.2.2.1, h.2.2.2.below hb⟩
theorem openRt (W : World) : Opens Try.prog W 39 (fun p : Int × Int × Int => [.int .i64 p.1, .int .i64 p.2.1, .int .i64 p.2.2]) (fun p => i64ok p.1 ∧ i64ok p.2.1 ∧ i64ok p.2.2) := by
  intro H en base spare held fuel cs x h
  have ht := Try.underlying39
  obtain ⟨a0, e0, k0⟩ := field_at ht h (i := 0) rfl (opens_int Try.underlying3) (o := 0) (k := 1) rfl (by kernel_rfl)
  obtain ⟨a1, e1, k1⟩ := field_at ht h (i := 1) rfl (opens_int Try.underlying3) (o := 1) (k := 1) rfl (by kernel_rfl)
  obtain ⟨a2, e2, k2⟩ := field_at ht h (i := 2) rfl (opens_int Try.underlying3) (o := 2) (k := 1) rfl (by kernel_rfl)
  have hl : cs.length = 3 := (struct_len ht h).trans (by kernel_rfl)
  refine ⟨(a0, a1, a2), ?_, wf_i64 k0, wf_i64 k1, wf_i64 k2⟩
  have e : cs = cs.drop 0 := rfl
  rw [e, dsplit e0 (m := 1) rfl, dsplit e1 (m := 2) rfl, dsplit e2 (m := 3) rfl, List.drop_eq_nil_of_le (by omega)]
  rfl
theorem openSt (W : World) (d : Nat) : Opens Try.prog W 44 stC (StOk W d) := by
  intro H en base spare held fuel cs x h
  have ht := Try.underlying44
  obtain ⟨a0, e0, k0⟩ := field_at ht h (i := 0) rfl (opens_string Try.underlying9) (o := 0) (k := 1) rfl (by kernel_rfl)
  obtain ⟨a1, e1, k1⟩ := field_at ht h (i := 1) rfl (opens_string Try.underlying9) (o := 1) (k := 1) rfl (by kernel_rfl)
  obtain ⟨a2, e2, k2⟩ := field_at ht h (i := 2) rfl (opens_string Try.underlying9) (o := 2) (k := 1) rfl (by kernel_rfl)
  obtain ⟨a3, e3, k3⟩ := field_at ht h (i := 3) rfl (openTx W) (o := 3) (k := 1) rfl (by kernel_rfl)
  obtain ⟨a4, e4, k4⟩ := field_at ht h (i := 4) rfl (openRt W) (o := 4) (k := 3) rfl (by kernel_rfl)
  obtain ⟨a5, e5, k5⟩ := field_at ht h (i := 5) rfl (opens_int Try.underlying3) (o := 7) (k := 1) rfl (by kernel_rfl)
  obtain ⟨a6, e6, k6⟩ := field_at ht h (i := 6) rfl (openNd W d) (o := 8) (k := 5) rfl (by kernel_rfl)
  have hl : cs.length = 13 := (struct_len ht h).trans (by kernel_rfl)
  refine ⟨⟨a0, a1, a2, a3, a4.1, a4.2.1, a4.2.2, a5, a6⟩, ?_, ⟨k0, k1, k2⟩, k3, ⟨k4.1, k4.2.1, k4.2.2, wf_i64 k5⟩, k6⟩
  have e : cs = cs.drop 0 := rfl
  rw [e, dsplit e0 (m := 1) rfl, dsplit e1 (m := 2) rfl, dsplit e2 (m := 3) rfl, dsplit e3 (m := 4) rfl, dsplit e4 (m := 7) rfl, dsplit e5 (m := 8) rfl, dsplit e6 (m := 13) rfl, List.drop_eq_nil_of_le (by omega)]
  rfl
/-- A definition: its name, its text, its steps. -/
structure DfV where
  nm : ByteArray
  tx : ByteArray
  st : SlV StV
def dfC (s : DfV) : List Value := [.string s.nm, .string s.tx, .slice s.st.A s.st.xs.length s.st.c]
def DfOk (W : World) (d : Nat) (s : DfV) : Prop := (s.nm.size ≤ 9223372036854775807 ∧ s.tx.size ≤ 9223372036854775807) ∧ (∀ x ∈ s.st.xs, StOk W d x) ∧ SlN W s.st.A s.st.xs.length s.st.c 13 (s.st.xs.flatMap stC)
theorem DfOk.below {W W' : World} {d : Nat} {s : DfV} (h : DfOk W d s) (hb : Below W.heap.size W W') : DfOk W' d s := ⟨h.1, fun x hx => (h.2.1 x hx).below hb, h.2.2.below hb⟩
theorem openDf (W : World) (d : Nat) : Opens Try.prog W 24 dfC (DfOk W d) := by
  intro H en base spare held fuel cs x h
  have ht := Try.underlying24
  obtain ⟨a0, e0, k0⟩ := field_at ht h (i := 0) rfl (opens_string Try.underlying9) (o := 0) (k := 1) rfl (by kernel_rfl)
  obtain ⟨a1, e1, k1⟩ := field_at ht h (i := 1) rfl (opens_string Try.underlying9) (o := 1) (k := 1) rfl (by kernel_rfl)
  obtain ⟨a2, e2, k2⟩ := field_at ht h (i := 2) rfl (opens_slice (size := 13) Try.underlying22 (by kernel_rfl) (by omega) (fun _ => rfl) (openSt W d)) (o := 2) (k := 1) rfl (by kernel_rfl)
  have hl : cs.length = 3 := (struct_len ht h).trans (by kernel_rfl)
  refine ⟨⟨a0, a1, a2⟩, ?_, ⟨k0, k1⟩, k2.1, k2.2⟩
  have e : cs = cs.drop 0 := rfl
  rw [e, dsplit e0 (m := 1) rfl, dsplit e1 (m := 2) rfl, dsplit e2 (m := 3) rfl, List.drop_eq_nil_of_le (by omega)]
  rfl
end Go.Proofs.Ytejdlhjbakndaaa
