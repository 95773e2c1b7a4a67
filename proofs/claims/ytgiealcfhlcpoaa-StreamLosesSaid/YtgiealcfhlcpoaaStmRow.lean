/- Rows of frames that are cut and put together: slices, appends in a drawn region. -/
import Derived.Test.YtgiealcfhlcpoaaStmFr
import Derived.Test.YtgiealcfhlcpoaaStmDo
import Derived.Deep.RegionHeld3
set_option linter.unusedVariables false
namespace Go.Proofs.Ytgiealcfhlcpoaa
open Go.RowKit
theorem Try.infoFr : (Try.prog.info? 29).map (fun i => (i.zero, i.size, i.bytes)) = some (some (.agg #[.int .u8 0, .slice none 0 0]), 2, 32) := by kernel_rfl
/-- Where a slice whose elements have two cells lies, cut at p. -/
def cutF (A : Option Addr) (c p : Nat) : Option Addr := if c = p then A else A.map fun a => a.add (p * 2)
theorem run_cut2_l (A : Option Addr) (n c l : Nat) (kl : IntKind) (w : World) (h : l ≤ n) : (Instr.slice 22 (.slice A n c) (some (.int kl (l : Int))) none none).run Try.prog w = .ok (.slice (cutF A c l) (n - l) (c - l)) w := by
  have h' : (l : Int) ≤ (n : Int) := by omega
  simp [go_sem, h', cutF]
theorem SlN.cut2 {w : World} {A : Option Addr} {n c : Nat} {l : List FrV} (h : SlN w A n c 2 (l.flatMap frC)) (hn : l.length = n) (p : Nat) (hp : p ≤ n) : SlN w (cutF A c p) (n - p) (c - p) 2 ((l.drop p).flatMap frC) := by
  have hl := h.len
  have hc := h.cap
  have hfd : (l.drop p).flatMap frC = (l.flatMap frC).drop (p * 2) := by
    have h1 : l.flatMap frC = (l.take p).flatMap frC ++ (l.drop p).flatMap frC := by rw [← List.flatMap_append, List.take_append_drop]
    have h2 : ((l.take p).flatMap frC).length = p * 2 := by
      rw [List.length_flatMap]
      have h3 : ((l.take p).map fun f => (frC f).length) = List.replicate p 2 := by
        rw [List.eq_replicate_iff]
        refine ⟨by rw [List.length_map, List.length_take]; omega, fun x hx => ?_⟩
        obtain ⟨f, -, rfl⟩ := List.mem_map.1 hx
        rfl
      rw [h3, List.sum_replicate_nat]
    have h4 : ((l.take p).flatMap frC).drop (p * 2) = [] := List.drop_eq_nil_of_le (by rw [h2]; exact Nat.le_refl _)
    rw [h1, List.drop_append_of_le_length (by rw [h2]; exact Nat.le_refl _), h4, List.nil_append]
  rw [hfd]
  refine ⟨by rw [List.length_drop, hl]; omega, by omega, Nat.le_trans (Nat.sub_le _ _) h.small, fun e => ?_, ?_⟩
  · unfold cutF at e
    split at e
    · omega
    · cases A with
      | none => have := h.nil0 rfl; omega
      | some a => cases e
  · unfold cutF
    split
    · rename_i hcp
      have : (l.flatMap frC).drop (p * 2) = [] := List.drop_eq_nil_of_le (by omega)
      rw [this]
      exact Rd.nil_ _ _
    · cases A with
      | none =>
        have := h.rd.none_nil
        rw [this]
        simpa using Rd.nil_ w none
      | some a =>
        obtain ⟨b, off, spot⟩ := a
        intro j u hj
        obtain ⟨b', off', e, hb, hcell⟩ := h.rd (p * 2 + j) u (by rwa [List.getElem?_drop] at hj)
        injection e with e
        injection e with e1 e2 e3
        subst e1; subst e2; subst e3
        exact ⟨b, off + p * 2, by rw [Option.map_some, addr_add], hb, by rw [Nat.add_assoc]; exact hcell⟩
theorem SlN.take2 {w : World} {A : Option Addr} {n c : Nat} {l : List FrV} (h : SlN w A n c 2 (l.flatMap frC)) (hn : l.length = n) (p : Nat) (hp : p ≤ n) : SlN w A p c 2 ((l.take p).flatMap frC) := by
  have h1 : l.flatMap frC = (l.take p).flatMap frC ++ (l.drop p).flatMap frC := by rw [← List.flatMap_append, List.take_append_drop]
  have h2 : ((l.take p).flatMap frC).length = p * 2 := by
    rw [List.length_flatMap]
    have h3 : ((l.take p).map fun f => (frC f).length) = List.replicate p 2 := by
      rw [List.eq_replicate_iff]
      refine ⟨by rw [List.length_map, List.length_take]; omega, fun x hx => ?_⟩
      obtain ⟨f, -, rfl⟩ := List.mem_map.1 hx
      rfl
    rw [h3, List.sum_replicate_nat]
  have hrd := h.rd
  rw [h1] at hrd
  exact ⟨h2, Nat.le_trans hp h.cap, h.small, h.nil0, fun j u hj => hrd j u (by rw [List.getElem?_append_left (by have := (List.getElem?_eq_some_iff.1 hj).1; exact this)]; exact hj)⟩
/-- append onto a row of the call's own, at a step of a region that draws its order. -/
theorem step_append_rd {P : Program} {w : World} {ops : Array Oper} {o : Oper} {a : Act} {K : Act → World → Prop} {Q : Exit → Act → World → Prop} {E : Prop} (hgd : o.guard = none) (s x : Operand) (t : TypeId)
    (ho : o.op = .call { callee := .builtin .append, args := #[s, x], argTypes := #[t, t] })
    (base : Nat) (e : TypeId) (i : TypeInfo) (z : Value) (size bytes : Nat) (ht : P.underlying t = some (.slice e)) (hi : P.info? e = some i) (hz : i.zero = some z)
    (hsize : i.size = size) (hby : i.bytes = bytes) (hzs : z.cells.size = size) (hsz : 0 < size)
    (v : Value) (n : Nat) (xs : List Value) (hs : a.eval s = v) (hown : w.ownsRow base e size v n xs)
    (A : Option Addr) (m c : Nat) (news : List Value) (hx : a.eval x = .slice A m c) (hl : news.length = m * size) (hr : Rd w A news) (hn : A = none → c = 0) (h1 : ∀ u ∈ news, u.oneCell' = true)
    (N : Nat) (hN : n + m = N) (flat : List Value) (hF : xs ++ news = flat) (h63 : N ≤ maxLen) (hbytes : N * bytes ≤ 140737488355328) (hbase : base ≤ w.heap.size)
    (h : ∀ A' c' w', w'.ownsRow base e size (.slice A' N c') N flat → w.grownBy w' v.ownBlock → K (a.put o.dst (.slice A' N c')) w') :
    if Region.wanted o (yielded ops a.tmps) = true then Oper.wp P o a w K Q else E := by
  subst hN; subst hF
  have hw : Region.wanted o (yielded ops a.tmps) = true := by simp [Region.wanted, hgd]
  rw [if_pos hw]
  cases A with
  | none =>
    obtain rfl := hr.none_nil
    obtain rfl := hn rfl
    have hm : m = 0 := by
      have h0 : m * size = 0 := by simpa using hl.symm
      rcases Nat.mul_eq_zero.1 h0 with q | q <;> omega
    subst hm
    have hrun := run_append_owned_none (P := P) (w := w) base t o.type e i size ht hi v n xs hown
    obtain ⟨A', c', rfl⟩ := row_slice_g hown
    have hK := h A' c' w (by simpa using hown) ⟨rfl, rfl, rfl, Nat.le_refl _, fun _ _ _ => rfl⟩
    unfold Oper.wp
    simp [execOp, ho, resolve, invoke, builtin, hs, hx, hrun, Result.andThen]
    exact hK
  | some ad =>
    refine wp_append_own w s x t ho base e i z size bytes ht hi hz hsize hby hzs hsz v n xs hs hown ad m c news hx hl hr.addr h1 h63 hbytes hbase fun v' w' h2 h3 _ => ?_
    obtain ⟨A', c', rfl⟩ := row_slice_g h2
    exact h A' c' w' h2 h3
theorem frC_one (l : List FrV) : ∀ u ∈ l.flatMap frC, u.oneCell' = true := by
  intro u hu
  obtain ⟨f, -, hf⟩ := List.mem_flatMap.1 hu
  simp only [frC, List.mem_cons, List.not_mem_nil, or_false] at hf
  rcases hf with rfl | rfl <;> rfl
theorem frC_len (l : List FrV) : (l.flatMap frC).length = l.length * 2 := by
  induction l with
  | nil => rfl
  | cons f l ih => rw [List.flatMap_cons, List.length_append, ih, List.length_cons]; simp only [frC, List.length_cons, List.length_nil]; omega
/-- An empty row that was just made. -/
theorem own_empty (w : World) (t : TypeId) (sz B g : Nat) (hg : w.heap.size = g) (hB : B ≤ g) : (w.alloc (.cells #[] t)).ownsRow B t sz (.slice (some ⟨g, 0, none⟩) 0 0) 0 [] := by
  subst hg
  exact ⟨by simp, .inr ⟨w.heap.size, 0, #[], rfl, hB, heap_alloc_new w _, Nat.le_refl _, by simp [maxLen], by simp, by simp⟩⟩
end Go.Proofs.Ytgiealcfhlcpoaa
