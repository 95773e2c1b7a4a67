/- What must be whatever is asked: layer 6. -/
import Derived.Test.YtefoccpgnijamaaSkLast
import Derived.Test.YtefoccpgnijamaaSkEnd
set_option linter.unusedVariables false
namespace Go.Proofs.Ytefoccpgnijamaa
open Go.RowKit
theorem sln_own {w : World} {base e size n : Nat} {v : Value} {xs : List Value} (hsz : 0 < size) (h : w.ownsRow base e size v n xs) : ∃ A c, v = .slice A n c ∧ SlN w A n c size xs := by
  rcases h.2 with ⟨rfl, rfl⟩ | ⟨g, cap, cur, rfl, hb, hg, hnc, hcm, hcs, htake⟩
  · have hx : xs = [] := List.eq_nil_of_length_eq_zero (by simpa using h.1)
    subst hx
    exact ⟨none, 0, rfl, ⟨by simp, by omega, by omega, fun _ => rfl, Rd.nil_ w _⟩⟩
  · refine ⟨_, cap, rfl, ⟨h.1, hnc, hcm, (fun h => by cases h), fun k u hk => ⟨g, 0, rfl, (Array.getElem?_eq_some_iff.1 hg).1, ?_⟩⟩⟩
    have := h.cells (g := g) rfl k u hk
    rwa [addr_add] at this
theorem l6_f1 : flds [8, 5, 18, 1, 97] 5 0 = ([(⟨1, 0, 5, [], 0, 0, 2⟩, 0), (⟨2, 2, 0, [97], 0, 0, 5⟩, 2)], 0, 0) := by rfl
theorem l6_f2 : flds [8, 5, 18, 9] 4 0 = ([(⟨1, 0, 5, [], 0, 0, 2⟩, 0)], 4, 3) := by rfl
theorem l6_end : rOne ([8, 5, 18, 1, 97].drop 2) 0 = ⟨2, 2, 0, [97], 0, 0, 3⟩ := by rfl
theorem l6_put (A1 A2 : Option Addr) (c1 c2 : Nat) : putsE [⟨1, 0, 5, ⟨A1, c1, []⟩, 0⟩, ⟨2, 2, 0, ⟨A2, c2, [97]⟩, 2⟩] 0 = (0, 0) := by rfl
theorem l6_len (A1 A2 : Option Addr) (c1 c2 : Nat) : ([⟨1, 0, 5, ⟨A1, c1, []⟩, 0⟩, ⟨2, 2, 0, ⟨A2, c2, [97]⟩, 2⟩] : List FV).flatMap pBF = [8, 5, 18, 1, 97] := by
  simp [pBF, pB, pTail, mk, wireB, putN_small, b8]
theorem l6_last (A1 A2 : Option Addr) (c1 c2 : Nat) : lastK [⟨1, 0, 5, ⟨A1, c1, []⟩, 0⟩, ⟨2, 2, 0, ⟨A2, c2, [97]⟩, 2⟩] 2 2 = some ⟨2, 2, 0, ⟨A2, c2, [97]⟩, 2⟩ := by
  simp [lastK]
theorem sl_lit (w : World) (t : TypeId) (bs : List UInt8) (cs : Array Value) (n : Nat) (hn : bs.length = n) (hm : n ≤ 9223372036854775807) (h : cs.toList = bs.map bv) : Sl (w.alloc (.cells cs t)) (some ⟨w.heap.size, 0, none⟩) n (bs.map bv) :=
  ⟨by simp [hn], hm, (fun h => by cases h), by rw [← h]; exact Rd.new w t cs⟩
theorem l6_fields (w : World) (A : Option Addr) (c : Nat) (hs : Sl w A c (([8, 5, 18, 1, 97] : List UInt8).map bv)) :
    Calls Try.prog 32 #[.slice A 5 c] w fun e W' => ∃ (Al : Option Addr) (cl : Nat) (A1 : Option Addr) (c1 : Nat) (A2 : Option Addr) (c2 : Nat), e = .returned (.tuple #[.slice Al 2 cl, .agg #[.int .i64 0, .int .i64 0]]) ∧ SlN W' Al 2 cl 5 (([⟨1, 0, 5, ⟨A1, c1, []⟩, 0⟩, ⟨2, 2, 0, ⟨A2, c2, [97]⟩, 2⟩] : List FV).flatMap fvC) ∧
      FvOk W' ⟨1, 0, 5, ⟨A1, c1, []⟩, 0⟩ ∧ FvOk W' ⟨2, 2, 0, ⟨A2, c2, [97]⟩, 2⟩ ∧ Below w.heap.size w W' := by
  refine ((callsIn_wide (n := 4)).1 (fields_in 4 (by omega) [8, 5, 18, 1, 97] 5 A c w rfl (by omega) hs)).mono ?_
  rintro e W' ⟨(⟨-, v, b, pre, rfl, -, ho, hfa, hsl⟩ | ⟨he, -⟩), hb⟩
  · rw [l6_f1] at hfa
    match pre, hfa with
    | [⟨n1, w1, k1, ⟨A1, c1, x1⟩, a1⟩, ⟨n2, w2, k2, ⟨A2, c2, x2⟩, a2⟩], hfa =>
      obtain ⟨⟨h1, h2, h3, h4, h5⟩, ⟨h6, h7, h8, h9, h10⟩, -⟩ := hfa
      simp only at h1 h2 h3 h4 h5 h6 h7 h8 h9 h10
      subst h1 h2 h3 h4 h6 h7 h8 h9
      have h5 : a1 = 0 := h5
      have h10 : a2 = 2 := h10
      subst h5 h10
      obtain ⟨Al, cl, rfl, hsn⟩ := sln_own (by omega) ho
      have s1 := (hsl _ (List.mem_cons_self ..)).1
      have s2 := (hsl _ (List.mem_cons_of_mem _ (List.mem_singleton.2 rfl))).1
      exact ⟨Al, cl, A1, c1, A2, c2, rfl, hsn, ⟨by dsimp only; omega, by dsimp only; omega, by dsimp only; omega, by dsimp only; omega, by dsimp only; omega, by dsimp only; omega, by dsimp only; omega, s1⟩, ⟨by dsimp only; omega, by dsimp only; omega, by dsimp only; omega, by dsimp only; omega, by dsimp only; omega, by dsimp only; omega, by dsimp only; omega, s2⟩, hb⟩
  · rw [l6_f1] at he; exact absurd rfl he
theorem l6_short (w : World) (A : Option Addr) (c : Nat) (hs : Sl w A c (([8, 5, 18, 9] : List UInt8).map bv)) :
    Calls Try.prog 32 #[.slice A 4 c] w fun e W' => e = .returned (.tuple #[.slice none 0 0, .agg #[.int .i64 4, .int .i64 3]]) ∧ Below w.heap.size w W' := by
  refine ((callsIn_wide (n := 4)).1 (fields_in 4 (by omega) [8, 5, 18, 9] 4 A c w rfl (by omega) hs)).mono ?_
  rintro e W' ⟨(⟨he, -⟩ | ⟨-, rfl⟩), hb⟩
  · rw [l6_f2] at he; exact absurd he (by decide)
  · rw [l6_f2]; exact ⟨rfl, hb⟩
/-- The two fields. -/
def L6 (A1 : Option Addr) (c1 : Nat) (A2 : Option Addr) (c2 : Nat) : List FV := [⟨1, 0, 5, ⟨A1, c1, []⟩, 0⟩, ⟨2, 2, 0, ⟨A2, c2, [97]⟩, 2⟩]
structure L6Ok (w : World) (Al : Option Addr) (cl : Nat) (A1 : Option Addr) (c1 : Nat) (A2 : Option Addr) (c2 : Nat) : Prop where
  sl : SlN w Al 2 cl 5 ((L6 A1 c1 A2 c2).flatMap fvC)
  ok : ∀ f ∈ L6 A1 c1 A2 c2, FvOk w f
theorem L6Ok.below {w w' : World} {Al A1 A2 : Option Addr} {cl c1 c2 : Nat} (h : L6Ok w Al cl A1 c1 A2 c2) (hb : Below w.heap.size w w') : L6Ok w' Al cl A1 c1 A2 c2 := ⟨h.sl.below hb, fun f hf => (h.ok f hf).below hb⟩
theorem L6_short (A1 : Option Addr) (c1 : Nat) (A2 : Option Addr) (c2 : Nat) : ∀ f ∈ L6 A1 c1 A2 c2, f.s.xs.length ≤ 2000 := by
  intro f hf
  simp only [L6, List.mem_cons, List.not_mem_nil, or_false] at hf
  rcases hf with rfl | rfl <;> simp
section
variable {w : World} {Al A1 A2 : Option Addr} {cl c1 c2 : Nat}
theorem l6_puts (h : L6Ok w Al cl A1 c1 A2 c2) : Calls Try.prog 26 #[.slice Al 2 cl] w fun e W' => ∃ v c, e = .returned (.tuple #[.slice v 5 c, .agg #[.int .i64 0, .int .i64 0]]) ∧ Below w.heap.size w W' := by
  refine (sputs_any _ 2 Al cl w rfl (by omega) h.sl h.ok (L6_short _ _ _ _)).mono ?_
  rintro e W' ⟨(⟨-, v, rfl, ho⟩ | ⟨he, -⟩), hb⟩
  · rw [show (L6 A1 c1 A2 c2).flatMap pBF = [8, 5, 18, 1, 97] from l6_len A1 A2 c1 c2] at ho
    obtain ⟨A, c, rfl, -, -⟩ := Sl.of_own ho
    exact ⟨A, c, rfl, hb⟩
  · exact absurd (by rw [show putsE (L6 A1 c1 A2 c2) 0 = (0, 0) from l6_put A1 A2 c1 c2]) he
end
theorem conv_bs6 {P : Program} {w : World} {src dst e : TypeId} {A : Option Addr} {n c : Nat} {vs : List UInt8} (hsl : Sl w A c (vs.map bv)) (hn : vs.length = n) (hs : P.underlying src = some (.slice e)) (he : P.underlying e = some (.int .u8)) (hd : P.underlying dst = some .string) :
    (convert src dst (.slice A n c)).run P w = .ok (.string ⟨vs.toArray⟩) w := by
  subst hn
  cases A with
  | none =>
    obtain hnil := hsl.rd.none_nil
    obtain rfl : vs = [] := by simpa using hnil
    obtain rfl := hsl.nil0 rfl
    exact run_convert_bytes_nil w src e hs he 0 0 dst hd
  | some a =>
    exact run_convert_bytes_back _ src dst e _ _ vs hs he hd fun j hj => by
      have := hsl.rd.addr j (bv vs[j]) (by simp [hj])
      exact this
theorem l6_wk {w : World} {Al A1 A2 : Option Addr} {cl c1 c2 : Nat} (h : SlN w Al 2 cl 5 (([⟨1, 0, 5, ⟨A1, c1, []⟩, 0⟩, ⟨2, 2, 0, ⟨A2, c2, [97]⟩, 2⟩] : List FV).flatMap fvC)) (g1 : FvOk w ⟨1, 0, 5, ⟨A1, c1, []⟩, 0⟩) (g2 : FvOk w ⟨2, 2, 0, ⟨A2, c2, [97]⟩, 2⟩) : L6Ok w Al cl A1 c1 A2 c2 := by
  refine ⟨h, fun f hf => ?_⟩
  simp only [L6, List.mem_cons, List.not_mem_nil, or_false] at hf
  rcases hf with rfl | rfl
  · exact g1
  · exact g2
end Go.Proofs.Ytefoccpgnijamaa
