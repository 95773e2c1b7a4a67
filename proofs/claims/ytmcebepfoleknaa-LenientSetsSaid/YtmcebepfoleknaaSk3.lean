/- skip.own, and the functions of Of and Without. · skip.Of, skip.Without, skip.Last. · skip.Last. · What must be whatever is asked: layer 6. · What was read: numbers, lengths, places; End by the fields' words. · Fields alike; few fields. · The document's Same of fields. -/
import Derived.Test.YtmcebepfoleknaaSk2
import Derived.Test.YtmcebepfoleknaaM4
set_option linter.unusedVariables false
namespace Go.Proofs.Ytmcebepfoleknaa
open Go.RowKit
end Go.Proofs.Ytmcebepfoleknaa
set_option linter.unusedVariables false
namespace Go.Proofs.Ytmcebepfoleknaa
open Go.RowKit
theorem FvOk.below {w w' : World} {f : FV} (h : FvOk w f) (hb : Below w.heap.size w w') : FvOk w' f := ⟨h.w0, h.w1, h.n, h.n1, h.n2, h.a1, h.a2, h.s.below hb⟩
end Go.Proofs.Ytmcebepfoleknaa
set_option linter.unusedVariables false
namespace Go.Proofs.Ytmcebepfoleknaa
open Go.RowKit
end Go.Proofs.Ytmcebepfoleknaa
set_option linter.unusedVariables false
namespace Go.Proofs.Ytmcebepfoleknaa
open Go.RowKit
theorem sln_own {w : World} {base e size n : Nat} {v : Value} {xs : List Value} (hsz : 0 < size) (h : w.ownsRow base e size v n xs) : ∃ A c, v = .slice A n c ∧ SlN w A n c size xs := by
  rcases h.2 with ⟨rfl, rfl⟩ | ⟨g, cap, cur, rfl, hb, hg, hnc, hcm, hcs, htake⟩
  · have hx : xs = [] := List.eq_nil_of_length_eq_zero (by simpa using h.1)
    subst hx
    exact ⟨none, 0, rfl, ⟨by simp, by omega, by omega, fun _ => rfl, Rd.nil_ w _⟩⟩
  · refine ⟨_, cap, rfl, ⟨h.1, hnc, hcm, (fun h => by cases h), fun k u hk => ⟨g, 0, rfl, (Array.getElem?_eq_some_iff.1 hg).1, ?_⟩⟩⟩
    have := h.cells (g := g) rfl k u hk
    rwa [addr_add] at this
theorem sl_lit (w : World) (t : TypeId) (bs : List UInt8) (cs : Array Value) (n : Nat) (hn : bs.length = n) (hm : n ≤ 9223372036854775807) (h : cs.toList = bs.map bv) : Sl (w.alloc (.cells cs t)) (some ⟨w.heap.size, 0, none⟩) n (bs.map bv) :=
  ⟨by simp [hn], hm, (fun h => by cases h), by rw [← h]; exact Rd.new w t cs⟩
/-- The two fields. -/
def L6 (A1 : Option Addr) (c1 : Nat) (A2 : Option Addr) (c2 : Nat) : List FV := [⟨1, 0, 5, ⟨A1, c1, []⟩, 0⟩, ⟨2, 2, 0, ⟨A2, c2, [97]⟩, 2⟩]
structure L6Ok (w : World) (Al : Option Addr) (cl : Nat) (A1 : Option Addr) (c1 : Nat) (A2 : Option Addr) (c2 : Nat) : Prop where
  sl : SlN w Al 2 cl 5 ((L6 A1 c1 A2 c2).flatMap fvC)
  ok : ∀ f ∈ L6 A1 c1 A2 c2, FvOk w f
theorem L6Ok.below {w w' : World} {Al A1 A2 : Option Addr} {cl c1 c2 : Nat} (h : L6Ok w Al cl A1 c1 A2 c2) (hb : Below w.heap.size w w') : L6Ok w' Al cl A1 c1 A2 c2 := ⟨h.sl.below hb, fun f hf => (h.ok f hf).below hb⟩
section
variable {w : World} {Al A1 A2 : Option Addr} {cl c1 c2 : Nat}
end
end Go.Proofs.Ytmcebepfoleknaa
set_option linter.unusedVariables false
namespace Go.Proofs.Ytmcebepfoleknaa
open Go.RowKit
/-- What may be of a field that was read of n bytes. -/
def ReadOk (n : Nat) (f : FV) : Prop := 0 ≤ f.w ∧ f.w ≤ 255 ∧ f.n ≤ 18446744073709551615 ∧ 1 ≤ f.num ∧ f.num ≤ 536870911 ∧ 0 ≤ f.at_ ∧ f.at_ ≤ n ∧ f.s.xs.length ≤ n
theorem read_ok (bs : List UInt8) : ∀ (fu p : Nat) (fs : List FV), p ≤ bs.length → fvAll fs (flds bs fu p).1 → fs.length + p ≤ bs.length ∧ ∀ f ∈ fs, ReadOk bs.length f
  | 0, p, fs, hp, hf => by
    cases fs with
    | nil => exact ⟨by simpa using hp, fun f hf => by simp at hf⟩
    | cons f fs => exact hf.elim
  | fu + 1, p, fs, hp, hf => by
    rw [flds] at hf
    by_cases h1 : bs.length ≤ p
    · rw [if_pos h1] at hf
      cases fs with
      | nil => exact ⟨by simpa using hp, fun f hf => by simp at hf⟩
      | cons f fs => exact hf.elim
    · rw [if_neg h1] at hf
      by_cases h2 : (rOne bs p).e = 0
      · rw [if_pos h2] at hf
        cases fs with
        | nil => exact ⟨by simpa using hp, fun f hf => by simp at hf⟩
        | cons f fs =>
          have hn := rOne_facts bs p hp
          obtain ⟨n1, n2, n3, n4, n5⟩ := hn.1 h2
          obtain ⟨a1, a2, a3, a4⟩ := again_one f bs p hp h2 hf.1
          obtain ⟨b1, b2⟩ := read_ok bs fu (rOne bs p).nx fs n2 hf.2
          obtain ⟨f1, f2, f3, f4, f5⟩ := hf.1
          simp only at f1 f2 f3 f4 f5
          refine ⟨by rw [List.length_cons]; omega, fun g hg => ?_⟩
          rcases List.mem_cons.1 hg with rfl | hg
          · have hx : g.s.xs.length ≤ bs.length := by
              have hp2 : (pBF g).length = (putN (mk g.num g.w).1.toNat).length + (pTail g.w g.n g.s.xs).length := by unfold pBF pB; rw [List.length_append]
              by_cases hw : g.w = 2
              · have ht : pTail g.w g.n g.s.xs = putN g.s.xs.length ++ g.s.xs := by rw [hw]; rfl
                rw [ht, List.length_append] at hp2
                omega
              · unfold bareX at a3
                rw [if_neg hw] at a3
                rw [← a3]; simp
            refine ⟨by rw [f2]; omega, by rw [f2]; omega, by rw [f3]; exact hn.2, by rw [f1]; exact n3, by rw [f1]; exact n4, by rw [f5]; omega, by rw [f5]; omega, hx⟩
          · exact b2 g hg
      · rw [if_neg h2] at hf
        cases fs with
        | nil => exact ⟨by simpa using hp, fun f hf => by simp at hf⟩
        | cons f fs => exact hf.elim
end Go.Proofs.Ytmcebepfoleknaa
set_option linter.unusedVariables false
namespace Go.Proofs.Ytmcebepfoleknaa
open Go.RowKit
end Go.Proofs.Ytmcebepfoleknaa
set_option linter.unusedVariables false
namespace Go.Proofs.Ytmcebepfoleknaa
open Go.RowKit
end Go.Proofs.Ytmcebepfoleknaa
