/- A region that draws: a call in its midst, and behind it whatever only reads, in one walk. -/
import Derived.Test.YtpicgemjfodlcaaBase
import Derived.Deep.QuietTactic
import Derived.BigQuiet
import Derived.Deep.RegionHeld3
set_option linter.unusedVariables false
namespace Go.Proofs.Ytpicgemjfodlcaa
section
variable {P : Program} {ops : Array Oper} {md : Region.Mode}
theorem held_of_quiet {S C : World → Prop} {Q : Act → Prop} {Q' : Exit → Act → World → Prop} (hS : ∀ w, C w → S w) (hQ : ∀ a w, C w → Q a → Q' .normal a w) :
    ∀ (fuel : Nat) (listed : Array Bool) (a : Act) (w : World), C w → wpAnyQ P md ops C Q fuel listed a → wpAnyH P md ops Q' S fuel listed a w
  | 0, _, _, _, hw, h => ⟨h.1, hQ _ _ hw h.2⟩
  | fuel + 1, listed, _, _, hw, h => ⟨fun h0 => hQ _ _ hw (h.1 h0), fun i hi => wpOp_of_qOp (K' := fun a' w' => S w' ∧ wpAnyH P md ops Q' S fuel (listed.setIfInBounds i true) a' w') hw (fun a' w' hw' hk => ⟨hS w' hw', held_of_quiet hS hQ fuel _ a' w' hw' hk⟩) (h.2 i hi)⟩
/-- The rest of a region, from operation k on, in the order of the text, in the class of a world behind some draws. -/
theorem held_rest {S : World → Prop} {Q' : Exit → Act → World → Prop} {fuel : Nat} {listed : Array Bool} {a : Act} {w : World} (l : List Oper) (k : Nat) (hs : Region.noSelect ops = true) (hf : l.length = fuel) (hl : ∀ j, l[j]? = ops[k + j]?)
    (hB : Region.lexFrom md ops l.length k listed = true) (hS : ∀ n, S (w.drewN n))
    (h : wpQuiet P ops (fun w' => ∃ n, w' = w.drewN n) (fun a' => ∀ w', (∃ n, w' = w.drewN n) → Q' .normal a' w') l a) : wpAnyH P md ops Q' S fuel listed a w := by
  subst hf
  exact held_of_quiet (C := fun w' => ∃ n, w' = w.drewN n) (fun w' ⟨n, hn⟩ => hn ▸ hS n) (fun _ w' hw' h => h w' hw') _ _ _ _ ⟨0, rfl⟩ (wpAnyQ_lex hs l k listed a hl hB h)
/-- The same behind the first seven operations of a region that is written out. -/
theorem held_rest7 {S : World → Prop} {Q' : Exit → Act → World → Prop} {fuel : Nat} {listed : Array Bool} {a : Act} {w : World} {o0 o1 o2 o3 o4 o5 o6 : Oper} {l : List Oper} (hs : Region.noSelect (o0 :: o1 :: o2 :: o3 :: o4 :: o5 :: o6 :: l).toArray = true) (hf : l.length = fuel)
    (hB : Region.lexFrom md (o0 :: o1 :: o2 :: o3 :: o4 :: o5 :: o6 :: l).toArray l.length 7 listed = true) (hS : ∀ n, S (w.drewN n))
    (h : wpQuiet P (o0 :: o1 :: o2 :: o3 :: o4 :: o5 :: o6 :: l).toArray (fun w' => ∃ n, w' = w.drewN n) (fun a' => ∀ w', (∃ n, w' = w.drewN n) → Q' .normal a' w') l a) :
    wpAnyH P md (o0 :: o1 :: o2 :: o3 :: o4 :: o5 :: o6 :: l).toArray Q' S fuel listed a w :=
  held_rest l 7 hs hf (fun j => by rw [Nat.add_comm]; simp) hB hS h
end
end Go.Proofs.Ytpicgemjfodlcaa
