/- The document's Walk and Whole. -/
import Derived.Test.YtabklpgimjmdlaaRsRow
import Derived.Test.YtabklpgimjmdlaaRsM4
set_option linter.unusedVariables false
namespace Go.Proofs.Ytabklpgimjmdlaa
open Go.RowKit
theorem FdRow.grow {B k : Nat} {w1 w2 : World} {v v' : Value} {fs : List FdV} {f : FdV} (hk : fs.length = k) (ho : w1.ownsRow B 61 3 v k (fs.flatMap fdC)) (hp : ∀ g ∈ fs, Pay B w1 g.A g.c g.f.pl) (hf : Pay B w1 f.A f.c f.f.pl)
    (ho2 : w2.ownsRow B 61 3 v' (k + 1) (fs.flatMap fdC ++ fdC f)) (hg : w1.grownBy w2 v.ownBlock) : FdRow B w2 v' (fs.map FdV.f ++ [f.f]) := by
  subst hk
  have hcg : Chg (fun q => some q = v.ownBlock) w1 w2 := Chg.of_grown hg (fun g e => e.symm)
  have hty : ∀ b cs kk, B ≤ b → w1.heap[b]? = some (.cells cs 5 kk) → ¬ (some b = v.ownBlock) := by
    rintro b cs kk hb hcs h
    rcases ho.2 with ⟨rfl, -⟩ | ⟨g, cap, cur, rfl, -, hg1, -⟩
    · cases h
    · simp only [Value.ownBlock] at h
      injection h with h
      subst h
      rw [hcs] at hg1
      injection hg1 with hg1
      injection hg1 with _ hg1
      exact absurd hg1 (by decide)
  refine ⟨fs ++ [f], by rw [List.map_append]; rfl, ?_, ?_⟩
  · rw [List.length_append, List.flatMap_append, List.flatMap_cons, List.flatMap_nil, List.append_nil]
    exact ho2
  · intro g hg
    rcases List.mem_append.1 hg with hg | hg
    · exact (hp g hg).chg hcg hty
    · obtain rfl := List.mem_singleton.1 hg
      exact hf.chg hcg hty
/-- What walking comes to. -/
def WkR (w : World) (fin : Bool) (bs : List UInt8) (e : Ending) (w' : World) : Prop :=
  ∃ A c ps, e = .returned (.tuple #[.slice A (Rs.wk fin bs 0).1.length c, .int .i64 (ps : Nat), .int .i64 ((Rs.wk fin bs 0).2 : Nat)]) ∧ ps + Rs.tot (Rs.wk fin bs 0).1 = (Rs.wk fin bs 0).2 ∧ FdRow w.heap.size w' (.slice A (Rs.wk fin bs 0).1.length c) (Rs.wk fin bs 0).1 ∧ Below w.heap.size w w'
end Go.Proofs.Ytabklpgimjmdlaa
