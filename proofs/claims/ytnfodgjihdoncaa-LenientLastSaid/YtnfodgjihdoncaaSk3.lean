/- skip.own, and the functions of Of and Without. · skip.Of, skip.Without, skip.Last. · skip.Last. · What must be whatever is asked: layer 6. · What was read: numbers, lengths, places; End by the fields' words. · Fields alike; few fields. · The document's Same of fields. -/
import Derived.Test.YtnfodgjihdoncaaSk2
import Derived.Test.YtnfodgjihdoncaaM4
set_option linter.unusedVariables false
namespace Go.Proofs.Ytnfodgjihdoncaa
open Go.RowKit
/-- A field without its memory. -/
def fvK (f : FV) : Int × Int × Nat × List UInt8 × Int := (f.num, f.w, f.n, f.s.xs, f.at_)
/-- A field whose bytes are the call's own. -/
def FvOwn (B : Nat) (w : World) (f : FV) : Prop := w.ownsRow B 5 1 (.slice f.s.A f.s.xs.length f.s.c) f.s.xs.length (f.s.xs.map bv)
end Go.Proofs.Ytnfodgjihdoncaa
set_option linter.unusedVariables false
namespace Go.Proofs.Ytnfodgjihdoncaa
open Go.RowKit
theorem FvOk.below {w w' : World} {f : FV} (h : FvOk w f) (hb : Below w.heap.size w w') : FvOk w' f := ⟨h.w0, h.w1, h.n, h.n1, h.n2, h.a1, h.a2, h.s.below hb⟩
/-- What comes of choosing. -/
def Chosen (B : Nat) (ks : List (Int × Int × Nat × List UInt8 × Int)) (w : World) (e : Ending) (w' : World) : Prop :=
  ∃ (v : Value) (fs : List FV), e = .returned v ∧ w'.ownsRow B 95 5 v fs.length (fs.flatMap fvC) ∧ fs.map fvK = ks ∧ (∀ f ∈ fs, FvOwn B w' f) ∧ Below B w w'
end Go.Proofs.Ytnfodgjihdoncaa
set_option linter.unusedVariables false
namespace Go.Proofs.Ytnfodgjihdoncaa
open Go.RowKit
/-- The last field of a number and a wire type. -/
def lastK (l : List FV) (num x : Int) : Option FV := (l.filter fun f => decide (f.num = num) && decide (f.w = x)).getLast?
theorem lastK_hit (l : List FV) (num x : Int) (j : Nat) (hj : j < l.length) (h0 : (l.drop (j + 1)).filter (fun f => decide (f.num = num) && decide (f.w = x)) = []) (h1 : l[j].num = num) (h2 : l[j].w = x) : lastK l num x = some l[j] := by
  unfold lastK
  have e : l = l.take j ++ (l[j] :: l.drop (j + 1)) := by rw [← List.drop_eq_getElem_cons hj, List.take_append_drop]
  have e2 : l.filter (fun f => decide (f.num = num) && decide (f.w = x)) = (l.take j).filter (fun f => decide (f.num = num) && decide (f.w = x)) ++ [l[j]] := by
    conv => lhs; rw [e]
    rw [List.filter_append, List.filter_cons_of_pos (by simp [h1, h2]), h0]
  rw [e2]
  simp
theorem lastK_miss (l : List FV) (num x : Int) (j : Nat) (hj : j < l.length) (h0 : (l.drop (j + 1)).filter (fun f => decide (f.num = num) && decide (f.w = x)) = []) (h1 : ¬ (l[j].num = num ∧ l[j].w = x)) : (l.drop j).filter (fun f => decide (f.num = num) && decide (f.w = x)) = [] := by
  rw [List.drop_eq_getElem_cons hj, List.filter_cons_of_neg (by simpa using h1), h0]
theorem set5 {W : World} {z : Nat} {t : TypeId} {x0 x1 x2 x3 x4 : Value} (h : Blk W z t #[x0, x1, x2, x3, x4]) (y0 y1 y2 y3 y4 : Value) :
    Blk (((((W.setCell ⟨z, 0, none⟩ y0).setCell ⟨z, 1, none⟩ y1).setCell ⟨z, 2, none⟩ y2).setCell ⟨z, 3, none⟩ y3).setCell ⟨z, 4, none⟩ y4) z t #[y0, y1, y2, y3, y4] ∧
    Chg (fun k => k = z) W (((((W.setCell ⟨z, 0, none⟩ y0).setCell ⟨z, 1, none⟩ y1).setCell ⟨z, 2, none⟩ y2).setCell ⟨z, 3, none⟩ y3).setCell ⟨z, 4, none⟩ y4) := by
  refine ⟨by simpa using ((((h.set_ 0 y0).set_ 1 y1).set_ 2 y2).set_ 3 y3).set_ 4 y4, (((((Chg.refl (fun k => k = z) W).set_ (.inl rfl) 0 y0).set_ (.inl rfl) 1 y1).set_ (.inl rfl) 2 y2).set_ (.inl rfl) 3 y3).set_ (.inl rfl) 4 y4⟩
end Go.Proofs.Ytnfodgjihdoncaa
set_option linter.unusedVariables false
namespace Go.Proofs.Ytnfodgjihdoncaa
open Go.RowKit
theorem sln_own {w : World} {base e size n : Nat} {v : Value} {xs : List Value} (hsz : 0 < size) (h : w.ownsRow base e size v n xs) : ∃ A c, v = .slice A n c ∧ SlN w A n c size xs := by
  rcases h.2 with ⟨rfl, rfl⟩ | ⟨g, cap, cur, rfl, hb, hg, hnc, hcm, hcs, htake⟩
  · have hx : xs = [] := List.eq_nil_of_length_eq_zero (by simpa using h.1)
    subst hx
    exact ⟨none, 0, rfl, ⟨by simp, by omega, by omega, fun _ => rfl, Rd.nil_ w _⟩⟩
  · refine ⟨_, cap, rfl, ⟨h.1, hnc, hcm, (fun h => by cases h), fun k u hk => ⟨g, 0, rfl, (Array.getElem?_eq_some_iff.1 hg).1, ?_⟩⟩⟩
    have := h.cells (g := g) rfl k u hk
    rwa [addr_add] at this
theorem l6_f1 : flds [8, 5, 18, 1, 97] 5 0 = ([(⟨1, 0, 5, [], 0, 0, 2⟩, 0), (⟨2, 2, 0, [97], 0, 0, 5⟩, 2)], 0, 0) := by rfl
theorem l6_f2 : flds [8, 5, 18, 9] 4 0 = ([(⟨1, 0, 5, [], 0, 0, 2⟩, 0)], 4, 3) := by rfl
theorem l6_end : rOne ([8, 5, 18, 1, 97].drop 2) 0 = ⟨2, 2, 0, [97], 0, 0, 3⟩ := by rfl
theorem l6_put (A1 A2 : Option Addr) (c1 c2 : Nat) : putsE [⟨1, 0, 5, ⟨A1, c1, []⟩, 0⟩, ⟨2, 2, 0, ⟨A2, c2, [97]⟩, 2⟩] 0 = (0, 0) := by rfl
theorem l6_len (A1 A2 : Option Addr) (c1 c2 : Nat) : ([⟨1, 0, 5, ⟨A1, c1, []⟩, 0⟩, ⟨2, 2, 0, ⟨A2, c2, [97]⟩, 2⟩] : List FV).flatMap pBF = [8, 5, 18, 1, 97] := by
  simp [pBF, pB, pTail, mk, wireB, putN_small, b8]
theorem l6_last (A1 A2 : Option Addr) (c1 c2 : Nat) : lastK [⟨1, 0, 5, ⟨A1, c1, []⟩, 0⟩, ⟨2, 2, 0, ⟨A2, c2, [97]⟩, 2⟩] 2 2 = some ⟨2, 2, 0, ⟨A2, c2, [97]⟩, 2⟩ := by
  simp [lastK]
theorem sl_lit (w : World) (t : TypeId) (bs : List UInt8) (cs : Array Value) (n : Nat) (hn : bs.length = n) (hm : n ≤ 9223372036854775807) (h : cs.toList = bs.map bv) : Sl (w.alloc (.cells cs t)) (some ⟨w.heap.size, 0, none⟩) n (bs.map bv) :=
  ⟨by simp [hn], hm, (fun h => by cases h), by rw [← h]; exact Rd.new w t cs⟩
theorem l6_fields (w : World) (A : Option Addr) (c : Nat) (hs : Sl w A c (([8, 5, 18, 1, 97] : List UInt8).map bv)) :
    Calls Try.prog 81 #[.slice A 5 c] w fun e W' => ∃ (Al : Option Addr) (cl : Nat) (A1 : Option Addr) (c1 : Nat) (A2 : Option Addr) (c2 : Nat), e = .returned (.tuple #[.slice Al 2 cl, .agg #[.int .i64 0, .int .i64 0]]) ∧ SlN W' Al 2 cl 5 (([⟨1, 0, 5, ⟨A1, c1, []⟩, 0⟩, ⟨2, 2, 0, ⟨A2, c2, [97]⟩, 2⟩] : List FV).flatMap fvC) ∧
      FvOk W' ⟨1, 0, 5, ⟨A1, c1, []⟩, 0⟩ ∧ FvOk W' ⟨2, 2, 0, ⟨A2, c2, [97]⟩, 2⟩ ∧ Below w.heap.size w W' := by
  refine ((callsIn_wide (n := 4)).1 (fields_in 4 (by omega) [8, 5, 18, 1, 97] 5 A c w rfl (by omega) hs)).mono ?_
  rintro e W' ⟨(⟨-, v, b, pre, rfl, -, ho, hfa, hsl⟩ | ⟨he, -⟩), hb⟩
  · rw [l6_f1] at hfa
    match pre, hfa with
    | [⟨n1, w1, k1, ⟨A1, c1, x1⟩, a1⟩, ⟨n2, w2, k2, ⟨A2, c2, x2⟩, a2⟩], hfa =>
      obtain ⟨⟨h1, h2, h3, h4, h5⟩, ⟨h6, h7, h8, h9, h10⟩, -⟩ := hfa
      simp only at h1 h2 h3 h4 h5 h6 h7 h8 h9 h10
      subst h1 h2 h3 h4 h6 h7 h8 h9
      have h5 : a1 = 0 := h5
      have h10 : a2 = 2 := h10
      subst h5 h10
      obtain ⟨Al, cl, rfl, hsn⟩ := sln_own (by omega) ho
      have s1 := (hsl _ (List.mem_cons_self ..)).1
      have s2 := (hsl _ (List.mem_cons_of_mem _ (List.mem_singleton.2 rfl))).1
      exact ⟨Al, cl, A1, c1, A2, c2, rfl, hsn, ⟨by dsimp only; omega, by dsimp only; omega, by dsimp only; omega, by dsimp only; omega, by dsimp only; omega, by dsimp only; omega, by dsimp only; omega, s1⟩, ⟨by dsimp only; omega, by dsimp only; omega, by dsimp only; omega, by dsimp only; omega, by dsimp only; omega, by dsimp only; omega, by dsimp only; omega, s2⟩, hb⟩
  · rw [l6_f1] at he; exact absurd rfl he
theorem l6_short (w : World) (A : Option Addr) (c : Nat) (hs : Sl w A c (([8, 5, 18, 9] : List UInt8).map bv)) :
    Calls Try.prog 81 #[.slice A 4 c] w fun e W' => e = .returned (.tuple #[.slice none 0 0, .agg #[.int .i64 4, .int .i64 3]]) ∧ Below w.heap.size w W' := by
  refine ((callsIn_wide (n := 4)).1 (fields_in 4 (by omega) [8, 5, 18, 9] 4 A c w rfl (by omega) hs)).mono ?_
  rintro e W' ⟨(⟨he, -⟩ | ⟨-, rfl⟩), hb⟩
  · rw [l6_f2] at he; exact absurd he (by decide)
  · rw [l6_f2]; exact ⟨rfl, hb⟩
/-- The two fields. -/
def L6 (A1 : Option Addr) (c1 : Nat) (A2 : Option Addr) (c2 : Nat) : List FV := [⟨1, 0, 5, ⟨A1, c1, []⟩, 0⟩, ⟨2, 2, 0, ⟨A2, c2, [97]⟩, 2⟩]
structure L6Ok (w : World) (Al : Option Addr) (cl : Nat) (A1 : Option Addr) (c1 : Nat) (A2 : Option Addr) (c2 : Nat) : Prop where
  sl : SlN w Al 2 cl 5 ((L6 A1 c1 A2 c2).flatMap fvC)
  ok : ∀ f ∈ L6 A1 c1 A2 c2, FvOk w f
theorem L6Ok.below {w w' : World} {Al A1 A2 : Option Addr} {cl c1 c2 : Nat} (h : L6Ok w Al cl A1 c1 A2 c2) (hb : Below w.heap.size w w') : L6Ok w' Al cl A1 c1 A2 c2 := ⟨h.sl.below hb, fun f hf => (h.ok f hf).below hb⟩
theorem L6_short (A1 : Option Addr) (c1 : Nat) (A2 : Option Addr) (c2 : Nat) : ∀ f ∈ L6 A1 c1 A2 c2, f.s.xs.length ≤ 2000 := by
  intro f hf
  simp only [L6, List.mem_cons, List.not_mem_nil, or_false] at hf
  rcases hf with rfl | rfl <;> simp
section
variable {w : World} {Al A1 A2 : Option Addr} {cl c1 c2 : Nat}
theorem l6_puts (h : L6Ok w Al cl A1 c1 A2 c2) : Calls Try.prog 105 #[.slice Al 2 cl] w fun e W' => ∃ v c, e = .returned (.tuple #[.slice v 5 c, .agg #[.int .i64 0, .int .i64 0]]) ∧ Below w.heap.size w W' := by
  refine (sputs_any _ 2 Al cl w rfl (by omega) h.sl h.ok (L6_short _ _ _ _)).mono ?_
  rintro e W' ⟨(⟨-, v, rfl, ho⟩ | ⟨he, -⟩), hb⟩
  · rw [show (L6 A1 c1 A2 c2).flatMap pBF = [8, 5, 18, 1, 97] from l6_len A1 A2 c1 c2] at ho
    obtain ⟨A, c, rfl, -, -⟩ := Sl.of_own ho
    exact ⟨A, c, rfl, hb⟩
  · exact absurd (by rw [show putsE (L6 A1 c1 A2 c2) 0 = (0, 0) from l6_put A1 A2 c1 c2]) he
end
theorem conv_bs6 {P : Program} {w : World} {src dst e : TypeId} {A : Option Addr} {n c : Nat} {vs : List UInt8} (hsl : Sl w A c (vs.map bv)) (hn : vs.length = n) (hs : P.underlying src = some (.slice e)) (he : P.underlying e = some (.int .u8)) (hd : P.underlying dst = some .string) :
    (convert src dst (.slice A n c)).run P w = .ok (.string ⟨vs.toArray⟩) w := by
  subst hn
  cases A with
  | none =>
    obtain hnil := hsl.rd.none_nil
    obtain rfl : vs = [] := by simpa using hnil
    obtain rfl := hsl.nil0 rfl
    exact run_convert_bytes_nil w src e hs he 0 0 dst hd
  | some a =>
    exact run_convert_bytes_back _ src dst e _ _ vs hs he hd fun j hj => by
      have := hsl.rd.addr j (bv vs[j]) (by simp [hj])
      exact this
theorem l6_wk {w : World} {Al A1 A2 : Option Addr} {cl c1 c2 : Nat} (h : SlN w Al 2 cl 5 (([⟨1, 0, 5, ⟨A1, c1, []⟩, 0⟩, ⟨2, 2, 0, ⟨A2, c2, [97]⟩, 2⟩] : List FV).flatMap fvC)) (g1 : FvOk w ⟨1, 0, 5, ⟨A1, c1, []⟩, 0⟩) (g2 : FvOk w ⟨2, 2, 0, ⟨A2, c2, [97]⟩, 2⟩) : L6Ok w Al cl A1 c1 A2 c2 := by
  refine ⟨h, fun f hf => ?_⟩
  simp only [L6, List.mem_cons, List.not_mem_nil, or_false] at hf
  rcases hf with rfl | rfl
  · exact g1
  · exact g2
end Go.Proofs.Ytnfodgjihdoncaa
set_option linter.unusedVariables false
namespace Go.Proofs.Ytnfodgjihdoncaa
open Go.RowKit
/-- What may be of a field that was read of n bytes. -/
def ReadOk (n : Nat) (f : FV) : Prop := 0 ≤ f.w ∧ f.w ≤ 255 ∧ f.n ≤ 18446744073709551615 ∧ 1 ≤ f.num ∧ f.num ≤ 536870911 ∧ 0 ≤ f.at_ ∧ f.at_ ≤ n ∧ f.s.xs.length ≤ n
theorem read_ok (bs : List UInt8) : ∀ (fu p : Nat) (fs : List FV), p ≤ bs.length → fvAll fs (flds bs fu p).1 → fs.length + p ≤ bs.length ∧ ∀ f ∈ fs, ReadOk bs.length f
  | 0, p, fs, hp, hf => by
    cases fs with
    | nil => exact ⟨by simpa using hp, fun f hf => by simp at hf⟩
    | cons f fs => exact hf.elim
  | fu + 1, p, fs, hp, hf => by
    rw [flds] at hf
    by_cases h1 : bs.length ≤ p
    · rw [if_pos h1] at hf
      cases fs with
      | nil => exact ⟨by simpa using hp, fun f hf => by simp at hf⟩
      | cons f fs => exact hf.elim
    · rw [if_neg h1] at hf
      by_cases h2 : (rOne bs p).e = 0
      · rw [if_pos h2] at hf
        cases fs with
        | nil => exact ⟨by simpa using hp, fun f hf => by simp at hf⟩
        | cons f fs =>
          have hn := rOne_facts bs p hp
          obtain ⟨n1, n2, n3, n4, n5⟩ := hn.1 h2
          obtain ⟨a1, a2, a3, a4⟩ := again_one f bs p hp h2 hf.1
          obtain ⟨b1, b2⟩ := read_ok bs fu (rOne bs p).nx fs n2 hf.2
          obtain ⟨f1, f2, f3, f4, f5⟩ := hf.1
          simp only at f1 f2 f3 f4 f5
          refine ⟨by rw [List.length_cons]; omega, fun g hg => ?_⟩
          rcases List.mem_cons.1 hg with rfl | hg
          · have hx : g.s.xs.length ≤ bs.length := by
              have hp2 : (pBF g).length = (putN (mk g.num g.w).1.toNat).length + (pTail g.w g.n g.s.xs).length := by unfold pBF pB; rw [List.length_append]
              by_cases hw : g.w = 2
              · have ht : pTail g.w g.n g.s.xs = putN g.s.xs.length ++ g.s.xs := by rw [hw]; rfl
                rw [ht, List.length_append] at hp2
                omega
              · unfold bareX at a3
                rw [if_neg hw] at a3
                rw [← a3]; simp
            refine ⟨by rw [f2]; omega, by rw [f2]; omega, by rw [f3]; exact hn.2, by rw [f1]; exact n3, by rw [f1]; exact n4, by rw [f5]; omega, by rw [f5]; omega, hx⟩
          · exact b2 g hg
      · rw [if_neg h2] at hf
        cases fs with
        | nil => exact ⟨by simpa using hp, fun f hf => by simp at hf⟩
        | cons f fs => exact hf.elim
end Go.Proofs.Ytnfodgjihdoncaa
set_option linter.unusedVariables false
namespace Go.Proofs.Ytnfodgjihdoncaa
open Go.RowKit
def likeB (f g : FV) : Bool := decide (f.num = g.num ∧ f.w = g.w ∧ f.n = g.n ∧ f.s.xs = g.s.xs)
/-- Few fields, of few bytes each. -/
def fewB (l : List FV) : Bool := decide (l.length ≤ 40) && l.all fun f => decide (f.s.xs.length ≤ 1000)
theorem fewB_facts {l : List FV} (h : fewB l = true) : l.length ≤ 40 ∧ ∀ f ∈ l, f.s.xs.length ≤ 1000 := by
  unfold fewB at h
  rw [Bool.and_eq_true, List.all_eq_true] at h
  exact ⟨by simpa using h.1, fun f hf => by simpa using h.2 f hf⟩
end Go.Proofs.Ytnfodgjihdoncaa
set_option linter.unusedVariables false
namespace Go.Proofs.Ytnfodgjihdoncaa
open Go.RowKit
theorem likeK (f g : FV) : (likeB f g = true ∧ f.at_ = g.at_) ↔ fvK f = fvK g := by
  unfold likeB fvK
  simp only [decide_eq_true_eq, Prod.mk.injEq]
  constructor
  · rintro ⟨⟨h1, h2, h3, h4⟩, h5⟩; exact ⟨h1, h2, h3, h4, h5⟩
  · rintro ⟨h1, h2, h3, h4, h5⟩; exact ⟨⟨h1, h2, h3, h4⟩, h5⟩
theorem held10 {w w' : World} (hc : Below w.heap.size w w') {p0 p1 p2 p3 p4 p5 p6 p7 p8 p9 : Addr} {x0 x1 x2 x3 x4 x5 x6 x7 x8 x9 : Value} (h : w.cell? p0 = some x0 ∧ w.cell? p1 = some x1 ∧ w.cell? p2 = some x2 ∧ w.cell? p3 = some x3 ∧ w.cell? p4 = some x4 ∧ w.cell? p5 = some x5 ∧ w.cell? p6 = some x6 ∧ w.cell? p7 = some x7 ∧ w.cell? p8 = some x8 ∧ w.cell? p9 = some x9) : w'.cell? p0 = some x0 ∧ w'.cell? p1 = some x1 ∧ w'.cell? p2 = some x2 ∧ w'.cell? p3 = some x3 ∧ w'.cell? p4 = some x4 ∧ w'.cell? p5 = some x5 ∧ w'.cell? p6 = some x6 ∧ w'.cell? p7 = some x7 ∧ w'.cell? p8 = some x8 ∧ w'.cell? p9 = some x9 := by
  obtain ⟨h0, h1, h2, h3, h4, h5, h6, h7, h8, h9⟩ := h
  have f : ∀ (p : Addr) (x : Value), w.cell? p = some x → w'.cell? p = some x := fun p x h => (hc.cell (World.block_lt_of_cell? w p h)).trans h
  exact ⟨f _ _ h0, f _ _ h1, f _ _ h2, f _ _ h3, f _ _ h4, f _ _ h5, f _ _ h6, f _ _ h7, f _ _ h8, f _ _ h9⟩
end Go.Proofs.Ytnfodgjihdoncaa
