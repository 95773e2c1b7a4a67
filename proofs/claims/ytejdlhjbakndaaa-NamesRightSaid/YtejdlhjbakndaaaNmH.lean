/- Names: what is held of a definition: a walk. -/
import Derived.Test.YtejdlhjbakndaaaNmP
import Derived.Test.YtejdlhjbakndaaaDgK
import Derived.Test.YtejdlhjbakndaaaM6
import Derived.Test.YtejdlhjbakndaaaRwO
set_option linter.unusedVariables false
namespace Go.Proofs.Ytejdlhjbakndaaa
open Go.RowKit
theorem own_blk_neH {w : World} {B e s n q : Nat} {t : TypeId} {v : Value} {xs : List Value} {cs : Array Value} (h : w.ownsRow B e s v n xs) (hb : Blk w q t cs) (hne : t ≠ e) : v.ownBlock ≠ some q := by
  rcases h.2 with ⟨rfl, _⟩ | ⟨g, c, cur, rfl, _, hg, _⟩
  · simp [Value.ownBlock]
  · intro he
    have hgq : g = q := by simpa [Value.ownBlock] using he
    subst hgq
    rw [show w.heap[g]? = _ from hb] at hg
    injection hg with hg
    injection hg with _ ht
    exact hne ht
set_option maxRecDepth 100000 in
set_option maxHeartbeats 8000000 in
theorem hold_any (L : List Dg.D) (ov : Value) (B o : Nat) (st e : Int) (nm : ByteArray) (wr : Bool) (W : World) (hB : B ≤ W.heap.size) (hl : L.length ≤ 100000) (hk : Blk W o 28 #[ov]) (how : W.ownsRow B 53 3 ov L.length (L.flatMap dC)) :
    Calls Try.prog 30 #[.int .i64 st, .int .i64 e, .string nm, .bool wr, .pointer (some ⟨o, 0, none⟩)] W fun en W' => (∃ v, en = .returned v) ∧ ∃ ov', Blk W' o 28 #[ov'] ∧ W'.ownsRow B 53 3 ov' (L ++ if wr then [(st, e, nm)] else []).length ((L ++ if wr then [(st, e, nm)] else []).flatMap dC) ∧ Chg (fun q => q = o ∨ some q = ov.ownBlock) W W' ∧ (ov'.ownBlock = ov.ownBlock ∨ ∀ q, ov'.ownBlock = some q → W.heap.size ≤ q) := by
  obtain ⟨i0, hi0, hz0, hz1, hz2⟩ := info_parts Try.infoDg
  have c0 := hk.cell 0
  have f0 := hk.frozen 0
  have hlt := hk.lt
  simp only [List.getElem?_toArray, List.getElem?_cons_zero, List.getElem?_cons_succ] at c0
  have HK := hid hk
  have HOW := hid how
  clear hk how
  cases wr with
  | false =>
    go_enter Try.func30, Try.ntmps30
    go_wp2_with fail
    refine bodyPost_end (results_none rfl _ _ _) rfl ⟨⟨_, rfl⟩, ov, HK.out, by simpa using HOW.out, Chg.refl _ _, .inl rfl⟩
  | true =>
    go_enter Try.func30, Try.ntmps30
    go_wp2_with (at_builtin; refine wpList_append_rdw rfl (.tmp 10) (.tmp 15) 28 rfl B 53 i0 (.agg #[.int .i64 0, .int .i64 0, .string ⟨#[]⟩]) 3 32 Try.underlying28 hi0 hz0 hz1 hz2 rfl (by decide) _ _ _ rfl (own_below HOW.out (bw_a (Below.refl _ W) (.cells #[.int .i64 st, .int .i64 e, .string nm] 53))) (some ⟨W.heap.size, 0, none⟩) 1 1 [.int .i64 st, .int .i64 e, .string nm] rfl rfl (Rd.new W 53 #[.int .i64 st, .int .i64 e, .string nm]) (fun h => by cases h) (by simp [Value.oneCell']) (by simp only [maxLen]; omega) (by omega) (by simp; omega) ?_; intro v2 w2 hown2 hgrow2 hwh2; rw [World.size_alloc] at hwh2; have HWH := hid hwh2; clear hwh2; obtain ⟨A2, cc2, hv2, -⟩ := SlN.of_own (by omega) hown2; subst hv2; have HO2 := hid hown2; have HG2 := hid hgrow2; have hkk := (HG2.out.block o (by rw [World.size_alloc]; omega) (fun h => absurd h.symm (own_blk_neH HOW.out HK.out (by decide)))).trans (HK.out.alloc (.cells #[.int .i64 st, .int .i64 e, .string nm] 53)); have HK2 := hid (show Blk w2 o 28 #[ov] from hkk); have f2 := HK2.out.frozen 0; have c2 := HK2.out.cell 0; have hlt2 := HK2.out.lt; simp only [List.getElem?_toArray, List.getElem?_cons_zero, List.getElem?_cons_succ] at c2; clear hown2 hgrow2 hkk)
    have hne2 := own_blk_neH HO2.out HK2.out (by decide)
    refine bodyPost_end (results_none rfl _ _ _) rfl ⟨⟨_, rfl⟩, _, HK2.out.set_ 0 _, ?_, ?_, HWH.out.imp_right (fun h q e => by have := h q e; omega)⟩
    · have h := own_chgS HO2.out ((Chg.refl (fun q => q = o) w2).set_ (.inl rfl) 0 (.slice A2 (L.length + 1) cc2)) (fun g hg h => hne2 (by rw [hg, h]))
      simpa [List.flatMap_append, show dC (st, e, nm) = [.int .i64 st, .int .i64 e, .string nm] from rfl] using h
    · exact (((Chg.refl _ W).alloc _).trans (Chg.of_grown HG2.out (fun g e => .inr e.symm))).set_ (.inl (.inl rfl)) 0 _
end Go.Proofs.Ytejdlhjbakndaaa
