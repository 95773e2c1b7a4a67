/- A feeder's end. -/
import Derived.Test.YtnfodgjihdoncaaFdSmall
set_option linter.unusedVariables false
namespace Go.Proofs.Ytnfodgjihdoncaa
open Go.RowKit
theorem Blk.dn {w : World} {g : Nat} {t : TypeId} {cs : Array Value} (h : Blk w g t cs) (n : Nat) : Blk (w.drewN n) g t cs := h
theorem FdRow.dn {B : Nat} {w : World} {v : Value} {l : List Fnd} (h : FdRow B w v l) (n : Nat) : FdRow B (w.drewN n) v l := h.chg (Chg.drewN (Chg.refl (fun _ => False) w) n) (fun _ _ h => h)
theorem fend_blk {g came : Nat} {vb : Value} {w : World} (h : Blk w g 105 #[vb, .int .i64 (came : Int), .bool false]) : Blk ((w.setCell ⟨g, 0, none⟩ (.slice none 0 0)).setCell ⟨g, 2, none⟩ (.bool true)) g 105 #[.slice none 0 0, .int .i64 (came : Int), .bool true] ∧ Chg (fun q => q = g) w ((w.setCell ⟨g, 0, none⟩ (.slice none 0 0)).setCell ⟨g, 2, none⟩ (.bool true)) := by
  refine ⟨?_, ((Chg.refl (fun q => q = g) w).set_ (.inl rfl) 0 _).set_ (.inl rfl) 2 _⟩
  have := (h.set_ 0 (.slice none 0 0)).set_ 2 (.bool true)
  simpa using this
set_option maxRecDepth 100000 in
set_option maxHeartbeats 4000000 in
theorem fend_any (B g : Nat) (H : List UInt8) (came : Nat) (vb : Value) (w : World) (h : FdS B g H came false vb w) (hg : g < w.heap.size) (hle : H.length ≤ came) (hc : came ≤ 1000000000000) (hH : H.length ≤ 1000000) :
    Calls Try.prog 21 #[.pointer (some ⟨g, 0, none⟩)] w fun e w' => ∃ v, e = .returned v ∧ FdRow w.heap.size w' v ((Rs.wk true H 0).1.map (Fnd.shift (came - H.length))) ∧ Blk w' g 105 #[.slice none 0 0, .int .i64 (came : Int), .bool true] ∧ Chg (fun q => q = g) w w' := by
  obtain ⟨hk, hr⟩ := h
  obtain ⟨A, c, rfl⟩ := row_slice_g hr
  have hsl := Sl.of_own' hr
  have hfa := (Rs.wk_facts true H 0)
  have hat : ∀ f ∈ (Rs.wk true H 0).1, f.at_ ≤ H.length := fun f hf => by
    have h1 := (hfa.1 f hf).2.2
    have h2 := hfa.2.2 (by omega)
    omega
  have hen := fun W (hW : Sl W A c (H.map bv)) => sended_any H H.length A c W rfl hH hW
  generalize (Rs.wk true H 0).1 = l at *
  obtain ⟨L, hL⟩ : ∃ L, l.length = L := ⟨_, rfl⟩
  obtain ⟨hl, hhl⟩ : ∃ hl, H.length = hl := ⟨_, rfl⟩
  rw [hL, hhl] at hen
  rw [hhl] at hk hat hle ⊢
  have hpl := fun B2 Al cl W (h1 : Blk W g 105 #[.slice A hl c, .int .i64 (came : Int), .bool false]) (h2 : FdRow B2 W (.slice Al L cl) l) (h3 : g < B2) => fplaced_row B2 g hl came A c l L Al cl W h1 h2 hL h3 hle hc hat
  have hde := fun W h1 => fdeaf_any g (.slice A hl c) came false W h1
  obtain ⟨s, hs⟩ : ∃ s, w.heap.size = s := ⟨_, rfl⟩
  have c0 := hk.cell 0
  simp only [List.getElem?_toArray, List.getElem?_cons_zero, List.getElem?_cons_succ] at c0
  have HK := hid hk
  have HSL := hid hsl
  have HEN := hid hen
  have HPL := hid hpl
  have HDE := hid hde
  have HG := hid hg
  clear hk hr hsl hfa hen hpl hde hat hL hhl hH hg
  go_enter Try.func21, Try.ntmps21
  go_wp2_with fail
  refine (HDE.out _ HK.out).mono ?_
  rintro e w1 ⟨rfl, rfl⟩
  go_wp2_with fail
  go_region_held3 (fun w' => w'.cell? ⟨g, 0, none⟩ = some (.slice A hl c)) (first | exact HK9.out.cell 0 | exact HK8.out.cell 0 | exact c0 | go_keep) (first | (go_at_call 46; refine (HEN.out _ (by first | exact HSL.out | exact Sl.drewN HSL.out _)).mono ?_; rintro e w8 ⟨A8, c8, rfl, hf8, hb8⟩; have HF8 := hid hf8; have HB8 := hid hb8; have HK8 := hid (Blk.below (by first | exact HK.out | exact Blk.dn HK.out _) hb8 (Blk.lt (by first | exact HK.out | exact Blk.dn HK.out _))); clear hf8 hb8) | (go_at_call 55; refine (HPL.out _ _ _ _ (by first | exact HK8.out | exact Blk.dn HK8.out _) (by first | exact HF8.out | exact FdRow.dn HF8.out _) (by first | exact HG.out | omega)).mono ?_; rintro e w9 ⟨rfl, hf9, hc9⟩; have HF9 := hid hf9; have HC9 := hid hc9; have HK9 := hid (hc9.blk (by first | exact HK8.out | exact Blk.dn HK8.out _) (fun hq => by obtain ⟨fs, -, h2, -⟩ := HF8.out; exact absurd (Nat.lt_of_lt_of_le HG.out (h2.lt _ hq).1) (Nat.lt_irrefl _))); clear hf9 hc9))
  have hbk := fend_blk HK9.out
  have c0 := HK9.out.cell 0
  have c2 := HK9.out.cell 2
  have f0 := HK9.out.frozen 0
  have f2 := HK9.out.frozen 2
  simp only [List.getElem?_toArray, List.getElem?_cons_zero, List.getElem?_cons_succ] at c0 c2
  have HBK := hid hbk
  clear hbk
  go_wp2_with fail
  go_ret
  have hg := HG.out
  refine ⟨_, rfl, FdRow.chg HF9.out HBK.out.2 (fun b hb e => ?_), HBK.out.1, ?_⟩
  · subst e
    exact absurd (Nat.lt_of_lt_of_le hg hb) (Nat.lt_irrefl _)
  · have h8 := HB8.out
    have h9 : Chg (fun q => q = g) _ _ := HBK.out.2
    have h10 := (Chg.of_new (S := fun q => q = g ∨ (Value.slice A8 L c8).ownBlock = some q) h8).trans ((HC9.out.mono (fun q _ h => .inr h)).trans (h9.mono (fun q _ h => .inl h)))
    refine Chg.mono (S := fun q => q = g ∨ (Value.slice A8 L c8).ownBlock = some q) (by first | exact h10 | exact (Chg.drewN (Chg.refl _ w1) _).trans h10) (fun q hq h => ?_)
    rcases h with h | h
    · exact h
    · obtain ⟨fs, -, h2, -⟩ := HF8.out
      exact absurd (Nat.lt_of_lt_of_le hq (h2.lt _ h).1) (Nat.lt_irrefl _)
end Go.Proofs.Ytnfodgjihdoncaa
