/- Rows of frames that were found, wherever they lie; the document's Same of them. -/
import Derived.Test.YtabklpgimjmdlaaRsSame
set_option linter.unusedVariables false
namespace Go.Proofs.Ytabklpgimjmdlaa
open Go.RowKit
/-- Frames that were found, to be read. -/
def FdSl (w : World) (A : Option Addr) (n c : Nat) (l : List Fnd) : Prop := ∃ fs : List FdV, fs.map FdV.f = l ∧ SlN w A n c 3 (fs.flatMap fdC) ∧ ∀ f ∈ fs, Sl w f.A f.c (f.f.pl.map bv)
theorem FdSl.below {w w' : World} {A : Option Addr} {n c : Nat} {l : List Fnd} (h : FdSl w A n c l) (hb : Below w.heap.size w w') : FdSl w' A n c l := by
  obtain ⟨fs, h1, h2, h3⟩ := h
  exact ⟨fs, h1, h2.below hb, fun f hf => (h3 f hf).below hb⟩
theorem FdRow.sl {B : Nat} {w : World} {A : Option Addr} {n c : Nat} {l : List Fnd} (h : FdRow B w (.slice A n c) l) (hn : l.length = n) : FdSl w A n c l := by
  obtain ⟨fs, h1, h2, h3⟩ := h
  have hf : fs.length = n := by rw [← hn, ← h1, List.length_map]
  rw [hf] at h2
  exact ⟨fs, h1, own_slg (by omega) h2, fun f hf => (h3 f hf).sl⟩
theorem FdSl.nil_ (w : World) : FdSl w none 0 0 [] := ⟨[], rfl, ⟨by simp, by omega, by omega, fun _ => rfl, Rd.nil_ w _⟩, by simp⟩
/-- The rest of a row from a place on. -/
theorem FdSl.cut {w : World} {A : Option Addr} {n c : Nat} {l : List Fnd} (h : FdSl w A n c l) (k : Nat) (hk : k ≤ n) (b off : Nat) (hA : A = some ⟨b, off, none⟩) : FdSl w (some ⟨b, off + k * 3, none⟩) (n - k) (c - k) (l.drop k) := by
  subst hA
  obtain ⟨fs, h1, h2, h3⟩ := h
  have hfl : fs.length = n := by
    have := h2.len
    have h4 : (fs.flatMap fdC).length = fs.length * 3 := by
      clear h1 h2 h3 this
      induction fs with
      | nil => rfl
      | cons x fs ih => rw [List.flatMap_cons, List.length_append, ih, List.length_cons]; simp [fdC]; omega
    omega
  have hd : (fs.drop k).flatMap fdC = (fs.flatMap fdC).drop (k * 3) := by
    clear h1 h2 h3 hfl hk
    induction fs generalizing k with
    | nil => simp
    | cons x fs ih =>
      cases k with
      | zero => simp
      | succ k =>
        have h3 : (fdC x).length = 3 := rfl
        have e : (fdC x).drop ((k + 1) * 3) = [] := List.drop_eq_nil_of_le (by rw [h3]; omega)
        rw [List.drop_succ_cons, ih, List.flatMap_cons, List.drop_append, e, h3, List.nil_append, show (k + 1) * 3 - 3 = k * 3 by omega]
  refine ⟨fs.drop k, by rw [List.map_drop, h1], ⟨?_, ?_, ?_, (fun h => by cases h), ?_⟩, fun f hf => h3 f (List.mem_of_mem_drop hf)⟩
  · rw [hd, List.length_drop, h2.len]; omega
  · have := h2.cap; omega
  · have := h2.small; omega
  · rw [hd]
    intro j v hj
    rw [List.getElem?_drop] at hj
    obtain ⟨b', o', he, hb', hc⟩ := h2.rd _ _ hj
    injection he with he
    injection he with e1 e2
    subst e1; subst e2
    exact ⟨_, _, rfl, hb', by rw [Nat.add_assoc]; exact hc⟩
theorem FdSl.get {w : World} {A : Option Addr} {n c : Nat} {l : List Fnd} (h : FdSl w A n c l) (hn : l.length = n) (j : Nat) (hj : j < l.length) :
    ∃ b off Ap cp, A = some ⟨b, off, none⟩ ∧ b < w.heap.size ∧ w.cell? ⟨b, off + j * 3, none⟩ = some (.int .i64 (l[j].at_ : Int)) ∧ w.cell? ⟨b, off + j * 3 + 1, none⟩ = some (.int .u8 (l[j].ty.toNat : Int)) ∧ w.cell? ⟨b, off + j * 3 + 2, none⟩ = some (.slice Ap l[j].pl.length cp) ∧ Sl w Ap cp (l[j].pl.map bv) ∧ n ≤ c ∧ c ≤ 9223372036854775807 := by
  obtain ⟨fs, rfl, hsl, hp⟩ := h
  rw [List.length_map] at hj hn
  subst hn
  have hn0 : (fs.flatMap fdC)[j * 3 + 0]? = _ := flatMap_get fdC 3 fs j 0 hj (fun _ _ => rfl) (by omega)
  have hn1 : (fs.flatMap fdC)[j * 3 + 1]? = _ := flatMap_get fdC 3 fs j 1 hj (fun _ _ => rfl) (by omega)
  have hn2 : (fs.flatMap fdC)[j * 3 + 2]? = _ := flatMap_get fdC 3 fs j 2 hj (fun _ _ => rfl) (by omega)
  obtain ⟨b, off, rfl, hb, t0⟩ := hsl.rd _ _ hn0
  have t1 := hsl.rd.addr _ _ hn1
  have t2 := hsl.rd.addr _ _ hn2
  rw [addr_add] at t1 t2
  simp only [Nat.add_zero, ← Nat.add_assoc] at t0 t1 t2
  simp only [List.getElem_map]
  exact ⟨b, off, fs[j].A, fs[j].c, rfl, hb, t0, t1, t2, hp _ (List.getElem_mem hj), hsl.cap, hsl.small⟩
set_option maxRecDepth 100000 in
set_option maxHeartbeats 4000000 in
/-- Rows of frames that are alike, wherever they lie: the same frames. -/
theorem rsame14_sl (l : List Fnd) (n : Nat) (A B : Option Addr) (c d : Nat) (w : World) (hn : l.length = n) (hl : n ≤ 1000000) (hp : ∀ f ∈ l, f.at_ ≤ 10000000 ∧ f.pl.length ≤ 10000000) (hA : FdSl w A n c l) (hB : FdSl w B n d l) :
    Calls Try.prog 14 #[.slice A n c, .slice B n d] w fun e w' => e = .returned (.bool true) ∧ Below w.heap.size w w' := by
  have HN := hid hn
  have HA := hid hA
  have HB := hid hB
  have HP := hid hp
  clear hn hA hB hp
  go_enter Try.func14, Try.ntmps14
  go_wp2_with fail
  go_loopw [5] (fun i wr => ∃ k : Nat, k ≤ n ∧ i = .int .i64 (k : Int) ∧ Below w.heap.size w wr) (fun i _ => n - (intOf i).toNat)
  case atStart => exact ⟨0, by omega, rfl, Below.refl _ _⟩
  case round =>
    obtain ⟨k, hk, rfl, hB⟩ := hrel
    by_cases hlt : k < n
    · have hkl : k < l.length := by have := HN.out; omega
      obtain ⟨b1, o1, P1, q1, rfl, hb1, s0, s1, s2, hp1, hnc1, hm1⟩ := (HA.out.below hB).get HN.out k hkl
      obtain ⟨b2, o2, P2, q2, rfl, hb2, t0, t1, t2, hp2, hnc2, hm2⟩ := (HB.out.below hB).get HN.out k hkl
      have hpk := HP.out _ (List.getElem_mem hkl)
      generalize l[k] = f at *
      obtain ⟨fa, fty, fpl⟩ := f
      simp only at s0 s1 s2 t0 t1 t2 hp1 hp2 hpk
      obtain ⟨pl, hpl⟩ : ∃ m, fpl.length = m := ⟨_, rfl⟩
      rw [hpl] at s2 t2 hpk
      have hsame := fun W (hW : Below wr.heap.size wr W) => (rfsame_any fty fty fpl fpl pl pl P1 P2 q1 q2 W hpl hpl (by omega) (hp1.below hW) (hp2.below hW)).mono (fun e w' h => (show e = .returned (.bool true) ∧ Below W.heap.size W w' from ⟨by rw [h.1]; simp, h.2⟩))
      have HSM := hid hsame
      have HBE := hid hB
      have HP1 := hid hp1
      have HP2 := hid hp2
      have hki : (k : Int) < (n : Int) := by omega
      have hk0 : (0 : Int) ≤ (k : Int) := by omega
      clear hsame hB hpl hp1 hp2
      generalize fty.toNat = ty at *
      have HBR := hid (Below.refl wr.heap.size wr)
      go_wp2_with fail
      go_region_held3 (fun w' => w'.cell? ⟨b1, o1 + k * 3, none⟩ = some (.int .i64 (fa : Int)) ∧ w'.cell? ⟨b1, o1 + k * 3 + 1, none⟩ = some (.int .u8 (ty : Int)) ∧ w'.cell? ⟨b1, o1 + k * 3 + 2, none⟩ = some (.slice P1 pl q1) ∧ w'.cell? ⟨b2, o2 + k * 3, none⟩ = some (.int .i64 (fa : Int)) ∧ w'.cell? ⟨b2, o2 + k * 3 + 1, none⟩ = some (.int .u8 (ty : Int)) ∧ w'.cell? ⟨b2, o2 + k * 3 + 2, none⟩ = some (.slice P2 pl q2)) (first | exact ⟨s0, s1, s2, t0, t1, t2⟩ | exact ⟨x0, x1, x2, y0, y1, y2⟩ | go_keep) (first | (go_at_call 27; (with_reducible refine (HSM.out _ (below_drew' HBR.out)).mono ?_); rintro e w5 ⟨rfl, hb5⟩; have hbq := (below_drew' (Below.refl _ wr)).trans hb5; have x0 := (hbq.cell (p := ⟨b1, o1 + k * 3, none⟩) hb1).trans s0; have x1 := (hbq.cell (p := ⟨b1, o1 + k * 3 + 1, none⟩) hb1).trans s1; have x2 := (hbq.cell (p := ⟨b1, o1 + k * 3 + 2, none⟩) hb1).trans s2; have y0 := (hbq.cell (p := ⟨b2, o2 + k * 3, none⟩) hb2).trans t0; have y1 := (hbq.cell (p := ⟨b2, o2 + k * 3 + 1, none⟩) hb2).trans t1; have y2 := (hbq.cell (p := ⟨b2, o2 + k * 3 + 2, none⟩) hb2).trans t2; have HB5 := hid hbq; clear hb5 hbq))
      go_wp2_with fail
      go_roundw
      case rel => exact ⟨k + 1, by omega, by go_num, HBE.out.trans (HB5.out.mono HBE.out.size)⟩
      case measure => simp [intOf]; omega
    · obtain rfl : k = n := by omega
      have HBE := hid hB
      clear hB
      go_wp2_with fail
      go_ret
      exact ⟨rfl, HBE.out⟩
end Go.Proofs.Ytabklpgimjmdlaa
