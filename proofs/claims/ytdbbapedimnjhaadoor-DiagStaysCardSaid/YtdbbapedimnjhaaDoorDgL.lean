/- What must be of layer 24, whatever is asked: a walk. -/
import Derived.Test.YtdbbapedimnjhaaDoorDgZ
import Derived.Test.YtdbbapedimnjhaaDoorDgS
import Derived.Test.YtdbbapedimnjhaaDoorDgR
import Derived.Deep.RegionHeld3
set_option linter.unusedVariables false
namespace Go.Proofs.YtdbbapedimnjhaaDoor
open Go.RowKit
def fA : Dg.D := (2, 6, ⟨#[97]⟩)
def fB : Dg.D := (-1, 17, ⟨#[]⟩)
theorem srt_l24 : Dg.srt [fA, fB, fA] = [fB, fA] := by decide +kernel
theorem tx_a24 : txL fA = [50, 32, 116, 119, 105, 99, 101, 32, 97] := by
  have h : dg24 2 = [50] := by rw [dg24, if_pos (by omega)]; show Lib.decDigits 2 = _; rw [Lib.decDigits]; rfl
  have h2 : puL [97] = [97] := by decide +kernel
  show (if (0 : Int) ≤ 2 then dg24 2 else [45]) ++ [32] ++ (wdB 6).data.toList ++ (if (⟨#[97]⟩ : ByteArray).size = 0 then [] else [32] ++ puL [97]) = _
  rw [if_pos (by omega), h, h2]; rfl
theorem tx_b24 : txL fB = [45, 32, 101, 109, 112, 116, 121] := by
  show (if (0 : Int) ≤ -1 then dg24 (-1) else [45]) ++ [32] ++ (wdB 17).data.toList ++ (if (⟨#[]⟩ : ByteArray).size = 0 then [] else [32] ++ puL []) = _
  rw [if_neg (by omega)]; rfl
theorem ln_l24 : lnD [fB, fA] = [45, 32, 101, 109, 112, 116, 121, 10, 50, 32, 116, 119, 105, 99, 101, 32, 97, 10] := by
  simp only [lnD, List.flatMap_cons, List.flatMap_nil, tx_a24, tx_b24]; rfl
theorem of_l24 : ([fB, fA].filter fun x => decide (x.1 = 2)) = [fA] := by decide +kernel
theorem less_l24 : Dg.ltb fB fA = true := by decide +kernel
theorem cyc24 : ∀ i < 21, WD.getD i ⟨#[]⟩ = ⟨#[99, 121, 99, 108, 101]⟩ → i = 16 := by
  have key : ∀ i : Fin 21, WD.getD i.1 ⟨#[]⟩ = ⟨#[99, 121, 99, 108, 101]⟩ → i.1 = 16 := by decide +kernel
  exact fun i h => key ⟨i, h⟩
theorem row_sl24x {w : World} {B e sz n : Nat} {v : Value} {xs : List Value} (h : w.ownsRow B e sz v n xs) : ∃ A c, v = .slice A n c := by
  rcases h.2 with ⟨h1, h2⟩ | ⟨g, cap, cur, h1, -⟩
  · exact ⟨none, 0, by rw [h1, h2]⟩
  · exact ⟨_, _, h1⟩
theorem okA : DOk fA := ⟨by decide, by decide, by decide⟩
theorem okB : DOk fB := ⟨by decide, by decide, by decide⟩
set_option maxRecDepth 100000 in
set_option maxHeartbeats 16000000 in
theorem live24_any (w : World) (hT : PowT w) :
    Calls Tryd.prog 6 #[] w fun e w' => e = .returned (.bool true) ∧ Below w.heap.size w w' := by
  obtain ⟨s, hws⟩ : ∃ s, w.heap.size = s := ⟨_, rfl⟩
  have HPT := hid hT
  have HWS := hid hws
  clear hT
  rw [hws]
  go_enter Tryd.func6, Tryd.ntmps6
  go_wp2_with fail
  have hka := ((Blk.new w 25 #[.int .i64 2, .int .i64 6, .string ⟨#[97]⟩]).alloc (.cells #[.int .i64 (-1), .int .i64 17, .string ⟨#[]⟩] 25)).alloc (.cells #[.int .i64 2, .int .i64 6, .string ⟨#[97]⟩, .int .i64 (-1), .int .i64 17, .string ⟨#[]⟩, .int .i64 2, .int .i64 6, .string ⟨#[97]⟩] 25)
  have hkb := (Blk.new (w.alloc (.cells #[.int .i64 2, .int .i64 6, .string ⟨#[97]⟩] 25)) 25 #[.int .i64 (-1), .int .i64 17, .string ⟨#[]⟩]).alloc (.cells #[.int .i64 2, .int .i64 6, .string ⟨#[97]⟩, .int .i64 (-1), .int .i64 17, .string ⟨#[]⟩, .int .i64 2, .int .i64 6, .string ⟨#[97]⟩] 25)
  have hrl := Rd.new ((w.alloc (.cells #[.int .i64 2, .int .i64 6, .string ⟨#[97]⟩] 25)).alloc (.cells #[.int .i64 (-1), .int .i64 17, .string ⟨#[]⟩] 25)) 25 #[.int .i64 2, .int .i64 6, .string ⟨#[97]⟩, .int .i64 (-1), .int .i64 17, .string ⟨#[]⟩, .int .i64 2, .int .i64 6, .string ⟨#[97]⟩]
  have hb1 := bw_a (bw_a (bw_a (Below.refl _ w) (.cells #[.int .i64 2, .int .i64 6, .string ⟨#[97]⟩] 25)) (.cells #[.int .i64 (-1), .int .i64 17, .string ⟨#[]⟩] 25)) (.cells #[.int .i64 2, .int .i64 6, .string ⟨#[97]⟩, .int .i64 (-1), .int .i64 17, .string ⟨#[]⟩, .int .i64 2, .int .i64 6, .string ⟨#[97]⟩] 25)
  rw [hws] at hka hb1
  rw [World.size_alloc, hws] at hkb
  rw [World.size_alloc, World.size_alloc, hws] at hrl
  have hsz1 : (((w.alloc (.cells #[.int .i64 2, .int .i64 6, .string ⟨#[97]⟩] 25)).alloc (.cells #[.int .i64 (-1), .int .i64 17, .string ⟨#[]⟩] 25)).alloc (.cells #[.int .i64 2, .int .i64 6, .string ⟨#[97]⟩, .int .i64 (-1), .int .i64 17, .string ⟨#[]⟩, .int .i64 2, .int .i64 6, .string ⟨#[97]⟩] 25)).heap.size = s + 1 + 1 + 1 := by rw [World.size_alloc, World.size_alloc, World.size_alloc, hws]
  obtain ⟨w1, hw1⟩ : ∃ w1, ((w.alloc (.cells #[.int .i64 2, .int .i64 6, .string ⟨#[97]⟩] 25)).alloc (.cells #[.int .i64 (-1), .int .i64 17, .string ⟨#[]⟩] 25)).alloc (.cells #[.int .i64 2, .int .i64 6, .string ⟨#[97]⟩, .int .i64 (-1), .int .i64 17, .string ⟨#[]⟩, .int .i64 2, .int .i64 6, .string ⟨#[97]⟩] 25) = w1 := ⟨_, rfl⟩
  rw [hw1] at hka hkb hrl hb1 hsz1 ⊢
  have hsl : SlN w1 (some ⟨s + 1 + 1, 0, none⟩) 3 3 3 ([fA, fB, fA].flatMap dC) := ⟨rfl, by omega, by omega, (fun h => by cases h), hrl⟩
  have HKA := hid hka
  have HKB := hid hkb
  have HB1 := hid hb1
  refine (dsort_any [fA, fB, fA] 3 _ _ _ rfl (by omega) (by intro x hx; simp at hx; rcases hx with rfl | rfl | rfl; exact okA; exact okB; exact okA) hsl).mono ?_
  rintro e w2 ⟨Al, ml, cl, rfl, hml, hl2, hb2⟩
  rw [srt_l24] at hml hl2
  obtain rfl : ml = 2 := hml.symm
  obtain ⟨g, o, rfl, hg, r0, r1, r2⟩ := dRow_at hl2 0 (by decide)
  obtain ⟨g', o', e1, -, r3, r4, r5⟩ := dRow_at hl2 1 (by decide)
  injection e1 with e1
  injection e1 with e1 e1'
  subst e1 e1'
  have HL2 := hid hl2
  have HB2 := hid (bw_t (by rw [hws]; exact HB1.out : Below w.heap.size w w1) hb2)
  have hk2a := HKA.out.below hb2 (by omega)
  have hk2b := HKB.out.below hb2 (by omega)
  have HK2 := hid (And.intro hk2a hk2b)
  have hlt2 : s + 1 + 1 < w2.heap.size := by have := hb2.size; omega
  simp only [fA, fB, List.getElem_cons_zero, List.getElem_cons_succ, Nat.zero_mul, Nat.add_zero, Nat.one_mul] at r0 r1 r2 r3 r4 r5
  have HR := hid (And.intro r0 (And.intro r1 (And.intro r2 (And.intro r3 (And.intro r4 r5)))))
  have HG := hid hg
  clear hka hkb hrl hb1 hsz1 hw1 hsl hl2 hb2 hk2a hk2b r0 r1 r2 r3 r4 r5 hml
  go_wp2_with fail
  refine (derrno_any ⟨#[99, 121, 99, 108, 101]⟩ _).mono ?_
  rintro e w3 ⟨her, hb3⟩
  have he : e = .returned (.tuple #[.int .i64 16, .bool true]) := by
    rcases her with ⟨i, hi, rfl, h1, -⟩ | ⟨-, h⟩
    · obtain rfl := cyc24 i hi h1; rfl
    · exact absurd rfl (h 16 (by omega))
  subst he
  have HB3 := hid (bw_t HB2.out hb3)
  have HL3 := hid (HL2.out.below hb3)
  have hS : ∀ W', Below w3.heap.size w3 W' → (fun w' => w'.cell? ⟨s, 0, none⟩ = some (.int .i64 2) ∧ w'.cell? ⟨s, 1, none⟩ = some (.int .i64 6) ∧ w'.cell? ⟨s, 2, none⟩ = some (.string ⟨#[97]⟩) ∧ w'.cell? ⟨s + 1, 0, none⟩ = some (.int .i64 (-1)) ∧ w'.cell? ⟨s + 1, 1, none⟩ = some (.int .i64 17) ∧ w'.cell? ⟨s + 1, 2, none⟩ = some (.string ⟨#[]⟩) ∧ w'.cell? ⟨g, o, none⟩ = some (.int .i64 (-1)) ∧ w'.cell? ⟨g, o + 1, none⟩ = some (.int .i64 17) ∧ w'.cell? ⟨g, o + 2, none⟩ = some (.string ⟨#[]⟩) ∧ w'.cell? ⟨g, o + 3, none⟩ = some (.int .i64 2) ∧ w'.cell? ⟨g, o + 3 + 1, none⟩ = some (.int .i64 6) ∧ w'.cell? ⟨g, o + 3 + 2, none⟩ = some (.string ⟨#[97]⟩)) W' := fun W' hW => by
    have hb := bw_t hb3 hW
    have ka := HK2.out.1.below hb (by omega)
    have kb := HK2.out.2.below hb (by omega)
    obtain ⟨r0, r1, r2, r3, r4, r5⟩ := HR.out
    exact ⟨ka.cell 0, ka.cell 1, ka.cell 2, kb.cell 0, kb.cell 1, kb.cell 2, (hb.cell (p := ⟨g, o, none⟩) HG.out).trans r0, (hb.cell (p := ⟨g, o + 1, none⟩) HG.out).trans r1, (hb.cell (p := ⟨g, o + 2, none⟩) HG.out).trans r2, (hb.cell (p := ⟨g, o + 3, none⟩) HG.out).trans r3, (hb.cell (p := ⟨g, o + 3 + 1, none⟩) HG.out).trans r4, (hb.cell (p := ⟨g, o + 3 + 2, none⟩) HG.out).trans r5⟩
  have HSS := hid hS
  have HB0 := hid (show Below w3.heap.size w3 w3.drew from bw_d (Below.refl _ w3) 1)
  have hqa := fun W => deql fA fA W
  have hqb := fun W => deql fB fB W
  rw [show decide (fA = fA) = true from by simp] at hqa
  rw [show decide (fB = fB) = true from by simp] at hqb
  simp only [fA] at hqa
  simp only [fB] at hqb
  have pw : ∀ W, Below w3.heap.size w3 W → PowT W := fun W h => HPT.out.below (bw_t HB3.out h)
  have C1 := hid (fun W (h : Below w3.heap.size w3 W) => (dtext_any fA W okA (by decide) (pw W h)).mono (R' := fun e w' => e = .returned (.string ⟨#[50, 32, 116, 119, 105, 99, 101, 32, 97]⟩) ∧ Below w3.heap.size w3 w') (fun e w' h2 => by obtain ⟨t, h3, h4, h5⟩ := h2; rw [tx_a24] at h4; exact ⟨by rw [h3, Dg.bext (a := t) (b := ⟨#[50, 32, 116, 119, 105, 99, 101, 32, 97]⟩) h4], bw_t h h5⟩))
  have C2 := hid (fun W (h : Below w3.heap.size w3 W) => (dtext_any fB W okB (by decide) (pw W h)).mono (R' := fun e w' => e = .returned (.string ⟨#[45, 32, 101, 109, 112, 116, 121]⟩) ∧ Below w3.heap.size w3 w') (fun e w' h2 => by obtain ⟨t, h3, h4, h5⟩ := h2; rw [tx_b24] at h4; exact ⟨by rw [h3, Dg.bext (a := t) (b := ⟨#[45, 32, 101, 109, 112, 116, 121]⟩) h4], bw_t h h5⟩))
  have C3 := hid (fun W (h : Below w3.heap.size w3 W) => (dlines_any [fB, fA] 2 _ cl W rfl (by omega) (by intro x hx; simp at hx; rcases hx with rfl | rfl; exact okB; exact okA) (by intro x hx; simp at hx; rcases hx with rfl | rfl <;> decide) (pw W h) (HL3.out.below h)).mono (R' := fun e w' => e = .returned (.string ⟨#[45, 32, 101, 109, 112, 116, 121, 10, 50, 32, 116, 119, 105, 99, 101, 32, 97, 10]⟩) ∧ Below w3.heap.size w3 w') (fun e w' h2 => by obtain ⟨t, h3, h4, h5⟩ := h2; rw [ln_l24] at h4; exact ⟨by rw [h3, Dg.bext (a := t) (b := ⟨#[45, 32, 101, 109, 112, 116, 121, 10, 50, 32, 116, 119, 105, 99, 101, 32, 97, 10]⟩) h4], bw_t h h5⟩))
  have C4 := hid (fun W (h : Below w3.heap.size w3 W) => (dword_any 19 W (by omega) (by omega)).mono (R' := fun e w' => e = .returned (.string ⟨#[117, 110, 100, 111]⟩) ∧ Below w3.heap.size w3 w') (fun e w' h2 => ⟨h2.1, bw_t h h2.2⟩))
  have C5 := hid (fun W (h : Below w3.heap.size w3 W) => (dof_any [fB, fA] 2 _ cl 2 W rfl (by omega) (HL3.out.below h)).mono (R' := fun e w' => ∃ A c, e = .returned (.slice A 1 c) ∧ Below w3.heap.size w3 w') (fun e w' h2 => by obtain ⟨v, h3, h4, h5⟩ := h2; rw [of_l24] at h4; obtain ⟨A, c, rfl⟩ := row_sl24x h4; exact ⟨A, c, h3, bw_t h h5⟩))
  have C6 := hid (fun W (h : Below w3.heap.size w3 W) => (dless_any fB fA W).mono (R' := fun e w' => e = .returned (.bool true) ∧ Below w3.heap.size w3 w') (fun e w' h2 => ⟨by rw [h2.1, less_l24], bw_t h h2.2⟩))
  have C1' : ∀ W, Below w3.heap.size w3 W → Calls Tryd.prog 14 #[.agg #[.int .i64 2, .int .i64 6, .string ⟨#[97]⟩]] W fun e w' => e = .returned (.string ⟨#[50, 32, 116, 119, 105, 99, 101, 32, 97]⟩) ∧ Below w3.heap.size w3 w' := C1.out
  have C2' : ∀ W, Below w3.heap.size w3 W → Calls Tryd.prog 14 #[.agg #[.int .i64 (-1), .int .i64 17, .string ⟨#[]⟩]] W fun e w' => e = .returned (.string ⟨#[45, 32, 101, 109, 112, 116, 121]⟩) ∧ Below w3.heap.size w3 w' := C2.out
  have C6' : ∀ W, Below w3.heap.size w3 W → Calls Tryd.prog 12 #[.agg #[.int .i64 (-1), .int .i64 17, .string ⟨#[]⟩], .agg #[.int .i64 2, .int .i64 6, .string ⟨#[97]⟩]] W fun e w' => e = .returned (.bool true) ∧ Below w3.heap.size w3 w' := C6.out
  have C1 := hid C1'
  have C2 := hid C2'
  have C6 := hid C6'
  clear her hb3 hS hlt2 pw C1' C2' C6'
  go_wp2_with fail
  go_region_held3 (fun w' => w'.cell? ⟨s, 0, none⟩ = some (.int .i64 2) ∧ w'.cell? ⟨s, 1, none⟩ = some (.int .i64 6) ∧ w'.cell? ⟨s, 2, none⟩ = some (.string ⟨#[97]⟩) ∧ w'.cell? ⟨s + 1, 0, none⟩ = some (.int .i64 (-1)) ∧ w'.cell? ⟨s + 1, 1, none⟩ = some (.int .i64 17) ∧ w'.cell? ⟨s + 1, 2, none⟩ = some (.string ⟨#[]⟩) ∧ w'.cell? ⟨g, o, none⟩ = some (.int .i64 (-1)) ∧ w'.cell? ⟨g, o + 1, none⟩ = some (.int .i64 17) ∧ w'.cell? ⟨g, o + 2, none⟩ = some (.string ⟨#[]⟩) ∧ w'.cell? ⟨g, o + 3, none⟩ = some (.int .i64 2) ∧ w'.cell? ⟨g, o + 3 + 1, none⟩ = some (.int .i64 6) ∧ w'.cell? ⟨g, o + 3 + 2, none⟩ = some (.string ⟨#[97]⟩)) (first | exact HSS.out _ HB0.out | exact HSS.out _ HBa.out | exact HSS.out _ HBb.out | exact HSS.out _ HBc.out | exact HSS.out _ HBd.out | exact HSS.out _ HBe.out | exact HSS.out _ HBf.out | go_keep) (first
    | (go_at_call 14; (with_reducible refine (C1.out _ HB0.out).mono ?_); rintro e wa ⟨rfl, hbn⟩; have HBa := hid hbn; clear hbn)
    | (go_at_call 14; (with_reducible refine (C2.out _ HBa.out).mono ?_); rintro e wb ⟨rfl, hbn⟩; have HBb := hid hbn; clear hbn)
    | (go_at_call 18; (with_reducible refine (C3.out _ HBb.out).mono ?_); rintro e wc ⟨rfl, hbn⟩; have HBc := hid hbn; clear hbn)
    | (go_at_call 19; (with_reducible refine (C4.out _ HBc.out).mono ?_); rintro e wd ⟨rfl, hbn⟩; have HBd := hid hbn; clear hbn)
    | (go_at_call 11; (with_reducible refine (C5.out _ HBd.out).mono ?_); rintro e we ⟨A5, c5, rfl, hbn⟩; have HBe := hid hbn; clear hbn)
    | (go_at_call 12; (with_reducible refine (C6.out _ HBe.out).mono ?_); rintro e wf ⟨rfl, hbn⟩; have HBf := hid hbn; clear hbn))
  go_wp2_with fail
  go_ret
  exact ⟨rfl, by have h := bw_t HB3.out HBf.out; rw [HWS.out] at h; exact h⟩
end Go.Proofs.YtdbbapedimnjhaaDoor
