/- Swap: frames in another order. -/
import Derived.Test.YtgiealcfhlcpoaaStmC
import Derived.Test.YtgiealcfhlcpoaaLawJu0
set_option linter.unusedVariables false
namespace Go.Proofs.Ytgiealcfhlcpoaa
open Go.RowKit
theorem Try.info29 : (Try.prog.info? 29).map (fun i => (i.zero, i.size, i.bytes)) = some (some (.agg #[.int .u8 0, .slice none 0 0]), 2, 32) := by kernel_rfl
def FrV.q (f : FrV) : Nat × List UInt8 := (f.t, f.s.xs)
/-- Frames in a row, each payload in memory of its own. -/
def SwO (B : Nat) (w : World) (v : Value) (L : List (Nat × List UInt8)) : Prop := ∃ ps : List FrV, ps.map FrV.q = L ∧ w.ownsRow B 29 2 v ps.length (ps.flatMap frC) ∧ ∀ p ∈ ps, Pay B w p.s.A p.s.c p.s.xs
theorem SwO.nil_ (B : Nat) (w : World) : SwO B w (.slice none 0 0) [] := ⟨[], rfl, World.ownsRow_nil _ _ _ _, by simp⟩
theorem SwO.chg {B : Nat} {w w' : World} {v : Value} {L : List (Nat × List UInt8)} {S : Nat → Prop} (h : SwO B w v L) (hc : Chg S w w') (hS : ∀ b, B ≤ b → ¬ S b) : SwO B w' v L := by
  obtain ⟨fs, h1, h2, h3⟩ := h
  exact ⟨fs, h1, own_chgS h2 hc (fun g hg => hS g (h2.lt g hg).1), fun f hf => (h3 f hf).chg hc (fun b _ _ hb _ => hS b hb)⟩
theorem SwO.below {B : Nat} {w w' : World} {v : Value} {L : List (Nat × List UInt8)} (h : SwO B w v L) (hb : Below w.heap.size w w') : SwO B w' v L := h.chg (Chg.of_new hb) (S := fun _ => False) (fun _ _ h => h)
theorem SwO.grow {B k : Nat} {w1 w2 : World} {v v' : Value} {fs : List FrV} {f : FrV} (hk : fs.length = k) (ho : w1.ownsRow B 29 2 v k (fs.flatMap frC)) (hp : ∀ g ∈ fs, Pay B w1 g.s.A g.s.c g.s.xs) (hf : Pay B w1 f.s.A f.s.c f.s.xs)
    (ho2 : w2.ownsRow B 29 2 v' (k + 1) (fs.flatMap frC ++ frC f)) (hg : w1.grownBy w2 v.ownBlock) : SwO B w2 v' (fs.map FrV.q ++ [f.q]) := by
  subst hk
  have hcg : Chg (fun q => some q = v.ownBlock) w1 w2 := Chg.of_grown hg (fun g e => e.symm)
  have hty : ∀ b cs kk, B ≤ b → w1.heap[b]? = some (.cells cs 5 kk) → ¬ (some b = v.ownBlock) := by
    rintro b cs kk hb hcs h
    rcases ho.2 with ⟨rfl, -⟩ | ⟨g, cap, cur, rfl, -, hg1, -⟩
    · cases h
    · simp only [Value.ownBlock] at h
      injection h with h
      subst h
      rw [hcs] at hg1
      injection hg1 with hg1
      injection hg1 with _ hg1
      exact absurd hg1 (by decide)
  refine ⟨fs ++ [f], by rw [List.map_append]; rfl, ?_, ?_⟩
  · rw [List.length_append, List.flatMap_append, List.flatMap_cons, List.flatMap_nil, List.append_nil]
    exact ho2
  · intro g hg
    rcases List.mem_append.1 hg with hg | hg
    · exact (hp g hg).chg hcg hty
    · obtain rfl := List.mem_singleton.1 hg
      exact hf.chg hcg hty
/-- The frame at a place from 0 on, and all of an order's first j. -/
def swF (l : List FrV) (x : Int) : Nat × List UInt8 := match l[(x % (l.length : Int)).toNat]? with | some f => f.q | none => (0, [])
def swL (l : List FrV) (os : List Int) (j : Nat) : List (Nat × List UInt8) := (os.take j).map (swF l)
theorem swL_len {l : List FrV} {os : List Int} {j : Nat} (h : j ≤ os.length) : (swL l os j).length = j := by
  unfold swL
  rw [List.length_map, List.length_take]
  omega
theorem swL_succ {l : List FrV} {os : List Int} {j : Nat} (h : j < os.length) : swL l os (j + 1) = swL l os j ++ [swF l os[j]] := by
  unfold swL
  rw [List.take_add_one, List.getElem?_eq_getElem h, List.map_append]
  rfl
theorem sswap_none (A : Option Addr) (c : Nat) (A2 : Option Addr) (k c2 : Nat) (w : World) :
    Calls Try.prog 13 #[.slice A 0 c, .slice A2 k c2] w fun e w' => e = .returned (.slice none 0 0) ∧ w' = w := by
  go_enter Try.func13, Try.ntmps13
  go_wp2_with fail
  go_ret
  exact ⟨rfl, rfl⟩
def SwR8 (s g : Nat) (Av : Option Addr) (j cv : Nat) (ty : Nat) (Ap : Option Addr) (pn cp : Nat) (P : List UInt8) (L : List (Nat × List UInt8)) (a0 : Act) (w0 : World) (f : Nat → Bool) (a : Act) (w : World) : Prop := ∃ x0 x1 x2 x3 x4 x5 x6 x7 x8 x9 : Value, a = ((((((((((a0.put (some 25) x0).put (some 26) x1).put (some 27) x2).put (some 28) x3).put (some 29) x4).put (some 30) x5).put (some 31) x6).put (some 32) x7).put (some 33) x8).put (some 5) x9) ∧ (f 0 = true → x0 = .slice Av j cv) ∧ (f 1 = true → x1 = .pointer (some ⟨g, 0, none⟩)) ∧ (f 2 = true → x2 = .int .u8 (ty : Int)) ∧ (f 3 = true → x3 = .pointer (some ⟨g, 1, none⟩)) ∧ (f 4 = true → x4 = .slice Ap pn cp) ∧ ((f 5 = false ∧ f 6 = false ∧ f 7 = false ∧ f 8 = false ∧ f 9 = false ∧ (Chg (fun _ => False) w0 w ∧ x9 = .slice Av j cv)) ∨ (f 5 = true ∧ f 6 = false ∧ f 7 = false ∧ f 8 = false ∧ f 9 = false ∧ f 4 = true ∧ (Chg (fun _ => False) w0 w ∧ x9 = .slice Av j cv ∧ ∃ A5 c5, x5 = .slice A5 pn c5 ∧ Pay s w A5 c5 P)) ∨ (f 5 = true ∧ f 6 = true ∧ f 7 = false ∧ f 8 = false ∧ f 9 = false ∧ f 4 = true ∧ f 2 = true ∧ (Chg (fun _ => False) w0 w ∧ x9 = .slice Av j cv ∧ ∃ A5 c5, x6 = .agg #[.int .u8 (ty : Int), .slice A5 pn c5] ∧ Pay s w A5 c5 P)) ∨ (f 5 = true ∧ f 6 = true ∧ f 7 = true ∧ f 8 = false ∧ f 9 = false ∧ f 4 = true ∧ f 2 = true ∧ (Chg (fun _ => False) w0 w ∧ x9 = .slice Av j cv ∧ ∃ A5 c5 r, x7 = .slice (some ⟨r, 0, none⟩) 1 1 ∧ Pay s w A5 c5 P ∧ Rd w (some ⟨r, 0, none⟩) [.int .u8 (ty : Int), .slice A5 pn c5])) ∨ (f 5 = true ∧ f 6 = true ∧ f 7 = true ∧ f 8 = true ∧ f 9 = false ∧ f 4 = true ∧ f 2 = true ∧ f 0 = true ∧ (Chg (fun q => (Value.slice Av j cv).ownBlock = some q) w0 w ∧ x9 = .slice Av j cv ∧ (∃ A6 c6, x8 = .slice A6 (j + 1) c6) ∧ SwO s w x8 (L ++ [(ty, P)]))) ∨ (f 5 = true ∧ f 6 = true ∧ f 7 = true ∧ f 8 = true ∧ f 9 = true ∧ f 4 = true ∧ f 2 = true ∧ f 0 = true ∧ (Chg (fun q => (Value.slice Av j cv).ownBlock = some q) w0 w ∧ (∃ A6 c6, x9 = .slice A6 (j + 1) c6) ∧ SwO s w x9 (L ++ [(ty, P)]))))
set_option maxRecDepth 100000 in
set_option maxHeartbeats 8000000 in
theorem sswap_any (l : List FrV) (m : Nat) (A : Option Addr) (c : Nat) (os : List Int) (k : Nat) (A2 : Option Addr) (c2 : Nat) (w : World) (hm : l.length = m) (hok : ∀ f ∈ l, FrOk w f) (hM : SlN w A m c 2 (l.flatMap frC)) (h8 : ∀ f ∈ l, f.s.xs.length ≤ 9000) (hm1 : 1 ≤ m) (hml : m ≤ 1000) (hk : os.length = k) (hk2 : k ≤ 1000) (hos : Sl w A2 c2 (os.map ivP)) (hob : ∀ x ∈ os, -9223372036854775808 ≤ x ∧ x ≤ 9223372036854775807) :
    Calls Try.prog 13 #[.slice A m c, .slice A2 k c2] w fun e w' => ∃ A' c', e = .returned (.slice A' k c') ∧ SwO w.heap.size w' (.slice A' k c') (swL l os k) ∧ Below w.heap.size w w' := by
  obtain ⟨i0, hi, hz0, hz1, hz2⟩ := info_parts Try.info29
  obtain ⟨s, hws⟩ : ∃ s, w.heap.size = s := ⟨_, rfl⟩
  have hcap := hM.cap
  have hsma := hM.small
  have HM := hid hM
  have HOK := hid hok
  have H8 := hid h8
  have HML := hid hm
  have HOS := hid hos
  have HOB := hid hob
  have HKL := hid hk
  have HWS := hid hws
  rw [hws]
  clear hM hok h8 hm hos hob hk
  have i1 : ¬ m = 0 := by omega
  have i2 : ¬ (m : Int) = 0 := by omega
  have i3 : ((m : Int) == 0) = false := by simpa using i2
  have i4 : decide ((m : Int) = 0) = false := by simpa using i2
  have i5 : (m == 0) = false := by simpa using i1
  have i6 : decide (m = 0) = false := by simpa using i1
  go_enter Try.func13, Try.ntmps13
  go_wp2_with fail
  go_loopw [5, 14] (fun v i wr => ∃ j : Nat, j ≤ k ∧ i = .int .i64 (j : Int) ∧ ∃ Av cv, v = .slice Av j cv ∧ SwO s wr (.slice Av j cv) (swL l os j) ∧ Below s w wr) (fun _ i _ => k - (intOf i).toNat)
  case atStart => exact ⟨0, by omega, rfl, none, 0, rfl, by simpa [swL] using SwO.nil_ s w, by rw [← hws]; exact Below.refl _ _⟩
  case round =>
    obtain ⟨j, hj, rfl, Av, cv, rfl, ho, hb⟩ := hrel
    have hws := HWS.out
    by_cases hlt : j < k
    · have hjo : j < os.length := by have := HKL.out; omega
      have hsu := swL_succ (l := l) hjo
      have hxb := HOB.out _ (List.getElem_mem hjo)
      obtain ⟨bz, oz, rfl, hbz, hz⟩ := HOS.out.rd j (ivP os[j]) (by rw [List.getElem?_map, List.getElem?_eq_getElem hjo]; rfl)
      unfold ivP at hz
      generalize os[j] = x at *
      have hq := rest_in x (m : Int) (by omega)
      obtain ⟨q, hqe⟩ : ∃ q : Nat, x % (m : Int) = (q : Int) := ⟨(x % (m : Int)).toNat, by omega⟩
      rw [hqe] at hq
      have hql : q < l.length := by have := HML.out; omega
      have hre := fun W => srest_any x (m : Int) W hxb.1 hxb.2 (by omega) (by omega)
      rw [hqe] at hre
      obtain ⟨b, off, rfl, hbl, t0, t1⟩ := frRow_get HML.out HM.out q hql
      have hsf : swF l x = (l[q].t, l[q].s.xs) := by unfold swF; rw [HML.out, hqe, Int.toNat_natCast, List.getElem?_eq_getElem hql]; rfl
      rw [hsf] at hsu
      have hok := HOK.out _ (List.getElem_mem hql)
      have h8 := H8.out _ (List.getElem_mem hql)
      generalize l[q] = f at *
      obtain ⟨ty, Ap, cp, P⟩ := f
      obtain ⟨pn, hpn⟩ : ∃ pn, P.length = pn := ⟨_, rfl⟩
      simp only at t0 t1 hok h8 hsu
      unfold FrOk at hok
      simp only at hok
      obtain ⟨hty, hsl⟩ := hok
      rw [hpn] at t1 h8
      obtain ⟨L, hL⟩ : ∃ L, swL l os j = L := ⟨_, rfl⟩
      have hlj : L.length = j := by rw [← hL]; exact swL_len (by omega)
      rw [hL] at hsu ho
      have hz' := (hb.cell (p := ⟨bz, oz + j, none⟩) (show bz < s by omega)).trans hz
      have u0 := (hb.cell (p := ⟨b, off + q * 2, none⟩) (show b < s by omega)).trans t0
      have u1 := (hb.cell (p := ⟨b, off + q * 2 + 1, none⟩) (show b < s by omega)).trans t1
      obtain ⟨g, hg⟩ : ∃ g, wr.heap.size = g := ⟨_, rfl⟩
      have hsg : s ≤ g := by have := hb.size; omega
      have hki : (j : Int) < (k : Int) := by omega
      have hk0 : (0 : Int) ≤ (j : Int) := by omega
      have hqi : (q : Int) < (m : Int) := by omega
      have hq0 : (0 : Int) ≤ (q : Int) := by omega
      have hbx := Blk.new wr 29 #[.int .u8 (ty : Int), .slice Ap pn cp]
      rw [hg] at hbx
      have hba := bw_a (Below.refl wr.heap.size wr) (.cells #[.int .u8 (ty : Int), .slice Ap pn cp] 29)
      have HRE := hid hre
      have HSU := hid hsu
      have HSL := hid ((hsl.below (by rw [hws]; exact hb)).below hba)
      have HPN := hid hpn
      have HLJ := hid hlj
      have HBX := hid hbx
      have HON := hid (ho.below hba)
      have HB2 := hid (hb.trans (hba.mono (show s ≤ wr.heap.size by omega)))
      have HVO := hid (show ∀ q, (Value.slice Av j cv).ownBlock = some q → s ≤ q from fun q hq => by obtain ⟨fs, -, h2, -⟩ := ho; exact (h2.lt q hq).1)
      clear hre hsu hsl hpn hlj hbx ho hb hba hL hsf
      go_wp2_with fail
      refine (HRE.out _).mono ?_
      rintro e wq ⟨rfl, rfl⟩
      go_wp2_with fail
      refine wp_region_invB (by kernel_rfl) (by kernel_rfl) (SwR8 s g Av j cv ty Ap pn cp P L) ?_ ?_ ?_
      · exact ⟨u25, u26, u27, u28, u29, u30, u31, u32, u33, .slice Av j cv, (by first | (simp only [Act.put, List.setIfInBounds_toArray, List.set_cons_succ, List.set_cons_zero]; done) | rfl), by simp, by simp, by simp, by simp, by simp, (Or.inl (⟨by simp, by simp, by simp, by simp, by simp, ⟨((Chg.refl (fun _ => False) _).drewN 1), rfl⟩⟩))⟩
      · intro f a' wx i o ho hf hdep hI
        have hi : i < 10 := (Array.getElem?_eq_some_iff.1 ho).1
        have hcase : i = 0 ∨ i = 1 ∨ i = 2 ∨ i = 3 ∨ i = 4 ∨ i = 5 ∨ i = 6 ∨ i = 7 ∨ i = 8 ∨ i = 9 := by omega
        clear hi
        rcases hcase with rfl | rfl | rfl | rfl | rfl | rfl | rfl | rfl | rfl | rfl
        all_goals
          simp only [List.getElem?_toArray, List.getElem?_cons_zero, List.getElem?_cons_succ, Option.some.injEq] at ho
          subst ho
        · -- 0
          obtain ⟨x0, x1, x2, x3, x4, x5, x6, x7, x8, x9, rfl, h0, h1, h2, h3, h4, hP⟩ := hI
          have hx9 : x9 = .slice Av j cv := by
            rcases hP with haP | hbP | hcP | hdP | heP | hfP
            · have hP := haP.2.2.2.2.2; exact hP.2
            · have hP := hbP.2.2.2.2.2.2; exact hP.2.1
            · have hP := hcP.2.2.2.2.2.2.2; exact hP.2.1
            · have hP := hdP.2.2.2.2.2.2.2; exact hP.2.1
            · exact absurd heP.2.2.2.2.2.2.2.1 (by simp [hf])
            · exact absurd hfP.2.2.2.2.2.2.2.1 (by simp [hf])
          obtain rfl := hx9
          have H0' := hid h0; have H1' := hid h1; have H2' := hid h2; have H3' := hid h3; have H4' := hid h4; clear h0 h1 h2 h3 h4
          have HPP := hid hP; clear hP
          try simp only [Act.put, List.setIfInBounds_toArray, List.set_cons_succ, List.set_cons_zero]
          go_wp2_with fail
          have h0 := H0'.out; have h1 := H1'.out; have h2 := H2'.out; have h3 := H3'.out; have h4 := H4'.out
          refine ⟨(.slice Av j cv), x1, x2, x3, x4, x5, x6, x7, x8, (.slice Av j cv), (by first | (simp only [Act.put, List.setIfInBounds_toArray, List.set_cons_succ, List.set_cons_zero]; done) | rfl), (fun _ => rfl), (fun h => h1 (by simpa using h)), (fun h => h2 (by simpa using h)), (fun h => h3 (by simpa using h)), (fun h => h4 (by simpa using h)), ?_⟩
          rcases HPP.out with h | h | h | h | h | h
          · exact (Or.inl (⟨(by simpa using h.1), (by simpa using h.2.1), (by simpa using h.2.2.1), (by simpa using h.2.2.2.1), (by simpa using h.2.2.2.2.1), (by simpa using h.2.2.2.2.2)⟩))
          · exact (Or.inr (Or.inl (⟨(by simpa using h.1), (by simpa using h.2.1), (by simpa using h.2.2.1), (by simpa using h.2.2.2.1), (by simpa using h.2.2.2.2.1), (by simpa using h.2.2.2.2.2.1), (by simpa using h.2.2.2.2.2.2)⟩)))
          · exact (Or.inr (Or.inr (Or.inl (⟨(by simpa using h.1), (by simpa using h.2.1), (by simpa using h.2.2.1), (by simpa using h.2.2.2.1), (by simpa using h.2.2.2.2.1), (by simpa using h.2.2.2.2.2.1), (by simpa using h.2.2.2.2.2.2.1), (by simpa using h.2.2.2.2.2.2.2)⟩))))
          · exact (Or.inr (Or.inr (Or.inr (Or.inl (⟨(by simpa using h.1), (by simpa using h.2.1), (by simpa using h.2.2.1), (by simpa using h.2.2.2.1), (by simpa using h.2.2.2.2.1), (by simpa using h.2.2.2.2.2.1), (by simpa using h.2.2.2.2.2.2.1), (by simpa using h.2.2.2.2.2.2.2)⟩)))))
          · exact absurd h.2.2.2.2.2.2.2.1 (by simp [hf])
          · exact absurd h.2.2.2.2.2.2.2.1 (by simp [hf])
        · -- 1
          obtain ⟨x0, x1, x2, x3, x4, x5, x6, x7, x8, x9, rfl, h0, h1, h2, h3, h4, hP⟩ := hI
          have H0' := hid h0; have H1' := hid h1; have H2' := hid h2; have H3' := hid h3; have H4' := hid h4; clear h0 h1 h2 h3 h4
          have HPP := hid hP; clear hP
          try simp only [Act.put, List.setIfInBounds_toArray, List.set_cons_succ, List.set_cons_zero]
          go_wp2_with fail
          have h0 := H0'.out; have h1 := H1'.out; have h2 := H2'.out; have h3 := H3'.out; have h4 := H4'.out
          refine ⟨x0, _, x2, x3, x4, x5, x6, x7, x8, x9, (by first | (simp only [Act.put, List.setIfInBounds_toArray, List.set_cons_succ, List.set_cons_zero]; done) | rfl), (fun h => h0 (by simpa using h)), (fun _ => rfl), (fun h => h2 (by simpa using h)), (fun h => h3 (by simpa using h)), (fun h => h4 (by simpa using h)), ?_⟩
          rcases HPP.out with h | h | h | h | h | h
          · exact (Or.inl (⟨(by simpa using h.1), (by simpa using h.2.1), (by simpa using h.2.2.1), (by simpa using h.2.2.2.1), (by simpa using h.2.2.2.2.1), h.2.2.2.2.2⟩))
          · exact (Or.inr (Or.inl (⟨(by simpa using h.1), (by simpa using h.2.1), (by simpa using h.2.2.1), (by simpa using h.2.2.2.1), (by simpa using h.2.2.2.2.1), (by simpa using h.2.2.2.2.2.1), h.2.2.2.2.2.2⟩)))
          · exact (Or.inr (Or.inr (Or.inl (⟨(by simpa using h.1), (by simpa using h.2.1), (by simpa using h.2.2.1), (by simpa using h.2.2.2.1), (by simpa using h.2.2.2.2.1), (by simpa using h.2.2.2.2.2.1), (by simpa using h.2.2.2.2.2.2.1), h.2.2.2.2.2.2.2⟩))))
          · exact (Or.inr (Or.inr (Or.inr (Or.inl (⟨(by simpa using h.1), (by simpa using h.2.1), (by simpa using h.2.2.1), (by simpa using h.2.2.2.1), (by simpa using h.2.2.2.2.1), (by simpa using h.2.2.2.2.2.1), (by simpa using h.2.2.2.2.2.2.1), h.2.2.2.2.2.2.2⟩)))))
          · exact (Or.inr (Or.inr (Or.inr (Or.inr (Or.inl (⟨(by simpa using h.1), (by simpa using h.2.1), (by simpa using h.2.2.1), (by simpa using h.2.2.2.1), (by simpa using h.2.2.2.2.1), (by simpa using h.2.2.2.2.2.1), (by simpa using h.2.2.2.2.2.2.1), (by simpa using h.2.2.2.2.2.2.2.1), h.2.2.2.2.2.2.2.2⟩))))))
          · exact (Or.inr (Or.inr (Or.inr (Or.inr (Or.inr (⟨(by simpa using h.1), (by simpa using h.2.1), (by simpa using h.2.2.1), (by simpa using h.2.2.2.1), (by simpa using h.2.2.2.2.1), (by simpa using h.2.2.2.2.2.1), (by simpa using h.2.2.2.2.2.2.1), (by simpa using h.2.2.2.2.2.2.2.1), h.2.2.2.2.2.2.2.2⟩))))))
        · -- 2
          obtain ⟨x0, x1, x2, x3, x4, x5, x6, x7, x8, x9, rfl, h0, h1, h2, h3, h4, hP⟩ := hI
          try simp [Region.binds] at hdep
          obtain rfl := h1 (by first | exact hdep | exact hdep.1 | exact hdep.2 | exact hdep.2.1 | exact hdep.2.2 | exact hdep.2.2.1 | exact hdep.2.2.2 | simp_all)
          have y0 : wx.cell? ⟨g, 0, none⟩ = some (.int .u8 (ty : Int)) := by
            rcases hP with haP | hbP | hcP | hdP | heP | hfP
            · have hP := haP.2.2.2.2.2; simpa using (hP.1.blk HBX.out (fun h => h)).cell 0
            · have hP := hbP.2.2.2.2.2.2; simpa using (hP.1.blk HBX.out (fun h => h)).cell 0
            · exact absurd hcP.2.2.2.2.2.2.1 (by simp [hf])
            · exact absurd hdP.2.2.2.2.2.2.1 (by simp [hf])
            · exact absurd heP.2.2.2.2.2.2.1 (by simp [hf])
            · exact absurd hfP.2.2.2.2.2.2.1 (by simp [hf])
          have H0' := hid h0; have H1' := hid h1; have H2' := hid h2; have H3' := hid h3; have H4' := hid h4; clear h0 h1 h2 h3 h4
          have HPP := hid hP; clear hP
          try simp only [Act.put, List.setIfInBounds_toArray, List.set_cons_succ, List.set_cons_zero]
          go_wp2_with fail
          have h0 := H0'.out; have h1 := H1'.out; have h2 := H2'.out; have h3 := H3'.out; have h4 := H4'.out
          refine ⟨x0, _, _, x3, x4, x5, x6, x7, x8, x9, (by first | (simp only [Act.put, List.setIfInBounds_toArray, List.set_cons_succ, List.set_cons_zero]; done) | rfl), (fun h => h0 (by simpa using h)), (fun _ => rfl), (fun _ => rfl), (fun h => h3 (by simpa using h)), (fun h => h4 (by simpa using h)), ?_⟩
          rcases HPP.out with h | h | h | h | h | h
          · exact (Or.inl (⟨(by simpa using h.1), (by simpa using h.2.1), (by simpa using h.2.2.1), (by simpa using h.2.2.2.1), (by simpa using h.2.2.2.2.1), h.2.2.2.2.2⟩))
          · exact (Or.inr (Or.inl (⟨(by simpa using h.1), (by simpa using h.2.1), (by simpa using h.2.2.1), (by simpa using h.2.2.2.1), (by simpa using h.2.2.2.2.1), (by simpa using h.2.2.2.2.2.1), h.2.2.2.2.2.2⟩)))
          · exact absurd h.2.2.2.2.2.2.1 (by simp [hf])
          · exact absurd h.2.2.2.2.2.2.1 (by simp [hf])
          · exact absurd h.2.2.2.2.2.2.1 (by simp [hf])
          · exact absurd h.2.2.2.2.2.2.1 (by simp [hf])
        · -- 3
          obtain ⟨x0, x1, x2, x3, x4, x5, x6, x7, x8, x9, rfl, h0, h1, h2, h3, h4, hP⟩ := hI
          have H0' := hid h0; have H1' := hid h1; have H2' := hid h2; have H3' := hid h3; have H4' := hid h4; clear h0 h1 h2 h3 h4
          have HPP := hid hP; clear hP
          try simp only [Act.put, List.setIfInBounds_toArray, List.set_cons_succ, List.set_cons_zero]
          go_wp2_with fail
          have h0 := H0'.out; have h1 := H1'.out; have h2 := H2'.out; have h3 := H3'.out; have h4 := H4'.out
          refine ⟨x0, x1, x2, _, x4, x5, x6, x7, x8, x9, (by first | (simp only [Act.put, List.setIfInBounds_toArray, List.set_cons_succ, List.set_cons_zero]; done) | rfl), (fun h => h0 (by simpa using h)), (fun h => h1 (by simpa using h)), (fun h => h2 (by simpa using h)), (fun _ => rfl), (fun h => h4 (by simpa using h)), ?_⟩
          rcases HPP.out with h | h | h | h | h | h
          · exact (Or.inl (⟨(by simpa using h.1), (by simpa using h.2.1), (by simpa using h.2.2.1), (by simpa using h.2.2.2.1), (by simpa using h.2.2.2.2.1), h.2.2.2.2.2⟩))
          · exact (Or.inr (Or.inl (⟨(by simpa using h.1), (by simpa using h.2.1), (by simpa using h.2.2.1), (by simpa using h.2.2.2.1), (by simpa using h.2.2.2.2.1), (by simpa using h.2.2.2.2.2.1), h.2.2.2.2.2.2⟩)))
          · exact (Or.inr (Or.inr (Or.inl (⟨(by simpa using h.1), (by simpa using h.2.1), (by simpa using h.2.2.1), (by simpa using h.2.2.2.1), (by simpa using h.2.2.2.2.1), (by simpa using h.2.2.2.2.2.1), (by simpa using h.2.2.2.2.2.2.1), h.2.2.2.2.2.2.2⟩))))
          · exact (Or.inr (Or.inr (Or.inr (Or.inl (⟨(by simpa using h.1), (by simpa using h.2.1), (by simpa using h.2.2.1), (by simpa using h.2.2.2.1), (by simpa using h.2.2.2.2.1), (by simpa using h.2.2.2.2.2.1), (by simpa using h.2.2.2.2.2.2.1), h.2.2.2.2.2.2.2⟩)))))
          · exact (Or.inr (Or.inr (Or.inr (Or.inr (Or.inl (⟨(by simpa using h.1), (by simpa using h.2.1), (by simpa using h.2.2.1), (by simpa using h.2.2.2.1), (by simpa using h.2.2.2.2.1), (by simpa using h.2.2.2.2.2.1), (by simpa using h.2.2.2.2.2.2.1), (by simpa using h.2.2.2.2.2.2.2.1), h.2.2.2.2.2.2.2.2⟩))))))
          · exact (Or.inr (Or.inr (Or.inr (Or.inr (Or.inr (⟨(by simpa using h.1), (by simpa using h.2.1), (by simpa using h.2.2.1), (by simpa using h.2.2.2.1), (by simpa using h.2.2.2.2.1), (by simpa using h.2.2.2.2.2.1), (by simpa using h.2.2.2.2.2.2.1), (by simpa using h.2.2.2.2.2.2.2.1), h.2.2.2.2.2.2.2.2⟩))))))
        · -- 4
          obtain ⟨x0, x1, x2, x3, x4, x5, x6, x7, x8, x9, rfl, h0, h1, h2, h3, h4, hP⟩ := hI
          try simp [Region.binds] at hdep
          obtain rfl := h3 (by first | exact hdep | exact hdep.1 | exact hdep.2 | exact hdep.2.1 | exact hdep.2.2 | exact hdep.2.2.1 | exact hdep.2.2.2 | simp_all)
          have y1 : wx.cell? ⟨g, 1, none⟩ = some (.slice Ap pn cp) := by
            rcases hP with haP | hbP | hcP | hdP | heP | hfP
            · have hP := haP.2.2.2.2.2; simpa using (hP.1.blk HBX.out (fun h => h)).cell 1
            · exact absurd hbP.2.2.2.2.2.1 (by simp [hf])
            · exact absurd hcP.2.2.2.2.2.1 (by simp [hf])
            · exact absurd hdP.2.2.2.2.2.1 (by simp [hf])
            · exact absurd heP.2.2.2.2.2.1 (by simp [hf])
            · exact absurd hfP.2.2.2.2.2.1 (by simp [hf])
          have H0' := hid h0; have H1' := hid h1; have H2' := hid h2; have H3' := hid h3; have H4' := hid h4; clear h0 h1 h2 h3 h4
          have HPP := hid hP; clear hP
          try simp only [Act.put, List.setIfInBounds_toArray, List.set_cons_succ, List.set_cons_zero]
          go_wp2_with fail
          have h0 := H0'.out; have h1 := H1'.out; have h2 := H2'.out; have h3 := H3'.out; have h4 := H4'.out
          refine ⟨x0, x1, x2, _, _, x5, x6, x7, x8, x9, (by first | (simp only [Act.put, List.setIfInBounds_toArray, List.set_cons_succ, List.set_cons_zero]; done) | rfl), (fun h => h0 (by simpa using h)), (fun h => h1 (by simpa using h)), (fun h => h2 (by simpa using h)), (fun _ => rfl), (fun _ => rfl), ?_⟩
          rcases HPP.out with h | h | h | h | h | h
          · exact (Or.inl (⟨(by simpa using h.1), (by simpa using h.2.1), (by simpa using h.2.2.1), (by simpa using h.2.2.2.1), (by simpa using h.2.2.2.2.1), h.2.2.2.2.2⟩))
          · exact absurd h.2.2.2.2.2.1 (by simp [hf])
          · exact absurd h.2.2.2.2.2.1 (by simp [hf])
          · exact absurd h.2.2.2.2.2.1 (by simp [hf])
          · exact absurd h.2.2.2.2.2.1 (by simp [hf])
          · exact absurd h.2.2.2.2.2.1 (by simp [hf])
        · -- 5
          obtain ⟨x0, x1, x2, x3, x4, x5, x6, x7, x8, x9, rfl, h0, h1, h2, h3, h4, hP⟩ := hI
          try simp [Region.binds] at hdep
          rcases hP with hP | hP | hP | hP | hP | hP
          rotate_left
          · exact absurd hP.1 (by simp [hf])
          · exact absurd hP.1 (by simp [hf])
          · exact absurd hP.1 (by simp [hf])
          · exact absurd hP.1 (by simp [hf])
          · exact absurd hP.1 (by simp [hf])
          have hQ := hP
          have hfl6 : f 6 = false := hQ.2.1
          have hfl7 : f 7 = false := hQ.2.2.1
          have hfl8 : f 8 = false := hQ.2.2.2.1
          have hfl9 : f 9 = false := hQ.2.2.2.2.1
          have hP := hQ.2.2.2.2.2
          clear hQ
          have hn4 : f 4 = true := (by first | exact hdep | exact hdep.1 | exact hdep.2 | exact hdep.2.1 | exact hdep.2.2 | exact hdep.2.2.1 | exact hdep.2.2.2 | simp_all)
          obtain rfl := h4 (by first | exact hdep | exact hdep.1 | exact hdep.2 | exact hdep.2.1 | exact hdep.2.2 | exact hdep.2.2.1 | exact hdep.2.2.2 | simp_all)
          have H0' := hid h0; have H1' := hid h1; have H2' := hid h2; have H3' := hid h3; have H4' := hid h4; clear h0 h1 h2 h3 h4
          try simp only [Act.put, List.setIfInBounds_toArray, List.set_cons_succ, List.set_cons_zero]
          obtain ⟨hPc, rfl⟩ := hP
          have hsl := hPc.sl HSL.out (n := P.length) (fun _ _ _ _ h => h) (by simp)
          have HSL2 := hid hsl
          have HCH0 := hid hPc
          have hszx := hPc.size
          clear hsl hPc
          go_wp2_with fail
          refine (clone_any P pn Ap cp _ HPN.out (by omega) HSL2.out).mono ?_
          rintro e w5 ⟨v5, rfl, ho5, hb5⟩
          obtain ⟨A5, c5, rfl, hp5⟩ := Pay.of_own ho5
          have HP5 := hid (hp5.mono (show s ≤ wx.heap.size by have := HB2.out.size; have := HWS.out; omega))
          have HC5 := hid (HCH0.out.trans (Chg.of_new hb5))
          clear hp5 ho5 hb5
          go_wp2_with fail
          have h0 := H0'.out; have h1 := H1'.out; have h2 := H2'.out; have h3 := H3'.out; have h4 := H4'.out
          exact ⟨x0, x1, x2, x3, (.slice Ap pn cp), (.slice A5 pn c5), x6, x7, x8, (.slice Av j cv), (by first | (simp only [Act.put, List.setIfInBounds_toArray, List.set_cons_succ, List.set_cons_zero]; done) | rfl), (fun h => h0 (by simpa using h)), (fun h => h1 (by simpa using h)), (fun h => h2 (by simpa using h)), (fun h => h3 (by simpa using h)), (fun _ => rfl), (Or.inr (Or.inl (⟨(by simp), (by simp only [Bool.or_eq_false_iff]; exact ⟨by decide, hfl6⟩), (by simp only [Bool.or_eq_false_iff]; exact ⟨by decide, hfl7⟩), (by simp only [Bool.or_eq_false_iff]; exact ⟨by decide, hfl8⟩), (by simp only [Bool.or_eq_false_iff]; exact ⟨by decide, hfl9⟩), (by simp [hn4]), (⟨HC5.out, rfl, A5, c5, rfl, HP5.out⟩)⟩)))⟩
        · -- 6
          obtain ⟨x0, x1, x2, x3, x4, x5, x6, x7, x8, x9, rfl, h0, h1, h2, h3, h4, hP⟩ := hI
          try simp [Region.binds] at hdep
          rcases hP with hP | hP | hP | hP | hP | hP
          · exact absurd hP.1 (by simp [hdep])
          rotate_left
          · exact absurd hP.2.1 (by simp [hf])
          · exact absurd hP.2.1 (by simp [hf])
          · exact absurd hP.2.1 (by simp [hf])
          · exact absurd hP.2.1 (by simp [hf])
          have hQ := hP
          have hfl7 : f 7 = false := hQ.2.2.1
          have hfl8 : f 8 = false := hQ.2.2.2.1
          have hfl9 : f 9 = false := hQ.2.2.2.2.1
          have hkn5 : f 5 = true := hQ.1
          have hkn4 : f 4 = true := hQ.2.2.2.2.2.1
          have hP := hQ.2.2.2.2.2.2
          clear hQ
          have hn2 : f 2 = true := (by first | exact hdep | exact hdep.1 | exact hdep.2 | exact hdep.2.1 | exact hdep.2.2 | exact hdep.2.2.1 | exact hdep.2.2.2 | simp_all)
          obtain rfl := h2 (by first | exact hdep | exact hdep.1 | exact hdep.2 | exact hdep.2.1 | exact hdep.2.2 | exact hdep.2.2.1 | exact hdep.2.2.2 | simp_all)
          have H0' := hid h0; have H1' := hid h1; have H2' := hid h2; have H3' := hid h3; have H4' := hid h4; clear h0 h1 h2 h3 h4
          try simp only [Act.put, List.setIfInBounds_toArray, List.set_cons_succ, List.set_cons_zero]
          obtain ⟨hPc, rfl, A5, c5, rfl, hPp⟩ := hP
          have HPC := hid hPc
          have HPP5 := hid hPp
          clear hPc hPp
          go_wp2_with fail
          have h0 := H0'.out; have h1 := H1'.out; have h2 := H2'.out; have h3 := H3'.out; have h4 := H4'.out
          exact ⟨x0, x1, (.int .u8 (ty : Int)), x3, x4, (.slice A5 pn c5), (.agg #[.int .u8 (ty : Int), .slice A5 pn c5]), x7, x8, (.slice Av j cv), (by first | (simp only [Act.put, List.setIfInBounds_toArray, List.set_cons_succ, List.set_cons_zero]; done) | rfl), (fun h => h0 (by simpa using h)), (fun h => h1 (by simpa using h)), (fun _ => rfl), (fun h => h3 (by simpa using h)), (fun h => h4 (by simpa using h)), (Or.inr (Or.inr (Or.inl (⟨(by simp [hkn5]), (by simp), (by simp only [Bool.or_eq_false_iff]; exact ⟨by decide, hfl7⟩), (by simp only [Bool.or_eq_false_iff]; exact ⟨by decide, hfl8⟩), (by simp only [Bool.or_eq_false_iff]; exact ⟨by decide, hfl9⟩), (by simp [hkn4]), (by simp [hn2]), (⟨HPC.out, rfl, A5, c5, rfl, HPP5.out⟩)⟩))))⟩
        · -- 7
          obtain ⟨x0, x1, x2, x3, x4, x5, x6, x7, x8, x9, rfl, h0, h1, h2, h3, h4, hP⟩ := hI
          try simp [Region.binds] at hdep
          rcases hP with hP | hP | hP | hP | hP | hP
          · exact absurd hP.2.1 (by simp [hdep])
          · exact absurd hP.2.1 (by simp [hdep])
          rotate_left
          · exact absurd hP.2.2.1 (by simp [hf])
          · exact absurd hP.2.2.1 (by simp [hf])
          · exact absurd hP.2.2.1 (by simp [hf])
          have hQ := hP
          have hfl8 : f 8 = false := hQ.2.2.2.1
          have hfl9 : f 9 = false := hQ.2.2.2.2.1
          have hkn5 : f 5 = true := hQ.1
          have hkn6 : f 6 = true := hQ.2.1
          have hkn4 : f 4 = true := hQ.2.2.2.2.2.1
          have hkn2 : f 2 = true := hQ.2.2.2.2.2.2.1
          have hP := hQ.2.2.2.2.2.2.2
          clear hQ
          have H0' := hid h0; have H1' := hid h1; have H2' := hid h2; have H3' := hid h3; have H4' := hid h4; clear h0 h1 h2 h3 h4
          try simp only [Act.put, List.setIfInBounds_toArray, List.set_cons_succ, List.set_cons_zero]
          obtain ⟨hPc, rfl, A5, c5, rfl, hPp⟩ := hP
          have HPC := hid (hPc.alloc (.cells #[.int .u8 (ty : Int), .slice A5 pn c5] 29))
          have HPP5 := hid (hPp.below (bw_a (Below.refl wx.heap.size wx) (.cells #[.int .u8 (ty : Int), .slice A5 pn c5] 29)))
          have HRD := hid (Rd.new wx 29 #[.int .u8 (ty : Int), .slice A5 pn c5])
          clear hPc hPp
          go_wp2_with fail
          have h0 := H0'.out; have h1 := H1'.out; have h2 := H2'.out; have h3 := H3'.out; have h4 := H4'.out
          exact ⟨x0, x1, x2, x3, x4, x5, (.agg #[.int .u8 (ty : Int), .slice A5 pn c5]), (.slice (some ⟨wx.heap.size, 0, none⟩) 1 1), x8, (.slice Av j cv), (by first | (simp only [Act.put, List.setIfInBounds_toArray, List.set_cons_succ, List.set_cons_zero]; done) | rfl), (fun h => h0 (by simpa using h)), (fun h => h1 (by simpa using h)), (fun h => h2 (by simpa using h)), (fun h => h3 (by simpa using h)), (fun h => h4 (by simpa using h)), (Or.inr (Or.inr (Or.inr (Or.inl (⟨(by simp [hkn5]), (by simp [hkn6]), (by simp), (by simp only [Bool.or_eq_false_iff]; exact ⟨by decide, hfl8⟩), (by simp only [Bool.or_eq_false_iff]; exact ⟨by decide, hfl9⟩), (by simp [hkn4]), (by simp [hkn2]), (⟨HPC.out, rfl, A5, c5, _, rfl, HPP5.out, HRD.out⟩)⟩)))))⟩
        · -- 8
          obtain ⟨x0, x1, x2, x3, x4, x5, x6, x7, x8, x9, rfl, h0, h1, h2, h3, h4, hP⟩ := hI
          try simp [Region.binds] at hdep
          rcases hP with hP | hP | hP | hP | hP | hP
          · exact absurd hP.2.2.1 (by simp [hdep])
          · exact absurd hP.2.2.1 (by simp [hdep])
          · exact absurd hP.2.2.1 (by simp [hdep])
          rotate_left
          · exact absurd hP.2.2.2.1 (by simp [hf])
          · exact absurd hP.2.2.2.1 (by simp [hf])
          have hQ := hP
          have hfl9 : f 9 = false := hQ.2.2.2.2.1
          have hkn5 : f 5 = true := hQ.1
          have hkn6 : f 6 = true := hQ.2.1
          have hkn7 : f 7 = true := hQ.2.2.1
          have hkn4 : f 4 = true := hQ.2.2.2.2.2.1
          have hkn2 : f 2 = true := hQ.2.2.2.2.2.2.1
          have hP := hQ.2.2.2.2.2.2.2
          clear hQ
          have hn0 : f 0 = true := (by first | exact hdep | exact hdep.1 | exact hdep.2 | exact hdep.2.1 | exact hdep.2.2 | exact hdep.2.2.1 | exact hdep.2.2.2 | simp_all)
          obtain rfl := h0 (by first | exact hdep | exact hdep.1 | exact hdep.2 | exact hdep.2.1 | exact hdep.2.2 | exact hdep.2.2.1 | exact hdep.2.2.2 | simp_all)
          have H0' := hid h0; have H1' := hid h1; have H2' := hid h2; have H3' := hid h3; have H4' := hid h4; clear h0 h1 h2 h3 h4
          try simp only [Act.put, List.setIfInBounds_toArray, List.set_cons_succ, List.set_cons_zero]
          obtain ⟨hPc, rfl, A5, c5, rr, rfl, hPp, hPr⟩ := hP
          obtain ⟨fs, fs1, fs2, fs3⟩ := HON.out.chg hPc (fun _ _ h => h)
          have hfl : fs.length = j := by rw [← HLJ.out, ← fs1, List.length_map]
          rw [hfl] at fs2
          have HFS1 := hid fs1
          have HFS2 := hid fs2
          have HFS3 := hid fs3
          have HFL := hid hfl
          have HPC := hid hPc
          have HPY := hid hPp
          have HRD := hid hPr
          have hsz := hPc.size
          clear fs1 fs2 fs3 hfl hPc hPp hPr
          go_wp2_with (at_builtin; refine wpList_append_rd rfl (.tmp 25) (.tmp 32) 22 rfl s 29 i0 (.agg #[.int .u8 0, .slice none 0 0]) 2 32 Try.underlying22 hi hz0 hz1 hz2 rfl (by decide) _ _ _ rfl HFS2.out (some ⟨rr, 0, none⟩) 1 1 [.int .u8 (ty : Int), .slice A5 pn c5] rfl rfl HRD.out (fun h => by cases h) (by simp [Value.oneCell']) (by simp only [maxLen]; omega) (by omega) (by have := HB2.out.size; have := HWS.out; omega) ?_; intro v6 w6 hown hgrow; obtain ⟨A6, c6, rfl⟩ := row_slice_g hown; have HOW := hid hown; have HGR := hid hgrow; clear hown hgrow)
          have hct := SwO.grow (f := ⟨ty, A5, c5, P⟩) HFL.out HFS2.out HFS3.out HPY.out (by have := HOW.out; unfold frC; rw [HPN.out]; exact this) HGR.out
          rw [HFS1.out] at hct
          have HCT := hid hct
          have HCG := hid ((HPC.out.mono (fun q _ h => h.elim)).trans (Chg.of_grown HGR.out (fun g e => e)))
          clear hct
          have h0 := H0'.out; have h1 := H1'.out; have h2 := H2'.out; have h3 := H3'.out; have h4 := H4'.out
          exact ⟨(.slice Av j cv), x1, x2, x3, x4, x5, x6, (.slice (some ⟨rr, 0, none⟩) 1 1), (.slice A6 (j + 1) c6), (.slice Av j cv), (by first | (simp only [Act.put, List.setIfInBounds_toArray, List.set_cons_succ, List.set_cons_zero]; done) | rfl), (fun _ => rfl), (fun h => h1 (by simpa using h)), (fun h => h2 (by simpa using h)), (fun h => h3 (by simpa using h)), (fun h => h4 (by simpa using h)), (Or.inr (Or.inr (Or.inr (Or.inr (Or.inl (⟨(by simp [hkn5]), (by simp [hkn6]), (by simp [hkn7]), (by simp), (by simp only [Bool.or_eq_false_iff]; exact ⟨by decide, hfl9⟩), (by simp [hkn4]), (by simp [hkn2]), (by simp [hn0]), (⟨HCG.out, rfl, ⟨A6, c6, rfl⟩, HCT.out⟩)⟩))))))⟩
        · -- 9
          obtain ⟨x0, x1, x2, x3, x4, x5, x6, x7, x8, x9, rfl, h0, h1, h2, h3, h4, hP⟩ := hI
          try simp [Region.binds] at hdep
          rcases hP with hP | hP | hP | hP | hP | hP
          · exact absurd hP.2.2.2.1 (by simp [hdep])
          · exact absurd hP.2.2.2.1 (by simp [hdep])
          · exact absurd hP.2.2.2.1 (by simp [hdep])
          · exact absurd hP.2.2.2.1 (by simp [hdep])
          rotate_left
          · exact absurd hP.2.2.2.2.1 (by simp [hf])
          have hQ := hP
          have hkn5 : f 5 = true := hQ.1
          have hkn6 : f 6 = true := hQ.2.1
          have hkn7 : f 7 = true := hQ.2.2.1
          have hkn8 : f 8 = true := hQ.2.2.2.1
          have hkn4 : f 4 = true := hQ.2.2.2.2.2.1
          have hkn2 : f 2 = true := hQ.2.2.2.2.2.2.1
          have hkn0 : f 0 = true := hQ.2.2.2.2.2.2.2.1
          have hP := hQ.2.2.2.2.2.2.2.2
          clear hQ
          have H0' := hid h0; have H1' := hid h1; have H2' := hid h2; have H3' := hid h3; have H4' := hid h4; clear h0 h1 h2 h3 h4
          try simp only [Act.put, List.setIfInBounds_toArray, List.set_cons_succ, List.set_cons_zero]
          obtain ⟨hPc, rfl, ⟨A6, c6, rfl⟩, hPo⟩ := hP
          have HPO := hid hPo
          have HPC := hid hPc
          clear hPo hPc
          go_wp2_with fail
          have h0 := H0'.out; have h1 := H1'.out; have h2 := H2'.out; have h3 := H3'.out; have h4 := H4'.out
          exact ⟨x0, x1, x2, x3, x4, x5, x6, x7, (.slice A6 (j + 1) c6), (.slice A6 (j + 1) c6), (by first | (simp only [Act.put, List.setIfInBounds_toArray, List.set_cons_succ, List.set_cons_zero]; done) | rfl), (fun h => h0 (by simpa using h)), (fun h => h1 (by simpa using h)), (fun h => h2 (by simpa using h)), (fun h => h3 (by simpa using h)), (fun h => h4 (by simpa using h)), (Or.inr (Or.inr (Or.inr (Or.inr (Or.inr (⟨(by simp [hkn5]), (by simp [hkn6]), (by simp [hkn7]), (by simp [hkn8]), (by simp), (by simp [hkn4]), (by simp [hkn2]), (by simp [hkn0]), (⟨HPC.out, ⟨A6, c6, rfl⟩, HPO.out⟩)⟩))))))⟩
      · intro f a' wx hall hI
        obtain ⟨x0, x1, x2, x3, x4, x5, x6, x7, x8, x9, rfl, h0, h1, h2, h3, h4, hP⟩ := hI
        obtain rfl := h0 (hall 0 (by simp))
        obtain rfl := h1 (hall 1 (by simp))
        obtain rfl := h2 (hall 2 (by simp))
        obtain rfl := h3 (hall 3 (by simp))
        obtain rfl := h4 (hall 4 (by simp))
        rcases hP with hP | hP | hP | hP | hP | hP
        · exact absurd hP.1 (by simp [hall 5 (by simp)])
        · exact absurd hP.2.1 (by simp [hall 6 (by simp)])
        · exact absurd hP.2.2.1 (by simp [hall 7 (by simp)])
        · exact absurd hP.2.2.2.1 (by simp [hall 8 (by simp)])
        · exact absurd hP.2.2.2.2.1 (by simp [hall 9 (by simp)])
        replace hP := hP.2.2.2.2.2.2.2.2
        clear h0 h1 h2 h3 h4 hall f
        try simp only [Act.put, List.setIfInBounds_toArray, List.set_cons_succ, List.set_cons_zero]
        obtain ⟨hC8, ⟨A8, c8, rfl⟩, hct2⟩ := hP
        have HC8 := hid hC8
        have HCT8 := hid hct2
        clear hC8 hct2
        go_wp2_with fail
        go_roundw
        case rel => exact ⟨j + 1, by omega, by go_num, A8, c8, rfl, by rw [HSU.out]; exact HCT8.out, HB2.out.trans (HC8.out.below (B := s) (fun q h => by have := HVO.out q h; omega) (by have := HB2.out.size; omega))⟩
        case measure => simp [intOf]; omega

    · obtain rfl : j = k := by omega
      have hki : ¬ (j : Int) < (j : Int) := by omega
      have HO := hid ho
      have HB := hid hb
      clear ho hb
      go_wp2_with fail
      go_ret
      exact ⟨Av, cv, rfl, HO.out, HB.out⟩
end Go.Proofs.Ytgiealcfhlcpoaa
