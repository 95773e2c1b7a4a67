/- What happens to a stream: a bit turned; nothing. -/
import Derived.Test.YtgiealcfhlcpoaaStmB
import Derived.Test.YtgiealcfhlcpoaaLaw7B
import Derived.Test.YtgiealcfhlcpoaaRg
set_option linter.unusedVariables false
namespace Go.Proofs.Ytgiealcfhlcpoaa
open Go.RowKit
/-- A bit of a byte turned. -/
def flipB (x : UInt8) (t : Nat) : UInt8 := UInt8.ofNat (x.toNat ^^^ 2 ^ t)
theorem set_bv (cs : Array Value) (bs : List UInt8) (p : Nat) (x : UInt8) (hp : p < bs.length) (h : cs.toList.take bs.length = bs.map bv) : (cs.setIfInBounds p (bv x)).toList.take bs.length = (bs.set p x).map bv := by
  rw [Array.toList_setIfInBounds, List.take_set, h, List.map_set]
/-- The bytes of a row that lies in a block of its own. -/
theorem ed_cells {B n c g : Nat} {w : World} {cs : Array Value} {bs : List UInt8} (h : EdS B w (some ⟨g, 0, none⟩) n c bs) (hk : Blk w g 5 cs) : cs.toList.take bs.length = bs.map bv := by
  apply List.ext_getElem?
  intro j
  by_cases hj : j < bs.length
  · have h1 := h.sl.rd j (bv bs[j]) (by simp [hj])
    obtain ⟨b, o, e, hb, hc⟩ := h1
    injection e with e
    injection e with e1 e2
    subst e1; subst e2
    have h2 := hk.cell j
    rw [Nat.zero_add] at hc
    rw [hc] at h2
    rw [List.getElem?_take, if_pos hj, Array.getElem?_toList, ← h2]
    simp [hj]
  · rw [List.getElem?_take, if_neg hj, List.getElem?_eq_none (by rw [List.length_map]; omega)]
theorem ed_set {B n c g p : Nat} {w : World} {cs : Array Value} {bs : List UInt8} {x : UInt8} (h : EdS B w (some ⟨g, 0, none⟩) n c bs) (hg : B ≤ g) (hk : Blk w g 5 cs) (hp : p < bs.length) : EdS B (w.setCell ⟨g, p, none⟩ (bv x)) (some ⟨g, 0, none⟩) n c (bs.set p x) := by
  have hcl := ed_cells h hk
  have hst := set_bv cs bs p x hp hcl
  have hkn := hk.set_ p (bv x)
  refine ⟨⟨by rw [List.length_map, List.length_set, ← List.length_map (f := bv)]; exact h.sl.cap, h.sl.small, (fun e => by cases e), fun j v hj => ⟨g, 0, rfl, hkn.lt, ?_⟩⟩, by rw [List.length_set]; exact h.len, .inr ⟨g, _, rfl, hg, hkn⟩⟩
  have hjl : j < bs.length := by
    have := (List.getElem?_eq_some_iff.1 hj).1
    rw [List.length_map, List.length_set] at this; exact this
  rw [← hst, List.getElem?_take, if_pos hjl, Array.getElem?_toList] at hj
  rw [Nat.zero_add, hkn.cell j]
  exact hj
theorem flip_fin {B n c g : Nat} {w : World} {bs : List UInt8} (h : EdS B w (some ⟨g, 0, none⟩) n c bs) (hn : n ≤ 9223372036854775807) : EdS B w.drew (some ⟨g, 0, none⟩) n n bs :=
  ⟨⟨by rw [List.length_map, h.len]; exact Nat.le_refl _, hn, (fun e => by cases e), h.sl.rd⟩, h.len, h.own⟩
def flipL (bs : List UInt8) (p t : Nat) : List UInt8 := if h : p < bs.length then bs.set p (flipB bs[p] t) else bs
def FlR6 (s g p t n c : Nat) (x y : UInt8) (to_ : Int) (W0 : World) (a0 : Act) (w0 : World) (f : Nat → Bool) (a : Act) (w : World) : Prop := ∃ x0 x1 x2 x3 x4 x5 x6 x7 x8 x9 : Value, a = ((((((((((a0.put (some 34) x0).put (some 35) x1).put (some 36) x2).put (some 37) x3).put (some 38) x4).put (some 39) x5).put (some 40) x6).put (some 41) x7).put (some 42) x8).put (some 43) x9) ∧ (f 0 = true → x0 = .slice (some ⟨g, 0, none⟩) n c) ∧ (f 1 = true → x1 = .int .i64 (p : Int)) ∧ (f 2 = true → x2 = .pointer (some ⟨g, p, none⟩)) ∧ (f 3 = true → x3 = .int .u8 (x.toNat : Int)) ∧ (f 4 = true → x4 = .pointer (some ⟨s, 3, none⟩)) ∧ (f 5 = true → x5 = .int .i64 to_) ∧ (f 6 = true → x6 = .int .i64 (t : Int)) ∧ (f 7 = true → x7 = .int .u8 (2 ^ t % 256)) ∧ (f 8 = true → x8 = .int .u8 (y.toNat : Int)) ∧ (f 9 = true → x9 = .pointer (some ⟨g, p, none⟩)) ∧ ((f 10 = false ∧ (w = W0.drew)) ∨ (f 10 = true ∧ f 3 = true ∧ f 5 = true ∧ (w = W0.drew.setCell ⟨g, p, none⟩ (.int .u8 (y.toNat : Int)))))
set_option maxRecDepth 100000 in
set_option maxHeartbeats 2000000 in
theorem sedit_flip (bs : List UInt8) (at_ nn to_ : Int) (A2 : Option Addr) (m2 c2 : Nat) (B : Nat) (A : Option Addr) (n c p k t : Nat) (w : World) (h : EdS B w A n c bs) (hl : n ≤ 1048576) (h1 : -9223372036854775808 ≤ at_) (h2 : at_ ≤ 9223372036854775807) (h3 : -9223372036854775808 ≤ nn) (h4 : nn ≤ 9223372036854775807) (h5 : -9223372036854775808 ≤ to_) (h6 : to_ ≤ 9223372036854775807) (hp : at_ % ((n : Int) + 1) = (p : Int)) (hk : nn % (((n - p : Nat) : Int) + 1) = (k : Int)) (ht : to_ % 8 = (t : Int)) :
    Calls Try.prog 18 #[.slice A n c, .agg #[.int .i64 1, .int .i64 at_, .int .i64 nn, .int .i64 to_, .slice A2 m2 c2]] w fun e w' => e = .returned (.slice A n n) ∧ EdS B w' A n n (flipL bs p t) ∧ Chg (fun q => ∃ o, A = some ⟨q, o, none⟩) w w' := by
  obtain ⟨s, hws⟩ : ∃ s, w.heap.size = s := ⟨_, rfl⟩
  have hn := h.len
  have hcap := h.sl.cap
  have hsm := h.sl.small
  rw [List.length_map, hn] at hcap
  have hpm := rest_in at_ ((n : Int) + 1) (by omega)
  rw [hp] at hpm
  have htm := rest_in to_ 8 (by omega)
  rw [ht] at htm
  have hkm := rest_in nn (((n - p : Nat) : Int) + 1) (by omega)
  rw [hk] at hkm
  have hr1 := fun W => srest_any at_ ((n : Int) + 1) W h1 h2 (by omega) (by omega)
  rw [hp] at hr1
  have hr2 := fun W => srest_any nn (((n - p : Nat) : Int) + 1) W h3 h4 (by omega) (by omega)
  rw [hk] at hr2
  have hr3 := fun W => srest_any to_ 8 W h5 h6 (by omega) (by omega)
  rw [ht] at hr3
  have e1 : IntKind.i64.wrap ((n : Int) + 1) = (n : Int) + 1 := IntWalk.i64_in _ (by omega)
  have e2 : IntKind.i64.wrap ((n : Int) - (p : Int)) = ((n - p : Nat) : Int) := by rw [IntWalk.i64_in _ (by omega)]; omega
  have e3 : IntKind.i64.wrap (((n - p : Nat) : Int) + 1) = ((n - p : Nat) : Int) + 1 := IntWalk.i64_in _ (by omega)
  have e4 : IntKind.i64.wrap ((p : Int) + (k : Int)) = (p : Int) + (k : Int) := IntWalk.i64_in _ (by omega)
  have HR1 := hid hr1
  have HR2 := hid hr2
  have HR3 := hid hr3
  have HH := hid h
  have HN := hid hn
  have hbk := Blk.new w 32 #[.int .i64 1, .int .i64 at_, .int .i64 nn, .int .i64 to_, .slice A2 m2 c2]
  rw [hws] at hbk
  have hb0 := bw_a (Below.refl w.heap.size w) (.cells #[.int .i64 1, .int .i64 at_, .int .i64 nn, .int .i64 to_, .slice A2 m2 c2] 32)
  have HB0 := hid hb0
  have HBK := hid hbk
  clear hr1 hr2 hr3 h hn hp hk ht hb0 hbk hkm
  go_enter Try.func18, Try.ntmps18
  go_wp2_with fail
  refine (HR1.out _).mono ?_
  rintro e w1 ⟨rfl, rfl⟩
  go_wp2_with fail
  refine (HR2.out _).mono ?_
  rintro e w1 ⟨rfl, rfl⟩
  have hmn : min (n : Int) 1048576 = (n : Int) := by omega
  by_cases hpn : p < n
  · have hpi : (p : Int) < (n : Int) := by omega
    have hp0 : (0 : Int) ≤ (p : Int) := by omega
    have hpb : p < bs.length := by rw [HN.out]; exact hpn
    obtain ⟨g, cs, rfl, hBg, hkg⟩ : ∃ g cs, A = some ⟨g, 0, none⟩ ∧ B ≤ g ∧ Blk w g 5 cs := by
      rcases HH.out.own with e | h
      · subst e
        have := HH.out.sl.nil0 rfl
        omega
      · exact h
    have hgs : g < s := by have := hkg.lt; omega
    have hgne : ¬ g = s := by omega
    have hgne2 : ¬ s = g := by omega
    have hkw := hkg.alloc (.cells #[.int .i64 1, .int .i64 at_, .int .i64 nn, .int .i64 to_, .slice A2 m2 c2] 32)
    have hed : EdS B (w.alloc (.cells #[.int .i64 1, .int .i64 at_, .int .i64 nn, .int .i64 to_, .slice A2 m2 c2] 32)) (some ⟨g, 0, none⟩) n c bs := ⟨HH.out.sl.below HB0.out, HN.out, .inr ⟨g, cs, rfl, hBg, hkw⟩⟩
    have cp : (w.alloc (.cells #[.int .i64 1, .int .i64 at_, .int .i64 nn, .int .i64 to_, .slice A2 m2 c2] 32)).cell? ⟨g, p, none⟩ = some (.int .u8 (bs[p].toNat : Int)) := by
      obtain ⟨b, o, e, hb, hc⟩ := BRd.at_ hed.sl.rd (k := p) hpb
      injection e with e
      injection e with e1 e2
      subst e1; subst e2
      rw [Nat.zero_add] at hc
      exact hc
    have fp := hkw.frozen p
    have hv : Value.int .u8 (Go.bits .xor .u8 (bs[p].toNat : Int) (2 ^ t % 256)) = .int .u8 ((flipB bs[p] t).toNat : Int) := bits_flip bs[p] t (by omega)
    have hv2 : Go.bits .xor .u8 (bs[p].toNat : Int) (2 ^ t % 256) = ((flipB bs[p] t).toNat : Int) := by injection hv
    have hst := ed_set (x := flipB bs[p] t) hed hBg hkw hpb
    have hch : Chg (fun q => q = g) w ((w.alloc (.cells #[.int .i64 1, .int .i64 at_, .int .i64 nn, .int .i64 to_, .slice A2 m2 c2] 32)).setCell ⟨g, p, none⟩ (bv (flipB bs[p] t))) := (Chg.of_new HB0.out).trans ((Chg.refl (fun q => q = g) _).set_ (.inl rfl) p _)
    have c0 := HBK.out.cell 0
    have c3 := HBK.out.cell 3
    simp only [List.getElem?_toArray, List.getElem?_cons_zero, List.getElem?_cons_succ] at c0 c3
    have hfl : flipL bs p t = bs.set p (flipB bs[p] t) := by unfold flipL; rw [dif_pos hpb]
    have HST := hid hst
    have HCH := hid hch
    have HFL := hid hfl
    have HV := hid hv
    clear hst hch hfl hkw hed hkg
    generalize (w.alloc (.cells #[.int .i64 1, .int .i64 at_, .int .i64 nn, .int .i64 to_, .slice A2 m2 c2] 32)) = W0 at *
    go_wp2_with fail
    have CP := hid (show W0.drew.cell? ⟨g, p, none⟩ = some (.int .u8 (bs[p].toNat : Int)) from cp)
    have FP := hid (show W0.drew.frozen? ⟨g, p, none⟩ = false from fp)
    have C3 := hid (show W0.drew.cell? ⟨s, 3, none⟩ = some (.int .i64 to_) from c3)
    refine wp_region_invB (by kernel_rfl) (by kernel_rfl) (FlR6 s g p t n c bs[p] (flipB bs[p] t) to_ W0) ?_ ?_ ?_
    · exact ⟨undef, undef, undef, undef, undef, undef, undef, undef, undef, undef, (by first | (simp only [Act.put, List.setIfInBounds_toArray, List.set_cons_succ, List.set_cons_zero]; done) | rfl), by simp, by simp, by simp, by simp, by simp, by simp, by simp, by simp, by simp, by simp, (Or.inl (⟨by simp, rfl⟩))⟩
    · intro f a' wx i o ho hf hdep hI
      have hi : i < 11 := (Array.getElem?_eq_some_iff.1 ho).1
      have hcase : i = 0 ∨ i = 1 ∨ i = 2 ∨ i = 3 ∨ i = 4 ∨ i = 5 ∨ i = 6 ∨ i = 7 ∨ i = 8 ∨ i = 9 ∨ i = 10 := by omega
      clear hi
      rcases hcase with rfl | rfl | rfl | rfl | rfl | rfl | rfl | rfl | rfl | rfl | rfl
      all_goals
        simp only [List.getElem?_toArray, List.getElem?_cons_zero, List.getElem?_cons_succ, Option.some.injEq] at ho
        subst ho
      · -- 0
        obtain ⟨x0, x1, x2, x3, x4, x5, x6, x7, x8, x9, rfl, h0, h1, h2, h3, h4, h5, h6, h7, h8, h9, hP⟩ := hI
        have H0' := hid h0; have H1' := hid h1; have H2' := hid h2; have H3' := hid h3; have H4' := hid h4; have H5' := hid h5; have H6' := hid h6; have H7' := hid h7; have H8' := hid h8; have H9' := hid h9; clear h0 h1 h2 h3 h4 h5 h6 h7 h8 h9
        have HPP := hid hP; clear hP
        try simp only [Act.put, List.setIfInBounds_toArray, List.set_cons_succ, List.set_cons_zero]
        go_wp2_with fail
        have h0 := H0'.out; have h1 := H1'.out; have h2 := H2'.out; have h3 := H3'.out; have h4 := H4'.out; have h5 := H5'.out; have h6 := H6'.out; have h7 := H7'.out; have h8 := H8'.out; have h9 := H9'.out
        refine ⟨_, x1, x2, x3, x4, x5, x6, x7, x8, x9, (by first | (simp only [Act.put, List.setIfInBounds_toArray, List.set_cons_succ, List.set_cons_zero]; done) | rfl), (fun _ => rfl), (fun h => h1 (by simpa using h)), (fun h => h2 (by simpa using h)), (fun h => h3 (by simpa using h)), (fun h => h4 (by simpa using h)), (fun h => h5 (by simpa using h)), (fun h => h6 (by simpa using h)), (fun h => h7 (by simpa using h)), (fun h => h8 (by simpa using h)), (fun h => h9 (by simpa using h)), ?_⟩
        rcases HPP.out with h | h
        · exact (Or.inl (⟨(by simpa using h.1), h.2⟩))
        · exact (Or.inr (⟨(by simpa using h.1), (by simpa using h.2.1), (by simpa using h.2.2.1), h.2.2.2⟩))
      · -- 1
        obtain ⟨x0, x1, x2, x3, x4, x5, x6, x7, x8, x9, rfl, h0, h1, h2, h3, h4, h5, h6, h7, h8, h9, hP⟩ := hI
        have H0' := hid h0; have H1' := hid h1; have H2' := hid h2; have H3' := hid h3; have H4' := hid h4; have H5' := hid h5; have H6' := hid h6; have H7' := hid h7; have H8' := hid h8; have H9' := hid h9; clear h0 h1 h2 h3 h4 h5 h6 h7 h8 h9
        have HPP := hid hP; clear hP
        try simp only [Act.put, List.setIfInBounds_toArray, List.set_cons_succ, List.set_cons_zero]
        go_wp2_with fail
        have h0 := H0'.out; have h1 := H1'.out; have h2 := H2'.out; have h3 := H3'.out; have h4 := H4'.out; have h5 := H5'.out; have h6 := H6'.out; have h7 := H7'.out; have h8 := H8'.out; have h9 := H9'.out
        refine ⟨x0, _, x2, x3, x4, x5, x6, x7, x8, x9, (by first | (simp only [Act.put, List.setIfInBounds_toArray, List.set_cons_succ, List.set_cons_zero]; done) | rfl), (fun h => h0 (by simpa using h)), (fun _ => rfl), (fun h => h2 (by simpa using h)), (fun h => h3 (by simpa using h)), (fun h => h4 (by simpa using h)), (fun h => h5 (by simpa using h)), (fun h => h6 (by simpa using h)), (fun h => h7 (by simpa using h)), (fun h => h8 (by simpa using h)), (fun h => h9 (by simpa using h)), ?_⟩
        rcases HPP.out with h | h
        · exact (Or.inl (⟨(by simpa using h.1), h.2⟩))
        · exact (Or.inr (⟨(by simpa using h.1), (by simpa using h.2.1), (by simpa using h.2.2.1), h.2.2.2⟩))
      · -- 2
        obtain ⟨x0, x1, x2, x3, x4, x5, x6, x7, x8, x9, rfl, h0, h1, h2, h3, h4, h5, h6, h7, h8, h9, hP⟩ := hI
        try simp [Region.binds] at hdep
        obtain rfl := h0 (by first | exact hdep | exact hdep.1 | exact hdep.2 | exact hdep.2.1 | exact hdep.2.2 | exact hdep.2.2.1 | exact hdep.2.2.2 | simp_all)
        obtain rfl := h1 (by first | exact hdep | exact hdep.1 | exact hdep.2 | exact hdep.2.1 | exact hdep.2.2 | exact hdep.2.2.1 | exact hdep.2.2.2 | simp_all)
        have H0' := hid h0; have H1' := hid h1; have H2' := hid h2; have H3' := hid h3; have H4' := hid h4; have H5' := hid h5; have H6' := hid h6; have H7' := hid h7; have H8' := hid h8; have H9' := hid h9; clear h0 h1 h2 h3 h4 h5 h6 h7 h8 h9
        have HPP := hid hP; clear hP
        try simp only [Act.put, List.setIfInBounds_toArray, List.set_cons_succ, List.set_cons_zero]
        go_wp2_with fail
        have h0 := H0'.out; have h1 := H1'.out; have h2 := H2'.out; have h3 := H3'.out; have h4 := H4'.out; have h5 := H5'.out; have h6 := H6'.out; have h7 := H7'.out; have h8 := H8'.out; have h9 := H9'.out
        refine ⟨_, _, _, x3, x4, x5, x6, x7, x8, x9, (by first | (simp only [Act.put, List.setIfInBounds_toArray, List.set_cons_succ, List.set_cons_zero]; done) | rfl), (fun _ => rfl), (fun _ => rfl), (fun _ => rfl), (fun h => h3 (by simpa using h)), (fun h => h4 (by simpa using h)), (fun h => h5 (by simpa using h)), (fun h => h6 (by simpa using h)), (fun h => h7 (by simpa using h)), (fun h => h8 (by simpa using h)), (fun h => h9 (by simpa using h)), ?_⟩
        rcases HPP.out with h | h
        · exact (Or.inl (⟨(by simpa using h.1), h.2⟩))
        · exact (Or.inr (⟨(by simpa using h.1), (by simpa using h.2.1), (by simpa using h.2.2.1), h.2.2.2⟩))
      · -- 3
        obtain ⟨x0, x1, x2, x3, x4, x5, x6, x7, x8, x9, rfl, h0, h1, h2, h3, h4, h5, h6, h7, h8, h9, hP⟩ := hI
        try simp [Region.binds] at hdep
        obtain rfl := h2 (by first | exact hdep | exact hdep.1 | exact hdep.2 | exact hdep.2.1 | exact hdep.2.2 | exact hdep.2.2.1 | exact hdep.2.2.2 | simp_all)
        have z0 : wx.cell? ⟨g, p, none⟩ = some (.int .u8 (bs[p].toNat : Int)) := by
          rcases hP with haP | hbP
          · have hP := haP.2; rw [hP]; exact CP.out
          · exact absurd hbP.2.1 (by simp [hf])
        have H0' := hid h0; have H1' := hid h1; have H2' := hid h2; have H3' := hid h3; have H4' := hid h4; have H5' := hid h5; have H6' := hid h6; have H7' := hid h7; have H8' := hid h8; have H9' := hid h9; clear h0 h1 h2 h3 h4 h5 h6 h7 h8 h9
        have HPP := hid hP; clear hP
        try simp only [Act.put, List.setIfInBounds_toArray, List.set_cons_succ, List.set_cons_zero]
        go_wp2_with fail
        have h0 := H0'.out; have h1 := H1'.out; have h2 := H2'.out; have h3 := H3'.out; have h4 := H4'.out; have h5 := H5'.out; have h6 := H6'.out; have h7 := H7'.out; have h8 := H8'.out; have h9 := H9'.out
        refine ⟨x0, x1, _, _, x4, x5, x6, x7, x8, x9, (by first | (simp only [Act.put, List.setIfInBounds_toArray, List.set_cons_succ, List.set_cons_zero]; done) | rfl), (fun h => h0 (by simpa using h)), (fun h => h1 (by simpa using h)), (fun _ => rfl), (fun _ => rfl), (fun h => h4 (by simpa using h)), (fun h => h5 (by simpa using h)), (fun h => h6 (by simpa using h)), (fun h => h7 (by simpa using h)), (fun h => h8 (by simpa using h)), (fun h => h9 (by simpa using h)), ?_⟩
        rcases HPP.out with h | h
        · exact (Or.inl (⟨(by simpa using h.1), h.2⟩))
        · exact absurd h.2.1 (by simp [hf])
      · -- 4
        obtain ⟨x0, x1, x2, x3, x4, x5, x6, x7, x8, x9, rfl, h0, h1, h2, h3, h4, h5, h6, h7, h8, h9, hP⟩ := hI
        have H0' := hid h0; have H1' := hid h1; have H2' := hid h2; have H3' := hid h3; have H4' := hid h4; have H5' := hid h5; have H6' := hid h6; have H7' := hid h7; have H8' := hid h8; have H9' := hid h9; clear h0 h1 h2 h3 h4 h5 h6 h7 h8 h9
        have HPP := hid hP; clear hP
        try simp only [Act.put, List.setIfInBounds_toArray, List.set_cons_succ, List.set_cons_zero]
        go_wp2_with fail
        have h0 := H0'.out; have h1 := H1'.out; have h2 := H2'.out; have h3 := H3'.out; have h4 := H4'.out; have h5 := H5'.out; have h6 := H6'.out; have h7 := H7'.out; have h8 := H8'.out; have h9 := H9'.out
        refine ⟨x0, x1, x2, x3, _, x5, x6, x7, x8, x9, (by first | (simp only [Act.put, List.setIfInBounds_toArray, List.set_cons_succ, List.set_cons_zero]; done) | rfl), (fun h => h0 (by simpa using h)), (fun h => h1 (by simpa using h)), (fun h => h2 (by simpa using h)), (fun h => h3 (by simpa using h)), (fun _ => rfl), (fun h => h5 (by simpa using h)), (fun h => h6 (by simpa using h)), (fun h => h7 (by simpa using h)), (fun h => h8 (by simpa using h)), (fun h => h9 (by simpa using h)), ?_⟩
        rcases HPP.out with h | h
        · exact (Or.inl (⟨(by simpa using h.1), h.2⟩))
        · exact (Or.inr (⟨(by simpa using h.1), (by simpa using h.2.1), (by simpa using h.2.2.1), h.2.2.2⟩))
      · -- 5
        obtain ⟨x0, x1, x2, x3, x4, x5, x6, x7, x8, x9, rfl, h0, h1, h2, h3, h4, h5, h6, h7, h8, h9, hP⟩ := hI
        try simp [Region.binds] at hdep
        obtain rfl := h4 (by first | exact hdep | exact hdep.1 | exact hdep.2 | exact hdep.2.1 | exact hdep.2.2 | exact hdep.2.2.1 | exact hdep.2.2.2 | simp_all)
        have z1 : wx.cell? ⟨s, 3, none⟩ = some (.int .i64 to_) := by
          rcases hP with haP | hbP
          · have hP := haP.2; rw [hP]; exact C3.out
          · exact absurd hbP.2.2.1 (by simp [hf])
        have H0' := hid h0; have H1' := hid h1; have H2' := hid h2; have H3' := hid h3; have H4' := hid h4; have H5' := hid h5; have H6' := hid h6; have H7' := hid h7; have H8' := hid h8; have H9' := hid h9; clear h0 h1 h2 h3 h4 h5 h6 h7 h8 h9
        have HPP := hid hP; clear hP
        try simp only [Act.put, List.setIfInBounds_toArray, List.set_cons_succ, List.set_cons_zero]
        go_wp2_with fail
        have h0 := H0'.out; have h1 := H1'.out; have h2 := H2'.out; have h3 := H3'.out; have h4 := H4'.out; have h5 := H5'.out; have h6 := H6'.out; have h7 := H7'.out; have h8 := H8'.out; have h9 := H9'.out
        refine ⟨x0, x1, x2, x3, _, _, x6, x7, x8, x9, (by first | (simp only [Act.put, List.setIfInBounds_toArray, List.set_cons_succ, List.set_cons_zero]; done) | rfl), (fun h => h0 (by simpa using h)), (fun h => h1 (by simpa using h)), (fun h => h2 (by simpa using h)), (fun h => h3 (by simpa using h)), (fun _ => rfl), (fun _ => rfl), (fun h => h6 (by simpa using h)), (fun h => h7 (by simpa using h)), (fun h => h8 (by simpa using h)), (fun h => h9 (by simpa using h)), ?_⟩
        rcases HPP.out with h | h
        · exact (Or.inl (⟨(by simpa using h.1), h.2⟩))
        · exact absurd h.2.2.1 (by simp [hf])
      · -- 6
        obtain ⟨x0, x1, x2, x3, x4, x5, x6, x7, x8, x9, rfl, h0, h1, h2, h3, h4, h5, h6, h7, h8, h9, hP⟩ := hI
        try simp [Region.binds] at hdep
        obtain rfl := h5 (by first | exact hdep | exact hdep.1 | exact hdep.2 | exact hdep.2.1 | exact hdep.2.2 | exact hdep.2.2.1 | exact hdep.2.2.2 | simp_all)
        have H0' := hid h0; have H1' := hid h1; have H2' := hid h2; have H3' := hid h3; have H4' := hid h4; have H5' := hid h5; have H6' := hid h6; have H7' := hid h7; have H8' := hid h8; have H9' := hid h9; clear h0 h1 h2 h3 h4 h5 h6 h7 h8 h9
        have HPP := hid hP; clear hP
        try simp only [Act.put, List.setIfInBounds_toArray, List.set_cons_succ, List.set_cons_zero]
        go_wp2_with fail
        refine (HR3.out _).mono ?_
        rintro e wq ⟨rfl, rfl⟩
        go_wp2_with fail
        have h0 := H0'.out; have h1 := H1'.out; have h2 := H2'.out; have h3 := H3'.out; have h4 := H4'.out; have h5 := H5'.out; have h6 := H6'.out; have h7 := H7'.out; have h8 := H8'.out; have h9 := H9'.out
        refine ⟨x0, x1, x2, x3, x4, _, _, x7, x8, x9, (by first | (simp only [Act.put, List.setIfInBounds_toArray, List.set_cons_succ, List.set_cons_zero]; done) | rfl), (fun h => h0 (by simpa using h)), (fun h => h1 (by simpa using h)), (fun h => h2 (by simpa using h)), (fun h => h3 (by simpa using h)), (fun h => h4 (by simpa using h)), (fun _ => rfl), (fun _ => rfl), (fun h => h7 (by simpa using h)), (fun h => h8 (by simpa using h)), (fun h => h9 (by simpa using h)), ?_⟩
        rcases HPP.out with h | h
        · exact (Or.inl (⟨(by simpa using h.1), h.2⟩))
        · exact (Or.inr (⟨(by simpa using h.1), (by simpa using h.2.1), (by simpa using h.2.2.1), h.2.2.2⟩))
      · -- 7
        obtain ⟨x0, x1, x2, x3, x4, x5, x6, x7, x8, x9, rfl, h0, h1, h2, h3, h4, h5, h6, h7, h8, h9, hP⟩ := hI
        try simp [Region.binds] at hdep
        obtain rfl := h6 (by first | exact hdep | exact hdep.1 | exact hdep.2 | exact hdep.2.1 | exact hdep.2.2 | exact hdep.2.2.1 | exact hdep.2.2.2 | simp_all)
        have H0' := hid h0; have H1' := hid h1; have H2' := hid h2; have H3' := hid h3; have H4' := hid h4; have H5' := hid h5; have H6' := hid h6; have H7' := hid h7; have H8' := hid h8; have H9' := hid h9; clear h0 h1 h2 h3 h4 h5 h6 h7 h8 h9
        have HPP := hid hP; clear hP
        try simp only [Act.put, List.setIfInBounds_toArray, List.set_cons_succ, List.set_cons_zero]
        go_wp2_with fail
        have h0 := H0'.out; have h1 := H1'.out; have h2 := H2'.out; have h3 := H3'.out; have h4 := H4'.out; have h5 := H5'.out; have h6 := H6'.out; have h7 := H7'.out; have h8 := H8'.out; have h9 := H9'.out
        refine ⟨x0, x1, x2, x3, x4, x5, _, _, x8, x9, (by first | (simp only [Act.put, List.setIfInBounds_toArray, List.set_cons_succ, List.set_cons_zero]; done) | rfl), (fun h => h0 (by simpa using h)), (fun h => h1 (by simpa using h)), (fun h => h2 (by simpa using h)), (fun h => h3 (by simpa using h)), (fun h => h4 (by simpa using h)), (fun h => h5 (by simpa using h)), (fun _ => rfl), (fun _ => rfl), (fun h => h8 (by simpa using h)), (fun h => h9 (by simpa using h)), ?_⟩
        rcases HPP.out with h | h
        · exact (Or.inl (⟨(by simpa using h.1), h.2⟩))
        · exact (Or.inr (⟨(by simpa using h.1), (by simpa using h.2.1), (by simpa using h.2.2.1), h.2.2.2⟩))
      · -- 8
        obtain ⟨x0, x1, x2, x3, x4, x5, x6, x7, x8, x9, rfl, h0, h1, h2, h3, h4, h5, h6, h7, h8, h9, hP⟩ := hI
        try simp [Region.binds] at hdep
        obtain rfl := h3 (by first | exact hdep | exact hdep.1 | exact hdep.2 | exact hdep.2.1 | exact hdep.2.2 | exact hdep.2.2.1 | exact hdep.2.2.2 | simp_all)
        obtain rfl := h7 (by first | exact hdep | exact hdep.1 | exact hdep.2 | exact hdep.2.1 | exact hdep.2.2 | exact hdep.2.2.1 | exact hdep.2.2.2 | simp_all)
        have H0' := hid h0; have H1' := hid h1; have H2' := hid h2; have H3' := hid h3; have H4' := hid h4; have H5' := hid h5; have H6' := hid h6; have H7' := hid h7; have H8' := hid h8; have H9' := hid h9; clear h0 h1 h2 h3 h4 h5 h6 h7 h8 h9
        have HPP := hid hP; clear hP
        try simp only [Act.put, List.setIfInBounds_toArray, List.set_cons_succ, List.set_cons_zero]
        go_wp2_with fail
        have h0 := H0'.out; have h1 := H1'.out; have h2 := H2'.out; have h3 := H3'.out; have h4 := H4'.out; have h5 := H5'.out; have h6 := H6'.out; have h7 := H7'.out; have h8 := H8'.out; have h9 := H9'.out
        refine ⟨x0, x1, x2, _, x4, x5, x6, _, _, x9, (by first | (simp only [Act.put, List.setIfInBounds_toArray, List.set_cons_succ, List.set_cons_zero]; done) | rfl), (fun h => h0 (by simpa using h)), (fun h => h1 (by simpa using h)), (fun h => h2 (by simpa using h)), (fun _ => rfl), (fun h => h4 (by simpa using h)), (fun h => h5 (by simpa using h)), (fun h => h6 (by simpa using h)), (fun _ => rfl), (fun _ => rfl), (fun h => h9 (by simpa using h)), ?_⟩
        rcases HPP.out with h | h
        · exact (Or.inl (⟨(by simpa using h.1), h.2⟩))
        · exact (Or.inr (⟨(by simpa using h.1), (by simpa using h.2.1), (by simpa using h.2.2.1), h.2.2.2⟩))
      · -- 9
        obtain ⟨x0, x1, x2, x3, x4, x5, x6, x7, x8, x9, rfl, h0, h1, h2, h3, h4, h5, h6, h7, h8, h9, hP⟩ := hI
        try simp [Region.binds] at hdep
        obtain rfl := h0 (by first | exact hdep | exact hdep.1 | exact hdep.2 | exact hdep.2.1 | exact hdep.2.2 | exact hdep.2.2.1 | exact hdep.2.2.2 | simp_all)
        obtain rfl := h1 (by first | exact hdep | exact hdep.1 | exact hdep.2 | exact hdep.2.1 | exact hdep.2.2 | exact hdep.2.2.1 | exact hdep.2.2.2 | simp_all)
        have H0' := hid h0; have H1' := hid h1; have H2' := hid h2; have H3' := hid h3; have H4' := hid h4; have H5' := hid h5; have H6' := hid h6; have H7' := hid h7; have H8' := hid h8; have H9' := hid h9; clear h0 h1 h2 h3 h4 h5 h6 h7 h8 h9
        have HPP := hid hP; clear hP
        try simp only [Act.put, List.setIfInBounds_toArray, List.set_cons_succ, List.set_cons_zero]
        go_wp2_with fail
        have h0 := H0'.out; have h1 := H1'.out; have h2 := H2'.out; have h3 := H3'.out; have h4 := H4'.out; have h5 := H5'.out; have h6 := H6'.out; have h7 := H7'.out; have h8 := H8'.out; have h9 := H9'.out
        refine ⟨_, _, x2, x3, x4, x5, x6, x7, x8, _, (by first | (simp only [Act.put, List.setIfInBounds_toArray, List.set_cons_succ, List.set_cons_zero]; done) | rfl), (fun _ => rfl), (fun _ => rfl), (fun h => h2 (by simpa using h)), (fun h => h3 (by simpa using h)), (fun h => h4 (by simpa using h)), (fun h => h5 (by simpa using h)), (fun h => h6 (by simpa using h)), (fun h => h7 (by simpa using h)), (fun h => h8 (by simpa using h)), (fun _ => rfl), ?_⟩
        rcases HPP.out with h | h
        · exact (Or.inl (⟨(by simpa using h.1), h.2⟩))
        · exact (Or.inr (⟨(by simpa using h.1), (by simpa using h.2.1), (by simpa using h.2.2.1), h.2.2.2⟩))
      · -- 10
        obtain ⟨x0, x1, x2, x3, x4, x5, x6, x7, x8, x9, rfl, h0, h1, h2, h3, h4, h5, h6, h7, h8, h9, hP⟩ := hI
        try simp [Region.binds] at hdep
        rcases hP with hP | hP
        rotate_left
        · exact absurd hP.1 (by simp [hf])
        have hQ := hP
        have hP := hQ.2
        clear hQ
        have hn3 : f 3 = true := (by simp [hdep])
        have hn5 : f 5 = true := (by simp [hdep])
        obtain rfl := h8 (by first | exact hdep | exact hdep.1 | exact hdep.2 | exact hdep.2.1 | exact hdep.2.2 | exact hdep.2.2.1 | exact hdep.2.2.2 | simp_all)
        obtain rfl := h9 (by first | exact hdep | exact hdep.1 | exact hdep.2 | exact hdep.2.1 | exact hdep.2.2 | exact hdep.2.2.1 | exact hdep.2.2.2 | simp_all)
        have H0' := hid h0; have H1' := hid h1; have H2' := hid h2; have H3' := hid h3; have H4' := hid h4; have H5' := hid h5; have H6' := hid h6; have H7' := hid h7; have H8' := hid h8; have H9' := hid h9; clear h0 h1 h2 h3 h4 h5 h6 h7 h8 h9
        try simp only [Act.put, List.setIfInBounds_toArray, List.set_cons_succ, List.set_cons_zero]
        rw [hP]
        have c5 := CP.out
        have f5 := FP.out
        clear hP
        go_wp2_with fail
        have h0 := H0'.out; have h1 := H1'.out; have h2 := H2'.out; have h3 := H3'.out; have h4 := H4'.out; have h5 := H5'.out; have h6 := H6'.out; have h7 := H7'.out; have h8 := H8'.out; have h9 := H9'.out
        exact ⟨x0, x1, x2, x3, x4, x5, x6, x7, _, _, (by first | (simp only [Act.put, List.setIfInBounds_toArray, List.set_cons_succ, List.set_cons_zero]; done) | rfl), (fun h => h0 (by simpa using h)), (fun h => h1 (by simpa using h)), (fun h => h2 (by simpa using h)), (fun h => h3 (by simpa using h)), (fun h => h4 (by simpa using h)), (fun h => h5 (by simpa using h)), (fun h => h6 (by simpa using h)), (fun h => h7 (by simpa using h)), (fun _ => rfl), (fun _ => rfl), (Or.inr (⟨(by simp), (by simp [hn3]), (by simp [hn5]), (rfl)⟩))⟩
    · intro f a' wx hall hI
      obtain ⟨x0, x1, x2, x3, x4, x5, x6, x7, x8, x9, rfl, h0, h1, h2, h3, h4, h5, h6, h7, h8, h9, hP⟩ := hI
      obtain rfl := h0 (hall 0 (by simp))
      obtain rfl := h1 (hall 1 (by simp))
      obtain rfl := h2 (hall 2 (by simp))
      obtain rfl := h3 (hall 3 (by simp))
      obtain rfl := h4 (hall 4 (by simp))
      obtain rfl := h5 (hall 5 (by simp))
      obtain rfl := h6 (hall 6 (by simp))
      obtain rfl := h7 (hall 7 (by simp))
      obtain rfl := h8 (hall 8 (by simp))
      obtain rfl := h9 (hall 9 (by simp))
      rcases hP with hP | hP
      · exact absurd hP.1 (by simp [hall 10 (by simp)])
      replace hP := hP.2.2.2
      clear h0 h1 h2 h3 h4 h5 h6 h7 h8 h9 hall f
      try simp only [Act.put, List.setIfInBounds_toArray, List.set_cons_succ, List.set_cons_zero]
      subst hP
      go_wp2_with fail
      go_ret
      refine ⟨rfl, ?_, ?_⟩
      · rw [HFL.out]; exact flip_fin HST.out (by omega)
      · exact (HCH.out.mono (fun q _ h => ⟨0, by rw [h]⟩)).trans ((Chg.refl _ _).drewN 1)
  · have hpi : ¬ (p : Int) < (n : Int) := by omega
    have hfl : flipL bs p t = bs := by unfold flipL; rw [dif_neg (by rw [HN.out]; exact hpn)]
    have hed : EdS B (w.alloc (.cells #[.int .i64 1, .int .i64 at_, .int .i64 nn, .int .i64 to_, .slice A2 m2 c2] 32)) A n n bs := ⟨⟨by rw [List.length_map, HN.out]; exact Nat.le_refl _, by omega, fun e => by have := HH.out.sl.nil0 e; omega, (HH.out.sl.below HB0.out).rd⟩, HN.out, HH.out.own.imp id (fun ⟨g, cs, e, hB, hk⟩ => ⟨g, cs, e, hB, hk.alloc _⟩)⟩
    have hA : A = none ∧ n = 0 ∨ ∃ g, A = some ⟨g, 0, none⟩ := by
      rcases HH.out.own with e | ⟨g, cs, e, -⟩
      · exact .inl ⟨e, by have := HH.out.sl.nil0 e; omega⟩
      · exact .inr ⟨g, e⟩
    have HED := hid hed
    have HFL := hid hfl
    have c0 := HBK.out.cell 0
    simp only [List.getElem?_toArray, List.getElem?_cons_zero, List.getElem?_cons_succ] at c0
    clear hed hfl
    rcases hA with ⟨rfl, rfl⟩ | ⟨g, rfl⟩
    · go_wp2_with fail
      go_ret
      exact ⟨rfl, by rw [HFL.out]; exact HED.out, Chg.of_new HB0.out⟩
    · go_wp2_with fail
      go_ret
      exact ⟨rfl, by rw [HFL.out]; exact HED.out, Chg.of_new HB0.out⟩
end Go.Proofs.Ytgiealcfhlcpoaa
