/- skip.each: the fields of bytes, one by one, whatever is done with them. -/
import Derived.Test.YtefoccpgnijamaaSkOne
import Derived.Test.YtefoccpgnijamaaM4
import Derived.Test.YtefoccpgnijamaaM2
import Derived.Test.YtefoccpgnijamaaOpens5
import Derived.Scope
set_option linter.unusedVariables false
namespace Go.Proofs.Ytefoccpgnijamaa
open Go.RowKit Go.Shelf
attribute [local go_sem] Oper.semAt_some
/-- A field as a value. -/
structure FV where
  num : Int
  w : Int
  n : Nat
  s : SlV UInt8
  at_ : Int
def fvC (f : FV) : List Value := [.int .i64 f.num, .int .u8 f.w, .int .u64 (f.n : Int), .slice f.s.A f.s.xs.length f.s.c, .int .i64 f.at_]
def fvOf (f : FV) (r : RF × Nat) : Prop := f.num = r.1.num ∧ f.w = r.1.w ∧ f.n = r.1.n ∧ f.s.xs = r.1.xs ∧ f.at_ = (r.2 : Int)
/-- Fields as values are those that are read. -/
def fvAll : List FV → List (RF × Nat) → Prop
  | [], [] => True
  | f :: fs, r :: rs => fvOf f r ∧ fvAll fs rs
  | _, _ => False
theorem fvAll_snoc {fs : List FV} {rs : List (RF × Nat)} {f : FV} {r : RF × Nat} (h : fvAll fs rs) (hf : fvOf f r) : fvAll (fs ++ [f]) (rs ++ [r]) := by
  induction fs generalizing rs with
  | nil => cases rs with
    | nil => exact ⟨hf, trivial⟩
    | cons r rs => exact h.elim
  | cons g gs ih => cases rs with
    | nil => exact h.elim
    | cons r rs => exact ⟨h.1, ih h.2⟩
theorem fvAll_len {fs : List FV} {rs : List (RF × Nat)} (h : fvAll fs rs) : fs.length = rs.length := by
  induction fs generalizing rs with
  | nil => cases rs with
    | nil => rfl
    | cons r rs => exact h.elim
  | cons g gs ih => cases rs with
    | nil => exact h.elim
    | cons r rs => simp [ih h.2]
theorem each_in (m : Nat) (A : Option Addr) (n c : Nat) (w : World) :
    CallsIn Fence.wide m Try.prog 54 #[.slice A n c] w fun e w' => e = .returned (.func (.func 63) #[] #[.pointer (some ⟨w.heap.size, 0, none⟩)]) ∧ w' = w.alloc (.cells #[.slice A n c] 32) := by
  refine callsIn_of_wp Try.func54 rfl trivial ?_ rfl
  simp only [Try.ntmps54, List.size_toArray, List.length_cons, List.length_nil, Nat.reduceAdd, Nat.reduceSub, Array.replicate_succ, Array.replicate_zero, List.push_toArray, List.append_toArray, List.nil_append, List.cons_append]
  gi_wp2
  go_ret
  exact ⟨rfl, rfl⟩
set_option maxRecDepth 100000 in
set_option maxHeartbeats 2000000 in
theorem each1_in (m : Nat) (hm : 2 ≤ m) (bs : List UInt8) (n : Nat) (A : Option Addr) (c : Nat) (l Bb B0 : Nat) (J : Nat → List FV → World → Prop) (Jx : Nat → Nat → World → Prop) (W : World) (hn : bs.length = n) (hl : n ≤ 100000)
    (hbb : W.cell? ⟨Bb, 0, none⟩ = some (.slice A n c)) (hs : Sl W A c (bs.map bv)) (hB0 : W.heap.size = B0) (h0 : ∀ b W', B0 ≤ b → Below B0 W W' → J b [] W')
    (hJ : ∀ b pre W q p Aq cq W', B0 ≤ q → q < b → J b pre W → Rin 122 W q Aq cq bs p → Only q W W' → J b pre W')
    (hY : ∀ b pre f W, J b pre W → pre.length < n → b ≤ W.heap.size → YieldAt Fence.wide (m - 1) Try.prog l #[.agg (fvC f).toArray, .agg #[.int .i64 0, .int .i64 0]] W fun e W' => e = .returned (.bool true) ∧ J b (pre ++ [f]) W' ∧ Chg (fun k => k < B0 ∨ b ≤ k) W W')
    (hE : ∀ b pre er ep W, J b pre W → er ≠ 0 → YieldAt Fence.wide (m - 1) Try.prog l #[.agg #[.int .i64 0, .int .u8 0, .int .u64 0, .slice none 0 0, .int .i64 0], .agg #[.int .i64 (er : Nat), .int .i64 (ep : Nat)]] W fun e W' => e = .returned (.bool false) ∧ Jx er ep W') :
    CallsIn Fence.wide m Try.prog 63 #[.func (.yield l) #[] #[], .pointer (some ⟨Bb, 0, none⟩)] W fun e W' => (∃ v, e = .returned v) ∧
      (((flds bs n 0).2.1 = 0 ∧ ∃ b pre, B0 ≤ b ∧ J b pre W' ∧ fvAll pre (flds bs n 0).1 ∧ ∀ f ∈ pre, Sl W' f.s.A f.s.c (f.s.xs.map bv) ∧ FarS f.s.A f.s.xs.length (fun k => k < B0 ∨ b ≤ k)) ∨ ((flds bs n 0).2.1 ≠ 0 ∧ Jx (flds bs n 0).2.1 (flds bs n 0).2.2 W')) := by
  have hbbl := World.block_lt_of_cell? W _ hbb
  have h1 : 1 ≤ m := by omega
  have HS := hid hs
  have HN := hid hn
  have H0 := hid h0
  have HJ := hid hJ
  have HY := hid hY
  have HE := hid hE
  have HBZ := hid hB0
  clear hs hn h0 hJ hY hE hB0
  refine callsIn_of_wp Try.func63 rfl trivial ?_ rfl
  simp only [Try.ntmps63, List.size_toArray, List.length_cons, List.length_nil, Nat.reduceAdd, Nat.reduceSub, Array.replicate_succ, Array.replicate_zero, List.push_toArray, List.append_toArray, List.nil_append, List.cons_append]
  refine wpIn_wide.2 (wp_scope_straight ((wpIn_wide (n := m)).1 ?_))
  gi_wp2_with (refine ⟨trivial, ?_⟩; gi_at_call 64; refine ((callsIn_wide (n := m - 1)).2 (new_any bs n A c W HN.out (by omega) HS.out)).mono ?_; rintro e w1 ⟨q, Aq, cq, rfl, hr1, hq1, hfar, hb1⟩)
  refine wpIn_label ?_
  gi_wp2
  have hqB : B0 ≤ q := by have := HBZ.out; omega
  have hfarS : FarS Aq n (fun k => k < B0 ∨ w1.heap.size ≤ k ∨ k = q) := by
    intro hp b o he hS
    have hq1l := hr1.blk.lt
    refine hfar b ?_ (by rw [HN.out]; exact hp) b o he rfl
    have := HBZ.out
    omega
  have hjb := H0.out w1.heap.size w1 (by have := HBZ.out; have := hb1.size; omega) (by rw [← HBZ.out]; exact hb1)
  have hqb : q < w1.heap.size := hr1.blk.lt
  generalize hb : w1.heap.size = b at *
  have hbb1 : b ≤ w1.heap.size := by omega
  have HFS := hid hfarS
  have HJB := hid hjb
  have HR1 := hid hr1
  clear hfarS hjb hr1 hfar hb1 hb
  gi_loopw [4] (fun _ wr => ∃ (p f : Nat) (pre : List FV), p ≤ n ∧ pre.length ≤ p ∧ n - p ≤ f ∧ Rin 122 wr q Aq cq bs p ∧ J b pre wr ∧ b ≤ wr.heap.size ∧ (∀ g ∈ pre, Sl wr g.s.A g.s.c (g.s.xs.map bv) ∧ FarS g.s.A g.s.xs.length (fun k => k < B0 ∨ b ≤ k ∨ k = q)) ∧
      ∃ rs, fvAll pre rs ∧ flds bs n 0 = (rs ++ (flds bs f p).1, (flds bs f p).2.1, (flds bs f p).2.2)) (fun _ wr => n - (intOf ((wr.cell? ⟨q, 1, none⟩).getD undef)).toNat)
  case atStart => exact ⟨0, n, [], by omega, by simp, by omega, HR1.out, HJB.out, hbb1, by simp, [], trivial, by simp⟩
  case round =>
    obtain ⟨p, f, pre, hp, hpl, hf, hr, hj, hbw, hsl, rs, hrs, hfl⟩ := hrel
    have hqw := hr.blk.lt
    by_cases hlt : p < n
    · have hle := ileft_any wr q Aq cq bs p hr
      obtain ⟨lf, hlf⟩ : ∃ lf : Int, ((bs.length - p : Nat) : Int) = lf := ⟨_, rfl⟩
      have hlf0 : 0 < lf := by rw [HN.out] at hlf; omega
      rw [hlf] at hle
      have hrd := fun W h => sread_any W q Aq cq bs p h
      have hof := rOne_facts bs p (by rw [HN.out]; exact hp)
      have hst := fun he => flds_step bs f p (by rw [HN.out]; exact hlt) (by rw [HN.out]; exact hf) he
      have hbd := fun he => flds_bad bs f p (by rw [HN.out]; exact hlt) (by rw [HN.out]; exact hf) he
      generalize rOne bs p = r at *
      obtain ⟨rnum, rw', rn, rxs, re, rp, rnx⟩ := r
      simp only at hrd hof hst hbd
      generalize hxl : rxs.length = xl at *
      have HLE := hid hle
      have HRD := hid hrd
      have HOF := hid hof
      have HST := hid hst
      have HBD := hid hbd
      have HR := hid hr
      have HJ1 := hid hj
      have HSL := hid hsl
      have HRS := hid hrs
      have HFL := hid hfl
      have HXL := hid hxl
      clear hle hrd hof hst hbd hr hj hsl hrs hfl hxl hlf
      by_cases he : re = 0
      · subst he
        gi_wp2_with (first | (refine ⟨trivial, ?_⟩; gi_at_call 65; refine ((callsIn_wide (n := m - 1)).2 HLE.out).mono ?_; rintro e w2 ⟨rfl, k2, rfl⟩) | (refine ⟨trivial, ?_⟩; gi_at_call 66; refine ((callsIn_wide (n := m - 1)).2 (HRD.out _ (HR.out.below (below_drewN (Below.refl _ wr) k2)))).mono ?_; rintro e w3 ⟨A3, c3, at3, rfl, hat3, hs3, hf3, hr3, ho3⟩; obtain rfl := hat3 (by simp); have hO3 := ((Only.refl q wr).drewN k2).trans ho3; have hO5 := (hO3.alloc (.cells #[.int .i64 rnum, .int .u8 rw', .int .u64 (rn : Int), .slice A3 xl c3, .int .i64 (p : Int)] 41)).alloc (.cells #[.int .i64 0, .int .i64 (rp : Int)] 51); have hb35 := bw_a (bw_a (Below.refl w3.heap.size w3) (.cells #[.int .i64 rnum, .int .u8 rw', .int .u64 (rn : Int), .slice A3 xl c3, .int .i64 (p : Int)] 41)) (.cells #[.int .i64 0, .int .i64 (rp : Int)] 51); have hj5 := HJ1.out; have hj5 := HJ.out b pre wr q p Aq cq _ hqB hqb hj5 HR.out hO5; have hb5 := Nat.le_trans hbw hO5.size; have hr5 := hr3.below hb35; have hs5 := hs3.below hb35; have hsl5 : ∀ g ∈ pre, Sl ((w3.alloc (.cells #[.int .i64 rnum, .int .u8 rw', .int .u64 (rn : Int), .slice A3 xl c3, .int .i64 (p : Int)] 41)).alloc (.cells #[.int .i64 0, .int .i64 (rp : Int)] 51)) g.s.A g.s.c (g.s.xs.map bv) ∧ FarS g.s.A g.s.xs.length (fun k => k < B0 ∨ b ≤ k ∨ k = q) := fun g hg => ⟨hO5.sl (HSL.out g hg).1 (n := g.s.xs.length) ((HSL.out g hg).2.far (.inr (.inr rfl))) (by simp), (HSL.out g hg).2⟩; have hf5 : FarS A3 xl (fun k => k < B0 ∨ b ≤ k ∨ k = q) := fun hp b' o he hS => hf3 b' (fun hp2 b2 o2 he2 hb2 => by subst hb2; exact HFS.out (by rw [← HN.out]; exact hp2) b2 o2 he2 hS) hp b' o he rfl; obtain ⟨fn, tmps, assign, body, hy, hR⟩ := HY.out b pre ⟨rnum, rw', rn, ⟨A3, c3, rxs⟩, (p : Int)⟩ _ hj5 (by omega) hb5; simp only [fvC, HXL.out] at hy; obtain ⟨gg, hgg, hfl2⟩ := HST.out (by simp); have hnx := HOF.out.1 (by simp); have hc1 : wr.cell? ⟨q, 1, none⟩ = some (.int .i64 (p : Int)) := (by simpa using HR.out.blk.cell 1); have HR5 := hid hr5; have HS5 := hid hs5; have HSL5 := hid hsl5; have HF5 := hid hf5; have HFL2 := hid hfl2; have HNX := hid hnx; clear hO3 hO5 hb35 hj5 hr5 hs5 hsl5 hf5 hs3 hf3 hr3 ho3 hfl2 hnx hat3))
        refine hR.mono ?_
        rintro e w6 ⟨rfl, hj6, hch6⟩
        have hqc : ¬ (q < B0 ∨ b ≤ q) := by omega
        have hfq : FarS Aq bs.length (fun k => k < B0 ∨ b ≤ k) := by rw [HN.out]; exact HFS.out.imp (fun k hk => by omega)
        have hr6 := HR5.out.chgS hch6 hqc hfq
        have hc6 := hr6.blk.cell 1
        have hs6 := hch6.sl HS5.out (n := xl) (HF5.out.imp (fun k hk => by omega)) (by simp [HXL.out])
        have hsl6 : ∀ g ∈ pre, Sl w6 g.s.A g.s.c (g.s.xs.map bv) := fun g hg => hch6.sl (HSL5.out g hg).1 (n := g.s.xs.length) ((HSL5.out g hg).2.imp (fun k hk => by omega)) (by simp)
        have hbw6 : b ≤ w6.heap.size := by have := hch6.size; omega
        have HJ6 := hid hj6
        have HR6 := hid hr6
        have HS6 := hid hs6
        have HSL6 := hid hsl6
        clear hj6 hr6 hs6 hsl6 hch6
        gi_wp2
        go_roundw
        case rel =>
          refine ⟨rnx, gg, pre ++ [⟨rnum, rw', rn, ⟨A3, c3, rxs⟩, (p : Int)⟩], by have := HNX.out; rw [HN.out] at this; omega, by have := HNX.out; simp; omega, by rw [← HN.out]; exact hgg, HR6.out, HJ6.out, hbw6, ?_, rs ++ [(⟨rnum, rw', rn, rxs, 0, rp, rnx⟩, p)], fvAll_snoc HRS.out ⟨rfl, rfl, rfl, rfl, rfl⟩, ?_⟩
          · intro g hg
            rcases List.mem_append.1 hg with hg | hg
            · exact ⟨HSL6.out g hg, (HSL5.out g hg).2⟩
            · obtain rfl := List.mem_singleton.1 hg
              exact ⟨HS6.out, by rw [show (SlV.xs _).length = xl from HXL.out]; exact HF5.out⟩
          · rw [HFL.out, HFL2.out]; simp
        case measure => rw [hc1, hc6]; have := HNX.out; simp [intOf]; omega
      · have heb : (((re : Nat) : Int) != 0) = true := by simpa using he
        gi_wp2_with (first | (refine ⟨trivial, ?_⟩; gi_at_call 65; refine ((callsIn_wide (n := m - 1)).2 HLE.out).mono ?_; rintro e w2 ⟨rfl, k2, rfl⟩) | (refine ⟨trivial, ?_⟩; gi_at_call 66; refine ((callsIn_wide (n := m - 1)).2 (HRD.out _ (HR.out.below (below_drewN (Below.refl _ wr) k2)))).mono ?_; rintro e w3 ⟨A3, c3, at3, rfl, hat3, hs3, hf3, hr3, ho3⟩; have hO3 := ((Only.refl q wr).drewN k2).trans ho3; have hO5 := (hO3.alloc (.cells #[.int .i64 rnum, .int .u8 rw', .int .u64 (rn : Int), .slice A3 xl c3, .int .i64 at3] 41)).alloc (.cells #[.int .i64 (re : Int), .int .i64 (rp : Int)] 51); have hj5 := HJ1.out; have hj5 := HJ.out b pre wr q p Aq cq _ hqB hqb hj5 HR.out hO5; obtain ⟨fn, tmps, assign, body, hy, hR⟩ := HE.out b pre re rp _ hj5 he; have hbd := HBD.out he))
        refine hR.mono ?_
        rintro e w6 ⟨rfl, hx6⟩
        gi_wp2
        simp only [Exit.noGoto]
        refine bodyPost_end (results_none rfl _ _ _) rfl ⟨⟨_, rfl⟩, .inr ?_⟩
        rw [HFL.out, hbd]
        exact ⟨he, hx6⟩
    · obtain rfl : p = n := by omega
      have hle := ileft_any wr q Aq cq bs p hr
      rw [HN.out, Nat.sub_self] at hle
      have HLE := hid hle
      gi_wp2_with (refine ⟨trivial, ?_⟩; gi_at_call 65; refine ((callsIn_wide (n := m - 1)).2 HLE.out).mono ?_; rintro e w2 ⟨rfl, k2, rfl⟩)
      have hE0 := flds_end bs f p (by rw [HN.out]; omega)
      rw [hE0] at hfl
      simp only [List.append_nil] at hfl
      simp only [Exit.noGoto]
      refine bodyPost_end (results_none rfl _ _ _) rfl ⟨⟨_, rfl⟩, .inl ⟨by rw [hfl], b, pre, by have := HBZ.out; omega, HJ.out b pre wr q p Aq cq _ hqB hqb hj hr ((Only.refl q wr).drewN k2), by rw [hfl]; exact hrs, fun g hg => ⟨((hsl g hg).1).below (below_drewN (Below.refl _ wr) k2), (hsl g hg).2.imp (fun k hk => by omega)⟩⟩⟩
end Go.Proofs.Ytefoccpgnijamaa
