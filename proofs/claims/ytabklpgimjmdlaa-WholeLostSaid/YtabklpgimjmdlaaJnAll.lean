/- What must come, whatever the arguments are: a stream of two frames, fed in two pieces. · Junk between frames: mathematics. · The walk of WholeJunk. -/
import Derived.Test.YtabklpgimjmdlaaLawJu0
import Derived.Test.YtabklpgimjmdlaaFdFeed
import Derived.Test.YtabklpgimjmdlaaM3
import Derived.Test.YtabklpgimjmdlaaStmFr
set_option linter.unusedVariables false
namespace Go.Proofs.Ytabklpgimjmdlaa
open Go.RowKit
theorem sl_take8 {w : World} {A : Option Addr} {c : Nat} {bs : List UInt8} (h : Sl w A c (bs.map bv)) (k : Nat) : Sl w A c ((bs.take k).map bv) := by
  have h1 := h.cap
  rw [List.length_map] at h1
  refine ⟨by rw [List.length_map, List.length_take]; omega, h.small, h.nil0, fun j v hj => h.rd j v ?_⟩
  rw [List.map_take, List.getElem?_take] at hj
  by_cases hk : j < k
  · rw [if_pos hk] at hj; exact hj
  · rw [if_neg hk] at hj; cases hj
theorem far_of8 {b o n : Nat} {S : Nat → Prop} (h : ¬ S b) : FarS (some ⟨b, o, none⟩) n S := fun _ b' o' e hs => by injection e with e; injection e with e1; subst e1; exact h hs
def p8 : List UInt8 := Rs.rows [(1, []), (2, [7])]
theorem p8_len : p8.length = 19 := by kernel_rfl
theorem p8_n1 : newsT [] ([] ++ p8.take 10) = [⟨0, 1, []⟩] := by kernel_rfl
theorem p8_n2 : newsT ([] ++ p8.take 10) (([] ++ p8.take 10) ++ p8.drop 10) = [⟨9, 2, [7]⟩] := by kernel_rfl
theorem aw8_fr (W : World) (N : Nat) (hN : W.heap.size = N) : Calls Try.prog 24 #[.slice (some ⟨N + 1, 0, none⟩) 2 2] ((W.alloc (.cells #[.int .u8 7] 5)).alloc (.cells #[.int .u8 1, .slice none 0 0, .int .u8 2, .slice (some ⟨N, 0, none⟩) 1 1] 47)) fun e w' => ∃ A' c', e = .returned (.tuple #[.slice A' 19 c', .agg #[.int .i64 0, .int .i64 0]]) ∧ w'.ownsRow W.heap.size 5 1 (.slice A' 19 c') 19 (p8.map bv) ∧ Below W.heap.size W w' := by
  subst hN
  have hb := bw_a (bw_a (Below.refl _ W) (.cells #[.int .u8 7] 5)) (.cells #[.int .u8 1, .slice none 0 0, .int .u8 2, .slice (some ⟨W.heap.size, 0, none⟩) 1 1] 47)
  have hl := (lit_sl W 5 [7] #[.int .u8 7] 1 rfl (by omega) rfl).below (bw_a (Below.refl _ _) (.cells #[.int .u8 1, .slice none 0 0, .int .u8 2, .slice (some ⟨W.heap.size, 0, none⟩) 1 1] 47))
  have hr := Rd.new (W.alloc (.cells #[.int .u8 7] 5)) 47 #[.int .u8 1, .slice none 0 0, .int .u8 2, .slice (some ⟨W.heap.size, 0, none⟩) 1 1]
  rw [World.size_alloc] at hr
  refine (stframes_any [⟨1, ⟨none, 0, []⟩⟩, ⟨2, ⟨some ⟨W.heap.size, 0, none⟩, 1, [7]⟩⟩] 2 _ 2 19 _ rfl ?_ ⟨rfl, by omega, by omega, (fun h => by cases h), hr⟩ ?_ (by omega) p8_len).mono ?_
  · intro f hf
    simp only [List.mem_cons, List.not_mem_nil, or_false] at hf
    rcases hf with rfl | rfl
    · exact ⟨by show (1 : Nat) ≤ 255; omega, Sl.nil_ _⟩
    · exact ⟨by show (2 : Nat) ≤ 255; omega, hl⟩
  · intro f hf
    simp only [List.mem_cons, List.not_mem_nil, or_false] at hf
    rcases hf with rfl | rfl <;> simp
  · rintro e w' ⟨A', c', rfl, ho, hb2⟩
    exact ⟨A', c', rfl, own_mono ho (by simp; omega), hb.trans (hb2.mono (by simp; omega))⟩
theorem aw8_far {b q : Nat} (h : ¬ b = q + 1) : ¬ (b = q + 1 ∨ (Value.slice none 0 0).ownBlock = some b) := fun hx => hx.elim h (fun hy => by cases hy)
theorem aw8_len : (p8.map bv).length = 19 := by rw [List.length_map, p8_len]
theorem aw8_second {q b o c1 s0 : Nat} {w w3 W0 w4 : World} {vb4 : Value} (hf : FdS (q + 2) (q + 1) (hldT ([] ++ p8.take 10)) ([] ++ p8.take 10).length false vb4 w4) (hs : Sl w4 (some ⟨b, o, none⟩) c1 (p8.map bv)) (hbq : ¬ b = q + 1) (hv : vb4.ownBlock = (Value.slice none 0 0).ownBlock ∨ ∀ z, vb4.ownBlock = some z → W0.heap.size ≤ z) (hbl : b < q) (hq : s0 ≤ q) (i2 : ¬ c1 = 10) (hb : Below s0 w w3) (hz : q + 2 ≤ W0.heap.size) (hz3 : q + 2 ≤ w3.heap.size) (hc : Chg (fun z => z = q + 1 ∨ (Value.slice none 0 0).ownBlock = some z) W0 w4) (h3 : Chg (fun _ => False) w3 W0 := by first | exact Chg.drewN (Chg.refl _ _) _ | exact Chg.drew (Chg.refl _ _)) :
    True ∧ True ∧ Calls Try.prog 12 #[.pointer (some ⟨q + 1, 0, none⟩), .slice (some ⟨b, o + 10, none⟩) 9 (c1 - 10)] w4 fun e w' => ∃ g5 o5 c5, e = .returned (.slice (some ⟨g5, o5, none⟩) 1 c5) ∧ 1 ≤ c5 ∧ c5 ≤ 9223372036854775807 ∧ g5 < w'.heap.size ∧ w'.cell? ⟨g5, o5, none⟩ = some (.int .i64 9) ∧ w'.cell? ⟨g5, o5 + 1, none⟩ = some (.int .u8 2) ∧ Below s0 w w' := by
  refine ⟨trivial, trivial, ?_⟩
  have hs4 := hc.size
  have hvz : ∀ z, vb4.ownBlock = some z → q + 2 ≤ z := fun z h => by
    rcases hv with h1 | h1
    · rw [h1] at h; cases h
    · have := h1 z h; omega
  have h2 := ffeed_any (q + 2) (q + 1) ([] ++ p8.take 10) vb4 (p8.drop 10) 9 (some ⟨b, o + 10, none⟩) (c1 - 10) w4 hf (by omega) (by omega) (by rw [List.length_drop, p8_len]) (by
    have h := hs.cut 10 (by rw [p8_len]; omega)
    unfold cutA at h
    rw [if_neg i2] at h
    simpa [addr_add] using h) (far_of8 (fun h => by rcases h with h | h; (exact hbq h); (have := hvz b h; omega))) (by rw [List.length_append, List.length_take, p8_len]; simp) (by omega)
  rw [p8_n2] at h2
  refine h2.mono ?_
  rintro e w5 ⟨A5, c5, vb5, rfl, ho5, -, hch5, -⟩
  obtain ⟨b5, o5, Ap5, cp5, rfl, hbl5, t0, t1, -, -, hc5, hm5⟩ := (ho5.row).get rfl 0 (by decide)
  simp only [List.length_cons, List.length_nil, Nat.zero_add, Nat.zero_mul, Nat.add_zero, List.getElem_cons_zero] at hc5 t0 t1
  refine ⟨b5, o5, c5, rfl, by omega, hm5, hbl5, t0, t1, ?_⟩
  have hb3 := hb.size
  refine hb.trans (((((h3.mono (T := fun z => s0 ≤ z) (fun z _ h => h.elim)).trans (hc.mono (fun z _ h => by rcases h with h | h; omega; cases h))).trans (hch5.mono (fun z _ h => by rcases h with h | h; omega; have := hvz z h; omega)))).below (fun z h => h) ?_)
  omega
set_option maxRecDepth 100000 in
set_option maxHeartbeats 4000000 in
theorem awake8_any (w : World) : Calls Try.prog 31 #[] w fun e w' => e = .returned (.bool true) ∧ Below w.heap.size w w' := by
  obtain ⟨s0, hs0⟩ : ∃ s0, w.heap.size = s0 := ⟨_, rfl⟩
  have HFR := hid (aw8_fr w s0 hs0)
  rw [hs0] at HFR ⊢
  go_enter Try.func31, Try.ntmps31
  go_wp2_with fail
  refine HFR.out.mono ?_
  rintro e w1 ⟨A1, c1, rfl, ho1, hb1⟩
  have hs1 := Sl.of_own' ho1
  obtain ⟨b, o, rfl, hbl, -⟩ := BRd.at_ hs1.rd (k := 0) (by rw [p8_len]; omega)
  have hc1 := hs1.cap
  have hm1 := hs1.small
  rw [List.length_map, p8_len] at hc1
  have HB1 := hid hb1
  have HS1 := hid hs1
  clear hb1 hs1 ho1
  have hbf := Blk.new w1 50 #[.int .i64 0, .int .i64 0]
  have hB2 := HB1.out.trans ((bw_a (Below.refl w1.heap.size w1) (.cells #[.int .i64 0, .int .i64 0] 50)).mono (by have := HB1.out.size; omega))
  have hS2 := HS1.out.below (bw_a (Below.refl _ w1) (.cells #[.int .i64 0, .int .i64 0] 50))
  have hsz2 : (w1.alloc (.cells #[.int .i64 0, .int .i64 0] 50)).heap.size = w1.heap.size + 1 := by simp
  have hsz1 : s0 ≤ w1.heap.size := by have := HB1.out.size; omega
  go_wp2_with fail
  obtain ⟨q, hq⟩ : ∃ q, w1.heap.size = q := ⟨_, rfl⟩
  rw [hq] at hbf hsz2 hsz1 hbl
  rw [hq]
  generalize (w1.alloc (.cells #[.int .i64 0, .int .i64 0] 50)) = w2 at *
  refine (fnew_any w2).mono ?_
  rintro e w3 ⟨rfl, rfl⟩
  have hst := fnew_st w2 (q + 2)
  have hk2 := hbf.alloc (.cells #[.slice none 0 0, .int .i64 0, .bool false] 69)
  have c0 := hk2.cell 0
  simp only [List.getElem?_toArray, List.getElem?_cons_zero] at c0
  rw [hsz2] at hst ⊢
  have hsz3 : (w2.alloc (.cells #[.slice none 0 0, .int .i64 0, .bool false] 69)).heap.size = q + 2 := by simp [hsz2]
  have hB3 := hB2.trans ((bw_a (Below.refl w2.heap.size w2) (.cells #[.slice none 0 0, .int .i64 0, .bool false] 69)).mono (by have := hB2.size; omega))
  have hS3 := hS2.below (bw_a (Below.refl _ w2) (.cells #[.slice none 0 0, .int .i64 0, .bool false] 69))
  generalize (w2.alloc (.cells #[.slice none 0 0, .int .i64 0, .bool false] 69)) = w3 at *
  have hbq : ¬ b = q + 1 := by omega
  have hf1 := fun k => ffeed_any (q + 2) (q + 1) [] (.slice none 0 0) (p8.take 10) 10 (some ⟨b, o, none⟩) c1 (w3.drewN k) (by
    have h := hst.chg (Chg.drewN (Chg.refl (fun _ => False) w3) k) (fun h => h) (fun _ _ h => h)
    simpa [hldT] using h) (by omega) (by show q + 2 ≤ w3.heap.size; omega) (by rw [List.length_take, p8_len]; rfl) ((sl_take8 hS3 10).drewN k) (far_of8 (fun h => h.elim hbq (fun h => by cases h))) (by simp) (by omega)
  rw [p8_n1] at hf1
  have HF1 := hid hf1
  have HS3 := hid hS3
  have HB3 := hid hB3
  have i1 : (10 : Int) ≤ (c1 : Int) := by omega
  have i2 : ¬ c1 = 10 := by omega
  have i3 : ¬ c1 = 0 := by omega
  have i4 : 10 ≤ c1 := by omega
  clear hst hk2 hf1 hS3 hB3 hbf hB2 hS2 HS1 HB1 HFR
  go_wp2_with fail
  go_region_held3 (fun w' => True) (trivial) (first | (go_at_call 12; first | (refine HF2.out.2.2.mono ?_; rintro e w5 ⟨g5, o5, c5, rfl, hc5, hm5, hg5, t5, t6, hb5⟩; have HB5 := hid hb5; clear hb5) | (refine (HF1.out _).mono ?_; rintro e w4 ⟨A4, c4, vb4, rfl, -, hf4, hch4, hv4⟩; have HF2 := hid (aw8_second hf4 (hch4.sl (HS3.out.drewN _) (far_of8 (n := 19) (aw8_far hbq)) (aw8_len)) hbq hv4 hbl hsz1 i2 HB3.out (Nat.le_of_eq hsz3.symm) (Nat.le_of_eq hsz3.symm) hch4); clear hf4 hch4 hv4)))
  go_wp2_with fail
  go_ret
  exact ⟨by simp, HB5.out⟩
end Go.Proofs.Ytabklpgimjmdlaa
set_option linter.unusedVariables false
namespace Go.Proofs.Ytabklpgimjmdlaa
open Go.RowKit
/-- Frames, each with junk ahead. -/
def Jn.rows : List (List UInt8 × UInt8 × List UInt8) → List UInt8
  | [] => []
  | f :: l => f.1 ++ (Fr.put f.2.1 f.2.2 ++ Jn.rows l)
def Jn.at_ : Nat → List (List UInt8 × UInt8 × List UInt8) → List Fnd
  | _, [] => []
  | p, f :: l => ⟨p + f.1.length, f.2.1, f.2.2⟩ :: Jn.at_ (p + f.1.length + (f.2.2.length + 9)) l
theorem Jn.rows_snoc (l : List (List UInt8 × UInt8 × List UInt8)) (f : List UInt8 × UInt8 × List UInt8) : Jn.rows (l ++ [f]) = Jn.rows l ++ (f.1 ++ Fr.put f.2.1 f.2.2) := by
  induction l with
  | nil => simp [Jn.rows]
  | cons x l ih => simp only [List.cons_append, Jn.rows, ih, List.append_assoc]
theorem Jn.at_len (l : List (List UInt8 × UInt8 × List UInt8)) : ∀ p, (Jn.at_ p l).length = l.length := by
  induction l with
  | nil => intro p; rfl
  | cons f l ih => intro p; simp [Jn.at_, ih]
theorem Jn.at_get (l : List (List UInt8 × UInt8 × List UInt8)) : ∀ (p j : Nat) (hj : j < l.length), ((Jn.at_ p l)[j]'(by rw [Jn.at_len]; exact hj)).ty = l[j].2.1 ∧ ((Jn.at_ p l)[j]'(by rw [Jn.at_len]; exact hj)).pl = l[j].2.2 := by
  induction l with
  | nil => intro p j hj; simp at hj
  | cons f l ih =>
    intro p j hj
    cases j with
    | zero => exact ⟨rfl, rfl⟩
    | succ j => exact ih _ j (by simpa using hj)
/-- No byte of junk begins a frame. -/
def Jn.clean (xs : List UInt8) : Prop := ∀ x ∈ xs, x ≠ 197
theorem Jn.skip (xs js bs : List UInt8) (hc : Jn.clean js) : Rs.wk false (xs ++ (js ++ bs)) xs.length = Rs.wk false (xs ++ (js ++ bs)) (xs ++ js).length := by
  rw [← List.append_assoc]
  refine Rs.junk (xs ++ js) bs xs.length (by rw [List.length_append]; omega) (fun i h1 h2 => ?_)
  have hi : i < ((xs ++ js) ++ bs).length := by rw [List.length_append]; omega
  have hx : ((xs ++ js) ++ bs)[i] ≠ 197 := by
    rw [List.getElem_append_left h2, List.getElem_append_right h1]
    exact hc _ (List.getElem_mem _)
  rw [List.drop_eq_getElem_cons hi, Fr.rE_first _ _ hx]
  decide
theorem Jn.wk (l : List (List UInt8 × UInt8 × List UInt8)) (J : List UInt8) (hJ : Jn.clean J) : ∀ xs : List UInt8, (∀ f ∈ l, f.2.2.length ≤ 8192 ∧ Jn.clean f.1) → Rs.wk false (xs ++ (Jn.rows l ++ J)) xs.length = (Jn.at_ xs.length l, (xs ++ (Jn.rows l ++ J)).length) := by
  induction l with
  | nil =>
    intro xs _
    have h := Jn.skip xs J [] hJ
    rw [List.append_nil] at h
    show Rs.wk false (xs ++ ([] ++ J)) xs.length = _
    rw [List.nil_append, h, Rs.wk_end _ _ _ (Nat.le_refl _)]
    simp [Jn.rows, Jn.at_]
  | cons f l ih =>
    intro xs hl
    obtain ⟨h8, hc⟩ := hl f (List.mem_cons_self ..)
    have e0 : xs ++ (Jn.rows (f :: l) ++ J) = xs ++ (f.1 ++ (Fr.put f.2.1 f.2.2 ++ (Jn.rows l ++ J))) := by simp [Jn.rows]
    rw [e0, Jn.skip xs f.1 _ hc]
    have e1 : xs ++ (f.1 ++ (Fr.put f.2.1 f.2.2 ++ (Jn.rows l ++ J))) = (xs ++ f.1) ++ (Fr.put f.2.1 f.2.2 ++ (Jn.rows l ++ J)) := by simp
    rw [e1]
    have hd : ((xs ++ f.1) ++ (Fr.put f.2.1 f.2.2 ++ (Jn.rows l ++ J))).drop (xs ++ f.1).length = Fr.put f.2.1 f.2.2 ++ (Jn.rows l ++ J) := by rw [List.drop_append]; simp
    obtain ⟨h0, ht, hpl, hln⟩ := Fr.rE_put f.2.1 f.2.2 (Jn.rows l ++ J) h8
    have hpn := Fr.put_len f.2.1 f.2.2
    have hi := ih ((xs ++ f.1) ++ Fr.put f.2.1 f.2.2) (fun g hg => hl g (List.mem_cons_of_mem _ hg))
    have he : (xs ++ f.1) ++ (Fr.put f.2.1 f.2.2 ++ (Jn.rows l ++ J)) = ((xs ++ f.1) ++ Fr.put f.2.1 f.2.2) ++ (Jn.rows l ++ J) := by simp
    have hlen : ((xs ++ f.1) ++ Fr.put f.2.1 f.2.2).length = (xs ++ f.1).length + (f.2.2.length + 9) := by rw [List.length_append, hpn]
    have hlt : (xs ++ f.1).length < ((xs ++ f.1) ++ (Fr.put f.2.1 f.2.2 ++ (Jn.rows l ++ J))).length := by
      simp only [List.length_append, hpn]
      omega
    rw [Rs.wk_ok hlt (by rw [hd]; exact h0), hd, ht, hpl, hln, he, ← hlen, hi, hlen]
    show (_ :: Jn.at_ ((xs ++ f.1).length + _) l, _) = _
    have hx : (xs ++ f.1).length = xs.length + f.1.length := List.length_append
    rw [hx]
    rfl
theorem Jn.tot (l : List (List UInt8 × UInt8 × List UInt8)) : ∀ p, Rs.tot (Jn.at_ p l) + (l.map fun f => f.1.length).sum = (Jn.rows l).length := by
  induction l with
  | nil => intro p; simp [Jn.at_, Jn.rows, Rs.tot]
  | cons f l ih =>
    intro p
    have h := ih (p + f.1.length + (f.2.2.length + 9))
    have hpn := Fr.put_len f.2.1 f.2.2
    unfold Rs.tot at h ⊢
    simp only [Jn.at_, Jn.rows, List.map_cons, List.sum_cons, List.length_append, Fnd.size, hpn] at h ⊢
    omega
/-- What is passed over is the junk. -/
theorem Jn.passed (l : List (List UInt8 × UInt8 × List UInt8)) (J : List UInt8) (hJ : Jn.clean J) (hl : ∀ f ∈ l, f.2.2.length ≤ 8192 ∧ Jn.clean f.1) : Rs.psum (Rs.gaps (Rs.wk false (Jn.rows l ++ J) 0).1 (Rs.wk false (Jn.rows l ++ J) 0).2) = (l.map fun f => f.1.length).sum + J.length := by
  have h1 := Rs.psum_tot false (Jn.rows l ++ J)
  have h2 := Jn.wk l J hJ [] hl
  simp only [List.nil_append, List.length_nil] at h2
  rw [h2] at h1 ⊢
  simp only at h1 ⊢
  have h3 := Jn.tot l 0
  rw [List.length_append] at h1
  rw [List.length_append]
  omega
end Go.Proofs.Ytabklpgimjmdlaa
set_option linter.unusedVariables false
namespace Go.Proofs.Ytabklpgimjmdlaa
open Go.ChangeShapes Go.WideShapes Go.ChangeAt Go.RowKit
/-- A row of bytes as a cell. -/
def pcJ (x : SlV UInt8) : Value := .slice x.A x.xs.length x.c
/-- Junk k, if there is one. -/
def jk (js : List (SlV UInt8)) (k : Nat) : List UInt8 := match js[k]? with | some s => s.xs | none => []
def frk (l : List FrV) (k : Nat) : UInt8 × List UInt8 := match l[k]? with | some f => f.p | none => (0, [])
def sgs (l : List FrV) (js : List (SlV UInt8)) : Nat → List (List UInt8 × UInt8 × List UInt8)
  | 0 => []
  | k + 1 => sgs l js k ++ [(jk js k, frk l k)]
theorem sgs_len (l : List FrV) (js : List (SlV UInt8)) (k : Nat) : (sgs l js k).length = k := by
  induction k with
  | zero => rfl
  | succ k ih => rw [sgs, List.length_append, ih]; rfl
theorem sgs_get (l : List FrV) (js : List (SlV UInt8)) (k j : Nat) (hj : j < k) : (sgs l js k)[j]'(by rw [sgs_len]; exact hj) = (jk js j, frk l j) := by
  induction k with
  | zero => omega
  | succ k ih =>
    by_cases h : j < k
    · have := ih h
      simp only [sgs]
      rw [List.getElem_append_left (by rw [sgs_len]; exact h)]
      exact this
    · obtain rfl : j = k := by omega
      simp only [sgs]
      rw [List.getElem_append_right (by rw [sgs_len]; exact Nat.le_refl _)]
      simp [sgs_len]
theorem frk_at {l : List FrV} {k : Nat} (h : k < l.length) : frk l k = FrV.p l[k] := by unfold frk; rw [List.getElem?_eq_getElem h]
theorem jk_at {js : List (SlV UInt8)} {k : Nat} (h : k < js.length) : jk js k = js[k].xs := by unfold jk; rw [List.getElem?_eq_getElem h]
theorem jk_no {js : List (SlV UInt8)} {k : Nat} (h : js.length ≤ k) : jk js k = [] := by unfold jk; rw [List.getElem?_eq_none h]
/-- Junk that may be: clean, and short. -/
def jkOk (js : List (SlV UInt8)) (k : Nat) : Prop := Jn.clean (jk js k) ∧ (jk js k).length ≤ 300
def jsum (js : List (SlV UInt8)) : Nat → Nat
  | 0 => 0
  | k + 1 => jsum js k + (jk js k).length
theorem sgs_sum (l : List FrV) (js : List (SlV UInt8)) (k : Nat) : ((sgs l js k).map fun f => f.1.length).sum = jsum js k := by
  induction k with
  | zero => rfl
  | succ k ih => rw [sgs, List.map_append, List.sum_append, ih]; simp [jsum]
theorem sgs_ok {l : List FrV} {js : List (SlV UInt8)} {k : Nat} (h : ∀ i, i < k → jkOk js i) (hf : ∀ f ∈ l, f.s.xs.length ≤ 300) : ∀ f ∈ sgs l js k, f.2.2.length ≤ 8192 ∧ Jn.clean f.1 := by
  intro f hfm
  obtain ⟨j, hj, rfl⟩ := List.getElem_of_mem hfm
  rw [sgs_len] at hj
  rw [sgs_get l js k j hj]
  refine ⟨?_, (h j hj).1⟩
  unfold frk
  by_cases hl : j < l.length
  · rw [List.getElem?_eq_getElem hl]
    have := hf _ (List.getElem_mem hl)
    show l[j].s.xs.length ≤ 8192
    omega
  · rw [List.getElem?_eq_none (by omega)]
    simp
theorem sgs_bd {l : List FrV} {js : List (SlV UInt8)} {k : Nat} (h : ∀ i, i < k → jkOk js i) (hf : ∀ f ∈ l, f.s.xs.length ≤ 300) : (Jn.rows (sgs l js k)).length ≤ 700 * k ∧ jsum js k ≤ 300 * k := by
  induction k with
  | zero => exact ⟨by simp [sgs, Jn.rows], by simp [jsum]⟩
  | succ k ih =>
    obtain ⟨h1, h2⟩ := ih (fun i hi => h i (by omega))
    have h3 := (h k (by omega)).2
    have h4 : (frk l k).2.length ≤ 300 := by
      unfold frk
      by_cases hl : k < l.length
      · rw [List.getElem?_eq_getElem hl]; exact hf _ (List.getElem_mem hl)
      · rw [List.getElem?_eq_none (by omega)]; simp
    refine ⟨?_, by rw [jsum]; omega⟩
    rw [sgs, Jn.rows_snoc, List.length_append, List.length_append, Fr.put_len]
    show _ + ((jk js k).length + ((frk l k).2.length + 9)) ≤ _
    omega
/-- All bytes behind k rounds of m + 1. -/
def bK (l : List FrV) (js : List (SlV UInt8)) (m k : Nat) : List UInt8 := if k ≤ m then Jn.rows (sgs l js k) else Jn.rows (sgs l js m) ++ jk js m
theorem bK_next (l : List FrV) (js : List (SlV UInt8)) {m k : Nat} (h : k < m) (hm : l.length = m) : bK l js m (k + 1) = (bK l js m k ++ jk js k) ++ Fr.put (FrV.p (l[k]'(by omega))).1 (FrV.p (l[k]'(by omega))).2 := by
  unfold bK
  rw [if_pos (by omega), if_pos (by omega), sgs, Jn.rows_snoc, List.append_assoc, frk_at (by omega)]
theorem bK_last (l : List FrV) (js : List (SlV UInt8)) (m : Nat) : bK l js m (m + 1) = bK l js m m ++ jk js m := by
  unfold bK
  rw [if_neg (by omega), if_pos (Nat.le_refl _)]
theorem sl_of_one {w : World} {A : Option Addr} {n c : Nat} {xs : List (SlV UInt8)} (hn : xs.length = n) (h : SlN w A n c 1 (xs.flatMap fun s => [.slice s.A s.xs.length s.c])) : Sl w A c (xs.map pcJ) := by
  have e : (xs.flatMap fun s => [(.slice s.A s.xs.length s.c : Value)]) = xs.map pcJ := by
    clear h hn
    induction xs with
    | nil => rfl
    | cons x xs ih => rw [List.flatMap_cons, List.map_cons, ih]; rfl
  rw [e] at h
  exact ⟨by rw [List.length_map, hn]; exact h.cap, h.small, h.nil0, h.rd⟩
end Go.Proofs.Ytabklpgimjmdlaa
