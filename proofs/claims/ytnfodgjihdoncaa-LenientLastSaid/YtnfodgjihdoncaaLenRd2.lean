/- lenient.read where all fields are read: the walk through them. -/
import Derived.Test.YtnfodgjihdoncaaLenRead
import Derived.Test.YtnfodgjihdoncaaRegInvI
set_option linter.unusedVariables false
namespace Go.Proofs.Ytnfodgjihdoncaa
open Go.RowKit Go.Shelf
attribute [local go_sem] Oper.semAt_some
theorem lset_z (M : MV) (A1 : Option Addr) (c1 : Nat) (num t i : Int) (f : FV) (w : World) (hfn : f.n ≤ 18446744073709551615) (hlm : M.l.length ≤ 1000000) (hsm : Sl w A1 c1 (M.l.map sv)) (hx : f.s.xs.length ≤ 9223372036854775807) (hsf : Sl w f.s.A f.s.c (f.s.xs.map bv)) :
    Calls Try.prog 50 #[.agg #[.int .u8 (M.k : Int), .int .u64 (M.n0 : Int), .int .u64 (M.n1 : Int), .int .u64 (M.n2 : Int), .int .u64 (M.n3 : Int), .int .u64 (M.n4 : Int), .int .u64 (M.n5 : Int), .string M.s0, .string M.s1, .slice A1 M.l.length c1], .agg #[.int .i64 num, .int .i64 t, .int .i64 i], .agg (fvC f).toArray] w fun e w' => ∃ A' c', e = .returned (.tuple #[.agg #[.int .u8 ((setM M t i f.n (fvS f)).k : Int), .int .u64 ((setM M t i f.n (fvS f)).n0 : Int), .int .u64 ((setM M t i f.n (fvS f)).n1 : Int), .int .u64 ((setM M t i f.n (fvS f)).n2 : Int), .int .u64 ((setM M t i f.n (fvS f)).n3 : Int), .int .u64 ((setM M t i f.n (fvS f)).n4 : Int), .int .u64 ((setM M t i f.n (fvS f)).n5 : Int), .string (setM M t i f.n (fvS f)).s0, .string (setM M t i f.n (fvS f)).s1, .slice A' (setM M t i f.n (fvS f)).l.length c'], .int .i64 (setE M t i (fvS f))]) ∧ w'.ownsRow w.heap.size 9 1 (.slice A' (setM M t i f.n (fvS f)).l.length c') (setM M t i f.n (fvS f)).l.length ((setM M t i f.n (fvS f)).l.map sv) ∧ Below w.heap.size w w' := by
  refine (lset_any { M with A := A1, c := c1 } num t i f w hfn hlm hsm hx hsf).mono ?_
  rintro e w' ⟨A', c', he, ho, hb⟩
  have h1 := setM_ac M A1 A' c1 c' t i f.n (fvS f)
  have h2 := setM_acl M A1 c1 t i f.n (fvS f)
  refine ⟨A', c', ?_, ?_, hb⟩
  · rw [he, h1, setE_z]; rfl
  · rw [h2] at ho; exact ho
/-- What holds between two rounds. -/
structure RdJ (s q b : Nat) (w w2 : World) (np nL : Nat) (Al AL : Option Addr) (cl cL : Nat) (pre : List FV) (L : List SRow) (M0 : MV) (FS : List (RF × Nat)) (j : Nat) (M : MV) (oth : List FV) (A : Option Addr) (c : Nat) (Ao : Option Addr) (co : Nat) (W : World) : Prop where
  bel : Below q w2 W
  sz : q + 5 ≤ W.heap.size
  rm : Blk W (q + 1) 27 #[.int .u8 (M.k : Int), .int .u64 (M.n0 : Int), .int .u64 (M.n1 : Int), .int .u64 (M.n2 : Int), .int .u64 (M.n3 : Int), .int .u64 (M.n4 : Int), .int .u64 (M.n5 : Int), .string M.s0, .string M.s1, .slice A M.l.length c]
  ro : Blk W (q + 2) 87 #[.slice Ao oth.length co]
  rl : Blk W (q + 3) 87 #[.slice Al np cl]
  rs : Blk W (q + 4) 130 #[.slice AL nL cL]
  om : W.ownsRow b 9 1 (.slice A M.l.length c) M.l.length (M.l.map sv)
  oo : W.ownsRow b 95 5 (.slice Ao oth.length co) oth.length (oth.flatMap fvC)
  len : M.l.length ≤ 64
  sub : ∀ f ∈ oth, f ∈ pre
  fin : ∃ ro, fvAll oth ro ∧ oth.length ≤ j ∧ decF L M0 FS = ((decF L M (FS.drop j)).1, ro ++ (decF L M (FS.drop j)).2.1, (decF L M (FS.drop j)).2.2)
section
variable {s q b : Nat} {w w2 : World} {np nL : Nat} {Al AL : Option Addr} {cl cL : Nat} {pre : List FV} {L : List SRow} {M0 : MV} {FS : List (RF × Nat)} {j : Nat} {M : MV} {oth : List FV} {A : Option Addr} {c : Nat} {Ao : Option Addr} {co : Nat} {W : World}
theorem RdJ.keep {S : Nat → Prop} {W' : World} (h : RdJ s q b w w2 np nL Al AL cl cL pre L M0 FS j M oth A c Ao co W) (hc : Chg S W W') (hS : ∀ x, S x → q + 5 ≤ x ∧ x < b) : RdJ s q b w w2 np nL Al AL cl cL pre L M0 FS j M oth A c Ao co W' := by
  have g := h.sz
  refine ⟨h.bel.trans (hc.below (B := q) (fun x hx => by have := hS x hx; omega) (by omega)), Nat.le_trans g hc.size, hc.blk h.rm (fun hx => by have := hS _ hx; omega), hc.blk h.ro (fun hx => by have := hS _ hx; omega), hc.blk h.rl (fun hx => by have := hS _ hx; omega), hc.blk h.rs (fun hx => by have := hS _ hx; omega), own_chgS h.om hc (fun g hg hx => ?_), own_chgS h.oo hc (fun g hg hx => ?_), h.len, h.sub, h.fin⟩
  · have := (h.om.lt g hg).1; have := hS _ hx; omega
  · have := (h.oo.lt g hg).1; have := hS _ hx; omega
theorem fvAll_at {pre : List FV} {FS : List (RF × Nat)} (h : fvAll pre FS) (j : Nat) (f : FV) (hf : pre[j]? = some f) : ∃ r, FS[j]? = some r ∧ fvOf f r := by
  obtain ⟨h1, h2⟩ := List.getElem?_eq_some_iff.1 hf
  have hl := fvAll_len h
  have hj : j < FS.length := by omega
  refine ⟨FS[j], List.getElem?_eq_getElem hj, ?_⟩
  have := fvAll_get h j h1 hj
  rw [h2] at this
  exact this
theorem drop_get {α : Type} {l : List α} {j : Nat} {x : α} (h : l[j]? = some x) : l.drop j = x :: l.drop (j + 1) := by
  obtain ⟨h1, h2⟩ := List.getElem?_eq_some_iff.1 h
  rw [List.drop_eq_getElem_cons h1, h2]
theorem rfS_fv {f : FV} {r : RF × Nat} (h : fvOf f r) : rfS r = fvS f := by unfold rfS fvS; rw [h.2.2.2.1]
def RdI (s q : Nat) (w w2 : World) (np nL : Nat) (Al AL : Option Addr) (cl cL : Nat) (pre : List FV) (L : List SRow) (M0 : MV) (FS : List (RF × Nat)) (b j : Nat) (W : World) : Prop := q + 7 ≤ b ∧ ∃ M oth A c Ao co, RdJ s q b w w2 np nL Al AL cl cL pre L M0 FS j M oth A c Ao co W
/-- What holds where a field may not be set. -/
structure RdX (s q : Nat) (w : World) (E at_ : Int) (W : World) : Prop where
  r6 : Blk W s 27 #[.int .u8 0, .int .u64 0, .int .u64 0, .int .u64 0, .int .u64 0, .int .u64 0, .int .u64 0, .string ⟨#[]⟩, .string ⟨#[]⟩, .slice none 0 0]
  r7 : Blk W (s + 1) 87 #[.slice none 0 0]
  r8 : Blk W (s + 1 + 1) 33 #[.int .i64 E, .int .i64 at_]
  bel : Below s w W
  sz : q + 5 ≤ W.heap.size
theorem RdX.keep {S : Nat → Prop} {W' : World} {E at_ : Int} (h : RdX s q w E at_ W) (hsq : s + 3 ≤ q) (hc : Chg S W W') (hS : ∀ x, S x → q + 5 ≤ x) : RdX s q w E at_ W' := by
  have g := h.sz
  exact ⟨hc.blk h.r6 (fun hx => by have := hS _ hx; omega), hc.blk h.r7 (fun hx => by have := hS _ hx; omega), hc.blk h.r8 (fun hx => by have := hS _ hx; omega), h.bel.trans (hc.below (B := s) (fun x hx => by have := hS x hx; omega) (by omega)), Nat.le_trans g hc.size⟩
def RdY (s q : Nat) (w : World) (L : List SRow) (M0 : MV) (FS : List (RF × Nat)) (b : Nat) (c : Code) (W : World) : Prop := c = .ret ∧ q + 7 ≤ b ∧ ∃ E at_, E ≠ 0 ∧ (decF L M0 FS).2.2.1 = E ∧ ((decF L M0 FS).2.2.2 : Int) = at_ ∧ RdX s q w E at_ W
/-- A field that belongs to none. -/
theorem RdJ.none_ (h : RdJ s q b w w2 np nL Al AL cl cL pre L M0 FS j M oth A c Ao co W) (hqb : q + 7 ≤ b) (hall : fvAll pre FS) {f : FV} (hf : pre[j]? = some f) (ho : ownR L f.num f.w = none) {w1 : World} {o : Obj} (hg : (W.alloc o).grownBy w1 (Value.slice Ao oth.length co).ownBlock) {A' : Option Addr} {c' : Nat}
    (ho' : w1.ownsRow b 95 5 (.slice A' (oth.length + 1) c') (oth.length + 1) (oth.flatMap fvC ++ fvC f)) : RdJ s q b w w2 np nL Al AL cl cL pre L M0 FS (j + 1) M (oth ++ [f]) A c A' c' (w1.setCell ⟨q + 2, 0, none⟩ (.slice A' (oth.length + 1) c')) ∧ Chg (fun x => x = q + 2 ∨ b ≤ x) W (w1.setCell ⟨q + 2, 0, none⟩ (.slice A' (oth.length + 1) c')) := by
  have g := h.sz
  have hb1 : Chg (fun x => b ≤ x) W w1 := ((Chg.refl _ W).alloc o).trans (Chg.of_grown hg fun g e => (h.oo.lt g e).1)
  have hcs : Chg (fun x => x = q + 2) w1 (w1.setCell ⟨q + 2, 0, none⟩ (.slice A' (oth.length + 1) c')) := (Chg.refl (fun x => x = q + 2) w1).set_ (.inl rfl) 0 _
  have hc : Chg (fun x => x = q + 2 ∨ b ≤ x) W (w1.setCell ⟨q + 2, 0, none⟩ (.slice A' (oth.length + 1) c')) := (hb1.mono (fun x _ hx => .inr hx)).trans (hcs.mono (fun x _ hx => .inl hx))
  have hle : (oth ++ [f]).length = oth.length + 1 := by simp
  obtain ⟨r, hr, hfr⟩ := fvAll_at hall j f hf
  refine ⟨⟨h.bel.trans (hc.below (B := q) (fun x hx => by omega) (by omega)), Nat.le_trans g hc.size, hc.blk h.rm (by omega), ?_, hc.blk h.rl (by omega), hc.blk h.rs (by omega), ?_, ?_, h.len, ?_, ?_⟩, hc⟩
  · rw [hle]; simpa using (hb1.blk h.ro (by omega)).set_ 0 (.slice A' (oth.length + 1) c')
  · have h1 := (h.om.alloc o).kept hg (own_two (h.om.alloc o) (h.oo.alloc o) (by decide))
    exact own_chgS h1 hcs (fun g hg hx => by have := (h1.lt g hg).1; omega)
  · rw [hle, List.flatMap_append]
    have h2 := own_chgS ho' hcs (fun g hg hx => by have := (ho'.lt g hg).1; omega)
    simpa using h2
  · intro x hx
    rcases List.mem_append.1 hx with hx | hx
    · exact h.sub x hx
    · rw [List.mem_singleton] at hx; rw [hx]; exact List.mem_of_getElem? hf
  · obtain ⟨ro, h1, h2, h3⟩ := h.fin
    refine ⟨ro ++ [r], fvAll_snoc h1 hfr, by rw [hle]; omega, ?_⟩
    rw [drop_get hr, decF_none (by rw [← hfr.1, ← hfr.2.1]; exact ho)] at h3
    rw [h3]; simp
/-- A field that is set. -/
theorem RdJ.some_ (h : RdJ s q b w w2 np nL Al AL cl cL pre L M0 FS j M oth A c Ao co W) (hqb : q + 7 ≤ b) (hbW : b ≤ W.heap.size) (hall : fvAll pre FS) {f : FV} (hf : pre[j]? = some f) {r : SRow} (ho : ownR L f.num f.w = some r) {A' : Option Addr} {c' : Nat} (he : setE M (r.typ : Int) (r.slot : Int) (fvS f) = 0) {w3 w4 : World} (hb3 : Below W.heap.size W w3)
    (hom : w3.ownsRow W.heap.size 9 1 (.slice A' (setM M (r.typ : Int) (r.slot : Int) f.n (fvS f)).l.length c') (setM M (r.typ : Int) (r.slot : Int) f.n (fvS f)).l.length ((setM M (r.typ : Int) (r.slot : Int) f.n (fvS f)).l.map sv))
    (hrm : Blk w4 (q + 1) 27 #[.int .u8 ((setM M (r.typ : Int) (r.slot : Int) f.n (fvS f)).k : Int), .int .u64 ((setM M (r.typ : Int) (r.slot : Int) f.n (fvS f)).n0 : Int), .int .u64 ((setM M (r.typ : Int) (r.slot : Int) f.n (fvS f)).n1 : Int), .int .u64 ((setM M (r.typ : Int) (r.slot : Int) f.n (fvS f)).n2 : Int), .int .u64 ((setM M (r.typ : Int) (r.slot : Int) f.n (fvS f)).n3 : Int), .int .u64 ((setM M (r.typ : Int) (r.slot : Int) f.n (fvS f)).n4 : Int), .int .u64 ((setM M (r.typ : Int) (r.slot : Int) f.n (fvS f)).n5 : Int), .string (setM M (r.typ : Int) (r.slot : Int) f.n (fvS f)).s0, .string (setM M (r.typ : Int) (r.slot : Int) f.n (fvS f)).s1, .slice A' (setM M (r.typ : Int) (r.slot : Int) f.n (fvS f)).l.length c']) (hc4 : Chg (fun x => x = q + 1) w3 w4) :
    RdJ s q b w w2 np nL Al AL cl cL pre L M0 FS (j + 1) (setM M (r.typ : Int) (r.slot : Int) f.n (fvS f)) oth A' c' Ao co w4 ∧ Chg (fun x => x = q + 1) W w4 := by
  have g := h.sz
  have hc : Chg (fun x => x = q + 1) W w4 := (Chg.of_new hb3).trans hc4
  obtain ⟨rr, hr, hfr⟩ := fvAll_at hall j f hf
  have hg3 := hb3.size
  refine ⟨⟨h.bel.trans (hc.below (B := q) (fun x hx => by omega) (by omega)), Nat.le_trans g hc.size, hrm, hc.blk h.ro (by omega), hc.blk h.rl (by omega), hc.blk h.rs (by omega), ?_, ?_, setM_len _ _ _ _ _ h.len, h.sub, ?_⟩, hc⟩
  · exact own_mono (own_chgS hom hc4 (fun g hg hx => by have := (hom.lt g hg).1; omega)) hbW
  · exact own_chgS h.oo hc (fun g hg hx => by have := (h.oo.lt g hg).1; omega)
  · obtain ⟨ro, h1, h2, h3⟩ := h.fin
    refine ⟨ro, h1, by omega, ?_⟩
    rw [drop_get hr, decF_ok (by rw [← hfr.1, ← hfr.2.1]; exact ho) (by rw [rfS_fv hfr]; exact he), rfS_fv hfr, ← hfr.2.2.1] at h3
    exact h3
/-- A field that may not be set: the end. -/
theorem RdJ.bad_ (h : RdJ s q b w w2 np nL Al AL cl cL pre L M0 FS j M oth A c Ao co W) (hall : fvAll pre FS) {f : FV} (hf : pre[j]? = some f) {r : SRow} (ho : ownR L f.num f.w = some r) (he : setE M (r.typ : Int) (r.slot : Int) (fvS f) ≠ 0) : (decF L M0 FS).2.2.1 = setE M (r.typ : Int) (r.slot : Int) (fvS f) ∧ ((decF L M0 FS).2.2.2 : Int) = f.at_ := by
  obtain ⟨rr, hr, hfr⟩ := fvAll_at hall j f hf
  obtain ⟨ro, h1, h2, h3⟩ := h.fin
  rw [h3, drop_get hr, decF_bad (by rw [← hfr.1, ← hfr.2.1]; exact ho) (by rw [rfS_fv hfr]; exact he), rfS_fv hfr]
  exact ⟨rfl, hfr.2.2.2.2.symm⟩
end
def RdR19 (s g : Nat) (SE fnum fw : Int) (fn : Nat) (fA : Option Addr) (fl fc : Nat) (fat : Int) (a0 : Act) (w0 : World) (f : Nat → Bool) (a : Act) (w : World) : Prop := ∃ x0 x1 x2 x3 x4 : Value, a = (((((a0.put (some 66) x0).put (some 67) x1).put (some 68) x2).put (some 69) x3).put (some 70) x4) ∧ (f 0 = true → x0 = .agg #[.int .u8 0, .int .u64 0, .int .u64 0, .int .u64 0, .int .u64 0, .int .u64 0, .int .u64 0, .string ⟨#[]⟩, .string ⟨#[]⟩, .slice none 0 0]) ∧ (f 1 = true → x1 = .int .i64 SE) ∧ (f 2 = true → x2 = .pointer (some ⟨g, 4, none⟩)) ∧ (f 3 = true → x3 = .int .i64 fat) ∧ (f 4 = true → x4 = .agg #[.int .i64 SE, .int .i64 fat]) ∧ Blk w (s) 27 (if f 5 = true then #[.int .u8 0, .int .u64 0, .int .u64 0, .int .u64 0, .int .u64 0, .int .u64 0, .int .u64 0, .string ⟨#[]⟩, .string ⟨#[]⟩, .slice none 0 0] else #[.int .u8 0, .int .u64 0, .int .u64 0, .int .u64 0, .int .u64 0, .int .u64 0, .int .u64 0, .string ⟨#[]⟩, .string ⟨#[]⟩, .slice none 0 0]) ∧ Blk w (s + 1) 87 (if f 6 = true then #[.slice none 0 0] else #[.slice none 0 0]) ∧ Blk w (s + 1 + 1) 33 (if f 7 = true then #[.int .i64 SE, .int .i64 fat] else #[.int .i64 0, .int .i64 0]) ∧ Chg (fun q => q = s ∨ q = s + 1 ∨ q = s + 1 + 1) w0 w
def RdR20 (s q : Nat) (M : MV) (A1 : Option Addr) (c1 : Nat) (Ao : Option Addr) (ol co : Nat) (a0 : Act) (w0 : World) (f : Nat → Bool) (a : Act) (w : World) : Prop := ∃ x0 x1 x2 : Value, a = (((a0.put (some 71) x0).put (some 72) x1).put (some 73) x2) ∧ (f 0 = true → x0 = .agg #[.int .u8 (M.k : Int), .int .u64 (M.n0 : Int), .int .u64 (M.n1 : Int), .int .u64 (M.n2 : Int), .int .u64 (M.n3 : Int), .int .u64 (M.n4 : Int), .int .u64 (M.n5 : Int), .string M.s0, .string M.s1, .slice A1 M.l.length c1]) ∧ (f 1 = true → x1 = .slice Ao ol co) ∧ (f 2 = true → x2 = .agg #[.int .i64 0, .int .i64 0]) ∧ Blk w (s) 27 (if f 3 = true then #[.int .u8 (M.k : Int), .int .u64 (M.n0 : Int), .int .u64 (M.n1 : Int), .int .u64 (M.n2 : Int), .int .u64 (M.n3 : Int), .int .u64 (M.n4 : Int), .int .u64 (M.n5 : Int), .string M.s0, .string M.s1, .slice A1 M.l.length c1] else #[.int .u8 0, .int .u64 0, .int .u64 0, .int .u64 0, .int .u64 0, .int .u64 0, .int .u64 0, .string ⟨#[]⟩, .string ⟨#[]⟩, .slice none 0 0]) ∧ Blk w (s + 1) 87 (if f 4 = true then #[.slice Ao ol co] else #[.slice none 0 0]) ∧ Blk w (s + 1 + 1) 33 (if f 5 = true then #[.int .i64 0, .int .i64 0] else #[.int .i64 0, .int .i64 0]) ∧ Chg (fun q => q = s ∨ q = s + 1 ∨ q = s + 1 + 1) w0 w
set_option maxRecDepth 100000 in
set_option maxHeartbeats 4000000 in
theorem lread_main (m : Nat) (hm : 12 ≤ m) (k : Nat) (v : Int) (bs : List UInt8) (n : Nat) (A : Option Addr) (c : Nat) (w : World) (hk : k ≤ 255) (hv1 : -9223372036854775808 ≤ v) (hv2 : v ≤ 9223372036854775807) (hL : (ofL (k : Int) v).length ≠ 0) (hn : bs.length = n) (hl : n ≤ 8192) (hs : Sl w A c (bs.map bv)) (hF : (flds bs n 0).2.1 = 0) :
    CallsIn Fence.wide m Try.prog 53 #[.int .u8 (k : Int), .int .i64 v, .slice A n c] w (ReadR w (readR k v bs)) := by
  obtain ⟨FS, hFS⟩ : ∃ FS, (flds bs n 0).1 = FS := ⟨_, rfl⟩
  obtain ⟨M0, hM0⟩ : ∃ M0 : MV, { ZM with k := k } = M0 := ⟨_, rfl⟩
  have hR : readR k v bs = if (decF (ofL (k : Int) v) M0 FS).2.2.1 ≠ 0 then (ZM, [], (decF (ofL (k : Int) v) M0 FS).2.2) else decF (ofL (k : Int) v) M0 FS := by
    unfold readR; rw [if_neg hL, if_neg (by omega), hn, if_neg (by rw [hF]; simp), hFS, hM0]
  obtain ⟨Q, hQ⟩ : ∃ Q, Q = ReadR w (readR k v bs) := ⟨_, rfl⟩
  rw [← hQ]
  have hbad := trivial
  have h1 : 1 ≤ m := by omega
  obtain ⟨s, hsz⟩ : ∃ s, w.heap.size = s := ⟨_, rfl⟩
  have hof := fun W => sof2_in (m - 1) (by omega) (k : Int) v W hv1 hv2
  rw [decide_eq_true (show 0 < (ofL (k : Int) v).length by omega)] at hof
  have hq40 := ofL_le40 (k : Int) v
  have hrows : ∀ r ∈ ofL (k : Int) v, r ∈ ROWS := fun r hr => ofL_mem _ _ hr
  generalize ofL (k : Int) v = L at *
  have hgt : ¬ ((8192 : Int) < (n : Int)) := by omega
  have hfl := fun W (hW : Below s w W) => (fields_in (m - 1) (by omega) bs n A c W hn (by omega) (hs.below (by rw [hsz]; exact hW))).mono (R' := fun e W' => (∃ pre Al cl, e = .returned (.tuple #[.slice Al pre.length cl, .agg #[.int .i64 0, .int .i64 0]]) ∧ SlN W' Al pre.length cl 5 (pre.flatMap fvC) ∧ fvAll pre FS ∧ (∀ f ∈ pre, Sl W' f.s.A f.s.c (f.s.xs.map bv)) ∧ pre.length ≤ n ∧ (∀ f ∈ pre, ReadOk n f) ∧ ∀ f ∈ pre, FarS f.s.A f.s.xs.length (fun k => k < W.heap.size)) ∧ Below W.heap.size W W') (by
    rintro e W' ⟨(h | h), hb⟩
    · obtain ⟨-, v', b', pre, rfl, hb1, ho, hall, hsl⟩ := h
      obtain ⟨Al, cl, rfl, hsn⟩ := sln_own (by decide) ho
      have hro := read_ok bs n 0 pre (by omega) hall
      rw [hFS] at hall
      exact ⟨⟨pre, Al, cl, rfl, hsn, hall, fun f hf => (hsl f hf).1, by omega, by rw [hn] at hro; exact hro.2, fun f hf => (hsl f hf).2.imp (fun k h => .inl h)⟩, hb⟩
    · exact absurd hF h.1)
  have heach := fun W Al np cl AL nL cL => leach_in (m - 1) Al AL np cl nL cL W
  have HFL := hid hfl
  have HEACH := hid heach
  have HQ := hid hQ
  have HRR := hid hR
  have HROWS := hid hrows
  have HLN := hid hn
  clear hfl heach hn hF hFS hQ hrows
  have HOF := hid hof
  clear hof hbad hR
  obtain ⟨W0, hW0⟩ : ∃ W0, (((w.alloc (.cells #[.int .u8 0, .int .u64 0, .int .u64 0, .int .u64 0, .int .u64 0, .int .u64 0, .int .u64 0, .string ⟨#[]⟩, .string ⟨#[]⟩, .slice none 0 0] 27)).alloc (.cells #[.slice none 0 0] 87)).alloc (.cells #[.int .i64 0, .int .i64 0] 33)) = W0 := ⟨_, rfl⟩
  have hk6 : Blk W0 s 27 #[.int .u8 0, .int .u64 0, .int .u64 0, .int .u64 0, .int .u64 0, .int .u64 0, .int .u64 0, .string ⟨#[]⟩, .string ⟨#[]⟩, .slice none 0 0] := by rw [← hW0, ← hsz]; exact ((Blk.new w _ _).alloc _).alloc _
  have hk7 : Blk W0 (s + 1) 87 #[.slice none 0 0] := by
    have h := Blk.new (w.alloc (.cells #[.int .u8 0, .int .u64 0, .int .u64 0, .int .u64 0, .int .u64 0, .int .u64 0, .int .u64 0, .string ⟨#[]⟩, .string ⟨#[]⟩, .slice none 0 0] 27)) 87 #[.slice none 0 0]
    rw [World.size_alloc, hsz] at h; rw [← hW0]; exact h.alloc _
  have hk8 : Blk W0 (s + 1 + 1) 33 #[.int .i64 0, .int .i64 0] := by
    have h := Blk.new ((w.alloc (.cells #[.int .u8 0, .int .u64 0, .int .u64 0, .int .u64 0, .int .u64 0, .int .u64 0, .int .u64 0, .string ⟨#[]⟩, .string ⟨#[]⟩, .slice none 0 0] 27)).alloc (.cells #[.slice none 0 0] 87)) 33 #[.int .i64 0, .int .i64 0]
    rw [World.size_alloc, World.size_alloc, hsz] at h; rw [← hW0]; exact h
  have hb0 : Below s w W0 := by rw [← hW0, ← hsz]; exact bw_a (bw_a (bw_a (Below.refl _ w) _) _) _
  have HW0 := hid hW0
  clear hW0
  refine callsIn_of_wp_marks Try.func53 rfl trivial ?_ rfl
  simp only [Try.ntmps53, List.size_toArray, List.length_cons, List.length_nil, Nat.reduceAdd, Nat.reduceSub, Array.replicate_succ, Array.replicate_zero, List.push_toArray, List.append_toArray, List.nil_append, List.cons_append]
  gi_wp2
  rw [HW0.out]
  refine wpIn_wide.2 (wp_scope_straight ((wpIn_wide (n := m)).1 ?_))
  gi_wp2_with (first | (refine ⟨trivial, ?_⟩; gi_at_call 74; refine (HOF.out _).mono ?_; rintro e w1 ⟨vv, rfl, ho, hb1⟩; obtain ⟨AL, cL, rfl⟩ := row_slice' ho; have hl6 := hk6.lt; have hl7 := hk7.lt; have hl8 := hk8.lt; have hk6 := hk6.below hb1 hl6; have hk7 := hk7.below hb1 hl7; have hk8 := hk8.below hb1 hl8; have c0 := hk6.cell 0; have c1 := hk6.cell 1; have c2 := hk6.cell 2; have c3 := hk6.cell 3; have c4 := hk6.cell 4; have c5 := hk6.cell 5; have c6 := hk6.cell 6; have c7 := hk6.cell 7; have c8 := hk6.cell 8; have c9 := hk6.cell 9; have d0 := hk7.cell 0; have e0 := hk8.cell 0; have e1 := hk8.cell 1; simp only [List.getElem?_toArray, List.getElem?_cons_zero, List.getElem?_cons_succ] at c0 c1 c2 c3 c4 c5 c6 c7 c8 c9 d0 e0 e1; have f0 := hk6.frozen 0; have f1 := hk6.frozen 1; have f2 := hk6.frozen 2; have f3 := hk6.frozen 3; have f4 := hk6.frozen 4; have f5 := hk6.frozen 5; have f6 := hk6.frozen 6; have f7 := hk6.frozen 7; have f8 := hk6.frozen 8; have f9 := hk6.frozen 9; have g0 := hk7.frozen 0; have i0 := hk8.frozen 0; have i1 := hk8.frozen 1; have HK6 := hid hk6; have HK7 := hid hk7; have HK8 := hid hk8; have HB1 := hid hb1; have HO1 := hid ho; have l6 := HK6.out.lt; have l7 := HK7.out.lt; have l8 := HK8.out.lt; clear ho hk6 hk7 hk8 hb1 hl6 hl7 hl8) | (refine ⟨trivial, ?_⟩; gi_at_call 81; refine (HFL.out _ (hb0.trans (HB1.out.mono (by have := hb0.size; omega)))).mono ?_; rintro e w2 ⟨⟨pre, Al, cl, rfl, hsl, hall, hsb, hpn, hro, hfar⟩, hb2⟩; have HFAR := hid hfar; have hs31 : s + 3 ≤ w1.heap.size := (by omega); clear hfar; have hk6 := HK6.out.below hb2 l6; have hk7 := HK7.out.below hb2 l7; have hk8 := HK8.out.below hb2 l8; clear HK6 HK7 HK8; have hb2' := HB1.out.trans (hb2.mono HB1.out.size); have hsL := (sln_own (by decide) HO1.out); clear c0 c1 c2 c3 c4 c5 c6 c7 c8 c9 d0 e0 e1 f0 f1 f2 f3 f4 f5 f6 f7 f8 f9 g0 i0 i1; have HK6 := hid hk6; have HK7 := hid hk7; have HK8 := hid hk8; have HB2 := hid hb2'; have HB12 := hid hb2; have l6 := hk6.lt; have l7 := hk7.lt; have l8 := hk8.lt; have HSL := hid hsl; have HALL := hid hall; have HSB := hid hsb; have HRO := hid hro; clear hk6 hk7 hk8 hb2 hb2' hsl hall hsb hro) | (refine ⟨trivial, ?_⟩; gi_at_call 82; refine (HEACH.out _ _ _ _ _ _ _).mono ?_; rintro e w' ⟨rfl, rfl⟩))
  refine wpIn_label ?_
  gi_wp2_with (refine ⟨trivial, ?_⟩; gi_at_call 82; refine (HEACH.out _ _ _ _ _ _ _).mono ?_; rintro e w' ⟨rfl, rfl⟩)
  obtain ⟨AL', cL', heq, hsL2⟩ := hsL
  obtain ⟨rfl, rfl⟩ : AL = AL' ∧ cL = cL' := by injection heq with e1 e2 e3; exact ⟨e1, e3⟩
  clear heq
  obtain ⟨q, hq⟩ : ∃ q, w2.heap.size = q := ⟨_, rfl⟩
  obtain ⟨np, hnp⟩ : ∃ np, pre.length = np := ⟨_, rfl⟩
  obtain ⟨nL, hnL⟩ : ∃ nL, L.length = nL := ⟨_, rfl⟩
  rw [hnL] at hsL2 hq40
  have HNP := hid hnp
  have HNL := hid hnL
  have hslp := HSL.out
  rw [hnp] at hslp hpn
  rw [hnp, hnL]
  obtain ⟨Wa, hWa⟩ : ∃ Wa, ((((w2.alloc (.cells #[.int .i64 0, .int .i64 0] 33)).alloc (.cells #[.int .u8 (k : Int), .int .u64 0, .int .u64 0, .int .u64 0, .int .u64 0, .int .u64 0, .int .u64 0, .string ⟨#[]⟩, .string ⟨#[]⟩, .slice none 0 0] 27)).alloc (.cells #[.slice none 0 0] 87)).alloc (.cells #[.slice Al np cl] 87)).alloc (.cells #[.slice AL nL cL] 130) = Wa := ⟨_, rfl⟩
  rw [hWa, hq]
  have hza : Wa.heap.size = q + 5 := by rw [← hWa]; simp [hq]
  have hba : Below q w2 Wa := by rw [← hWa, ← hq]; exact bw_a (bw_a (bw_a (bw_a (bw_a (Below.refl _ w2) _) _) _) _) _
  have hr1 : Blk Wa (q + 1) 27 #[.int .u8 (k : Int), .int .u64 0, .int .u64 0, .int .u64 0, .int .u64 0, .int .u64 0, .int .u64 0, .string ⟨#[]⟩, .string ⟨#[]⟩, .slice none 0 0] := by
    have h := (((Blk.new (w2.alloc (.cells #[.int .i64 0, .int .i64 0] 33)) 27 #[.int .u8 (k : Int), .int .u64 0, .int .u64 0, .int .u64 0, .int .u64 0, .int .u64 0, .int .u64 0, .string ⟨#[]⟩, .string ⟨#[]⟩, .slice none 0 0]).alloc (.cells #[.slice none 0 0] 87)).alloc (.cells #[.slice Al np cl] 87)).alloc (.cells #[.slice AL nL cL] 130)
    rw [hWa, World.size_alloc, hq] at h; exact h
  have hr2 : Blk Wa (q + 2) 87 #[.slice none 0 0] := by
    have h := ((Blk.new ((w2.alloc (.cells #[.int .i64 0, .int .i64 0] 33)).alloc (.cells #[.int .u8 (k : Int), .int .u64 0, .int .u64 0, .int .u64 0, .int .u64 0, .int .u64 0, .int .u64 0, .string ⟨#[]⟩, .string ⟨#[]⟩, .slice none 0 0] 27)) 87 #[.slice none 0 0]).alloc (.cells #[.slice Al np cl] 87)).alloc (.cells #[.slice AL nL cL] 130)
    rw [hWa, World.size_alloc, World.size_alloc, hq] at h; exact h
  have hr3 : Blk Wa (q + 3) 87 #[.slice Al np cl] := by
    have h := (Blk.new (((w2.alloc (.cells #[.int .i64 0, .int .i64 0] 33)).alloc (.cells #[.int .u8 (k : Int), .int .u64 0, .int .u64 0, .int .u64 0, .int .u64 0, .int .u64 0, .int .u64 0, .string ⟨#[]⟩, .string ⟨#[]⟩, .slice none 0 0] 27)).alloc (.cells #[.slice none 0 0] 87)) 87 #[.slice Al np cl]).alloc (.cells #[.slice AL nL cL] 130)
    rw [hWa, World.size_alloc, World.size_alloc, World.size_alloc, hq] at h; exact h
  have hr4 : Blk Wa (q + 4) 130 #[.slice AL nL cL] := by
    have h := Blk.new ((((w2.alloc (.cells #[.int .i64 0, .int .i64 0] 33)).alloc (.cells #[.int .u8 (k : Int), .int .u64 0, .int .u64 0, .int .u64 0, .int .u64 0, .int .u64 0, .int .u64 0, .string ⟨#[]⟩, .string ⟨#[]⟩, .slice none 0 0] 27)).alloc (.cells #[.slice none 0 0] 87)).alloc (.cells #[.slice Al np cl] 87)) 130 #[.slice AL nL cL]
    rw [hWa, World.size_alloc, World.size_alloc, World.size_alloc, World.size_alloc, hq] at h; exact h
  have hM0c : M0 = { ZM with k := k } := hM0.symm
  have hj0 : ∀ b W', q + 7 ≤ b → Below (q + 5) Wa W' → RdJ s q b w w2 np nL Al AL cl cL pre L M0 FS 0 M0 [] none 0 none 0 W' := fun b W' hb hB => by
    have hB2 := hba.trans (hB.mono (by omega))
    refine ⟨hB2, by have := hB.size; omega, ?_, hr2.below hB (by omega), hr3.below hB (by omega), hr4.below hB (by omega), ?_, World.ownsRow_nil _ _ _ _, ?_, fun f hf => by simp at hf, [], trivial, by simp, by simp⟩
    · rw [hM0c]; exact hr1.below hB (by omega)
    · rw [hM0c]; exact World.ownsRow_nil _ _ _ _
    · rw [hM0c]; simp [ZM]
  have hBw2 : Below s w w2 := hb0.trans (HB2.out.mono (by have := hb0.size; omega))
  have hsle : s + 3 ≤ q := by omega
  have hsle' : s ≤ q := by omega
  have hSL : ∀ W, Below q w2 W → SlN W Al np cl 5 (pre.flatMap fvC) := fun W hW => hslp.below (by rw [hq]; exact hW)
  have hSLL : ∀ W, Below q w2 W → SlN W AL nL cL 3 (L.flatMap specC) := fun W hW => hsL2.below (HB12.out.trans (hW.mono (by have := HB12.out.size; omega)))
  have hSB : ∀ f ∈ pre, ∀ W, Below q w2 W → Sl W f.s.A f.s.c (f.s.xs.map bv) := fun f hf W hW => (HSB.out f hf).below (by rw [hq]; exact hW)
  have hLE := fun l2 W => leach1_in (m - 1) (by omega) pre L np nL Al AL cl cL l2 (q + 3) (q + 4) (q + 7)
  obtain ⟨i5, hi5, hi50, hi51, hi52⟩ := info_parts Try.infoField
  rw [hq] at l6 l7 l8
  have HJ0 := hid hj0
  have HBW2 := hid hBw2
  have HS1 := hid hSL
  have HS2 := hid hSLL
  have HS3 := hid hSB
  have HQ2 := hid hq
  have HM0 := hid hM0
  clear hWa hr1 hr2 hr3 hr4 hba hj0 hBw2 hSL hSLL hSB hq hb0 hslp hsL2 hM0c hLE hM0 HB2 HB12 HSL HSB HB1 HO1
  refine range_b m (by omega) (q + 5) hza (gf := 108) (lb := #[.pointer (some ⟨q + 1 + 1 + 1, 0, none⟩), .pointer (some ⟨q + 1 + 1 + 1 + 1, 0, none⟩)]) rfl (enters_of Try.func108 (by kernel_rfl) rfl) np (fun j xs _ => LArg pre L j xs Wa) ?_
    (RdI s q w w2 np nL Al AL cl cL pre L M0 FS) (RdY s q w L M0 FS) ?_ ?_ ?_ ?_ ?_ ?_ ?_
  · rintro j xs W ⟨f, -, rfl⟩
    rfl
  · rintro b j W1 W2 ⟨hb, M, oth, A1, c1, Ao, co, hJ⟩ hc
    exact ⟨hb, M, oth, A1, c1, Ao, co, hJ.keep hc (fun x hx => by omega)⟩
  · rintro b c W1 W2 ⟨hcr, hb, E, at_, h1, h2, h3, hX⟩ hc
    exact ⟨hcr, hb, E, at_, h1, h2, h3, hX.keep hsle hc (fun x hx => by omega)⟩
  · intro b W' hb hB
    exact ⟨by omega, _, _, _, _, _, _, HJ0.out b W' (by omega) hB⟩
  · intro l2 J2 Jx2 W1 hw1 hB1 hJI hJn2 hJs hJ0 hy
    refine leach1_in (m - 1) (by omega) pre L np nL Al AL cl cL l2 (q + 1 + 1 + 1) (q + 1 + 1 + 1 + 1) (q + 5 + 2) HNP.out HNL.out (by omega) J2 Jx2 W1 hw1 (fun b j W h => ?_) hJ0 hJn2 (fun b j W xs hj hb hbW hJ hE => hy b j W xs hj hb hbW hJ hE)
    obtain ⟨⟨hb, M, oth, A1, c1, Ao, co, hJ⟩, h2⟩ := hJI b j W h
    exact ⟨hJ.rl, hJ.rs, HS1.out W hJ.bel, HS2.out W hJ.bel, h2⟩
  · rintro l2 b j W1 xs hj hb hbW ⟨hb7, M, oth, A1, c1, Ao, co, hJ⟩ ⟨f, hget, hxs⟩ hlo
    have hfp : f ∈ pre := List.mem_of_getElem? hget
    have hro := HRO.out f hfp
    have hol : oth.length ≤ j := by obtain ⟨ro, -, h, -⟩ := hJ.fin; exact h
    obtain ⟨g, hg⟩ : ∃ g, W1.heap.size = g := ⟨_, rfl⟩
    obtain ⟨OR, hOR⟩ : ∃ OR, ownR L f.num f.w = OR := ⟨_, rfl⟩
    have hnone := fun (h : OR = none) => fun (W w1 : World) (hJ : RdJ s q b w w2 np nL Al AL cl cL pre L M0 FS j M oth A1 c1 Ao co W) (o : Obj) hg A' c' => RdJ.none_ hJ hb7 HALL.out hget (by rw [hOR, h]) (w1 := w1) (o := o) hg (A' := A') (c' := c')
    have hsome := fun (r : SRow) (h : OR = some r) => fun (W w3 w4 : World) (hJ : RdJ s q b w w2 np nL Al AL cl cL pre L M0 FS j M oth A1 c1 Ao co W) (hbW : b ≤ W.heap.size) (A' : Option Addr) (c' : Nat) => RdJ.some_ hJ hb7 hbW HALL.out hget (by rw [hOR, h]) (A' := A') (c' := c') (w3 := w3) (w4 := w4)
    have hbadR := fun (r : SRow) (h : OR = some r) (W : World) (hJ : RdJ s q b w w2 np nL Al AL cl cL pre L M0 FS j M oth A1 c1 Ao co W) => RdJ.bad_ hJ HALL.out hget (r := r) (by rw [hOR, h])
    have hsl := HS3.out f hfp
    have hrow : ∀ r, OR = some r → r ∈ ROWS := fun r h => by
      unfold ownR at hOR
      rw [h] at hOR
      exact HROWS.out r (List.mem_of_find?_eq_some hOR)
    rw [hOR] at hxs
    have hset := fun (W : World) (r : SRow) (hJ : RdJ s q b w w2 np nL Al AL cl cL pre L M0 FS j M oth A1 c1 Ao co W) => lset_z M A1 c1 (r.num : Int) (r.typ : Int) (r.slot : Int) f W hro.2.2.1 (Nat.le_trans hJ.len (by omega)) (by obtain ⟨A', c', e, -, h⟩ := Sl.of_own hJ.om; injection e with e1 e2 e3; subst e1; subst e3; exact h) (by have := hro.2.2.2.2.2.2.2; omega) (hsl W hJ.bel)
    obtain ⟨fnum, fw, fn, ⟨fA, fc, fxs⟩, fat⟩ := f
    have HNONE := hid hnone
    have HSOME := hid hsome
    have HBADR := hid hbadR
    have HROW := hid hrow
    have HSET := hid hset
    have HG := hid hg
    have HRO1 := hid hro
    have hj64 : oth.length ≤ 9000 := by omega
    clear hnone hsome hbadR hrow hset hro hsl hget hfp hOR
    have hstart : ∀ (X : Value) (XC : Array Value), X = .agg XC → (∀ i, XC.size = i → i = 3) → True := fun _ _ _ _ => trivial
    clear hstart
    cases OR with
    | none =>
      have hn2 := HNONE.out rfl
      have HN2 := hid hn2
      clear HNONE hn2
      have hxs' : xs = #[.agg #[.int .i64 fnum, .int .u8 fw, .int .u64 (fn : Int), .slice fA fxs.length fc, .int .i64 fat], .agg #[.int .i64 0, .int .i64 0, .int .i64 0]] := hxs
      subst hxs'
      clear hxs
      have hca : Chg (fun _ => False) W1 ((W1.alloc (.cells #[.int .i64 fnum, .int .u8 fw, .int .u64 (fn : Int), .slice fA fxs.length fc, .int .i64 fat] 95)).alloc (.cells #[.int .i64 0, .int .i64 0, .int .i64 0] 93)) := ((Chg.refl _ W1).alloc _).alloc _
      have hkf : Blk ((W1.alloc (.cells #[.int .i64 fnum, .int .u8 fw, .int .u64 (fn : Int), .slice fA fxs.length fc, .int .i64 fat] 95)).alloc (.cells #[.int .i64 0, .int .i64 0, .int .i64 0] 93)) g 95 #[.int .i64 fnum, .int .u8 fw, .int .u64 (fn : Int), .slice fA fxs.length fc, .int .i64 fat] := by rw [← hg]; exact (Blk.new W1 _ _).alloc _
      have hkx : Blk ((W1.alloc (.cells #[.int .i64 fnum, .int .u8 fw, .int .u64 (fn : Int), .slice fA fxs.length fc, .int .i64 fat] 95)).alloc (.cells #[.int .i64 0, .int .i64 0, .int .i64 0] 93)) (g + 1) 93 #[.int .i64 0, .int .i64 0, .int .i64 0] := by
        have h := Blk.new (W1.alloc (.cells #[.int .i64 fnum, .int .u8 fw, .int .u64 (fn : Int), .slice fA fxs.length fc, .int .i64 fat] 95)) 93 #[.int .i64 0, .int .i64 0, .int .i64 0]
        rw [World.size_alloc, hg] at h; exact h
      gi_wp2
      try rw [hg]
      have hJ1 := hJ.keep hca (fun _ h => h.elim)
      have hbg : b ≤ g := by omega
      generalize ((W1.alloc (.cells #[.int .i64 fnum, .int .u8 fw, .int .u64 (fn : Int), .slice fA fxs.length fc, .int .i64 fat] 95)).alloc (.cells #[.int .i64 0, .int .i64 0, .int .i64 0] 93)) = Wb at *
      refine ⟨KBl.of_chg hca hbW (fun _ _ _ h => h), fun W2 hc2 => ?_⟩
      have hJ2 := hJ1.keep hc2 (fun x hx => by omega)
      have hkf2 := hc2.blk hkf (by omega)
      have hkx2 := hc2.blk hkx (by omega)
      have hgl := hkf2.lt
      have hxl := hkx2.lt
      have x1 := hkx2.cell 1
      have a0 := hkf2.cell 0
      have a1 := hkf2.cell 1
      have a2 := hkf2.cell 2
      have a3 := hkf2.cell 3
      have a4 := hkf2.cell 4
      have o0 := hJ2.ro.cell 0
      have p0 := hJ2.ro.frozen 0
      simp only [List.getElem?_toArray, List.getElem?_cons_zero, List.getElem?_cons_succ] at x1 a0 a1 a2 a3 a4 o0
      have hbW2 : b ≤ W2.heap.size := by omega
      have HJ := hid hJ2
      clear hJ hJ1 hJ2 hc2 hca hkf hkx hkf2 hkx2 hlo hg HSOME HBADR HROW HSET hb hbW
      gi_wp2_with (gi_at_builtin; refine wpListIn_append_rd _ rfl _ _ 87 rfl b 95 i5 (.agg #[.int .i64 0, .int .u8 0, .int .u64 0, .slice none 0 0, .int .i64 0]) 5 56 Try.underlying87 hi5 hi50 hi51 hi52 rfl (by decide) (.slice Ao oth.length co) oth.length (oth.flatMap fvC) rfl (HJ.out.oo.alloc _) ⟨W2.heap.size, 0, none⟩ 1 1 [.int .i64 fnum, .int .u8 fw, .int .u64 (fn : Int), .slice fA fxs.length fc, .int .i64 fat] rfl rfl (Rd.new W2 95 #[.int .i64 fnum, .int .u8 fw, .int .u64 (fn : Int), .slice fA fxs.length fc, .int .i64 fat]) (by simp [Value.oneCell']) (by simp only [maxLen]; omega) (by omega) (by simp; omega) ?_; intro v' w1' hown' hgrow; obtain ⟨g', cap', rfl⟩ := ownsRow_succ hown'; have hst := HN2.out _ _ HJ.out _ hgrow _ _ hown'; have hg1 : some (q + 2) ≠ (Value.slice Ao oth.length co).ownBlock := (fun e => by have := (HJ.out.oo.lt _ e.symm).1; omega); have hw1 := (hgrow.block (q + 2) (by have := HJ.out.ro.lt; simp; omega) hg1).trans (HJ.out.ro.alloc _); have hc1 := Blk.cell hw1 0; have hf1 := Blk.frozen hw1 0; simp only [List.getElem?_toArray, List.getElem?_cons_zero] at hc1)
      obtain ⟨hj5, hc5⟩ := hst
      exact ⟨KBl.of_chg hc5 hbW2 (fun x g1 g2 => by omega), hb7, _, _, _, _, _, _, hj5⟩
    | some r =>
      have hR := HROW.out r rfl
      have hrt := row_num hR
      have hty : (((r.typ : Nat) : Int) == 0) = false := by simp; omega
      have hset2 := fun W hJ => HSET.out W r hJ
      have hsome2 := HSOME.out r rfl
      have hbad2 := HBADR.out r rfl
      have hxs' : xs = #[.agg #[.int .i64 fnum, .int .u8 fw, .int .u64 (fn : Int), .slice fA fxs.length fc, .int .i64 fat], .agg #[.int .i64 (r.num : Nat), .int .i64 (r.typ : Nat), .int .i64 (r.slot : Nat)]] := hxs
      subst hxs'
      clear hxs
      generalize hsM : setM M (r.typ : Int) (r.slot : Int) fn (fvS ⟨fnum, fw, fn, ⟨fA, fc, fxs⟩, fat⟩) = SM at *
      generalize hsE : setE M (r.typ : Int) (r.slot : Int) (fvS ⟨fnum, fw, fn, ⟨fA, fc, fxs⟩, fat⟩) = SE at *
      try simp only [hsM, hsE] at hset2
      clear hsE hsM
      have hca : Chg (fun _ => False) W1 ((W1.alloc (.cells #[.int .i64 fnum, .int .u8 fw, .int .u64 (fn : Int), .slice fA fxs.length fc, .int .i64 fat] 95)).alloc (.cells #[.int .i64 (r.num : Nat), .int .i64 (r.typ : Nat), .int .i64 (r.slot : Nat)] 93)) := ((Chg.refl _ W1).alloc _).alloc _
      have hkf : Blk ((W1.alloc (.cells #[.int .i64 fnum, .int .u8 fw, .int .u64 (fn : Int), .slice fA fxs.length fc, .int .i64 fat] 95)).alloc (.cells #[.int .i64 (r.num : Nat), .int .i64 (r.typ : Nat), .int .i64 (r.slot : Nat)] 93)) g 95 #[.int .i64 fnum, .int .u8 fw, .int .u64 (fn : Int), .slice fA fxs.length fc, .int .i64 fat] := by rw [← hg]; exact (Blk.new W1 _ _).alloc _
      have hkx : Blk ((W1.alloc (.cells #[.int .i64 fnum, .int .u8 fw, .int .u64 (fn : Int), .slice fA fxs.length fc, .int .i64 fat] 95)).alloc (.cells #[.int .i64 (r.num : Nat), .int .i64 (r.typ : Nat), .int .i64 (r.slot : Nat)] 93)) (g + 1) 93 #[.int .i64 (r.num : Nat), .int .i64 (r.typ : Nat), .int .i64 (r.slot : Nat)] := by
        have h := Blk.new (W1.alloc (.cells #[.int .i64 fnum, .int .u8 fw, .int .u64 (fn : Int), .slice fA fxs.length fc, .int .i64 fat] 95)) 93 #[.int .i64 (r.num : Nat), .int .i64 (r.typ : Nat), .int .i64 (r.slot : Nat)]
        rw [World.size_alloc, hg] at h; exact h
      have HSET2 := hid hset2
      have HSOME2 := hid hsome2
      have HBAD2 := hid hbad2
      clear hset2 hsome2 hbad2 HNONE HSOME HBADR HROW HSET
      generalize r.typ = rty at *
      generalize r.num = rnu at *
      generalize r.slot = rsl at *
      gi_wp2
      have hJ1 := hJ.keep hca (fun _ h => h.elim)
      have hbg : b ≤ g := by omega
      generalize ((W1.alloc (.cells #[.int .i64 fnum, .int .u8 fw, .int .u64 (fn : Int), .slice fA fxs.length fc, .int .i64 fat] 95)).alloc (.cells #[.int .i64 (rnu : Nat), .int .i64 (rty : Nat), .int .i64 (rsl : Nat)] 93)) = Wb at *
      refine ⟨KBl.of_chg hca hbW (fun _ _ _ h => h), fun W2 hc2 => ?_⟩
      have hJ2 := hJ1.keep hc2 (fun x hx => by omega)
      have hkf2 := hc2.blk hkf (by omega)
      have hkx2 := hc2.blk hkx (by omega)
      have hgl := hkf2.lt
      have hxl := hkx2.lt
      have x0 := hkx2.cell 0; have x1 := hkx2.cell 1; have x2 := hkx2.cell 2
      have a0 := hkf2.cell 0; have a1 := hkf2.cell 1; have a2 := hkf2.cell 2; have a3 := hkf2.cell 3; have a4 := hkf2.cell 4
      have c0 := hJ2.rm.cell 0; have c1' := hJ2.rm.cell 1; have c2 := hJ2.rm.cell 2; have c3 := hJ2.rm.cell 3; have c4 := hJ2.rm.cell 4; have c5 := hJ2.rm.cell 5; have c6 := hJ2.rm.cell 6; have c7 := hJ2.rm.cell 7; have c8 := hJ2.rm.cell 8; have c9 := hJ2.rm.cell 9
      have f0 := hJ2.rm.frozen 0; have f1 := hJ2.rm.frozen 1; have f2 := hJ2.rm.frozen 2; have f3 := hJ2.rm.frozen 3; have f4 := hJ2.rm.frozen 4; have f5 := hJ2.rm.frozen 5; have f6 := hJ2.rm.frozen 6; have f7 := hJ2.rm.frozen 7; have f8 := hJ2.rm.frozen 8; have f9 := hJ2.rm.frozen 9
      simp only [List.getElem?_toArray, List.getElem?_cons_zero, List.getElem?_cons_succ] at x0 x1 x2 a0 a1 a2 a3 a4 c0 c1' c2 c3 c4 c5 c6 c7 c8 c9
      have hbW2 : b ≤ W2.heap.size := by omega
      have hml := hJ2.rm.lt
      have hco := HSET2.out W2 hJ2
      have HJ := hid hJ2
      have HCO := hid hco
      have HKF := hid hkf2
      clear hJ hJ1 hJ2 hc2 hca hkf hkx hkf2 hkx2 hlo hg HSET2 hb hbW hco
      gi_wp2
      refine ⟨trivial, (fun _ => by omega), ?_⟩
      refine (CallsIn.inRound l2 ((callsIn_wide (n := m - 1 - 1 - 1)).2 HCO.out)).mono ?_
      rintro e w3 ⟨A', c', rfl, hom, hb3⟩
      have hm3 := HJ.out.rm.below hb3 hml
      clear c0 c1' c2 c3 c4 c5 c6 c7 c8 c9 f0 f1 f2 f3 f4 f5 f6 f7 f8 f9
      have c0 := hm3.cell 0; have c1' := hm3.cell 1; have c2 := hm3.cell 2; have c3 := hm3.cell 3; have c4 := hm3.cell 4; have c5 := hm3.cell 5; have c6 := hm3.cell 6; have c7 := hm3.cell 7; have c8 := hm3.cell 8; have c9 := hm3.cell 9
      have f0 := hm3.frozen 0; have f1 := hm3.frozen 1; have f2 := hm3.frozen 2; have f3 := hm3.frozen 3; have f4 := hm3.frozen 4; have f5 := hm3.frozen 5; have f6 := hm3.frozen 6; have f7 := hm3.frozen 7; have f8 := hm3.frozen 8; have f9 := hm3.frozen 9
      simp only [List.getElem?_toArray, List.getElem?_cons_zero, List.getElem?_cons_succ] at c0 c1' c2 c3 c4 c5 c6 c7 c8 c9
      obtain ⟨hrm, hc4⟩ := mstore hm3 (.int .u8 (SM.k : Int)) (.int .u64 (SM.n0 : Int)) (.int .u64 (SM.n1 : Int)) (.int .u64 (SM.n2 : Int)) (.int .u64 (SM.n3 : Int)) (.int .u64 (SM.n4 : Int)) (.int .u64 (SM.n5 : Int)) (.string SM.s0) (.string SM.s1) (.slice A' SM.l.length c')
      have HRM := hid hrm
      have HC4 := hid hc4
      have HOM := hid hom
      have HB3 := hid hb3
      have hml3 := hm3.lt
      have hf3 := HKF.out.below hb3 hgl
      have hf4 := hc4.blk hf3 (by omega)
      have HF4 := hid hf4
      clear hm3 hrm hc4 hom hb3 hf3 hf4 x0 x1 x2 a0 a1 a2 a3 a4
      by_cases hse : SE = 0
      · have hseb : (SE != 0) = false := by simp [hse]
        have HSE := hid hse
        clear hse
        gi_wp2
        obtain ⟨hj5, hc5⟩ := HSOME2.out _ _ _ HJ.out hbW2 _ _ HSE.out HB3.out HOM.out HRM.out HC4.out
        exact ⟨KBl.of_chg hc5 hbW2 (fun x g1 g2 => by omega), hb7, _, _, _, _, _, _, hj5⟩
      · have hseb : (SE != 0) = true := by simpa using hse
        have HSE := hid (HBAD2.out _ HJ.out hse)
        have HSN := hid hse
        clear hse
        have hk6 := HC4.out.blk ((HK6.out.below HJ.out.bel l6).below HB3.out (by have := HJ.out.sz; omega)) (by omega)
        have hk7 := HC4.out.blk ((HK7.out.below HJ.out.bel l7).below HB3.out (by have := HJ.out.sz; omega)) (by omega)
        have hk8 := HC4.out.blk ((HK8.out.below HJ.out.bel l8).below HB3.out (by have := HJ.out.sz; omega)) (by omega)
        have hbe4 := HJ.out.bel.trans (((HB3.out.mono (by have := HJ.out.sz; omega)).trans (HC4.out.below (B := q) (fun x hx => by omega) (by omega))))
        have hs4 : q + 5 ≤ w3.heap.size := by have := HJ.out.sz; have := HB3.out.size; omega
        have hs5 := HC4.out.size
        have hc24 := (Chg.of_new (S := fun x => x = q + 1) HB3.out).trans HC4.out
        have HC24 := hid hc24
        have HD6 := hid hk6
        have HD7 := hid hk7
        have HD8 := hid hk8
        have HBE := hid hbe4
        clear hk6 hk7 hk8 hbe4 HOM HB3 HRM HC4 hc24
        gi_wp2
        clear c0 c1' c2 c3 c4 c5 c6 c7 c8 c9 f0 f1 f2 f3 f4 f5 f6 f7 f8 f9
        generalize (World.setCell (World.setCell (World.setCell (World.setCell (World.setCell (World.setCell (World.setCell (World.setCell (World.setCell (World.setCell w3 _ _) _ _) _ _) _ _) _ _) _ _) _ _) _ _) _ _) _ _) = W4 at *
        refine wpIn_region_invB (by kernel_rfl) (by kernel_rfl) (RdR19 s g SE fnum fw fn fA fxs.length fc fat) ?_ ?_ ?_
        · exact ⟨undef, undef, undef, undef, undef, (by first | rfl | (simp only [Act.put, List.setIfInBounds_toArray, List.set_cons_succ, List.set_cons_zero])), by simp, by simp, by simp, by simp, by simp, (by simp; exact (HD6.out)), (by simp; exact (HD7.out)), (by simp; exact (HD8.out)), ⟨rfl, rfl, rfl, Nat.le_refl _, fun _ _ _ => rfl⟩⟩
        · intro f a' wx i o ho hf hdep hI
          have hi : i < 8 := (Array.getElem?_eq_some_iff.1 ho).1
          have hcase : i = 0 ∨ i = 1 ∨ i = 2 ∨ i = 3 ∨ i = 4 ∨ i = 5 ∨ i = 6 ∨ i = 7 := by omega
          clear hi
          rcases hcase with rfl | rfl | rfl | rfl | rfl | rfl | rfl | rfl
          all_goals
            simp only [List.getElem?_toArray, List.getElem?_cons_zero, List.getElem?_cons_succ, Option.some.injEq] at ho
            subst ho
          · -- 0
            obtain ⟨x0, x1, x2, x3, x4, rfl, h0, h1, h2, h3, h4, k5, k6, k7, hC⟩ := hI
            have H0' := hid h0; have H1' := hid h1; have H2' := hid h2; have H3' := hid h3; have H4' := hid h4; have K5' := hid k5; have K6' := hid k6; have K7' := hid k7; have HC' := hid hC; clear h0 h1 h2 h3 h4 k5 k6 k7 hC
            try simp only [Act.put, List.setIfInBounds_toArray, List.set_cons_succ, List.set_cons_zero]
            gi_wp2
            have h0 := H0'.out; have h1 := H1'.out; have h2 := H2'.out; have h3 := H3'.out; have h4 := H4'.out; have k5 := K5'.out; have k6 := K6'.out; have k7 := K7'.out; have hC := HC'.out
            exact ⟨_, x1, x2, x3, x4, (by first | rfl | (simp only [Act.put, List.setIfInBounds_toArray, List.set_cons_succ, List.set_cons_zero])), (fun _ => rfl), (fun h => h1 (by simpa using h)), (fun h => h2 (by simpa using h)), (fun h => h3 (by simpa using h)), (fun h => h4 (by simpa using h)), (by simpa using k5), (by simpa using k6), (by simpa using k7), hC⟩
          · -- 1
            obtain ⟨x0, x1, x2, x3, x4, rfl, h0, h1, h2, h3, h4, k5, k6, k7, hC⟩ := hI
            have H0' := hid h0; have H1' := hid h1; have H2' := hid h2; have H3' := hid h3; have H4' := hid h4; have K5' := hid k5; have K6' := hid k6; have K7' := hid k7; have HC' := hid hC; clear h0 h1 h2 h3 h4 k5 k6 k7 hC
            try simp only [Act.put, List.setIfInBounds_toArray, List.set_cons_succ, List.set_cons_zero]
            gi_wp2
            have h0 := H0'.out; have h1 := H1'.out; have h2 := H2'.out; have h3 := H3'.out; have h4 := H4'.out; have k5 := K5'.out; have k6 := K6'.out; have k7 := K7'.out; have hC := HC'.out
            exact ⟨x0, _, x2, x3, x4, (by first | rfl | (simp only [Act.put, List.setIfInBounds_toArray, List.set_cons_succ, List.set_cons_zero])), (fun h => h0 (by simpa using h)), (fun _ => rfl), (fun h => h2 (by simpa using h)), (fun h => h3 (by simpa using h)), (fun h => h4 (by simpa using h)), (by simpa using k5), (by simpa using k6), (by simpa using k7), hC⟩
          · -- 2
            obtain ⟨x0, x1, x2, x3, x4, rfl, h0, h1, h2, h3, h4, k5, k6, k7, hC⟩ := hI
            have H0' := hid h0; have H1' := hid h1; have H2' := hid h2; have H3' := hid h3; have H4' := hid h4; have K5' := hid k5; have K6' := hid k6; have K7' := hid k7; have HC' := hid hC; clear h0 h1 h2 h3 h4 k5 k6 k7 hC
            try simp only [Act.put, List.setIfInBounds_toArray, List.set_cons_succ, List.set_cons_zero]
            gi_wp2
            have h0 := H0'.out; have h1 := H1'.out; have h2 := H2'.out; have h3 := H3'.out; have h4 := H4'.out; have k5 := K5'.out; have k6 := K6'.out; have k7 := K7'.out; have hC := HC'.out
            exact ⟨x0, x1, _, x3, x4, (by first | rfl | (simp only [Act.put, List.setIfInBounds_toArray, List.set_cons_succ, List.set_cons_zero])), (fun h => h0 (by simpa using h)), (fun h => h1 (by simpa using h)), (fun _ => rfl), (fun h => h3 (by simpa using h)), (fun h => h4 (by simpa using h)), (by simpa using k5), (by simpa using k6), (by simpa using k7), hC⟩
          · -- 3
            obtain ⟨x0, x1, x2, x3, x4, rfl, h0, h1, h2, h3, h4, k5, k6, k7, hC⟩ := hI
            simp [Region.binds] at hdep
            obtain rfl := h2 (by first | exact hdep | exact hdep.1 | exact hdep.2 | exact hdep.2.1 | exact hdep.2.2 | exact hdep.2.2.1 | exact hdep.2.2.2 | simp_all)
            have t0 := (hC.blk HF4.out (by omega)).cell 4
            simp only [List.getElem?_toArray, List.getElem?_cons_zero, List.getElem?_cons_succ] at t0
            have H0' := hid h0; have H1' := hid h1; have H2' := hid h2; have H3' := hid h3; have H4' := hid h4; have K5' := hid k5; have K6' := hid k6; have K7' := hid k7; have HC' := hid hC; clear h0 h1 h2 h3 h4 k5 k6 k7 hC
            try simp only [Act.put, List.setIfInBounds_toArray, List.set_cons_succ, List.set_cons_zero]
            gi_wp2
            have h0 := H0'.out; have h1 := H1'.out; have h2 := H2'.out; have h3 := H3'.out; have h4 := H4'.out; have k5 := K5'.out; have k6 := K6'.out; have k7 := K7'.out; have hC := HC'.out
            exact ⟨x0, x1, _, _, x4, (by first | rfl | (simp only [Act.put, List.setIfInBounds_toArray, List.set_cons_succ, List.set_cons_zero])), (fun h => h0 (by simpa using h)), (fun h => h1 (by simpa using h)), (fun _ => rfl), (fun _ => rfl), (fun h => h4 (by simpa using h)), (by simpa using k5), (by simpa using k6), (by simpa using k7), hC⟩
          · -- 4
            obtain ⟨x0, x1, x2, x3, x4, rfl, h0, h1, h2, h3, h4, k5, k6, k7, hC⟩ := hI
            simp [Region.binds] at hdep
            obtain rfl := h1 (by first | exact hdep | exact hdep.1 | exact hdep.2 | exact hdep.2.1 | exact hdep.2.2 | exact hdep.2.2.1 | exact hdep.2.2.2 | simp_all)
            obtain rfl := h3 (by first | exact hdep | exact hdep.1 | exact hdep.2 | exact hdep.2.1 | exact hdep.2.2 | exact hdep.2.2.1 | exact hdep.2.2.2 | simp_all)
            have H0' := hid h0; have H1' := hid h1; have H2' := hid h2; have H3' := hid h3; have H4' := hid h4; have K5' := hid k5; have K6' := hid k6; have K7' := hid k7; have HC' := hid hC; clear h0 h1 h2 h3 h4 k5 k6 k7 hC
            try simp only [Act.put, List.setIfInBounds_toArray, List.set_cons_succ, List.set_cons_zero]
            gi_wp2
            have h0 := H0'.out; have h1 := H1'.out; have h2 := H2'.out; have h3 := H3'.out; have h4 := H4'.out; have k5 := K5'.out; have k6 := K6'.out; have k7 := K7'.out; have hC := HC'.out
            exact ⟨x0, _, x2, _, _, (by first | rfl | (simp only [Act.put, List.setIfInBounds_toArray, List.set_cons_succ, List.set_cons_zero])), (fun h => h0 (by simpa using h)), (fun _ => rfl), (fun h => h2 (by simpa using h)), (fun _ => rfl), (fun _ => rfl), (by simpa using k5), (by simpa using k6), (by simpa using k7), hC⟩
          · -- 5
            obtain ⟨x0, x1, x2, x3, x4, rfl, h0, h1, h2, h3, h4, k5, k6, k7, hC⟩ := hI
            simp [Region.binds] at hdep
            obtain rfl := h0 (by first | exact hdep | exact hdep.1 | exact hdep.2 | exact hdep.2.1 | exact hdep.2.2 | exact hdep.2.2.1 | exact hdep.2.2.2 | simp_all)
            have hko : Blk wx (s) 27 #[.int .u8 0, .int .u64 0, .int .u64 0, .int .u64 0, .int .u64 0, .int .u64 0, .int .u64 0, .string ⟨#[]⟩, .string ⟨#[]⟩, .slice none 0 0] := by have h := k5; rw [hf] at h; simpa using h
            have y0 := hko.cell 0; have z0 := hko.frozen 0
            have y1 := hko.cell 1; have z1 := hko.frozen 1
            have y2 := hko.cell 2; have z2 := hko.frozen 2
            have y3 := hko.cell 3; have z3 := hko.frozen 3
            have y4 := hko.cell 4; have z4 := hko.frozen 4
            have y5 := hko.cell 5; have z5 := hko.frozen 5
            have y6 := hko.cell 6; have z6 := hko.frozen 6
            have y7 := hko.cell 7; have z7 := hko.frozen 7
            have y8 := hko.cell 8; have z8 := hko.frozen 8
            have y9 := hko.cell 9; have z9 := hko.frozen 9
            simp only [List.getElem?_toArray, List.getElem?_cons_zero, List.getElem?_cons_succ] at y0 y1 y2 y3 y4 y5 y6 y7 y8 y9
            have HKO := hid hko; clear hko
            have H0' := hid h0; have H1' := hid h1; have H2' := hid h2; have H3' := hid h3; have H4' := hid h4; have K5' := hid k5; have K6' := hid k6; have K7' := hid k7; have HC' := hid hC; clear h0 h1 h2 h3 h4 k5 k6 k7 hC
            try simp only [Act.put, List.setIfInBounds_toArray, List.set_cons_succ, List.set_cons_zero]
            gi_wp2
            have h0 := H0'.out; have h1 := H1'.out; have h2 := H2'.out; have h3 := H3'.out; have h4 := H4'.out; have k5 := K5'.out; have k6 := K6'.out; have k7 := K7'.out; have hC := HC'.out
            obtain ⟨hkn, hcn⟩ := mstore HKO.out _ _ _ _ _ _ _ _ _ _
            exact ⟨_, x1, x2, x3, x4, (by first | rfl | (simp only [Act.put, List.setIfInBounds_toArray, List.set_cons_succ, List.set_cons_zero])), (fun _ => rfl), (fun h => h1 (by simpa using h)), (fun h => h2 (by simpa using h)), (fun h => h3 (by simpa using h)), (fun h => h4 (by simpa using h)), (by simpa using hkn), (hcn.blk (by simpa using k6) (by omega)), (hcn.blk (by simpa using k7) (by omega)), (hC.trans (hcn.mono (fun q _ hq => by subst hq; simp)))⟩
          · -- 6
            obtain ⟨x0, x1, x2, x3, x4, rfl, h0, h1, h2, h3, h4, k5, k6, k7, hC⟩ := hI
            have hko : Blk wx (s + 1) 87 #[.slice none 0 0] := by have h := k6; rw [hf] at h; simpa using h
            have y0 := hko.cell 0; have z0 := hko.frozen 0
            simp only [List.getElem?_toArray, List.getElem?_cons_zero] at y0
            have HKO := hid hko; clear hko
            have H0' := hid h0; have H1' := hid h1; have H2' := hid h2; have H3' := hid h3; have H4' := hid h4; have K5' := hid k5; have K6' := hid k6; have K7' := hid k7; have HC' := hid hC; clear h0 h1 h2 h3 h4 k5 k6 k7 hC
            try simp only [Act.put, List.setIfInBounds_toArray, List.set_cons_succ, List.set_cons_zero]
            gi_wp2
            have h0 := H0'.out; have h1 := H1'.out; have h2 := H2'.out; have h3 := H3'.out; have h4 := H4'.out; have k5 := K5'.out; have k6 := K6'.out; have k7 := K7'.out; have hC := HC'.out
            obtain ⟨hkn, hcn⟩ := ostore HKO.out _
            exact ⟨x0, x1, x2, x3, x4, (by first | rfl | (simp only [Act.put, List.setIfInBounds_toArray, List.set_cons_succ, List.set_cons_zero])), (fun h => h0 (by simpa using h)), (fun h => h1 (by simpa using h)), (fun h => h2 (by simpa using h)), (fun h => h3 (by simpa using h)), (fun h => h4 (by simpa using h)), (hcn.blk (by simpa using k5) (by omega)), (by simpa using hkn), (hcn.blk (by simpa using k7) (by omega)), (hC.trans (hcn.mono (fun q _ hq => by subst hq; simp)))⟩
          · -- 7
            obtain ⟨x0, x1, x2, x3, x4, rfl, h0, h1, h2, h3, h4, k5, k6, k7, hC⟩ := hI
            simp [Region.binds] at hdep
            obtain rfl := h4 (by first | exact hdep | exact hdep.1 | exact hdep.2 | exact hdep.2.1 | exact hdep.2.2 | exact hdep.2.2.1 | exact hdep.2.2.2 | simp_all)
            have hko : Blk wx (s + 1 + 1) 33 #[.int .i64 0, .int .i64 0] := by have h := k7; rw [hf] at h; simpa using h
            have y0 := hko.cell 0; have z0 := hko.frozen 0
            have y1 := hko.cell 1; have z1 := hko.frozen 1
            simp only [List.getElem?_toArray, List.getElem?_cons_zero, List.getElem?_cons_succ] at y0 y1
            have HKO := hid hko; clear hko
            have H0' := hid h0; have H1' := hid h1; have H2' := hid h2; have H3' := hid h3; have H4' := hid h4; have K5' := hid k5; have K6' := hid k6; have K7' := hid k7; have HC' := hid hC; clear h0 h1 h2 h3 h4 k5 k6 k7 hC
            try simp only [Act.put, List.setIfInBounds_toArray, List.set_cons_succ, List.set_cons_zero]
            gi_wp2
            have h0 := H0'.out; have h1 := H1'.out; have h2 := H2'.out; have h3 := H3'.out; have h4 := H4'.out; have k5 := K5'.out; have k6 := K6'.out; have k7 := K7'.out; have hC := HC'.out
            obtain ⟨hkn, hcn⟩ := fstore HKO.out _ _
            exact ⟨x0, x1, x2, x3, _, (by first | rfl | (simp only [Act.put, List.setIfInBounds_toArray, List.set_cons_succ, List.set_cons_zero])), (fun h => h0 (by simpa using h)), (fun h => h1 (by simpa using h)), (fun h => h2 (by simpa using h)), (fun h => h3 (by simpa using h)), (fun _ => rfl), (hcn.blk (by simpa using k5) (by omega)), (hcn.blk (by simpa using k6) (by omega)), (by simpa using hkn), (hC.trans (hcn.mono (fun q _ hq => by subst hq; simp)))⟩
        · intro f a' wx hall hI
          obtain ⟨x0, x1, x2, x3, x4, rfl, h0, h1, h2, h3, h4, k5, k6, k7, hC⟩ := hI
          obtain rfl := h0 (hall 0 (by simp))
          obtain rfl := h1 (hall 1 (by simp))
          obtain rfl := h2 (hall 2 (by simp))
          obtain rfl := h3 (hall 3 (by simp))
          obtain rfl := h4 (hall 4 (by simp))
          have kf5 := k5; rw [hall 5 (by simp), if_pos rfl] at kf5
          have kf6 := k6; rw [hall 6 (by simp), if_pos rfl] at kf6
          have kf7 := k7; rw [hall 7 (by simp), if_pos rfl] at kf7
          clear h0 h1 h2 h3 h4 k5 k6 k7 hall f
          try simp only [Act.put, List.setIfInBounds_toArray, List.set_cons_succ, List.set_cons_zero]
          gi_wp2
          have hc9 : Chg (fun x => x = s ∨ x = s + 1 ∨ x = s + 1 + 1 ∨ x = q + 1) W2 wx := (HC24.out.mono (fun x _ hx => by omega)).trans (hC.mono (fun x _ hx => by omega))
          refine ⟨KBl.of_chg hc9 hbW2 (fun x g1 g2 => by omega), rfl, hb7, SE, fat, HSN.out, HSE.out.1, HSE.out.2, kf5, kf6, kf7, HBW2.out.trans ((HBE.out.mono hsle').trans (hC.below (B := s) (fun x hx => by omega) (by omega))), by have := hC.size; omega⟩
  · rintro b W1 hb ⟨hb7, M, oth, A1, c1, Ao, co, hJ⟩ hd
    have HJ := hid hJ
    have HD := hid hd
    have hk6 := HK6.out.below hJ.bel l6
    have hk7 := HK7.out.below hJ.bel l7
    have hk8 := HK8.out.below hJ.bel l8
    have HD6 := hid hk6
    have HD7 := hid hk7
    have HD8 := hid hk8
    have hsz5 := hJ.sz
    clear hJ hd hk6 hk7 hk8
    obtain ⟨ol, hol⟩ : ∃ ol, oth.length = ol := ⟨_, rfl⟩
    have hJm := HJ.out.rm
    have hJo := HJ.out.ro
    rw [hol] at hJo
    have HJM := hid hJm
    have HJO := hid hJo
    have HOL := hid hol
    clear hJm hJo hol
    gi_wp2
    refine wpIn_region_invB (by kernel_rfl) (by kernel_rfl) (RdR20 s q M A1 c1 Ao ol co) ?_ ?_ ?_
    · exact ⟨undef, undef, undef, (by first | rfl | (simp only [Act.put, List.setIfInBounds_toArray, List.set_cons_succ, List.set_cons_zero])), by simp, by simp, by simp, (by simp; exact (HD6.out)), (by simp; exact (HD7.out)), (by simp; exact (HD8.out)), ⟨rfl, rfl, rfl, Nat.le_refl _, fun _ _ _ => rfl⟩⟩
    · intro f a' wx i o ho hf hdep hI
      have hi : i < 6 := (Array.getElem?_eq_some_iff.1 ho).1
      have hcase : i = 0 ∨ i = 1 ∨ i = 2 ∨ i = 3 ∨ i = 4 ∨ i = 5 := by omega
      clear hi
      rcases hcase with rfl | rfl | rfl | rfl | rfl | rfl
      all_goals
        simp only [List.getElem?_toArray, List.getElem?_cons_zero, List.getElem?_cons_succ, Option.some.injEq] at ho
        subst ho
      · -- 0
        obtain ⟨x0, x1, x2, rfl, h0, h1, h2, k3, k4, k5, hC⟩ := hI
        have hb := hC.blk HJM.out (by omega)
        have t0 := hb.cell 0; have t1 := hb.cell 1; have t2 := hb.cell 2; have t3 := hb.cell 3; have t4 := hb.cell 4; have t5 := hb.cell 5; have t6 := hb.cell 6; have t7 := hb.cell 7; have t8 := hb.cell 8; have t9 := hb.cell 9
        simp only [List.getElem?_toArray, List.getElem?_cons_zero, List.getElem?_cons_succ] at t0 t1 t2 t3 t4 t5 t6 t7 t8 t9
        clear hb
        have H0' := hid h0; have H1' := hid h1; have H2' := hid h2; have K3' := hid k3; have K4' := hid k4; have K5' := hid k5; have HC' := hid hC; clear h0 h1 h2 k3 k4 k5 hC
        try simp only [Act.put, List.setIfInBounds_toArray, List.set_cons_succ, List.set_cons_zero]
        gi_wp2
        have h0 := H0'.out; have h1 := H1'.out; have h2 := H2'.out; have k3 := K3'.out; have k4 := K4'.out; have k5 := K5'.out; have hC := HC'.out
        exact ⟨_, x1, x2, (by first | rfl | (simp only [Act.put, List.setIfInBounds_toArray, List.set_cons_succ, List.set_cons_zero])), (fun _ => rfl), (fun h => h1 (by simpa using h)), (fun h => h2 (by simpa using h)), (by simpa using k3), (by simpa using k4), (by simpa using k5), hC⟩
      · -- 1
        obtain ⟨x0, x1, x2, rfl, h0, h1, h2, k3, k4, k5, hC⟩ := hI
        have t0 := (hC.blk HJO.out (by omega)).cell 0
        simp only [List.getElem?_toArray, List.getElem?_cons_zero] at t0
        have H0' := hid h0; have H1' := hid h1; have H2' := hid h2; have K3' := hid k3; have K4' := hid k4; have K5' := hid k5; have HC' := hid hC; clear h0 h1 h2 k3 k4 k5 hC
        try simp only [Act.put, List.setIfInBounds_toArray, List.set_cons_succ, List.set_cons_zero]
        gi_wp2
        have h0 := H0'.out; have h1 := H1'.out; have h2 := H2'.out; have k3 := K3'.out; have k4 := K4'.out; have k5 := K5'.out; have hC := HC'.out
        exact ⟨x0, _, x2, (by first | rfl | (simp only [Act.put, List.setIfInBounds_toArray, List.set_cons_succ, List.set_cons_zero])), (fun h => h0 (by simpa using h)), (fun _ => rfl), (fun h => h2 (by simpa using h)), (by simpa using k3), (by simpa using k4), (by simpa using k5), hC⟩
      · -- 2
        obtain ⟨x0, x1, x2, rfl, h0, h1, h2, k3, k4, k5, hC⟩ := hI
        have H0' := hid h0; have H1' := hid h1; have H2' := hid h2; have K3' := hid k3; have K4' := hid k4; have K5' := hid k5; have HC' := hid hC; clear h0 h1 h2 k3 k4 k5 hC
        try simp only [Act.put, List.setIfInBounds_toArray, List.set_cons_succ, List.set_cons_zero]
        gi_wp2
        have h0 := H0'.out; have h1 := H1'.out; have h2 := H2'.out; have k3 := K3'.out; have k4 := K4'.out; have k5 := K5'.out; have hC := HC'.out
        exact ⟨x0, x1, _, (by first | rfl | (simp only [Act.put, List.setIfInBounds_toArray, List.set_cons_succ, List.set_cons_zero])), (fun h => h0 (by simpa using h)), (fun h => h1 (by simpa using h)), (fun _ => rfl), (by simpa using k3), (by simpa using k4), (by simpa using k5), hC⟩
      · -- 3
        obtain ⟨x0, x1, x2, rfl, h0, h1, h2, k3, k4, k5, hC⟩ := hI
        simp [Region.binds] at hdep
        obtain rfl := h0 (by first | exact hdep | exact hdep.1 | exact hdep.2 | exact hdep.2.1 | exact hdep.2.2 | exact hdep.2.2.1 | exact hdep.2.2.2 | simp_all)
        have hko : Blk wx (s) 27 #[.int .u8 0, .int .u64 0, .int .u64 0, .int .u64 0, .int .u64 0, .int .u64 0, .int .u64 0, .string ⟨#[]⟩, .string ⟨#[]⟩, .slice none 0 0] := by have h := k3; rw [hf] at h; simpa using h
        have y0 := hko.cell 0; have z0 := hko.frozen 0
        have y1 := hko.cell 1; have z1 := hko.frozen 1
        have y2 := hko.cell 2; have z2 := hko.frozen 2
        have y3 := hko.cell 3; have z3 := hko.frozen 3
        have y4 := hko.cell 4; have z4 := hko.frozen 4
        have y5 := hko.cell 5; have z5 := hko.frozen 5
        have y6 := hko.cell 6; have z6 := hko.frozen 6
        have y7 := hko.cell 7; have z7 := hko.frozen 7
        have y8 := hko.cell 8; have z8 := hko.frozen 8
        have y9 := hko.cell 9; have z9 := hko.frozen 9
        simp only [List.getElem?_toArray, List.getElem?_cons_zero, List.getElem?_cons_succ] at y0 y1 y2 y3 y4 y5 y6 y7 y8 y9
        have HKO := hid hko; clear hko
        have H0' := hid h0; have H1' := hid h1; have H2' := hid h2; have K3' := hid k3; have K4' := hid k4; have K5' := hid k5; have HC' := hid hC; clear h0 h1 h2 k3 k4 k5 hC
        try simp only [Act.put, List.setIfInBounds_toArray, List.set_cons_succ, List.set_cons_zero]
        gi_wp2
        have h0 := H0'.out; have h1 := H1'.out; have h2 := H2'.out; have k3 := K3'.out; have k4 := K4'.out; have k5 := K5'.out; have hC := HC'.out
        obtain ⟨hkn, hcn⟩ := mstore HKO.out _ _ _ _ _ _ _ _ _ _
        exact ⟨_, x1, x2, (by first | rfl | (simp only [Act.put, List.setIfInBounds_toArray, List.set_cons_succ, List.set_cons_zero])), (fun _ => rfl), (fun h => h1 (by simpa using h)), (fun h => h2 (by simpa using h)), (by simpa using hkn), (hcn.blk (by simpa using k4) (by omega)), (hcn.blk (by simpa using k5) (by omega)), (hC.trans (hcn.mono (fun q _ hq => by subst hq; simp)))⟩
      · -- 4
        obtain ⟨x0, x1, x2, rfl, h0, h1, h2, k3, k4, k5, hC⟩ := hI
        simp [Region.binds] at hdep
        obtain rfl := h1 (by first | exact hdep | exact hdep.1 | exact hdep.2 | exact hdep.2.1 | exact hdep.2.2 | exact hdep.2.2.1 | exact hdep.2.2.2 | simp_all)
        have hko : Blk wx (s + 1) 87 #[.slice none 0 0] := by have h := k4; rw [hf] at h; simpa using h
        have y0 := hko.cell 0; have z0 := hko.frozen 0
        simp only [List.getElem?_toArray, List.getElem?_cons_zero] at y0
        have HKO := hid hko; clear hko
        have H0' := hid h0; have H1' := hid h1; have H2' := hid h2; have K3' := hid k3; have K4' := hid k4; have K5' := hid k5; have HC' := hid hC; clear h0 h1 h2 k3 k4 k5 hC
        try simp only [Act.put, List.setIfInBounds_toArray, List.set_cons_succ, List.set_cons_zero]
        gi_wp2
        have h0 := H0'.out; have h1 := H1'.out; have h2 := H2'.out; have k3 := K3'.out; have k4 := K4'.out; have k5 := K5'.out; have hC := HC'.out
        obtain ⟨hkn, hcn⟩ := ostore HKO.out _
        exact ⟨x0, _, x2, (by first | rfl | (simp only [Act.put, List.setIfInBounds_toArray, List.set_cons_succ, List.set_cons_zero])), (fun h => h0 (by simpa using h)), (fun _ => rfl), (fun h => h2 (by simpa using h)), (hcn.blk (by simpa using k3) (by omega)), (by simpa using hkn), (hcn.blk (by simpa using k5) (by omega)), (hC.trans (hcn.mono (fun q _ hq => by subst hq; simp)))⟩
      · -- 5
        obtain ⟨x0, x1, x2, rfl, h0, h1, h2, k3, k4, k5, hC⟩ := hI
        simp [Region.binds] at hdep
        obtain rfl := h2 (by first | exact hdep | exact hdep.1 | exact hdep.2 | exact hdep.2.1 | exact hdep.2.2 | exact hdep.2.2.1 | exact hdep.2.2.2 | simp_all)
        have hko : Blk wx (s + 1 + 1) 33 #[.int .i64 0, .int .i64 0] := by have h := k5; rw [hf] at h; simpa using h
        have y0 := hko.cell 0; have z0 := hko.frozen 0
        have y1 := hko.cell 1; have z1 := hko.frozen 1
        simp only [List.getElem?_toArray, List.getElem?_cons_zero, List.getElem?_cons_succ] at y0 y1
        have HKO := hid hko; clear hko
        have H0' := hid h0; have H1' := hid h1; have H2' := hid h2; have K3' := hid k3; have K4' := hid k4; have K5' := hid k5; have HC' := hid hC; clear h0 h1 h2 k3 k4 k5 hC
        try simp only [Act.put, List.setIfInBounds_toArray, List.set_cons_succ, List.set_cons_zero]
        gi_wp2
        have h0 := H0'.out; have h1 := H1'.out; have h2 := H2'.out; have k3 := K3'.out; have k4 := K4'.out; have k5 := K5'.out; have hC := HC'.out
        obtain ⟨hkn, hcn⟩ := fstore HKO.out _ _
        exact ⟨x0, x1, _, (by first | rfl | (simp only [Act.put, List.setIfInBounds_toArray, List.set_cons_succ, List.set_cons_zero])), (fun h => h0 (by simpa using h)), (fun h => h1 (by simpa using h)), (fun _ => rfl), (hcn.blk (by simpa using k3) (by omega)), (hcn.blk (by simpa using k4) (by omega)), (by simpa using hkn), (hC.trans (hcn.mono (fun q _ hq => by subst hq; simp)))⟩
    · intro f a' wx hall hI
      obtain ⟨x0, x1, x2, rfl, h0, h1, h2, k3, k4, k5, hC⟩ := hI
      obtain rfl := h0 (hall 0 (by simp))
      obtain rfl := h1 (hall 1 (by simp))
      obtain rfl := h2 (hall 2 (by simp))
      have kf3 := k3; rw [hall 3 (by simp), if_pos rfl] at kf3
      have kf4 := k4; rw [hall 4 (by simp), if_pos rfl] at kf4
      have kf5 := k5; rw [hall 5 (by simp), if_pos rfl] at kf5
      clear h0 h1 h2 k3 k4 k5 hall f
      try simp only [Act.put, List.setIfInBounds_toArray, List.set_cons_succ, List.set_cons_zero]
      have hM : Marks (q + 5) wx [q + 5] := (Marks.nil_ _ _).cons_ (Nat.le_refl _) (by simp) ((hC.block (q + 5) (Array.getElem?_eq_some_iff.1 HD.out).1 (by omega)).trans HD.out)
      gi_wp2
      refine leaves_marks (q + 5) [q + 5] _ hM fun W6 h6 => ?_
      have hj6 := h6.blk kf3 (by simp; omega)
      have hj7 := h6.blk kf4 (by simp; omega)
      have hj8 := h6.blk kf5 (by simp; omega)
      have x0 := hj6.cell 0; have x1 := hj6.cell 1; have x2 := hj6.cell 2; have x3 := hj6.cell 3; have x4 := hj6.cell 4; have x5 := hj6.cell 5; have x6 := hj6.cell 6; have x7 := hj6.cell 7; have x8 := hj6.cell 8; have x9 := hj6.cell 9
      have y0 := hj7.cell 0
      have z0 := hj8.cell 0
      have z1 := hj8.cell 1
      simp only [List.getElem?_toArray, List.getElem?_cons_zero, List.getElem?_cons_succ] at x0 x1 x2 x3 x4 x5 x6 x7 x8 x9 y0 z0 z1
      refine ⟨.tuple #[.agg #[.int .u8 (M.k : Int), .int .u64 (M.n0 : Int), .int .u64 (M.n1 : Int), .int .u64 (M.n2 : Int), .int .u64 (M.n3 : Int), .int .u64 (M.n4 : Int), .int .u64 (M.n5 : Int), .string M.s0, .string M.s1, .slice A1 M.l.length c1], .slice Ao ol co, .agg #[.int .i64 0, .int .i64 0]], by simp [results, Try.results53, go_sem, x0, x1, x2, x3, x4, x5, x6, x7, x8, x9, y0, z0, z1], ?_⟩
      obtain ⟨ro, g1, g2, g3⟩ := HJ.out.fin
      rw [List.drop_eq_nil_of_le (by have := fvAll_len HALL.out; have := HNP.out; omega)] at g3
      have g4 : decF L M0 FS = (M, ro, 0, 0) := by rw [g3]; simp [decF]
      have hcA : Chg (fun x => x = s ∨ x = s + 1 ∨ x = s + 1 + 1 ∨ x = q + 5) W1 W6 := (hC.mono (fun x _ hx => by omega)).trans (h6.mono (fun x _ hx => by simp at hx; omega))
      rw [HQ.out, HRR.out, g4, if_neg (by simp), ← HOL.out]
      have hbf : Below s w W6 := (HBW2.out.trans (HJ.out.bel.mono hsle')).trans (hcA.below (B := s) (fun x hx => by omega) (by omega))
      refine ⟨A1, c1, oth, Ao, co, rfl, ?_, ?_, g1, fun f hf => ?_, by rw [hsz]; exact hbf⟩
      · rw [hsz]; exact own_mono (own_chgS HJ.out.om hcA (fun g hg hx => by have := (HJ.out.om.lt g hg).1; omega)) (by omega)
      · rw [hsz]; exact own_mono (own_chgS HJ.out.oo hcA (fun g hg hx => by have := (HJ.out.oo.lt g hg).1; omega)) (by omega)
      · have hfp := HJ.out.sub f hf
        have hsl1 := HS3.out f hfp W1 HJ.out.bel
        refine hcA.sl hsl1 (n := f.s.xs.length) (fun hp bb off e hx => ?_) (by simp)
        have h3 := HFAR.out f hfp hp bb off e
        obtain ⟨b2, o2, e2, hlt2, -⟩ := (HS3.out f hfp w2 (Below.refl _ _)).rd 0 (bv (f.s.xs[0]'hp)) (by simp [List.getElem?_eq_getElem hp])
        have e3 : b2 = bb := by rw [e] at e2; injection e2 with e2; injection e2 with e2; exact e2.symm
        have h5 := HQ2.out
        omega
  · rintro b c' W1 hb ⟨rfl, hb7, E, at_, hE0, h1, h2, hX⟩ hd
    gi_wp2
    have hM : Marks (q + 5) W1 [q + 5] := (Marks.nil_ _ _).cons_ (Nat.le_refl _) (by simp) hd
    refine leaves_marks (q + 5) [q + 5] W1 hM fun W6 h6 => ?_
    have hj6 := hX.keep hsle h6 (fun q hq => by simp at hq; omega)
    have x0 := hj6.r6.cell 0; have x1 := hj6.r6.cell 1; have x2 := hj6.r6.cell 2; have x3 := hj6.r6.cell 3; have x4 := hj6.r6.cell 4; have x5 := hj6.r6.cell 5; have x6 := hj6.r6.cell 6; have x7 := hj6.r6.cell 7; have x8 := hj6.r6.cell 8; have x9 := hj6.r6.cell 9
    have y0 := hj6.r7.cell 0
    have z0 := hj6.r8.cell 0
    have z1 := hj6.r8.cell 1
    simp only [List.getElem?_toArray, List.getElem?_cons_zero, List.getElem?_cons_succ] at x0 x1 x2 x3 x4 x5 x6 x7 x8 x9 y0 z0 z1
    refine ⟨.tuple #[.agg #[.int .u8 0, .int .u64 0, .int .u64 0, .int .u64 0, .int .u64 0, .int .u64 0, .int .u64 0, .string ⟨#[]⟩, .string ⟨#[]⟩, .slice none 0 0], .slice none 0 0, .agg #[.int .i64 E, .int .i64 at_]], by simp [results, Try.results53, go_sem, x0, x1, x2, x3, x4, x5, x6, x7, x8, x9, y0, z0, z1], ?_⟩
    rw [HQ.out, HRR.out, if_pos (by rw [h1]; exact hE0), ← h1, ← h2]
    exact ReadR.bad (by rw [hsz]; exact hj6.bel)
end Go.Proofs.Ytnfodgjihdoncaa
