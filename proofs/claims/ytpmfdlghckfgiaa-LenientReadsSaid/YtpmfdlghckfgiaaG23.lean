/- The document's Unknown. · The walk of LenientReads. -/
import Derived.Test.YtpmfdlghckfgiaaLenRDec
import Derived.Test.YtpmfdlghckfgiaaLenBm
import Derived.Test.YtpmfdlghckfgiaaG20
import Derived.Test.YtpmfdlghckfgiaaG6
import Derived.Test.YtpmfdlghckfgiaaG3
set_option linter.unusedVariables false
namespace Go.Proofs.Ytpmfdlghckfgiaa
open Go.RowKit
def nonR (L : List SRow) (f : RF × Nat) : Bool := (ownR L f.1.num f.1.w).isNone
theorem decF_oth {L : List SRow} : ∀ (FS : List (RF × Nat)) (M : MV), (decF L M FS).2.2.1 = 0 → (decF L M FS).2.1 = FS.filter (nonR L)
  | [], M, _ => by simp [decF]
  | f :: fs, M, h => by
    cases ho : ownR L f.1.num f.1.w with
    | none =>
      rw [decF_none ho] at h ⊢
      rw [List.filter_cons_of_pos (by unfold nonR; rw [ho]; rfl)]
      simp only
      rw [decF_oth fs M h]
    | some r =>
      rw [List.filter_cons_of_neg (by unfold nonR; rw [ho]; simp)]
      by_cases he : setE M (r.typ : Int) (r.slot : Int) (rfS f) = 0
      · rw [decF_ok ho he] at h ⊢
        exact decF_oth fs _ h
      · rw [decF_bad ho he] at h
        exact absurd h he
/-- What holds between two rounds. -/
structure UnJ (s q : Nat) (w w2 : World) (L : List SRow) (pre : List FV) (FS : List (RF × Nat)) (j : Nat) (oth : List FV) (Ao : Option Addr) (co : Nat) (W : World) : Prop where
  kf : Blk W s 32 #[.int .i64 0, .int .i64 0]
  oo : W.ownsRow q 50 5 (.slice Ao oth.length co) oth.length (oth.flatMap fvC)
  bel : Below s w W
  bq : Below q w2 W
  len : oth.length ≤ j
  sub : ∀ f ∈ oth, f ∈ pre
  fin : fvAll oth ((FS.take j).filter (nonR L))
theorem take_get {α : Type} {l : List α} {j : Nat} {x : α} (h : l[j]? = some x) : l.take (j + 1) = l.take j ++ [x] := by
  obtain ⟨h1, h2⟩ := List.getElem?_eq_some_iff.1 h
  rw [← h2]; simp
section
variable {s q : Nat} {w w2 W W' : World} {L : List SRow} {pre : List FV} {FS : List (RF × Nat)} {j : Nat} {oth : List FV} {Ao : Option Addr} {co : Nat}
theorem UnJ.skip (h : UnJ s q w w2 L pre FS j oth Ao co W) (hq : s < q) (hb : Below W.heap.size W W') (r : RF × Nat) (hr : FS[j]? = some r) (ho : (ownR L r.1.num r.1.w).isNone = false) (hqw : q ≤ W.heap.size) : UnJ s q w w2 L pre FS (j + 1) oth Ao co W' := by
  refine ⟨h.kf.below hb h.kf.lt, own_below h.oo hb, h.bel.trans (hb.mono (by omega)), h.bq.trans (hb.mono hqw), by have := h.len; omega, h.sub, ?_⟩
  rw [take_get hr, List.filter_append, List.filter_cons_of_neg (by unfold nonR; rw [ho]; simp)]
  simpa using h.fin
theorem UnJ.add (h : UnJ s q w w2 L pre FS j oth Ao co W) (hq : s < q) (hqw : q ≤ W.heap.size) (f : FV) (hf : f ∈ pre) (r : RF × Nat) (hr : FS[j]? = some r) (hfr : fvOf f r) (ho : (ownR L r.1.num r.1.w).isNone = true) {W1 : World} (hb : Below W.heap.size W W1) (hg : W1.grownBy W' (Value.slice Ao oth.length co).ownBlock) {A' : Option Addr} {c' : Nat}
    (ho' : W'.ownsRow q 50 5 (.slice A' (oth.length + 1) c') (oth.length + 1) (oth.flatMap fvC ++ fvC f)) : UnJ s q w w2 L pre FS (j + 1) (oth ++ [f]) A' c' W' := by
  have hc : Chg (fun x => q ≤ x) W W' := (Chg.of_new hb).trans (Chg.of_grown hg fun g e => (h.oo.lt g e).1)
  have hle : (oth ++ [f]).length = oth.length + 1 := by simp
  refine ⟨hc.blk h.kf (by omega), ?_, h.bel.trans (hc.below (fun x hx => by omega) (by omega)), h.bq.trans (hc.below (fun x hx => hx) hqw), by have := h.len; omega, ?_, ?_⟩
  · rw [hle, List.flatMap_append]; simpa using ho'
  · intro x hx
    rcases List.mem_append.1 hx with hx | hx
    · exact h.sub x hx
    · rw [List.mem_singleton] at hx; rw [hx]; exact hf
  · rw [take_get hr, List.filter_append, List.filter_cons_of_pos (by unfold nonR; rw [ho])]
    exact fvAll_snoc h.fin hfr
end
def RuR3 (s p : Nat) (E P : Int) (a0 : Act) (w0 : World) (f : Nat → Bool) (a : Act) (w : World) : Prop := ∃ x0 x1 : Value, a = ((a0.put (some 26) x0).put (some 6) x1) ∧ (f 0 = true → x0 = .agg #[.int .i64 E, .int .i64 P]) ∧ (f 1 = true → x1 = .slice none 0 0) ∧ Blk w (s) 32 (if f 2 = true then #[.int .i64 E, .int .i64 P] else #[.int .i64 0, .int .i64 0]) ∧ Chg (fun q => q = s) w0 w
set_option maxRecDepth 100000 in
set_option maxHeartbeats 8000000 in
theorem runk11_any (k : Nat) (v : Int) (bs : List UInt8) (n : Nat) (A : Option Addr) (c : Nat) (w : World) (hk : k ≤ 255) (hv1 : -9223372036854775808 ≤ v) (hv2 : v ≤ 9223372036854775807) (hn : bs.length = n) (hs : Sl w A c (bs.map bv)) : Calls Try.prog 10 #[.int .u8 (k : Int), .int .i64 v, .slice A n c] w (UnkR w (readR k v bs)) := by
  obtain ⟨i5, hi5, hi50, hi51, hi52⟩ := info_parts Try.infoField
  obtain ⟨Q, hQ⟩ : ∃ Q, Q = UnkR w (readR k v bs) := ⟨_, rfl⟩
  rw [← hQ]
  obtain ⟨s, hsz⟩ : ∃ s, w.heap.size = s := ⟨_, rfl⟩
  have hbad : ∀ (M : MV) (E : Int) (P : Nat) w', readR k v bs = (M, [], E, P) → Below s w w' → Q (.returned (.tuple #[.slice none 0 0, .agg #[.int .i64 E, .int .i64 (P : Int)]])) w' := fun M E P w' h hb => by
    rw [hQ, h]
    exact ⟨[], none, 0, rfl, World.ownsRow_nil _ _ _ _, trivial, by simp, by rw [hsz]; exact hb⟩
  have hgood : ∀ (M : MV) O pre Ao co w', readR k v bs = (M, O, 0, 0) → w'.ownsRow s 50 5 (.slice Ao pre.length co) pre.length (pre.flatMap fvC) → fvAll pre O → (∀ f ∈ pre, Sl w' f.s.A f.s.c (f.s.xs.map bv)) → Below s w w' → Q (.returned (.tuple #[.slice Ao pre.length co, .agg #[.int .i64 0, .int .i64 0]])) w' := fun M O pre Ao co w' h ho hall hsl hb => by
    rw [hQ, h]
    exact ⟨pre, Ao, co, rfl, by rw [hsz]; exact ho, hall, hsl, by rw [hsz]; exact hb⟩
  have hways := read_good k v bs
  have hdec := fun W (hW : Below s w W) => rdec11_any k v bs n A c W hk hv1 hv2 hn (hs.below (by rw [hsz]; exact hW))
  obtain ⟨L, hL⟩ : ∃ L, ofL (k : Int) v = L := ⟨_, rfl⟩
  obtain ⟨FR, hFR⟩ : ∃ FR, flds bs n 0 = FR := ⟨_, rfl⟩
  obtain ⟨FS, eN, pN⟩ := FR
  have hoth : (readR k v bs).2.2.1 = 0 → eN = 0 ∧ n ≤ 8192 ∧ (readR k v bs).2.1 = FS.filter (nonR L) := fun h => by
    unfold readR at h ⊢
    rw [hn, hFR, hL] at h
    rw [hn, hFR, hL]
    by_cases c1 : L.length = 0
    · rw [if_pos c1] at h; simp at h
    · rw [if_neg c1] at h ⊢
      by_cases c2 : 8192 < n
      · rw [if_pos c2] at h; simp at h
      · rw [if_neg c2] at h ⊢
        simp only at h ⊢
        by_cases c3 : eN = 0
        · rw [if_neg (by omega)] at h ⊢
          by_cases c4 : (decF L { ZM with k := k } FS).2.2.1 = 0
          · rw [if_neg (by simpa using c4)] at h ⊢
            exact ⟨c3, by omega, decF_oth _ _ c4⟩
          · rw [if_pos c4] at h
            exact absurd h c4
        · rw [if_pos c3] at h
          simp only at h
          omega
  have hfl := fun W (hW : Below s w W) (h : n ≤ 8192) => rflds_any bs n A c W hn (by omega) (hs.below (by rw [hsz]; exact hW))
  rw [hFR] at hfl
  simp only at hfl
  have hread : ∀ pre, n ≤ 8192 → fvAll pre FS → pre.length ≤ n := fun pre h8 h => by
    have h1 := read_ok bs n 0 pre (by omega) (by rw [hFR]; exact h)
    have := h1.1; omega
  have hbc := fun num fw fn fA xl fc fat => rbel_cases (k : Int) v num fw fn fA xl fc fat (by omega) (by omega) hv1 hv2
  rw [hL] at hbc
  obtain ⟨R, hR⟩ : ∃ R, readR k v bs = R := ⟨_, rfl⟩
  rw [hR] at hways hdec hoth hbad hgood
  obtain ⟨M, O, E, P⟩ := R
  simp only at hways hoth
  have hdec2 := fun W (hW : Below s w W) => (hdec W hW).mono (R' := fun e w' => ∃ A' c', e = .returned (.tuple #[.agg #[.int .u8 (M.k : Int), .int .u64 (M.n0 : Int), .int .u64 (M.n1 : Int), .int .u64 (M.n2 : Int), .int .u64 (M.n3 : Int), .int .u64 (M.n4 : Int), .int .u64 (M.n5 : Int), .string M.s0, .string M.s1, .slice A' M.l.length c'], .agg #[.int .i64 E, .int .i64 (P : Int)]]) ∧ Below W.heap.size W w') (by rintro e w' ⟨A', c', rfl, -, hb⟩; exact ⟨A', c', rfl, hb⟩)
  have hone : E ≠ 0 → O = [] := fun h => hways.elim (fun h1 => h1.2.2) (fun h1 => absurd (by have := h1.1; simp only [Prod.mk.injEq] at this; exact this.1) h)
  have hP : E = 0 → P = 0 := fun h => hways.elim (fun h1 => absurd h h1.1) (fun h1 => by have := h1.1; simp only [Prod.mk.injEq] at this; exact this.2)
  have HDEC := hid hdec2
  have HBAD := hid hbad
  have HGOOD := hid hgood
  have HOTH := hid hoth
  have HFL := hid hfl
  have HRD := hid hread
  have HBC := hid hbc
  have HONE := hid hone
  have HP := hid hP
  clear hdec hdec2 hbad hgood hoth hfl hread hbc hways hs hn hQ hFR hL hR hone hP
  have hk0 : Blk (w.alloc (.cells #[.int .i64 0, .int .i64 0] 32)) s 32 #[.int .i64 0, .int .i64 0] := by rw [← hsz]; exact Blk.new w _ _
  have hb0 : Below s w (w.alloc (.cells #[.int .i64 0, .int .i64 0] 32)) := by rw [← hsz]; exact bw_a (Below.refl _ w) _
  have HK0 := hid hk0
  have HB0 := hid hb0
  clear hk0 hb0
  go_enter Try.func10, Try.ntmps10
  go_wp2_with fail
  try rw [hsz]
  refine (HDEC.out _ HB0.out).mono ?_
  rintro e w1 ⟨A0, c0, rfl, hb1⟩
  have hk0 := HK0.out.below hb1 HK0.out.lt
  have hb01 : Below s w w1 := HB0.out.trans (hb1.mono (by have := HB0.out.size; omega))
  have hl1 := hk0.lt
  obtain ⟨p, hp⟩ : ∃ p, w1.heap.size = p := ⟨_, rfl⟩
  obtain ⟨W3, hW3⟩ : ∃ W3, (w1.alloc (.cells #[.int .u8 (M.k : Int), .int .u64 (M.n0 : Int), .int .u64 (M.n1 : Int), .int .u64 (M.n2 : Int), .int .u64 (M.n3 : Int), .int .u64 (M.n4 : Int), .int .u64 (M.n5 : Int), .string M.s0, .string M.s1, .slice A0 M.l.length c0] 29)).alloc (.cells #[.int .i64 E, .int .i64 (P : Int)] 32) = W3 := ⟨_, rfl⟩
  have hkq : Blk W3 (p + 1) 32 #[.int .i64 E, .int .i64 (P : Int)] := by
    have h := Blk.new (w1.alloc (.cells #[.int .u8 (M.k : Int), .int .u64 (M.n0 : Int), .int .u64 (M.n1 : Int), .int .u64 (M.n2 : Int), .int .u64 (M.n3 : Int), .int .u64 (M.n4 : Int), .int .u64 (M.n5 : Int), .string M.s0, .string M.s1, .slice A0 M.l.length c0] 29)) 32 #[.int .i64 E, .int .i64 (P : Int)]
    rw [World.size_alloc, hW3, hp] at h; exact h
  have hb3 : Below p w1 W3 := by rw [← hW3, ← hp]; exact bw_a (bw_a (Below.refl _ w1) _) _
  have hks := hk0.below hb3 (by omega)
  have hb03 : Below s w W3 := hb01.trans (hb3.mono (by omega))
  have hz3 : W3.heap.size = p + 2 := by rw [← hW3]; simp [hp]
  have HKQ := hid hkq
  have HKS := hid hks
  have HB3 := hid hb03
  have HZ3 := hid hz3
  have HW3 := hid hW3
  have HPS := hid hp
  have hsp : s < p := by omega
  clear hk0 hb01 hb1 hl1 hkq hb3 hks hb03 hz3 hW3 hp
  by_cases hE : E = 0
  · obtain rfl := hE
    obtain rfl : P = 0 := HP.out rfl
    obtain ⟨hF, h8, hO⟩ := HOTH.out rfl
    go_wp2_with fail
    have hw3 := HW3.out
    rw [show ((0 : Nat) : Int) = 0 from rfl] at hw3
    rw [hw3]
    clear hw3
    refine (HFL.out _ HB3.out h8).mono ?_
    rintro e w2 ⟨(⟨-, vv, pre, rfl, ho, hall, hsl⟩ | ⟨h, -⟩), hb2⟩
    rotate_left
    · exact absurd hF h
    have hks := HKS.out.below hb2 HKS.out.lt
    have hb02 : Below s w w2 := HB3.out.trans (hb2.mono (by have := HZ3.out; omega))
    have hs2 : s < w2.heap.size := hks.lt
    obtain ⟨Al, cl, rfl, hsn⟩ := sln_own (by decide) ho
    have hpn := HRD.out pre h8 hall
    obtain ⟨np, hnp⟩ : ∃ np, pre.length = np := ⟨_, rfl⟩
    rw [hnp] at hsn hpn
    have hla := fvAll_len hall
    try rw [hnp]
    obtain ⟨q, hq⟩ : ∃ q, w2.heap.size = q := ⟨_, rfl⟩
    rw [hq] at hs2
    have HSN := hid hsn
    have HALL := hid hall
    have HSL := hid hsl
    have HNP := hid hnp
    have HLA := hid hla
    have HO := hid hO
    have HKS2 := hid hks
    have HB2 := hid hb02
    clear hsn hall hsl hnp hla ho hO hks hb02 hb2 HFL HRD HOTH HW3 HKQ HKS
    go_wp2_with fail
    obtain ⟨Wa, hWa⟩ : ∃ Wa, w2.alloc (.cells #[.int .i64 0, .int .i64 0] 32) = Wa := ⟨_, rfl⟩
    have hba : Below q w2 Wa := by rw [← hWa, ← hq]; exact bw_a (Below.refl _ w2) _
    have hza : Wa.heap.size = q + 1 := by rw [← hWa]; simp [hq]
    have hJ0 : UnJ s q w w2 L pre FS 0 [] none 0 Wa := ⟨HKS2.out.below hba (by omega), World.ownsRow_nil _ _ _ _, HB2.out.trans (hba.mono (by omega)), hba, by simp, by simp, by simp; trivial⟩
    rw [hWa]
    try rw [hq]
    have HJ0 := hid hJ0
    have HQ := hid hq
    have HZA := hid hza
    clear hWa hJ0 hq hba hza
    go_loopw [12, 13, 15] (fun ov i _ wr => ∃ (j : Nat) (oth : List FV) (Ao : Option Addr) (co : Nat), j ≤ np ∧ i = .int .i64 (j : Int) ∧ ov = .slice Ao oth.length co ∧ UnJ s q w w2 L pre FS j oth Ao co wr) (fun _ i _ _ => np - (intOf i).toNat)
    case atStart => exact ⟨0, [], none, 0, by omega, rfl, rfl, HJ0.out⟩
    case round =>
      obtain ⟨j, oth, Ao, co, hj, rfl, rfl, hJ⟩ := hrel
      by_cases hlt : j < np
      · have hjl : j < pre.length := by have := HNP.out; omega
        have hget : pre[j]? = some pre[j] := List.getElem?_eq_getElem hjl
        obtain ⟨r, hr, hfr⟩ := fvAll_at HALL.out j _ hget
        have hfp : pre[j] ∈ pre := List.getElem_mem hjl
        have hsnw := HSN.out.below (w' := wr) (by rw [HQ.out]; exact hJ.bq)
        have hn0 : (pre.flatMap fvC)[j * 5 + 0]? = _ := flatMap_get fvC 5 pre j 0 hjl (fun _ _ => rfl) (by omega)
        have hn1 : (pre.flatMap fvC)[j * 5 + 1]? = _ := flatMap_get fvC 5 pre j 1 hjl (fun _ _ => rfl) (by omega)
        have hn2 : (pre.flatMap fvC)[j * 5 + 2]? = _ := flatMap_get fvC 5 pre j 2 hjl (fun _ _ => rfl) (by omega)
        have hn3 : (pre.flatMap fvC)[j * 5 + 3]? = _ := flatMap_get fvC 5 pre j 3 hjl (fun _ _ => rfl) (by omega)
        have hn4 : (pre.flatMap fvC)[j * 5 + 4]? = _ := flatMap_get fvC 5 pre j 4 hjl (fun _ _ => rfl) (by omega)
        generalize pre[j] = f at *
        obtain ⟨fnum, fw, fn, ⟨fA, fc, fxs⟩, fat⟩ := f
        simp only [fvC, List.getElem?_cons_zero, List.getElem?_cons_succ] at hn0 hn1 hn2 hn3 hn4
        obtain ⟨bl, ol, hA, hbl, t0⟩ := hsnw.rd _ _ hn0
        subst hA
        have t1 := hsnw.rd.addr _ _ hn1
        have t2 := hsnw.rd.addr _ _ hn2
        have t3 := hsnw.rd.addr _ _ hn3
        have t4 := hsnw.rd.addr _ _ hn4
        rw [addr_add] at t1 t2 t3 t4
        simp only [Nat.add_zero, ← Nat.add_assoc] at t0 t1 t2 t3 t4
        have hbe := HBC.out fnum fw fn fA fxs.length fc fat
        have hji : (j : Int) < (np : Int) := by omega
        have hj0 : (0 : Int) ≤ (j : Int) := by omega
        have hqw : q ≤ wr.heap.size := by have := hJ.bq.size; rw [HQ.out] at this; exact this
        obtain ⟨OR, hOR⟩ : ∃ OR, ownR L fnum fw = OR := ⟨_, rfl⟩
        rw [hOR] at hbe
        have hORr : ownR L r.1.num r.1.w = OR := by rw [← hfr.1, ← hfr.2.1]; exact hOR
        have hsk := fun (h : OR.isNone = false) W' (hb : Below wr.heap.size wr W') => hJ.skip (by omega) hb r hr (by rw [hORr]; exact h) hqw
        have had := fun (h : OR.isNone = true) W1 W' (hb : Below wr.heap.size wr W1) hg A' c' => hJ.add (by omega) hqw _ hfp r hr hfr (by rw [hORr]; exact h) (W1 := W1) (W' := W') hb hg (A' := A') (c' := c')
        have hob := hJ.oo
        have hol := hJ.len
        obtain ⟨xl, hxl⟩ : ∃ xl, fxs.length = xl := ⟨_, rfl⟩
        rw [hxl] at t3 hbe
        simp only [fvC, hxl] at had
        have HBE := hid hbe
        have HSK := hid hsk
        have HAD := hid had
        have HOB := hid hob
        have HT := hid (And.intro t0 (And.intro t1 (And.intro t2 (And.intro t3 t4))))
        have HBL := hid hbl
        clear hbe hsk had hJ hbl hfr hr hOR hORr hsnw hget hfp hn0 hn1 hn2 hn3 hn4 hxl hob
        cases OR with
        | some x =>
          have hB := HBE.out.2 x rfl
          obtain ⟨rnu, hrnu⟩ : ∃ n, x.num = n := ⟨_, rfl⟩
          obtain ⟨rty, hrty⟩ : ∃ n, x.typ = n := ⟨_, rfl⟩
          obtain ⟨rsl, hrsl⟩ : ∃ n, x.slot = n := ⟨_, rfl⟩
          rw [hrnu, hrty, hrsl] at hB
          have HBB := hid hB
          clear hB HBE hrnu hrty hrsl
          go_wp2_with fail
          refine (HBB.out _).mono ?_
          rintro e w3 ⟨rfl, hb3⟩
          have hjn := HSK.out rfl _ (bw_a hb3 (.cells #[.int .i64 (rnu : Int), .int .i64 (rty : Int), .int .i64 (rsl : Int)] 48))
          have HJN := hid hjn
          clear hb3 hjn t0 t1 t2 t3 t4
          go_wp2_with fail
          go_roundw
          case rel => exact ⟨j + 1, oth, Ao, co, by omega, by go_num, rfl, HJN.out⟩
          case measure => simp [intOf]; omega
        | none =>
          obtain ⟨a0, b0, c5, hB⟩ := HBE.out.1 rfl
          have HBB := hid hB
          clear hB HBE
          go_wp2_with fail
          refine (HBB.out _).mono ?_
          rintro e w3 ⟨rfl, hb3⟩
          have u0 := (hb3.cell (p := ⟨bl, ol + j * 5, none⟩) HBL.out).trans HT.out.1
          have u1 := (hb3.cell (p := ⟨bl, ol + j * 5 + 1, none⟩) HBL.out).trans HT.out.2.1
          have u2 := (hb3.cell (p := ⟨bl, ol + j * 5 + 2, none⟩) HBL.out).trans HT.out.2.2.1
          have u3 := (hb3.cell (p := ⟨bl, ol + j * 5 + 3, none⟩) HBL.out).trans HT.out.2.2.2.1
          have u4 := (hb3.cell (p := ⟨bl, ol + j * 5 + 4, none⟩) HBL.out).trans HT.out.2.2.2.2
          have hbl3 : bl < w3.heap.size := Nat.lt_of_lt_of_le HBL.out hb3.size
          have HOW := hid (own_below HOB.out hb3)
          obtain ⟨z, hz⟩ : ∃ z, w3.heap.size = z := ⟨_, rfl⟩
          have hqz : q ≤ z := by have := hb3.size; omega
          have hrd : Rd ((w3.alloc (.cells #[.int .i64 (a0 : Int), .int .i64 (b0 : Int), .int .i64 (c5 : Int)] 48)).alloc (.cells #[.int .i64 fnum, .int .u8 fw, .int .u64 (fn : Int), .slice fA xl fc, .int .i64 fat] 50)) (some ⟨z + 1, 0, none⟩) [.int .i64 fnum, .int .u8 fw, .int .u64 (fn : Int), .slice fA xl fc, .int .i64 fat] := by
            have h := Rd.new (w3.alloc (.cells #[.int .i64 (a0 : Int), .int .i64 (b0 : Int), .int .i64 (c5 : Int)] 48)) 50 #[.int .i64 fnum, .int .u8 fw, .int .u64 (fn : Int), .slice fA xl fc, .int .i64 fat]
            rwa [World.size_alloc, hz] at h
          have hbn : Below wr.heap.size wr ((w3.alloc (.cells #[.int .i64 (a0 : Int), .int .i64 (b0 : Int), .int .i64 (c5 : Int)] 48)).alloc (.cells #[.int .i64 fnum, .int .u8 fw, .int .u64 (fn : Int), .slice fA xl fc, .int .i64 fat] 50)) := bw_a (bw_a hb3 _) _
          have HRD2 := hid hrd
          have HBN := hid hbn
          clear hrd hbn hb3 t0 t1 t2 t3 t4
          have ho9 : oth.length ≤ 9000 := by omega
          rw [hz] at hbl3
          have hblz : ¬ bl = z := by omega
          go_wp2_with (at_builtin; refine wpList_append_new rfl _ _ 36 rfl q 50 i5 (.agg #[.int .i64 0, .int .u8 0, .int .u64 0, .slice none 0 0, .int .i64 0]) 5 56 Try.underlying36 hi5 hi50 hi51 hi52 rfl (by decide) _ _ _ rfl ((HOW.out.alloc _).alloc _) ⟨z + 1, 0, none⟩ 1 1 [.int .i64 fnum, .int .u8 fw, .int .u64 (fn : Int), .slice fA xl fc, .int .i64 fat] rfl rfl HRD2.out (by simp [Value.oneCell']) (by simp only [maxLen]; omega) (by omega) (by simp; omega) ?_; intro v4 w4 ho4 hg4 hnew4; obtain ⟨A4, c4, rfl⟩ := row_slice' ho4; have HJN := hid (HAD.out rfl _ _ HBN.out hg4 A4 c4 ho4); clear ho4 hg4 hnew4)
          go_roundw
          case rel => exact ⟨j + 1, oth ++ [⟨fnum, fw, fn, ⟨fA, fc, fxs⟩, fat⟩], A4, c4, by omega, by go_num, by simp, HJN.out⟩
          case measure => simp [intOf]; omega
      · obtain rfl : j = np := by omega
        have hfin := hJ.fin
        rw [List.take_of_length_le (by have := HLA.out; have := HNP.out; omega), ← HO.out] at hfin
        have HFIN := hid hfin
        have hkf := hJ.kf
        have c0 := hkf.cell 0
        have c1 := hkf.cell 1
        simp only [List.getElem?_toArray, List.getElem?_cons_zero, List.getElem?_cons_succ] at c0 c1
        have f0 := hkf.frozen 0
        have f1 := hkf.frozen 1
        have HKF := hid hkf
        have HJ := hid hJ
        clear hfin hkf hJ
        go_wp2_with fail
        obtain ⟨hkn, hcn⟩ := fstore HKF.out (.int .i64 0) (.int .i64 0)
        clear c0 c1 f0 f1
        obtain ⟨W9, hW9⟩ : ∃ W9, (wr.setCell ⟨s, 0, none⟩ (.int .i64 0)).setCell ⟨s, 1, none⟩ (.int .i64 0) = W9 := ⟨_, rfl⟩
        rw [hW9] at hkn hcn ⊢
        clear hW9
        have y0 := hkn.cell 0
        have y1 := hkn.cell 1
        simp only [List.getElem?_toArray, List.getElem?_cons_zero, List.getElem?_cons_succ] at y0 y1
        refine bodyPost_ret (v := .tuple #[.slice Ao oth.length co, .agg #[.int .i64 0, .int .i64 0]]) (by simp [results, Try.results10, go_sem, y0, y1]) rfl ?_
        have hJ := HJ.out
        have hqw : q ≤ wr.heap.size := by have := hJ.bq.size; rw [HQ.out] at this; exact this
        refine HGOOD.out M O oth Ao co _ rfl (own_mono (own_chgS hJ.oo hcn (fun gg hgg e => own_ne_blk hJ.oo HKF.out (by decide) gg hgg e)) (by omega)) HFIN.out (fun f hf => ?_) (hJ.bel.trans (hcn.below (fun k hk => by omega) (by omega)))
        have hsf := (HSL.out f (hJ.sub f hf))
        have h1 := hsf.below (w' := wr) (by rw [HQ.out]; exact hJ.bq)
        exact hcn.sl h1 (n := f.s.xs.length) (far_flt h1 HKF.out) (by simp)
  · have hne : (E != 0) = true := by simpa using hE
    go_wp2_with fail
    rw [HW3.out]
    try rw [HPS.out]
    refine wp_region_invB (by kernel_rfl) (by kernel_rfl) (RuR3 s p E (P : Int)) ?_ ?_ ?_
    · exact ⟨undef, .slice none 0 0, (by first | (simp only [Act.put, List.setIfInBounds_toArray, List.set_cons_succ, List.set_cons_zero]; done) | rfl), by simp, by simp, (by simp; exact (HKS.out)), ⟨rfl, rfl, rfl, Nat.le_refl _, fun _ _ _ => rfl⟩⟩
    · intro f a' wx i o ho hf hdep hI
      have hi : i < 3 := (Array.getElem?_eq_some_iff.1 ho).1
      have hcase : i = 0 ∨ i = 1 ∨ i = 2 := by omega
      clear hi
      rcases hcase with rfl | rfl | rfl
      all_goals
        simp only [List.getElem?_toArray, List.getElem?_cons_zero, List.getElem?_cons_succ, Option.some.injEq] at ho
        subst ho
      · -- 0
        obtain ⟨x0, x1, rfl, h0, h1, k2, hC⟩ := hI
        have hb := hC.blk HKQ.out (by omega)
        have t0 := hb.cell 0; have t1 := hb.cell 1
        simp only [List.getElem?_toArray, List.getElem?_cons_zero, List.getElem?_cons_succ] at t0 t1
        clear hb
        have H0' := hid h0; have H1' := hid h1; have K2' := hid k2; have HC' := hid hC; clear h0 h1 k2 hC
        try simp only [Act.put, List.setIfInBounds_toArray, List.set_cons_succ, List.set_cons_zero]
        go_wp2_with fail
        have h0 := H0'.out; have h1 := H1'.out; have k2 := K2'.out; have hC := HC'.out
        exact ⟨_, x1, (by first | (simp only [Act.put, List.setIfInBounds_toArray, List.set_cons_succ, List.set_cons_zero]; done) | rfl), (fun _ => rfl), (fun h => h1 (by simpa using h)), (by simpa using k2), hC⟩
      · -- 1
        obtain ⟨x0, x1, rfl, h0, h1, k2, hC⟩ := hI
        have H0' := hid h0; have H1' := hid h1; have K2' := hid k2; have HC' := hid hC; clear h0 h1 k2 hC
        try simp only [Act.put, List.setIfInBounds_toArray, List.set_cons_succ, List.set_cons_zero]
        go_wp2_with fail
        have h0 := H0'.out; have h1 := H1'.out; have k2 := K2'.out; have hC := HC'.out
        exact ⟨x0, _, (by first | (simp only [Act.put, List.setIfInBounds_toArray, List.set_cons_succ, List.set_cons_zero]; done) | rfl), (fun h => h0 (by simpa using h)), (fun _ => rfl), (by simpa using k2), hC⟩
      · -- 2
        obtain ⟨x0, x1, rfl, h0, h1, k2, hC⟩ := hI
        simp [Region.binds] at hdep
        obtain rfl := h0 (by first | exact hdep | exact hdep.1 | exact hdep.2 | exact hdep.2.1 | exact hdep.2.2 | exact hdep.2.2.1 | exact hdep.2.2.2 | simp_all)
        have hko : Blk wx (s) 32 #[.int .i64 0, .int .i64 0] := by have h := k2; rw [hf] at h; simpa using h
        have y0 := hko.cell 0; have z0 := hko.frozen 0
        have y1 := hko.cell 1; have z1 := hko.frozen 1
        simp only [List.getElem?_toArray, List.getElem?_cons_zero, List.getElem?_cons_succ] at y0 y1
        have HKO := hid hko; clear hko
        have H0' := hid h0; have H1' := hid h1; have K2' := hid k2; have HC' := hid hC; clear h0 h1 k2 hC
        try simp only [Act.put, List.setIfInBounds_toArray, List.set_cons_succ, List.set_cons_zero]
        go_wp2_with fail
        have h0 := H0'.out; have h1 := H1'.out; have k2 := K2'.out; have hC := HC'.out
        obtain ⟨hkn, hcn⟩ := fstore HKO.out _ _
        exact ⟨_, x1, (by first | (simp only [Act.put, List.setIfInBounds_toArray, List.set_cons_succ, List.set_cons_zero]; done) | rfl), (fun _ => rfl), (fun h => h1 (by simpa using h)), (by simpa using hkn), (hC.trans (hcn.mono (fun q _ hq => by subst hq; simp)))⟩
    · intro f a' wx hall hI
      obtain ⟨x0, x1, rfl, h0, h1, k2, hC⟩ := hI
      obtain rfl := h0 (hall 0 (by simp))
      obtain rfl := h1 (hall 1 (by simp))
      have kf2 := k2; rw [hall 2 (by simp), if_pos rfl] at kf2
      clear h0 h1 k2 hall f
      try simp only [Act.put, List.setIfInBounds_toArray, List.set_cons_succ, List.set_cons_zero]
      go_wp2_with fail
      have y0 := kf2.cell 0
      have y1 := kf2.cell 1
      simp only [List.getElem?_toArray, List.getElem?_cons_zero, List.getElem?_cons_succ] at y0 y1
      have hbR := HB3.out.trans (hC.below (B := s) (fun x hx => by omega) (by have := HKS.out.lt; omega))
      refine bodyPost_ret (v := .tuple #[.slice none 0 0, .agg #[.int .i64 E, .int .i64 (P : Int)]]) (by simp [results, Try.results10, go_sem, y0, y1]) rfl ?_
      refine HBAD.out M E P _ ?_ hbR
      rw [HONE.out hE]
end Go.Proofs.Ytpmfdlghckfgiaa
set_option linter.unusedVariables false
namespace Go.Proofs.Ytpmfdlghckfgiaa
open Go.RowKit
theorem fvAll_KL {l1 l2 : List FV} : ∀ {rs : List (RF × Nat)}, fvAll l1 rs → fvAll l2 rs → l1.map fvK = l2.map fvK := by
  intro rs h1 h2
  have e1 := fvAll_len h1
  have e2 := fvAll_len h2
  refine List.ext_getElem (by simp; omega) fun i g1 g2 => ?_
  simp only [List.length_map] at g1 g2
  have a1 := fvAll_get h1 i g1 (by omega)
  have a2 := fvAll_get h2 i g2 (by omega)
  simp only [List.getElem_map]
  unfold fvK
  rw [a1.1, a1.2.1, a1.2.2.1, a1.2.2.2.1, a1.2.2.2.2, a2.1, a2.2.1, a2.2.2.1, a2.2.2.2.1, a2.2.2.2.2]
/-- Fields passed over, to be read. -/
structure UnS (w : World) (O : List (RF × Nat)) (m : Nat) (A : Option Addr) (c : Nat) : Prop where
  ex : ∃ pre : List FV, pre.length = m ∧ SlN w A m c 5 (pre.flatMap fvC) ∧ fvAll pre O ∧ ∀ f ∈ pre, Sl w f.s.A f.s.c (f.s.xs.map bv)
theorem UnS.below {w w' : World} {O : List (RF × Nat)} {m : Nat} {A : Option Addr} {c : Nat} (h : UnS w O m A c) (hb : Below w.heap.size w w') : UnS w' O m A c := by
  obtain ⟨pre, h1, h2, h3, h4⟩ := h.ex
  exact ⟨pre, h1, h2.below hb, h3, fun f hf => (h4 f hf).below hb⟩
theorem uns_of {w w' : World} {R : MV × List (RF × Nat) × Int × Nat} {e : Ending} {m : Nat} (hm : R.2.1.length = m) (h : UnkR w R e w') : ∃ A c, e = .returned (.tuple #[.slice A m c, .agg #[.int .i64 R.2.2.1, .int .i64 (R.2.2.2 : Nat)]]) ∧ UnS w' R.2.1 m A c ∧ Below w.heap.size w w' := by
  obtain ⟨pre, Ao, co, rfl, ho, hall, hsl, hb⟩ := h
  have hl := fvAll_len hall
  obtain ⟨A', c', he, hs⟩ := sln_own (by decide) ho
  injection he with e1 e2 e3
  subst e1; subst e3
  have hpm : pre.length = m := by omega
  rw [hpm] at hs ⊢
  exact ⟨_, _, rfl, ⟨pre, hpm, hs, hall, hsl⟩, hb⟩
theorem uns_same {w : World} {O : List (RF × Nat)} {m : Nat} {A B : Option Addr} {c d : Nat} (h : UnS w O m A c) (h' : UnS w O m B d) : Calls Try.prog 11 #[.slice A m c, .slice B m d] w fun e w' => e = .returned (.bool true) ∧ Below w.heap.size w w' := by
  obtain ⟨p1, h1, h2, h3, h4⟩ := h.ex
  obtain ⟨p2, g1, g2, g3, g4⟩ := h'.ex
  exact same6_any p1 p2 m m A B c d w h1 g1 h2 g2 h4 g4 (fvAll_KL h3 g3)
theorem rmsameL (R : MV) (A B : Option Addr) (c d : Nat) (W : World) (h1 : Sl W A c (R.l.map sv)) (h2 : Sl W B d (R.l.map sv)) : Calls Try.prog 8 #[.agg #[.int .u8 (R.k : Int), .int .u64 (R.n0 : Int), .int .u64 (R.n1 : Int), .int .u64 (R.n2 : Int), .int .u64 (R.n3 : Int), .int .u64 (R.n4 : Int), .int .u64 (R.n5 : Int), .string R.s0, .string R.s1, .slice A R.l.length c], .agg #[.int .u8 (R.k : Int), .int .u64 (R.n0 : Int), .int .u64 (R.n1 : Int), .int .u64 (R.n2 : Int), .int .u64 (R.n3 : Int), .int .u64 (R.n4 : Int), .int .u64 (R.n5 : Int), .string R.s0, .string R.s1, .slice B R.l.length d]] W fun e w' => e = .returned (.bool true) ∧ Below W.heap.size W w' := by
  have h := rsame9_any { R with A := A, c := c } { R with A := B, c := d } W h1 h2
  rw [show sameB { R with A := A, c := c } { R with A := B, c := d } = true from (sameB_iff _ _).2 ⟨rfl, ⟨rfl, rfl, rfl, rfl, rfl, rfl⟩, ⟨rfl, rfl⟩, rfl⟩] at h
  exact h
theorem decr_sl {w w' : World} {R : MV} {O : List (RF × Nat)} {E : Int} {P : Nat} {e : Ending} (h : DecR w (R, O, E, P) e w') : ∃ A' c', e = .returned (.tuple #[.agg #[.int .u8 (R.k : Int), .int .u64 (R.n0 : Int), .int .u64 (R.n1 : Int), .int .u64 (R.n2 : Int), .int .u64 (R.n3 : Int), .int .u64 (R.n4 : Int), .int .u64 (R.n5 : Int), .string R.s0, .string R.s1, .slice A' R.l.length c'], .agg #[.int .i64 E, .int .i64 (P : Int)]]) ∧ Sl w' A' c' (R.l.map sv) ∧ Below w.heap.size w w' := by
  obtain ⟨A', c', rfl, ho, hb⟩ := h
  obtain ⟨A2, c2, he, -, hs⟩ := Sl.of_own ho
  injection he with e1 e2 e3
  subst e1; subst e3
  exact ⟨_, _, rfl, hs, hb⟩
set_option maxRecDepth 100000 in
set_option maxHeartbeats 8000000 in
theorem lenientReads_any (k : Nat) (v : Int) (bs : List UInt8) (n : Nat) (A : Option Addr) (c : Nat) (w : World) (hk : k ≤ 255) (hv1 : -9223372036854775808 ≤ v) (hv2 : v ≤ 9223372036854775807) (hn : bs.length = n) (hs : Sl w A c (bs.map bv)) : Calls Try.prog 3 #[.int .u8 (k : Int), .int .i64 v, .slice A n c] w fun e w' => e = .returned (.bool true) ∧ Below w.heap.size w w' := by
  have hlv := fun W => live11_any W
  obtain ⟨s, hws⟩ : ∃ s, w.heap.size = s := ⟨_, rfl⟩
  have hsl : ∀ W, Below s w W → Sl W A c (bs.map bv) := fun W hW => hs.below (by rw [hws]; exact hW)
  obtain ⟨X, hX⟩ : ∃ X, readR k v bs = X := ⟨_, rfl⟩
  obtain ⟨R, O, E, P⟩ := X
  obtain ⟨m, hm⟩ : ∃ m, O.length = m := ⟨_, rfl⟩
  have hd1 : ∀ W, Below s w W → _ := fun W hW => (ldec_any k v bs n A c W hk hv1 hv2 hn (hsl W hW)).mono (by rw [hX]; exact fun e w' h => decr_sl h)
  have hd2 : ∀ W, Below s w W → _ := fun W hW => (rdec11_any k v bs n A c W hk hv1 hv2 hn (hsl W hW)).mono (by rw [hX]; exact fun e w' h => decr_sl h)
  have hu1 : ∀ W, Below s w W → _ := fun W hW => (lunk_any k v bs n A c W hk hv1 hv2 hn (hsl W hW)).mono (by rw [hX]; exact fun e w' h => uns_of hm h)
  have hu2 : ∀ W, Below s w W → _ := fun W hW => (runk11_any k v bs n A c W hk hv1 hv2 hn (hsl W hW)).mono (by rw [hX]; exact fun e w' h => uns_of hm h)
  simp only at hu1 hu2
  have hsa := rmsameL R
  rw [hws]
  have HLV := hid hlv
  have HD1 := hid hd1
  have HD2 := hid hd2
  have HU1 := hid hu1
  have HU2 := hid hu2
  have HSA := hid hsa
  clear hlv hd1 hd2 hu1 hu2 hsa hsl hs hn hX hm
  generalize ((P : Nat) : Int) = P at *
  go_enter Try.func3, Try.ntmps3
  go_wp2_with fail
  refine (HLV.out w).mono ?_
  rintro e w1 ⟨rfl, hb⟩
  have hb0 : Below s w w1 := by rw [← hws]; exact hb
  have HBB1 := hid hb0
  clear hb0 hb 
  by_cases hn1 : 10000 < n
  · have hn2 : (10000 : Int) < (n : Int) := by omega
    go_wp2_with fail
    go_ret
    exact ⟨rfl, HBB1.out⟩
  · have hn2 : ¬ (10000 : Int) < (n : Int) := by omega
    have hn3 : decide ((10000 : Int) < (n : Int)) = false := by simpa using hn2
    go_wp2_with fail
    refine (HD1.out _ HBB1.out).mono ?_
    rintro e w2 ⟨A1, c1, rfl, hs1, hb⟩
    have hb0 : Below s w w2 := HBB1.out.trans (hb.mono (by have := HBB1.out.size; omega))
    have HS1 := hid hs1
    have HBB2 := hid hb0
    clear hb0 hb hs1
    obtain ⟨p2, hz⟩ : ∃ p, w2.heap.size = p := ⟨_, rfl⟩
    go_wp2_with fail
    have hk7 : Blk ((w2.alloc (.cells #[.int .u8 (R.k : Int), .int .u64 (R.n0 : Int), .int .u64 (R.n1 : Int), .int .u64 (R.n2 : Int), .int .u64 (R.n3 : Int), .int .u64 (R.n4 : Int), .int .u64 (R.n5 : Int), .string R.s0, .string R.s1, .slice A1 R.l.length c1] 29)).alloc (.cells #[.int .i64 E, .int .i64 P] 32)) (p2) 29 #[.int .u8 (R.k : Int), .int .u64 (R.n0 : Int), .int .u64 (R.n1 : Int), .int .u64 (R.n2 : Int), .int .u64 (R.n3 : Int), .int .u64 (R.n4 : Int), .int .u64 (R.n5 : Int), .string R.s0, .string R.s1, .slice A1 R.l.length c1] := by
      have h := ((Blk.new w2 29 #[.int .u8 (R.k : Int), .int .u64 (R.n0 : Int), .int .u64 (R.n1 : Int), .int .u64 (R.n2 : Int), .int .u64 (R.n3 : Int), .int .u64 (R.n4 : Int), .int .u64 (R.n5 : Int), .string R.s0, .string R.s1, .slice A1 R.l.length c1]).alloc (.cells #[.int .i64 E, .int .i64 P] 32))
      rw [hz] at h; exact h
    have hk8 : Blk ((w2.alloc (.cells #[.int .u8 (R.k : Int), .int .u64 (R.n0 : Int), .int .u64 (R.n1 : Int), .int .u64 (R.n2 : Int), .int .u64 (R.n3 : Int), .int .u64 (R.n4 : Int), .int .u64 (R.n5 : Int), .string R.s0, .string R.s1, .slice A1 R.l.length c1] 29)).alloc (.cells #[.int .i64 E, .int .i64 P] 32)) (p2 + 1) 32 #[.int .i64 E, .int .i64 P] := by
      have h := (Blk.new (w2.alloc (.cells #[.int .u8 (R.k : Int), .int .u64 (R.n0 : Int), .int .u64 (R.n1 : Int), .int .u64 (R.n2 : Int), .int .u64 (R.n3 : Int), .int .u64 (R.n4 : Int), .int .u64 (R.n5 : Int), .string R.s0, .string R.s1, .slice A1 R.l.length c1] 29)) 32 #[.int .i64 E, .int .i64 P])
      rw [World.size_alloc, hz] at h; exact h
    have hs1 := HS1.out.below (bw_a (bw_a (Below.refl w2.heap.size w2) (.cells #[.int .u8 (R.k : Int), .int .u64 (R.n0 : Int), .int .u64 (R.n1 : Int), .int .u64 (R.n2 : Int), .int .u64 (R.n3 : Int), .int .u64 (R.n4 : Int), .int .u64 (R.n5 : Int), .string R.s0, .string R.s1, .slice A1 R.l.length c1] 29)) (.cells #[.int .i64 E, .int .i64 P] 32))
    have hb0 : Below s w ((w2.alloc (.cells #[.int .u8 (R.k : Int), .int .u64 (R.n0 : Int), .int .u64 (R.n1 : Int), .int .u64 (R.n2 : Int), .int .u64 (R.n3 : Int), .int .u64 (R.n4 : Int), .int .u64 (R.n5 : Int), .string R.s0, .string R.s1, .slice A1 R.l.length c1] 29)).alloc (.cells #[.int .i64 E, .int .i64 P] 32)) := HBB2.out.trans ((bw_a (bw_a (Below.refl w2.heap.size w2) (.cells #[.int .u8 (R.k : Int), .int .u64 (R.n0 : Int), .int .u64 (R.n1 : Int), .int .u64 (R.n2 : Int), .int .u64 (R.n3 : Int), .int .u64 (R.n4 : Int), .int .u64 (R.n5 : Int), .string R.s0, .string R.s1, .slice A1 R.l.length c1] 29)) (.cells #[.int .i64 E, .int .i64 P] 32)).mono (by have := HBB2.out.size; omega))
    have hsz : (((w2.alloc (.cells #[.int .u8 (R.k : Int), .int .u64 (R.n0 : Int), .int .u64 (R.n1 : Int), .int .u64 (R.n2 : Int), .int .u64 (R.n3 : Int), .int .u64 (R.n4 : Int), .int .u64 (R.n5 : Int), .string R.s0, .string R.s1, .slice A1 R.l.length c1] 29)).alloc (.cells #[.int .i64 E, .int .i64 P] 32))).heap.size = p2 + 1 + 1 := by simp [hz]
    generalize hW3 : ((w2.alloc (.cells #[.int .u8 (R.k : Int), .int .u64 (R.n0 : Int), .int .u64 (R.n1 : Int), .int .u64 (R.n2 : Int), .int .u64 (R.n3 : Int), .int .u64 (R.n4 : Int), .int .u64 (R.n5 : Int), .string R.s0, .string R.s1, .slice A1 R.l.length c1] 29)).alloc (.cells #[.int .i64 E, .int .i64 P] 32)) = W3 at *
    have HK7 := hid hk7
    have HK8 := hid hk8
    have HS1 := hid hs1
    have HBB3 := hid hb0
    have HSZ3 := hid hsz
    clear hb0 hsz hz hW3 hk7 hk8 hs1
    refine (HD2.out _ HBB3.out).mono ?_
    rintro e w4 ⟨A2, c2, rfl, hs2, hb⟩
    have hk7 := HK7.out.below hb HK7.out.lt
    have hk8 := HK8.out.below hb HK8.out.lt
    have hs1 := HS1.out.below hb
    have hb0 : Below s w w4 := HBB3.out.trans (hb.mono (by have := HBB3.out.size; omega))
    have HK7 := hid hk7
    have HK8 := hid hk8
    have HS1 := hid hs1
    have HS2 := hid hs2
    have HBB4 := hid hb0
    clear hb0 hb hk7 hk8 hs1 hs2
    have zhk80 := HK8.out.cell 0
    have zhk81 := HK8.out.cell 1
    have lhk8 := HK8.out.lt
    have zhk70 := HK7.out.cell 0
    have zhk71 := HK7.out.cell 1
    have zhk72 := HK7.out.cell 2
    have zhk73 := HK7.out.cell 3
    have zhk74 := HK7.out.cell 4
    have zhk75 := HK7.out.cell 5
    have zhk76 := HK7.out.cell 6
    have zhk77 := HK7.out.cell 7
    have zhk78 := HK7.out.cell 8
    have zhk79 := HK7.out.cell 9
    have lhk7 := HK7.out.lt
    simp only [List.getElem?_toArray, List.getElem?_cons_zero, List.getElem?_cons_succ] at zhk80 zhk81 zhk70 zhk71 zhk72 zhk73 zhk74 zhk75 zhk76 zhk77 zhk78 zhk79
    obtain ⟨p4, hz⟩ : ∃ p, w4.heap.size = p := ⟨_, rfl⟩
    rw [hz] at lhk8
    have mhk8 := Nat.lt_add_one_of_lt lhk8
    rw [hz] at lhk7
    have mhk7 := Nat.lt_add_one_of_lt lhk7
    go_wp2_with fail
    have hk9 : Blk ((w4.alloc (.cells #[.int .u8 (R.k : Int), .int .u64 (R.n0 : Int), .int .u64 (R.n1 : Int), .int .u64 (R.n2 : Int), .int .u64 (R.n3 : Int), .int .u64 (R.n4 : Int), .int .u64 (R.n5 : Int), .string R.s0, .string R.s1, .slice A2 R.l.length c2] 29)).alloc (.cells #[.int .i64 E, .int .i64 P] 32)) (p4) 29 #[.int .u8 (R.k : Int), .int .u64 (R.n0 : Int), .int .u64 (R.n1 : Int), .int .u64 (R.n2 : Int), .int .u64 (R.n3 : Int), .int .u64 (R.n4 : Int), .int .u64 (R.n5 : Int), .string R.s0, .string R.s1, .slice A2 R.l.length c2] := by
      have h := ((Blk.new w4 29 #[.int .u8 (R.k : Int), .int .u64 (R.n0 : Int), .int .u64 (R.n1 : Int), .int .u64 (R.n2 : Int), .int .u64 (R.n3 : Int), .int .u64 (R.n4 : Int), .int .u64 (R.n5 : Int), .string R.s0, .string R.s1, .slice A2 R.l.length c2]).alloc (.cells #[.int .i64 E, .int .i64 P] 32))
      rw [hz] at h; exact h
    have hk10 : Blk ((w4.alloc (.cells #[.int .u8 (R.k : Int), .int .u64 (R.n0 : Int), .int .u64 (R.n1 : Int), .int .u64 (R.n2 : Int), .int .u64 (R.n3 : Int), .int .u64 (R.n4 : Int), .int .u64 (R.n5 : Int), .string R.s0, .string R.s1, .slice A2 R.l.length c2] 29)).alloc (.cells #[.int .i64 E, .int .i64 P] 32)) (p4 + 1) 32 #[.int .i64 E, .int .i64 P] := by
      have h := (Blk.new (w4.alloc (.cells #[.int .u8 (R.k : Int), .int .u64 (R.n0 : Int), .int .u64 (R.n1 : Int), .int .u64 (R.n2 : Int), .int .u64 (R.n3 : Int), .int .u64 (R.n4 : Int), .int .u64 (R.n5 : Int), .string R.s0, .string R.s1, .slice A2 R.l.length c2] 29)) 32 #[.int .i64 E, .int .i64 P])
      rw [World.size_alloc, hz] at h; exact h
    have hk7 := ((HK7.out.alloc (.cells #[.int .u8 (R.k : Int), .int .u64 (R.n0 : Int), .int .u64 (R.n1 : Int), .int .u64 (R.n2 : Int), .int .u64 (R.n3 : Int), .int .u64 (R.n4 : Int), .int .u64 (R.n5 : Int), .string R.s0, .string R.s1, .slice A2 R.l.length c2] 29)).alloc (.cells #[.int .i64 E, .int .i64 P] 32))
    have hk8 := ((HK8.out.alloc (.cells #[.int .u8 (R.k : Int), .int .u64 (R.n0 : Int), .int .u64 (R.n1 : Int), .int .u64 (R.n2 : Int), .int .u64 (R.n3 : Int), .int .u64 (R.n4 : Int), .int .u64 (R.n5 : Int), .string R.s0, .string R.s1, .slice A2 R.l.length c2] 29)).alloc (.cells #[.int .i64 E, .int .i64 P] 32))
    have hs1 := HS1.out.below (bw_a (bw_a (Below.refl w4.heap.size w4) (.cells #[.int .u8 (R.k : Int), .int .u64 (R.n0 : Int), .int .u64 (R.n1 : Int), .int .u64 (R.n2 : Int), .int .u64 (R.n3 : Int), .int .u64 (R.n4 : Int), .int .u64 (R.n5 : Int), .string R.s0, .string R.s1, .slice A2 R.l.length c2] 29)) (.cells #[.int .i64 E, .int .i64 P] 32))
    have hs2 := HS2.out.below (bw_a (bw_a (Below.refl w4.heap.size w4) (.cells #[.int .u8 (R.k : Int), .int .u64 (R.n0 : Int), .int .u64 (R.n1 : Int), .int .u64 (R.n2 : Int), .int .u64 (R.n3 : Int), .int .u64 (R.n4 : Int), .int .u64 (R.n5 : Int), .string R.s0, .string R.s1, .slice A2 R.l.length c2] 29)) (.cells #[.int .i64 E, .int .i64 P] 32))
    have hb0 : Below s w ((w4.alloc (.cells #[.int .u8 (R.k : Int), .int .u64 (R.n0 : Int), .int .u64 (R.n1 : Int), .int .u64 (R.n2 : Int), .int .u64 (R.n3 : Int), .int .u64 (R.n4 : Int), .int .u64 (R.n5 : Int), .string R.s0, .string R.s1, .slice A2 R.l.length c2] 29)).alloc (.cells #[.int .i64 E, .int .i64 P] 32)) := HBB4.out.trans ((bw_a (bw_a (Below.refl w4.heap.size w4) (.cells #[.int .u8 (R.k : Int), .int .u64 (R.n0 : Int), .int .u64 (R.n1 : Int), .int .u64 (R.n2 : Int), .int .u64 (R.n3 : Int), .int .u64 (R.n4 : Int), .int .u64 (R.n5 : Int), .string R.s0, .string R.s1, .slice A2 R.l.length c2] 29)) (.cells #[.int .i64 E, .int .i64 P] 32)).mono (by have := HBB4.out.size; omega))
    have hsz : (((w4.alloc (.cells #[.int .u8 (R.k : Int), .int .u64 (R.n0 : Int), .int .u64 (R.n1 : Int), .int .u64 (R.n2 : Int), .int .u64 (R.n3 : Int), .int .u64 (R.n4 : Int), .int .u64 (R.n5 : Int), .string R.s0, .string R.s1, .slice A2 R.l.length c2] 29)).alloc (.cells #[.int .i64 E, .int .i64 P] 32))).heap.size = p4 + 1 + 1 := by simp [hz]
    generalize hW5 : ((w4.alloc (.cells #[.int .u8 (R.k : Int), .int .u64 (R.n0 : Int), .int .u64 (R.n1 : Int), .int .u64 (R.n2 : Int), .int .u64 (R.n3 : Int), .int .u64 (R.n4 : Int), .int .u64 (R.n5 : Int), .string R.s0, .string R.s1, .slice A2 R.l.length c2] 29)).alloc (.cells #[.int .i64 E, .int .i64 P] 32)) = W5 at *
    have HK7 := hid hk7
    have HK8 := hid hk8
    have HK9 := hid hk9
    have HK10 := hid hk10
    have HS1 := hid hs1
    have HS2 := hid hs2
    have HBB5 := hid hb0
    have HSZ5 := hid hsz
    clear hb0 hsz hz hW5 hk7 hk8 hk9 hk10 hs1 hs2
    refine (HSA.out A1 A2 c1 c2 _ HS1.out HS2.out).mono ?_
    rintro e w6 ⟨rfl, hb⟩
    clear lhk8 lhk7 zhk80 zhk81 zhk70 zhk71 zhk72 zhk73 zhk74 zhk75 zhk76 zhk77 zhk78 zhk79 mhk8 mhk7
    have hk7 := HK7.out.below hb HK7.out.lt
    have hk8 := HK8.out.below hb HK8.out.lt
    have hk9 := HK9.out.below hb HK9.out.lt
    have hk10 := HK10.out.below hb HK10.out.lt
    have hs1 := HS1.out.below hb
    have hs2 := HS2.out.below hb
    have hb0 : Below s w w6 := HBB5.out.trans (hb.mono (by have := HBB5.out.size; omega))
    have HK7 := hid hk7
    have HK8 := hid hk8
    have HK9 := hid hk9
    have HK10 := hid hk10
    have HS1 := hid hs1
    have HS2 := hid hs2
    have HBB6 := hid hb0
    clear hb0 hb hk7 hk8 hk9 hk10 hs1 hs2
    go_wp2_with fail
    refine (HU1.out _ HBB6.out).mono ?_
    rintro e w7 ⟨A3, c3, rfl, hu3, hb⟩
    have hk7 := HK7.out.below hb HK7.out.lt
    have hk8 := HK8.out.below hb HK8.out.lt
    have hk9 := HK9.out.below hb HK9.out.lt
    have hk10 := HK10.out.below hb HK10.out.lt
    have hs1 := HS1.out.below hb
    have hs2 := HS2.out.below hb
    have hb0 : Below s w w7 := HBB6.out.trans (hb.mono (by have := HBB6.out.size; omega))
    have HK7 := hid hk7
    have HK8 := hid hk8
    have HK9 := hid hk9
    have HK10 := hid hk10
    have HS1 := hid hs1
    have HS2 := hid hs2
    have HU3 := hid hu3
    have HBB7 := hid hb0
    clear hb0 hb hk7 hk8 hk9 hk10 hs1 hs2 hu3
    obtain ⟨p6, hz⟩ : ∃ p, w7.heap.size = p := ⟨_, rfl⟩
    go_wp2_with fail
    have hk12 : Blk (w7.alloc (.cells #[.int .i64 E, .int .i64 P] 32)) (p6) 32 #[.int .i64 E, .int .i64 P] := by
      have h := (Blk.new w7 32 #[.int .i64 E, .int .i64 P])
      rw [hz] at h; exact h
    have hk7 := (HK7.out.alloc (.cells #[.int .i64 E, .int .i64 P] 32))
    have hk8 := (HK8.out.alloc (.cells #[.int .i64 E, .int .i64 P] 32))
    have hk9 := (HK9.out.alloc (.cells #[.int .i64 E, .int .i64 P] 32))
    have hk10 := (HK10.out.alloc (.cells #[.int .i64 E, .int .i64 P] 32))
    have hs1 := HS1.out.below (bw_a (Below.refl w7.heap.size w7) (.cells #[.int .i64 E, .int .i64 P] 32))
    have hs2 := HS2.out.below (bw_a (Below.refl w7.heap.size w7) (.cells #[.int .i64 E, .int .i64 P] 32))
    have hu3 := HU3.out.below (bw_a (Below.refl w7.heap.size w7) (.cells #[.int .i64 E, .int .i64 P] 32))
    have hb0 : Below s w (w7.alloc (.cells #[.int .i64 E, .int .i64 P] 32)) := HBB7.out.trans ((bw_a (Below.refl w7.heap.size w7) (.cells #[.int .i64 E, .int .i64 P] 32)).mono (by have := HBB7.out.size; omega))
    have hsz : ((w7.alloc (.cells #[.int .i64 E, .int .i64 P] 32))).heap.size = p6 + 1 := by simp [hz]
    generalize hW8 : (w7.alloc (.cells #[.int .i64 E, .int .i64 P] 32)) = W8 at *
    have HK7 := hid hk7
    have HK8 := hid hk8
    have HK9 := hid hk9
    have HK10 := hid hk10
    have HK12 := hid hk12
    have HS1 := hid hs1
    have HS2 := hid hs2
    have HU3 := hid hu3
    have HBB8 := hid hb0
    have HSZ8 := hid hsz
    clear hb0 hsz hz hW8 hk7 hk8 hk9 hk10 hk12 hs1 hs2 hu3
    refine (HU2.out _ HBB8.out).mono ?_
    rintro e w9 ⟨A4, c4, rfl, hu4, hb⟩
    have hk7 := HK7.out.below hb HK7.out.lt
    have hk8 := HK8.out.below hb HK8.out.lt
    have hk9 := HK9.out.below hb HK9.out.lt
    have hk10 := HK10.out.below hb HK10.out.lt
    have hk12 := HK12.out.below hb HK12.out.lt
    have hs1 := HS1.out.below hb
    have hs2 := HS2.out.below hb
    have hu3 := HU3.out.below hb
    have hb0 : Below s w w9 := HBB8.out.trans (hb.mono (by have := HBB8.out.size; omega))
    have HK7 := hid hk7
    have HK8 := hid hk8
    have HK9 := hid hk9
    have HK10 := hid hk10
    have HK12 := hid hk12
    have HS1 := hid hs1
    have HS2 := hid hs2
    have HU3 := hid hu3
    have HU4 := hid hu4
    have HBB9 := hid hb0
    clear hb0 hb hk7 hk8 hk9 hk10 hk12 hs1 hs2 hu3 hu4
    have zhk120 := HK12.out.cell 0
    have zhk121 := HK12.out.cell 1
    have lhk12 := HK12.out.lt
    simp only [List.getElem?_toArray, List.getElem?_cons_zero, List.getElem?_cons_succ] at zhk120 zhk121
    obtain ⟨p8, hz⟩ : ∃ p, w9.heap.size = p := ⟨_, rfl⟩
    rw [hz] at lhk12
    have mhk12 := Nat.lt_add_one_of_lt lhk12
    go_wp2_with fail
    have hk14 : Blk (w9.alloc (.cells #[.int .i64 E, .int .i64 P] 32)) (p8) 32 #[.int .i64 E, .int .i64 P] := by
      have h := (Blk.new w9 32 #[.int .i64 E, .int .i64 P])
      rw [hz] at h; exact h
    have hk7 := (HK7.out.alloc (.cells #[.int .i64 E, .int .i64 P] 32))
    have hk8 := (HK8.out.alloc (.cells #[.int .i64 E, .int .i64 P] 32))
    have hk9 := (HK9.out.alloc (.cells #[.int .i64 E, .int .i64 P] 32))
    have hk10 := (HK10.out.alloc (.cells #[.int .i64 E, .int .i64 P] 32))
    have hk12 := (HK12.out.alloc (.cells #[.int .i64 E, .int .i64 P] 32))
    have hs1 := HS1.out.below (bw_a (Below.refl w9.heap.size w9) (.cells #[.int .i64 E, .int .i64 P] 32))
    have hs2 := HS2.out.below (bw_a (Below.refl w9.heap.size w9) (.cells #[.int .i64 E, .int .i64 P] 32))
    have hu3 := HU3.out.below (bw_a (Below.refl w9.heap.size w9) (.cells #[.int .i64 E, .int .i64 P] 32))
    have hu4 := HU4.out.below (bw_a (Below.refl w9.heap.size w9) (.cells #[.int .i64 E, .int .i64 P] 32))
    have hb0 : Below s w (w9.alloc (.cells #[.int .i64 E, .int .i64 P] 32)) := HBB9.out.trans ((bw_a (Below.refl w9.heap.size w9) (.cells #[.int .i64 E, .int .i64 P] 32)).mono (by have := HBB9.out.size; omega))
    have hsz : ((w9.alloc (.cells #[.int .i64 E, .int .i64 P] 32))).heap.size = p8 + 1 := by simp [hz]
    generalize hW10 : (w9.alloc (.cells #[.int .i64 E, .int .i64 P] 32)) = W10 at *
    have HK7 := hid hk7
    have HK8 := hid hk8
    have HK9 := hid hk9
    have HK10 := hid hk10
    have HK12 := hid hk12
    have HK14 := hid hk14
    have HS1 := hid hs1
    have HS2 := hid hs2
    have HU3 := hid hu3
    have HU4 := hid hu4
    have HBB10 := hid hb0
    have HSZ10 := hid hsz
    clear hb0 hsz hz hW10 hk7 hk8 hk9 hk10 hk12 hk14 hs1 hs2 hu3 hu4
    refine ((uns_same HU3.out HU4.out)).mono ?_
    rintro e w11 ⟨rfl, hb⟩
    clear lhk12 zhk120 zhk121 mhk12
    have hk7 := HK7.out.below hb HK7.out.lt
    have hk8 := HK8.out.below hb HK8.out.lt
    have hk9 := HK9.out.below hb HK9.out.lt
    have hk10 := HK10.out.below hb HK10.out.lt
    have hk12 := HK12.out.below hb HK12.out.lt
    have hk14 := HK14.out.below hb HK14.out.lt
    have hs1 := HS1.out.below hb
    have hs2 := HS2.out.below hb
    have hu3 := HU3.out.below hb
    have hu4 := HU4.out.below hb
    have hb0 : Below s w w11 := HBB10.out.trans (hb.mono (by have := HBB10.out.size; omega))
    have HK7 := hid hk7
    have HK8 := hid hk8
    have HK9 := hid hk9
    have HK10 := hid hk10
    have HK12 := hid hk12
    have HK14 := hid hk14
    have HS1 := hid hs1
    have HS2 := hid hs2
    have HU3 := hid hu3
    have HU4 := hid hu4
    have HBB11 := hid hb0
    clear hb0 hb hk7 hk8 hk9 hk10 hk12 hk14 hs1 hs2 hu3 hu4
    go_wp2_with fail
    go_ret
    exact ⟨rfl, HBB11.out⟩
end Go.Proofs.Ytpmfdlghckfgiaa
