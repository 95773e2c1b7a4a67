/- The walk of OutletAll. -/
import Derived.Test.YtapgjkbodfpdaaaLaw5A
set_option linter.unusedVariables false
namespace Go.Proofs.Ytapgjkbodfpdaaa
open Go.RowKit
/-- An ask lies at a place of memory. -/
structure AskAt (w : World) (b o : Nat) (a : AskV) : Prop where
  t0 : w.cell? ⟨b, o, none⟩ = some (.int .u8 (a.k : Int))
  t1 : w.cell? ⟨b, o + 1, none⟩ = some (.int .u64 (a.n : Int))
  t2 : w.cell? ⟨b, o + 2, none⟩ = some (.int .i64 a.num)
  t3 : w.cell? ⟨b, o + 3, none⟩ = some (.int .u8 (a.x : Int))
  t4 : w.cell? ⟨b, o + 4, none⟩ = some (.slice a.s.A a.s.xs.length a.s.c)
theorem AskAt.lt {w : World} {b o : Nat} {a : AskV} (h : AskAt w b o a) : b < w.heap.size := World.block_lt_of_cell? w _ h.t0
theorem AskAt.of_block {w w' : World} {b o : Nat} {a : AskV} (h : AskAt w b o a) (hb : w'.heap[b]? = w.heap[b]?) : AskAt w' b o a :=
  ⟨(World.cell?_of_block (a := ⟨b, o, none⟩) hb).trans h.t0, (World.cell?_of_block (a := ⟨b, o + 1, none⟩) hb).trans h.t1, (World.cell?_of_block (a := ⟨b, o + 2, none⟩) hb).trans h.t2, (World.cell?_of_block (a := ⟨b, o + 3, none⟩) hb).trans h.t3, (World.cell?_of_block (a := ⟨b, o + 4, none⟩) hb).trans h.t4⟩
theorem AskAt.chg {S : Nat → Prop} {w w' : World} {b o : Nat} {a : AskV} (h : AskAt w b o a) (hc : Chg S w w') (hS : ¬ S b) : AskAt w' b o a := h.of_block (hc.block b h.lt hS)
theorem AskAt.below {w w' : World} {b o : Nat} {a : AskV} (h : AskAt w b o a) (hb : Below w.heap.size w w') : AskAt w' b o a := h.of_block (hb.block b h.lt)
theorem askAt_of {w : World} {A : Option Addr} {m c j : Nat} {l : List AskV} (h : SlN w A m c 5 (l.flatMap askC)) (hj : j < l.length) : ∃ b o, A = some ⟨b, o, none⟩ ∧ AskAt w b (o + j * 5) l[j] := by
  have hn0 : (l.flatMap askC)[j * 5 + 0]? = _ := flatMap_get askC 5 l j 0 hj (fun _ _ => rfl) (by omega)
  have hn1 : (l.flatMap askC)[j * 5 + 1]? = _ := flatMap_get askC 5 l j 1 hj (fun _ _ => rfl) (by omega)
  have hn2 : (l.flatMap askC)[j * 5 + 2]? = _ := flatMap_get askC 5 l j 2 hj (fun _ _ => rfl) (by omega)
  have hn3 : (l.flatMap askC)[j * 5 + 3]? = _ := flatMap_get askC 5 l j 3 hj (fun _ _ => rfl) (by omega)
  have hn4 : (l.flatMap askC)[j * 5 + 4]? = _ := flatMap_get askC 5 l j 4 hj (fun _ _ => rfl) (by omega)
  obtain ⟨b, o, rfl, hbw, t0⟩ := h.rd _ _ hn0
  have u1 := h.rd.addr _ _ hn1
  have u2 := h.rd.addr _ _ hn2
  have u3 := h.rd.addr _ _ hn3
  have u4 := h.rd.addr _ _ hn4
  rw [addr_add] at u1 u2 u3 u4
  refine ⟨b, o, rfl, ?_, ?_, ?_, ?_, ?_⟩
  · simpa only [Nat.add_zero, ← Nat.add_assoc] using t0
  · rw [Nat.add_assoc]; exact u1
  · rw [Nat.add_assoc]; exact u2
  · rw [Nat.add_assoc]; exact u3
  · rw [Nat.add_assoc]; exact u4
theorem AskOk.new {w w' : World} {a : AskV} (h : AskOk w a) (hb : Below w.heap.size w w') : AskOk w' a := ⟨h.k, h.n, h.n1, h.n2, h.x, h.s.below hb⟩
/-- An ask's own bytes lie below. -/
theorem AskOk.far {w : World} {a : AskV} (h : AskOk w a) {S : Nat → Prop} (hS : ∀ k, k < w.heap.size → ¬ S k) : FarS a.s.A a.s.xs.length S := fun hp b' o' he ho => by
  obtain ⟨b2, o2, e2, hlt2, _⟩ := h.s.rd 0 (bv (a.s.xs[0]'hp)) (by simp [List.getElem?_eq_getElem hp])
  rw [he] at e2
  injection e2 with e2
  injection e2 with e3 e4
  exact hS b' (by omega) ho
theorem heldA {S : Nat → Prop} {w w' : World} {b o : Nat} {x0 x1 x2 x3 x4 : Value} (hc : Chg S w w') (hb : ¬ S b) (h : w.cell? ⟨b, o, none⟩ = some x0 ∧ w.cell? ⟨b, o + 1, none⟩ = some x1 ∧ w.cell? ⟨b, o + 2, none⟩ = some x2 ∧ w.cell? ⟨b, o + 3, none⟩ = some x3 ∧ w.cell? ⟨b, o + 4, none⟩ = some x4) :
    w'.cell? ⟨b, o, none⟩ = some x0 ∧ w'.cell? ⟨b, o + 1, none⟩ = some x1 ∧ w'.cell? ⟨b, o + 2, none⟩ = some x2 ∧ w'.cell? ⟨b, o + 3, none⟩ = some x3 ∧ w'.cell? ⟨b, o + 4, none⟩ = some x4 := by
  obtain ⟨t0, t1, t2, t3, t4⟩ := h
  have f : ∀ (p : Addr) (x : Value), p.block = b → w.cell? p = some x → w'.cell? p = some x := fun p x hp h => (World.cell?_of_block (hc.block p.block (World.block_lt_of_cell? w p h) (by rw [hp]; exact hb))).trans h
  exact ⟨f _ _ rfl t0, f _ _ rfl t1, f _ _ rfl t2, f _ _ rfl t3, f _ _ rfl t4⟩
set_option maxRecDepth 100000 in
set_option maxHeartbeats 1000000 in
theorem all1c_any (a : AskV) (p : Nat) (W : World) (B q : Nat) (v : Value) (bs : List UInt8) (most : Nat) (hat : AskAt W p 0 a) (ha : AskOk W a) (hl : a.s.xs.length ≤ 1000000) (hf : FarS a.s.A a.s.xs.length (Oset q v)) (h : Wr W B q v bs most) :
    Calls Try.prog 22 #[.pointer (some ⟨q, 0, none⟩), .pointer (some ⟨p, 0, none⟩)] W fun e w' => ∃ v', e = .returned (.int .i64 ((doW most a bs).2 : Nat)) ∧ Wr w' B q v' (doW most a bs).1 most ∧ Stp q v v' bs.length W w' := by
  have hd := do_any a W B q v bs most ha hl hf h
  obtain ⟨t0, t1, t2, t3, t4⟩ := hat
  simp only [AskV.agg] at hd
  generalize doW most a bs = r at *
  obtain ⟨ak, an, anum, ax, aA, ac, axs⟩ := a
  simp only [Nat.zero_add] at t0 t1 t2 t3 t4 hd
  generalize axs.length = al at *
  have HD := hid hd
  clear hd h hf ha
  go_enter Try.func22, Try.ntmps22
  go_wp2_with fail
  refine HD.out.mono ?_
  rintro e w2 ⟨v', rfl, hw, hst⟩
  go_wp2_with fail
  go_ret
  exact ⟨v', rfl, hw, hst⟩
theorem allW_snd (gs : List Wf) (bs : List UInt8) : (allW gs bs).2 = (allR gs bs).2 := by
  unfold allW; split <;> rfl
/-- Two writers apart. -/
def Apart (q : Nat) (v : Value) (q2 : Nat) (v2 : Value) : Prop := ∀ k, Oset q v k → ¬ Oset q2 v2 k
theorem Apart.step {w : World} {q q2 B : Nat} {v v1 v2 : Value} {bs : List UInt8} {most : Nat} (h : Apart q v q2 v2) (hn : NewOr w v v1) (h2 : Wr w B q2 v2 bs most) : Apart q v1 q2 v2 := fun k hk hk2 => by
  have h3 := (h2.sets k hk2).2
  exact h k (hk.back hn h3) hk2
theorem Apart.symm {q q2 : Nat} {v v2 : Value} (h : Apart q v q2 v2) : Apart q2 v2 q v := fun k hk hk2 => h k hk2 hk
theorem Try.infoFn : (Try.prog.info? 45).map (fun i => (i.zero, i.size, i.bytes)) = some (some .nilFunc, 1, 8) := by kernel_rfl
theorem own_chg {S : Nat → Prop} {w w' : World} {B e n : Nat} {v : Value} {xs : List Value} (h : w.ownsRow B e 1 v n xs) (hc : Chg S w w') (hS : ∀ g, v.ownBlock = some g → ¬ S g) : w'.ownsRow B e 1 v n xs := by
  refine ⟨h.1, h.2.imp_right ?_⟩
  rintro ⟨g, cap, cur, hv, hb, hgg, rest⟩
  exact ⟨g, cap, cur, hv, hb, by rw [hc.block g (Array.getElem?_eq_some_iff.1 hgg).1 (hS g (by rw [hv]; rfl))]; exact hgg, rest⟩
/-- A row of another type than a writer's is not the writer's. -/
theorem own_wr {w : World} {B B2 e n q : Nat} {v v2 : Value} {xs : List Value} {bs : List UInt8} {most : Nat} (h : w.ownsRow B e 1 v n xs) (hw : Wr w B2 q v2 bs most) (h1 : e ≠ 90) (h2 : e ≠ 5) : ∀ g, v.ownBlock = some g → ¬ Oset q v2 g := by
  rintro g hg (rfl | ho)
  · exact own_blk_ne h hw.blk (fun e' => h1 e'.symm) hg
  · rcases own_two h hw.row h2 with hn | hn
    · rw [hn] at hg; cases hg
    · exact hn (hg.trans ho.symm)
/-- An ask in a box of its own. -/
def BoxA (w : World) (p : Nat) (a : AskV) : Prop := Blk w p 35 (askC a).toArray
theorem BoxA.at_ {w : World} {p : Nat} {a : AskV} (h : BoxA w p a) : AskAt w p 0 a := by
  unfold BoxA at h
  exact ⟨by simpa [askC] using h.cell 0, by simpa [askC] using h.cell 1, by simpa [askC] using h.cell 2, by simpa [askC] using h.cell 3, by simpa [askC] using h.cell 4⟩
/-- The closures of the asks so far: each has its ask in a box of its own. -/
def CloAt (w : World) (B q : Nat) (v : Value) (l : List AskV) (fs : List Value) : Prop :=
  ∀ i (h1 : i < fs.length), ∃ (h2 : i < l.length) (p : Nat), fs[i] = .func (.func 22) #[] #[.pointer (some ⟨p, 0, none⟩)] ∧ BoxA w p l[i] ∧ B ≤ p ∧ ¬ Oset q v p
/-- Their boxes are no writer's. -/
def CloFar (q : Nat) (v : Value) (fs : List Value) : Prop := ∀ f ∈ fs, ∀ fn p, f = .func fn #[] #[.pointer (some ⟨p, 0, none⟩)] → ¬ Oset q v p
section
variable {w w' : World} {B q : Nat} {v v' : Value} {l : List AskV} {fs : List Value}
theorem CloAt.nil : CloAt w B q v l [] := fun i h => by simp at h
theorem CloFar.nil : CloFar q v [] := fun f h => by simp at h
theorem CloAt.snoc {j p : Nat} (h : CloAt w B q v l fs) (hj : fs.length = j) (hl : j < l.length) (ha : BoxA w p l[j]) (hB : B ≤ p) (hno : ¬ Oset q v p) : CloAt w B q v l (fs ++ [.func (.func 22) #[] #[.pointer (some ⟨p, 0, none⟩)]]) := by
  intro i h1
  by_cases hi : i < fs.length
  · obtain ⟨h2, p', e, r⟩ := h i hi
    exact ⟨h2, p', by rw [List.getElem_append_left hi]; exact e, r⟩
  · rw [List.length_append, List.length_singleton] at h1
    obtain rfl : i = j := by omega
    exact ⟨hl, p, by rw [List.getElem_append_right (by omega)]; simp [hj], ha, hB, hno⟩
theorem CloFar.snoc {p : Nat} {fn : Fn} (h : CloFar q v fs) (hno : ¬ Oset q v p) : CloFar q v (fs ++ [.func fn #[] #[.pointer (some ⟨p, 0, none⟩)]]) := by
  intro f hf fn' p' e
  rcases List.mem_append.1 hf with hf | hf
  · exact h f hf fn' p' e
  · simp at hf
    rw [hf] at e
    injection e with _ _ e
    simp at e
    rw [← e]; exact hno
theorem CloAt.chg {S : Nat → Prop} (h : CloAt w B q v l fs) (hc : Chg S w w') (hS : ∀ i (h1 : i < fs.length) fn p, fs[i] = .func fn #[] #[.pointer (some ⟨p, 0, none⟩)] → ¬ S p) : CloAt w' B q v l fs := fun i h1 => by
  obtain ⟨h2, p, e, ha, r⟩ := h i h1
  exact ⟨h2, p, e, hc.blk ha (hS i h1 _ p e), r⟩
theorem CloAt.below (h : CloAt w B q v l fs) (hb : Below w.heap.size w w') : CloAt w' B q v l fs := fun i h1 => by
  obtain ⟨h2, p, e, ha, r⟩ := h i h1
  exact ⟨h2, p, e, Blk.below ha hb (Blk.lt ha), r⟩
theorem CloFar.step (h : CloFar q v fs) (hn : NewOr w v v') (hlt : ∀ f ∈ fs, ∀ fn p, f = .func fn #[] #[.pointer (some ⟨p, 0, none⟩)] → p < w.heap.size) : CloFar q v' fs := fun f hf fn p e ho => h f hf fn p e (ho.back hn (hlt f hf fn p e))
theorem CloAt.lts (h : CloAt w B q v l fs) : ∀ f ∈ fs, ∀ fn p, f = .func fn #[] #[.pointer (some ⟨p, 0, none⟩)] → p < w.heap.size := by
  intro f hf fn p e
  obtain ⟨i, hi, rfl⟩ := List.getElem_of_mem hf
  obtain ⟨h2, p', e', ha, _⟩ := h i hi
  rw [e'] at e
  injection e with _ _ e
  simp at e
  rw [← e]; exact Blk.lt ha
end
set_option maxRecDepth 100000 in
set_option maxHeartbeats 4000000 in
theorem outAll_any (most : Int) (fi l : List AskV) (mf m : Nat) (Af A : Option Addr) (cf c : Nat) (w : World) (h1 : -9223372036854775808 ≤ most) (h2 : most ≤ 9223372036854775807) (hmf : fi.length = mf) (hm : l.length = m)
    (hlf : SlN w Af mf cf 5 (fi.flatMap askC)) (hokf : ∀ a ∈ fi, AskOk w a) (hl : SlN w A m c 5 (l.flatMap askC)) (hok : ∀ a ∈ l, AskOk w a) :
    Calls Try.prog 4 #[.int .i64 most, .slice Af mf cf, .slice A m c] w fun e w' => e = .returned (.bool true) ∧ Below w.heap.size w w' := by
  have hcmf : mf ≤ 9223372036854775807 := by have g1 := hlf.cap; have g2 := hlf.small; omega
  have hcm : m ≤ 9223372036854775807 := by have g1 := hl.cap; have g2 := hl.small; omega
  have hmk := func_run (P := Try.prog)
  obtain ⟨i1, hi1, hz01, hz11, hz21⟩ := info_parts Try.infoFn
  have hsmf := fun W (hW : Below w.heap.size w W) => small_any fi mf Af cf W hmf (hlf.below hW) (fun a ha => by have h1 := (hokf a ha).s.cap; have h2 := (hokf a ha).s.small; rw [List.length_map] at h1; omega)
  have hsm := fun W (hW : Below w.heap.size w W) => small_any l m A c W hm (hl.below hW) (fun a ha => by have h1 := (hok a ha).s.cap; have h2 := (hok a ha).s.small; rw [List.length_map] at h1; omega)
  have hsff := fun h => smallB_facts (l := fi) h
  have hsf := fun h => smallB_facts (l := l) h
  generalize smallB fi = smf at *
  generalize smallB l = sm at *
  have HSMF := hid hsmf
  have HSM := hid hsm
  have HMF := hid hmf
  have HM := hid hm
  have HLF := hid hlf
  have HL := hid hl
  have HOKF := hid hokf
  have HOK := hid hok
  have HSFF := hid hsff
  have HSF := hid hsf
  clear hsmf hsm hmf hm hlf hl hokf hok hsff hsf
  cases sm with
  | false =>
    go_enter Try.func4, Try.ntmps4
    go_wp2_with fail
    refine (live5_any _).mono ?_
    rintro e w1 ⟨rfl, hb1⟩
    go_wp2_with fail
    refine (HSM.out _ hb1).mono ?_
    rintro e w2 ⟨rfl, k, rfl⟩
    go_wp2_with fail
    go_ret
    exact ⟨rfl, bw_d hb1 k⟩
  | true =>
  cases smf with
  | false =>
    go_enter Try.func4, Try.ntmps4
    go_wp2_with fail
    refine (live5_any _).mono ?_
    rintro e w1 ⟨rfl, hb1⟩
    go_wp2_with fail
    refine (HSM.out _ hb1).mono ?_
    rintro e w2 ⟨rfl, k, rfl⟩
    go_wp2_with fail
    refine (HSMF.out _ (bw_d hb1 k)).mono ?_
    rintro e w2 ⟨rfl, k2, rfl⟩
    go_wp2_with fail
    go_ret
    exact ⟨rfl, bw_d hb1 (k + k2)⟩
  | true =>
    obtain ⟨hm40, h1000⟩ := HSF.out rfl
    obtain ⟨hmf40, h1000f⟩ := HSFF.out rfl
    have H1000 := hid h1000
    have H1000F := hid h1000f
    clear h1000 HSF h1000f HSFF
    go_enter Try.func4, Try.ntmps4
    go_wp2_with fail
    refine (live5_any _).mono ?_
    rintro e w1 ⟨rfl, hb1⟩
    go_wp2_with fail
    refine (HSM.out _ hb1).mono ?_
    rintro e w2 ⟨rfl, k, rfl⟩
    go_wp2_with fail
    refine (HSMF.out _ (bw_d hb1 k)).mono ?_
    rintro e w2 ⟨rfl, k2, rfl⟩
    have hb2 : Below w.heap.size w ((w1.drewN k).drewN k2) := bw_d (bw_d hb1 k) k2
    generalize (w1.drewN k).drewN k2 = w2 at *
    go_wp2_with fail
    refine (onew_any most w2 h1 h2).mono ?_
    rintro e w3 ⟨q, rfl, ho3, hb3⟩
    go_wp2_with fail
    refine (onew_any most w3 h1 h2).mono ?_
    rintro e w4 ⟨p, rfl, hp4, hb4⟩
    have hcap := hp4.lim
    generalize capN most = cap at *
    have hB4 : Below w.heap.size w w4 := bw_t (bw_t hb2 hb3) hb4
    have hap4 : Apart q (.slice none 0 0) p (.slice none 0 0) := fun k hk hk2 => by have h3 := (ho3.sets k hk).2; have h4 := (hp4.sets k hk2).1; omega
    have HO4 := hid ((ho3.mono hb2.size).new hb4)
    have HP4 := hid (hp4.mono (Nat.le_trans hb2.size hb3.size))
    have HAP4 := hid hap4
    have HB4 := hid hB4
    clear hb1 hb2 hb3 hb4 ho3 hp4 hap4 hB4
    go_wp2_with fail
    go_loopw [9] (fun i wr => ∃ (j n : Nat) (v vp : Value) (bs : List UInt8), j ≤ mf ∧ i = .int .i64 (j : Int) ∧ bs.length = n ∧ n ≤ 1010 * j ∧ Wr wr w.heap.size q v bs cap ∧ Wr wr w.heap.size p vp bs cap ∧ Apart q v p vp ∧ Below w.heap.size w wr) (fun i _ => mf - (intOf i).toNat)
    case atStart => exact ⟨0, 0, _, _, [], by omega, rfl, rfl, by omega, HO4.out, HP4.out, HAP4.out, HB4.out⟩
    case round =>
      obtain ⟨j, n, v, vp, bs, hj, rfl, hbs, hn10, hw, hp, hap, hB⟩ := hrel
      by_cases hlt : j < mf
      · have hjl : j < fi.length := by have := HMF.out; omega
        obtain ⟨b, off, rfl, hat⟩ := askAt_of HLF.out hjl
        have hoka := HOKF.out fi[j] (List.getElem_mem hjl)
        have hala := H1000F.out fi[j] (List.getElem_mem hjl)
        have hji : (j : Int) < (mf : Int) := by omega
        have hj0 : (0 : Int) ≤ (j : Int) := by omega
        have hbw := hat.lt
        have hat2 := hat.below hB
        generalize fi[j] = a at *
        have hno : ∀ {q : Nat} {v : Value} {bs : List UInt8} {W : World}, Wr W w.heap.size q v bs cap → ∀ k, k < w.heap.size → ¬ Oset q v k := fun h k hk ho => by have := (h.sets k ho).1; omega
        have hdo : ∀ W q v, Below w.heap.size w W → Wr W w.heap.size q v bs cap → _ := fun W q v hW hwr => do_any a W w.heap.size q v bs cap (hoka.new hW) (by omega) (hoka.far (hno hwr)) hwr
        have hlen := doW_len cap a bs hala hoka.n hoka.x
        obtain ⟨bs2, hbs2⟩ : ∃ x, (doW cap a bs).1 = x := ⟨_, rfl⟩
        obtain ⟨er, her⟩ : ∃ x, (doW cap a bs).2 = x := ⟨_, rfl⟩
        rw [hbs2] at hlen
        simp only [hbs2, her] at hdo
        obtain ⟨n2, hn2⟩ : ∃ x, bs2.length = x := ⟨_, rfl⟩
        rw [hn2, hbs] at hlen
        rw [hbs] at hdo
        clear hbs2 her hoka hala hat hno
        obtain ⟨ak, an, anum, ax, aA, ac, axs⟩ := a
        obtain ⟨t0, t1, t2, t3, t4⟩ := hat2
        simp only [AskV.agg] at t0 t1 t2 t3 t4 hdo
        generalize axs.length = al at *
        have HDO := hid hdo
        have HN2 := hid hn2
        have HQ := hid hw
        have HP := hid hp
        have HAP := hid hap
        have HBr := hid hB
        have HQ1 := hid (hw.new (below_drewN (Below.refl _ wr) 1))
        have HB1 := hid (hB.trans (below_drewN (Below.refl _ wr) 1))
        have HT := hid (And.intro t0 (And.intro t1 (And.intro t2 (And.intro t3 t4))))
        have hnbq : ¬ Oset q v b := fun ho => by have := (hw.sets b ho).1; omega
        have hnbp : ¬ Oset p vp b := fun ho => by have := (hp.sets b ho).1; omega
        clear hdo hn2 hw hp hap hB hbs
        go_wp2_with fail
        go_region_held3 (fun W => W.cell? ⟨b, off + j * 5, none⟩ = some (.int .u8 (ak : Int)) ∧ W.cell? ⟨b, off + j * 5 + 1, none⟩ = some (.int .u64 (an : Int)) ∧ W.cell? ⟨b, off + j * 5 + 2, none⟩ = some (.int .i64 anum) ∧ W.cell? ⟨b, off + j * 5 + 3, none⟩ = some (.int .u8 (ax : Int)) ∧ W.cell? ⟨b, off + j * 5 + 4, none⟩ = some (.slice aA al ac)) (first | exact HK4.out | exact HK3.out | exact HT.out | go_keep) (first | (go_at_call 18; refine (HDO.out _ _ ?v ?hb ?hw).mono ?hk; (case hw => exact HQ1.out); (case hb => exact HB1.out); rintro e w3 ⟨v3, rfl, hw3, hst3⟩; have HK3 := hid (heldA (w := wr.drewN 1) (w' := w3) hst3.chg hnbq HT.out); have hp3 := (HP.out.new (below_drewN (Below.refl _ wr) 1)).chg hst3.chg HAP.out.symm; have hB3 := HB1.out.trans (hst3.below HQ1.out)) | (go_at_call 18; refine (HDO.out _ _ ?v2 ?hb2 ?hw2).mono ?hk2; (case hw2 => exact hp3); (case hb2 => exact hB3); rintro e w4 ⟨v4, rfl, hp4, hst4⟩; have HK4 := hid (heldA hst4.chg hnbp HK3.out)))
        have hst3 := hst3
        have hap3 : Apart q v3 p vp := HAP.out.step hst3.new (HP.out.new (below_drewN (Below.refl _ wr) 1))
        have hw4 := hw3.chg hst4.chg hap3
        have hap4 : Apart q v3 p v4 := (hap3.symm.step hst4.new hw3).symm
        have hB4 : Below w.heap.size w w4 := hB3.trans (hst4.below hp3)
        have H4 := hid (And.intro hw4 (And.intro hp4 (And.intro hap4 hB4)))
        clear hw3 hst3 hp3 hB3 hp4 hst4 hw4 hap4 hB4 hap3
        go_wp2_with fail
        exact ⟨⟨j + 1, n2, v3, v4, bs2, by omega, by go_num, HN2.out, by omega, H4.out.1, H4.out.2.1, H4.out.2.2.1, H4.out.2.2.2⟩, by simp [intOf] <;> omega⟩
      · obtain rfl : j = mf := by omega
        have HO := hid hw
        have HP := hid hp
        have HAP := hid hap
        have HBa := hid hB
        have HBS := hid hbs
        clear hw hp hap hB hbs
        generalize wr = wa at *
        have hnq0 : n ≤ 1010 * 40 := by have := HMF.out; omega
        go_wp2_with fail
        go_loopw [10, 11, 12] (fun av ev i wr => ∃ (j : Nat) (fs : List Value) (vp : Value) (bp : List UInt8) (er : Nat), j ≤ m ∧ i = .int .i64 (j : Int) ∧ ev = .int .i64 (er : Int) ∧ fs.length = j ∧ wr.ownsRow w.heap.size 45 1 av j fs ∧ CloAt wr w.heap.size q v l fs ∧
          Wr wr w.heap.size q v bs cap ∧ Wr wr w.heap.size p vp bp cap ∧ Apart q v p vp ∧ CloFar p vp fs ∧ allR ((l.map (doW cap)).take j) bs = (bp, er) ∧ n ≤ bp.length ∧ bp.length ≤ n + 1010 * j ∧ Below w.heap.size w wr) (fun _ _ i _ => m - (intOf i).toNat)
        case atStart => exact ⟨0, [], vp, bs, 0, by omega, rfl, rfl, rfl, World.ownsRow_nil _ _ _ _, CloAt.nil, HO.out, HP.out, HAP.out, CloFar.nil, rfl, by rw [HBS.out]; exact Nat.le_refl _, by rw [HBS.out]; omega, HBa.out⟩
        case round =>
          obtain ⟨i, fs, vp2, bp, er, hi, rfl, rfl, hfl, hrow, hclo, hq, hp, hap, hcf, hall, hnb, hnb2, hB⟩ := hrel
          by_cases hlt2 : i < m
          · have hil : i < l.length := by have := HM.out; omega
            obtain ⟨b, off, rfl, hat⟩ := askAt_of HL.out hil
            have hoka := HOK.out l[i] (List.getElem_mem hil)
            have hala := H1000.out l[i] (List.getElem_mem hil)
            have hji : (i : Int) < (m : Int) := by omega
            have hj0 : (0 : Int) ≤ (i : Int) := by omega
            have hat2 := hat.below hB
            have hgl : i < (l.map (doW cap)).length := by rw [List.length_map]; exact hil
            have hgi : (l.map (doW cap))[i] = doW cap l[i] := by rw [List.getElem_map]
            have hstep0 := fun h => allR_step (gs := l.map (doW cap)) (bs := bs) (b1 := bp) hgl h
            rw [hgi] at hstep0
            have hstop0 : er ≠ 0 → allR ((l.map (doW cap)).take (i + 1)) bs = (bp, er) := fun he => by
              rw [List.take_succ_eq_append_getElem hgl, allR_append, hall, if_neg he]
            have hclo2 : ∀ W, CloAt W w.heap.size q v l fs → BoxA W wr.heap.size l[i] → CloAt W w.heap.size q v l (fs ++ [.func (.func 22) #[] #[.pointer (some ⟨wr.heap.size, 0, none⟩)]]) := fun W h1 h2 =>
              h1.snoc hfl hil h2 hB.size (fun ho => by have := (hq.sets _ ho).2; omega)
            have hcf2 : CloFar p vp2 (fs ++ [.func (.func 22) #[] #[.pointer (some ⟨wr.heap.size, 0, none⟩)]]) := hcf.snoc fun ho => by have := (hp.sets _ ho).2; omega
            have hnoP : ∀ k, k < w.heap.size → ∀ {W : World} {v : Value} {b : List UInt8}, Wr W w.heap.size p v b cap → ¬ Oset p v k := fun k hk _ _ _ h ho => by have := (h.sets k ho).1; omega
            have hdo : ∀ W, Below w.heap.size w W → Wr W w.heap.size p vp2 bp cap → _ := fun W hW hwr => do_any l[i] W w.heap.size p vp2 bp cap (hoka.new hW) (by omega) (hoka.far (fun k hk => hnoP k hk hwr)) hwr
            have hlenD := doW_len cap l[i] bp hala hoka.n hoka.x
            generalize l[i] = a at *
            obtain ⟨bp2, hbp2⟩ : ∃ x, (doW cap a bp).1 = x := ⟨_, rfl⟩
            obtain ⟨er2, her2⟩ : ∃ x, (doW cap a bp).2 = x := ⟨_, rfl⟩
            have hpair : doW cap a bp = (bp2, er2) := Prod.ext hbp2 her2
            rw [hpair] at hstep0 hlenD
            simp only [hpair] at hdo
            simp only at hlenD
            have hAok : a.s.xs.length ≤ 1000 := hala
            have HCF2 := hid hcf2
            have HCLO := hid hclo
            have HCLO2 := hid hclo2
            have HST0 := hid hstep0
            have HSP0 := hid hstop0
            have HALL := hid hall
            have HDO2 := hid hdo
            have HQ := hid hq
            have HP2 := hid hp
            have HAP2 := hid hap
            have HB2 := hid hB
            have HROW := hid hrow
            have HFL := hid hfl
            obtain ⟨t0, t1, t2, t3, t4⟩ := hat2
            clear hcf2 hclo hclo2 hstep0 hstop0 hall hdo hq hp hap hB hrow hfl hbp2 her2 hpair hoka hala hat hcf hnoP hgi hgl
            obtain ⟨ak, an, anum, ax, aA, ac, axs⟩ := a
            simp only [AskV.agg] at t0 t1 t2 t3 t4 HDO2
            have HBX := hid (Blk.new wr 35 #[.int .u8 (ak : Int), .int .u64 (an : Int), .int .i64 anum, .int .u8 (ax : Int), .slice aA axs.length ac])
            generalize hal : axs.length = al at *
            have HAL := hid hal
            clear hal
            have hrowA := (HROW.out.alloc (.cells #[.int .u8 (ak : Int), .int .u64 (an : Int), .int .i64 anum, .int .u8 (ax : Int), .slice aA al ac] 35)).alloc (.cells #[.func (.func 22) #[] #[.pointer (some ⟨wr.heap.size, 0, none⟩)]] 45)
            have hbA := bw_a (bw_a (Below.refl wr.heap.size wr) (.cells #[.int .u8 (ak : Int), .int .u64 (an : Int), .int .i64 anum, .int .u8 (ax : Int), .slice aA al ac] 35)) (.cells #[.func (.func 22) #[] #[.pointer (some ⟨wr.heap.size, 0, none⟩)]] 45)
            have hsA := Rd.new (wr.alloc (.cells #[.int .u8 (ak : Int), .int .u64 (an : Int), .int .i64 anum, .int .u8 (ax : Int), .slice aA al ac] 35)) 45 #[.func (.func 22) #[] #[.pointer (some ⟨wr.heap.size, 0, none⟩)]]
            rw [World.size_alloc] at hsA
            have hwbw := HB2.out.size
            by_cases he : er = 0
            · subst he
              go_wp2_with (at_builtin; refine wpList_append_rd rfl (.tmp 64) (.tmp 66) 44 rfl w.heap.size 45 i1 .nilFunc 1 8 Try.underlying44 hi1 hz01 hz11 hz21 rfl (by decide) _ _ _ rfl hrowA (some ⟨wr.heap.size + 1, 0, none⟩) 1 1 [.func (.func 22) #[] #[.pointer (some ⟨wr.heap.size, 0, none⟩)]] rfl rfl (by simpa using hsA) (fun h => by cases h) (by simp [Value.oneCell']) (by simp only [maxLen]; omega) (by omega) (Nat.le_trans hwbw hbA.size) ?_; intro v5 w5 hown5 hgrow5; have hbx5 : Blk w5 wr.heap.size 35 #[.int .u8 (ak : Int), .int .u64 (an : Int), .int .i64 anum, .int .u8 (ax : Int), .slice aA al ac] := (hgrow5.block wr.heap.size (by simp; omega) (fun e => own_blk_ne hrowA (HBX.out.alloc _) (by decide) e.symm)).trans (HBX.out.alloc _); have b0 : w5.cell? ⟨wr.heap.size, 0, none⟩ = some (.int .u8 (ak : Int)) := hbx5.cell 0; have b1 : w5.cell? ⟨wr.heap.size, 1, none⟩ = some (.int .u64 (an : Int)) := hbx5.cell 1; have b2 : w5.cell? ⟨wr.heap.size, 2, none⟩ = some (.int .i64 anum) := hbx5.cell 2; have b3 : w5.cell? ⟨wr.heap.size, 3, none⟩ = some (.int .u8 (ax : Int)) := hbx5.cell 3; have b4 : w5.cell? ⟨wr.heap.size, 4, none⟩ = some (.slice aA al ac) := hbx5.cell 4)
              have hB5 : Below w.heap.size w w5 := bw_g (HB2.out.trans (hbA.mono hwbw)) hgrow5 (fun k ek => (hrowA.lt k ek).1)
              have hch5 : Chg (fun k => u10.ownBlock = some k) wr w5 := (Chg.of_new hbA).trans (.of_grown hgrow5 fun g hg => hg)
              have hq5 := HQ.out.chg hch5 (fun k ho hk => own_wr HROW.out HQ.out (by decide) (by decide) k hk ho)
              have hp5 := HP2.out.chg hch5 (fun k ho hk => own_wr HROW.out HP2.out (by decide) (by decide) k hk ho)
              have hat5 : BoxA w5 wr.heap.size ⟨ak, an, anum, ax, ⟨aA, ac, axs⟩⟩ := by unfold BoxA; simp only [askC]; rw [HAL.out]; exact hbx5
              have hcl5 := HCLO2.out w5 (HCLO.out.chg hch5 (fun i h1 fn p' e hk => by
                obtain ⟨h2, p2, e2, ha, _⟩ := HCLO.out i h1
                rw [e2] at e
                injection e with _ _ e
                simp at e
                subst e
                exact own_blk_ne HROW.out ha (by decide) hk)) hat5
              have hfl5 : (fs ++ [Value.func (.func 22) #[] #[.pointer (some ⟨wr.heap.size, 0, none⟩)]]).length = i + 1 := by rw [List.length_append, HFL.out]; rfl
              have HST1 := hid (HST0.out HALL.out)
              have H5 := hid (And.intro hq5 (And.intro hcl5 (And.intro hfl5 (And.intro hown5 hB5))))
              have HP5 := hid hp5
              have HDC := hid (HDO2.out w5 hB5 hp5)
              clear hB5 hch5 hq5 hp5 hat5 hcl5 hfl5 hown5 hgrow5 hbx5
              go_wp2_with fail
              refine HDC.out.mono ?_
              rintro e w6 ⟨v6, rfl, hp6, hst6⟩
              have hown6 := own_chg H5.out.2.2.2.1 hst6.chg (own_wr H5.out.2.2.2.1 HP5.out (by decide) (by decide))
              have hcl6 := H5.out.2.1.chg hst6.chg (fun i h1 fn p' e => HCF2.out _ (List.getElem_mem h1) fn p' e)
              have hcf6 := HCF2.out.step hst6.new H5.out.2.1.lts
              have hq6 := H5.out.1.chg hst6.chg HAP2.out
              have hap6 : Apart q v p v6 := (HAP2.out.symm.step hst6.new H5.out.1).symm
              have hB6 : Below w.heap.size w w6 := H5.out.2.2.2.2.trans (hst6.below HP5.out)
              have H6 := hid (And.intro hown6 (And.intro hcl6 (And.intro hq6 (And.intro hp6 (And.intro hap6 (And.intro hcf6 hB6))))))
              clear hown6 hcl6 hq6 hp6 hap6 hcf6 hB6 hst6
              go_wp2_with fail
              exact ⟨⟨i + 1, _, v6, bp2, er2, by omega, by go_num, rfl, H5.out.2.2.1, H6.out.1, H6.out.2.1, H6.out.2.2.1, H6.out.2.2.2.1, H6.out.2.2.2.2.1, H6.out.2.2.2.2.2.1, HST1.out, by omega, by omega, H6.out.2.2.2.2.2.2⟩, by simp [intOf] <;> omega⟩
            · have heb : ((er : Int) == 0) = false := by simp [he]
              go_wp2_with (at_builtin; refine wpList_append_rd rfl (.tmp 64) (.tmp 66) 44 rfl w.heap.size 45 i1 .nilFunc 1 8 Try.underlying44 hi1 hz01 hz11 hz21 rfl (by decide) _ _ _ rfl hrowA (some ⟨wr.heap.size + 1, 0, none⟩) 1 1 [.func (.func 22) #[] #[.pointer (some ⟨wr.heap.size, 0, none⟩)]] rfl rfl (by simpa using hsA) (fun h => by cases h) (by simp [Value.oneCell']) (by simp only [maxLen]; omega) (by omega) (Nat.le_trans hwbw hbA.size) ?_; intro v5 w5 hown5 hgrow5; have hbx5 : Blk w5 wr.heap.size 35 #[.int .u8 (ak : Int), .int .u64 (an : Int), .int .i64 anum, .int .u8 (ax : Int), .slice aA al ac] := (hgrow5.block wr.heap.size (by simp; omega) (fun e => own_blk_ne hrowA (HBX.out.alloc _) (by decide) e.symm)).trans (HBX.out.alloc _); have b0 : w5.cell? ⟨wr.heap.size, 0, none⟩ = some (.int .u8 (ak : Int)) := hbx5.cell 0; have b1 : w5.cell? ⟨wr.heap.size, 1, none⟩ = some (.int .u64 (an : Int)) := hbx5.cell 1; have b2 : w5.cell? ⟨wr.heap.size, 2, none⟩ = some (.int .i64 anum) := hbx5.cell 2; have b3 : w5.cell? ⟨wr.heap.size, 3, none⟩ = some (.int .u8 (ax : Int)) := hbx5.cell 3; have b4 : w5.cell? ⟨wr.heap.size, 4, none⟩ = some (.slice aA al ac) := hbx5.cell 4)
              have hB5 : Below w.heap.size w w5 := bw_g (HB2.out.trans (hbA.mono hwbw)) hgrow5 (fun k ek => (hrowA.lt k ek).1)
              have hch5 : Chg (fun k => u10.ownBlock = some k) wr w5 := (Chg.of_new hbA).trans (.of_grown hgrow5 fun g hg => hg)
              have hq5 := HQ.out.chg hch5 (fun k ho hk => own_wr HROW.out HQ.out (by decide) (by decide) k hk ho)
              have hp5 := HP2.out.chg hch5 (fun k ho hk => own_wr HROW.out HP2.out (by decide) (by decide) k hk ho)
              have hat5 : BoxA w5 wr.heap.size ⟨ak, an, anum, ax, ⟨aA, ac, axs⟩⟩ := by unfold BoxA; simp only [askC]; rw [HAL.out]; exact hbx5
              have hcl5 := HCLO2.out w5 (HCLO.out.chg hch5 (fun i h1 fn p' e hk => by
                obtain ⟨h2, p2, e2, ha, _⟩ := HCLO.out i h1
                rw [e2] at e
                injection e with _ _ e
                simp at e
                subst e
                exact own_blk_ne HROW.out ha (by decide) hk)) hat5
              have hfl5 : (fs ++ [Value.func (.func 22) #[] #[.pointer (some ⟨wr.heap.size, 0, none⟩)]]).length = i + 1 := by rw [List.length_append, HFL.out]; rfl
              have HST1 := hid (HSP0.out he)
              exact ⟨⟨i + 1, _, vp2, bp, er, by omega, by go_num, rfl, hfl5, hown5, hcl5, hq5, hp5, HAP2.out, HCF2.out, HST1.out, hnb, by omega, hB5⟩, by simp [intOf] <;> omega⟩
          · obtain rfl : i = m := by omega
            have hi40 : i ≤ 40 := by have := HM.out; omega
            have hgl : (l.map (doW cap)).length = i := by rw [List.length_map]; exact HM.out
            have hfull : allR (l.map (doW cap)) bs = (bp, er) := by rwa [List.take_of_length_le (by omega)] at hall
            have hsnd : (allW (l.map (doW cap)) bs).2 = er := by rw [allW_snd, hfull]
            have hlist := own_wr hrow hq (by decide) (by decide)
            obtain ⟨fA, fc, rfl, -, hfs⟩ := Sl.of_own hrow
            have HQ := hid hq
            have HP2 := hid hp
            have HAP2 := hid hap
            have HCLO := hid hclo
            have HFS := hid hfs
            have HFL := hid hfl
            have HLS := hid hlist
            have HB2 := hid hB
            have HGL := hid hgl
            have HSND := hid hsnd
            have HFULL := hid hfull
            clear hq hp hap hclo hfs hfl hlist hB hall hrow hcf hgl hsnd hfull
            go_wp2_with fail
            refine (l5_out n wr _ q v bs cap HBS.out HQ.out (by omega)).mono ?_
            rintro e wo ⟨oA, oc, rfl, hos, hof, hob⟩
            have HOS := hid hos
            have HOF := hid hof
            have hqo := HQ.out.new hob
            have hpo := HP2.out.new hob
            have hBo : Below w.heap.size w wo := bw_t HB2.out hob
            have hall2 := oall_any (l.map (doW cap)) fs i fA fc wo w.heap.size q v bs cap HFL.out HGL.out (HFS.out.below hob) (fun b o he => HLS.out b (by rw [he]; rfl)) (fun j h1 h2 => by
              obtain ⟨h3, p', e', hbx, hwp, hno⟩ := HCLO.out.below hob j h1
              refine .inr ⟨_, _, e', fun args W => by kernel_rfl, fun W v1 b1 hw1 hst1 hle1 => ?_⟩
              have hBW : Below w.heap.size w W := hBo.trans (hst1.below hqo)
              have hoka := HOK.out l[j] (List.getElem_mem h3)
              have hala := H1000.out l[j] (List.getElem_mem h3)
              have hd := all1c_any l[j] p' W w.heap.size q v1 b1 cap (BoxA.at_ (hst1.chg.blk hbx hno)) (hoka.new hBW) (by omega) (hoka.far fun k hk ho => by have := (hw1.sets k ho).1; omega) hw1
              rw [List.getElem_map]
              exact hd.mono fun e w' ⟨v2, x1, x2, x3⟩ => ⟨v2, x1, x2, x3, (doW_len cap l[j] b1 hala hoka.n hoka.x).1⟩) hqo
            rw [HSND.out] at hall2
            have HALL := hid hall2
            have HPO := hid hpo
            have HBO := hid hBo
            have HQO := hid hqo
            clear hos hof hob hall2 hpo hBo hqo
            go_wp2_with fail
            refine HALL.out.mono ?_
            rintro e w7 ⟨v7, rfl, hw7, hst7, -⟩
            have hp7 := HPO.out.chg hst7.chg HAP2.out.symm
            have hB7 : Below w.heap.size w w7 := HBO.out.trans (hst7.below HQO.out)
            have hos7 : Sl w7 oA oc (bs.map bv) := hst7.chg.sl HOS.out (n := bs.length) (fun _ b o he ho => by have h1 := HOF.out b o he; have h2 := (HQ.out.sets b ho).2; omega) (by simp)
            have HW7 := hid hw7
            have HP7 := hid hp7
            have HB7 := hid hB7
            have HOS7 := hid hos7
            clear hw7 hst7 hp7 hB7 hos7
            by_cases he : er = 0
            · subst he
              have hw : allW (l.map (doW cap)) bs = (bp, 0) := by unfold allW; rw [HFULL.out, if_pos rfl]
              rw [hw] at HW7
              simp only at HW7
              obtain ⟨nb, hnb'⟩ : ∃ x, bp.length = x := ⟨_, rfl⟩
              have HNB := hid hnb'
              rw [hnb'] at hnb hnb2
              have hlo : ((cap - bp.length : Nat) : Int) = ((cap - nb : Nat) : Int) := by rw [hnb']
              generalize ((cap - nb : Nat) : Int) = lf at *
              have HLO := hid hlo
              clear hnb' hlo hw
              go_wp2_with fail
              refine (l5_out nb w7 _ q _ bp cap HNB.out HW7.out (by omega)).mono ?_
              rintro e w8 ⟨A8, c8, rfl, hs8, hf8, hb8⟩
              have HS8 := hid hs8
              have HB8 := hid hb8
              clear hs8 hf8 hb8
              go_wp2_with fail
              refine (l5_out nb w8 _ p _ bp cap HNB.out (HP7.out.new HB8.out) (by omega)).mono ?_
              rintro e w9 ⟨A9, c9, rfl, hs9, hf9, hb9⟩
              have HS9 := hid hs9
              have HS89 := hid (HS8.out.below hb9)
              have HB9 := hid (bw_t HB8.out hb9)
              clear hs9 hf9 hb9
              go_wp2_with fail
              refine (same_at bp bp nb nb A8 A9 c8 c9 _ HNB.out HNB.out (by omega) HS89.out.rd HS9.out.rd).mono ?_
              rw [decide_eq_true rfl]
              rintro e w10 ⟨rfl, k10, rfl⟩
              have HQ10 := hid (HW7.out.new (bw_d HB9.out k10))
              have HP10 := hid (HP7.out.new (bw_d HB9.out k10))
              have HB10 := hid (bw_t HB7.out (bw_d HB9.out k10))
              generalize w9.drewN k10 = w10 at *
              go_wp2_with fail
              refine (l5_left lf w10 _ q _ bp cap HLO.out HQ10.out).mono ?_
              rintro e w11 ⟨rfl, k11, rfl⟩
              go_wp2_with fail
              refine (l5_left lf (w10.drewN k11) _ p _ bp cap HLO.out (HP10.out.new (below_drewN (Below.refl _ w10) k11))).mono ?_
              rintro e w12 ⟨rfl, k12, rfl⟩
              go_wp2_with fail
              go_ret
              exact ⟨by simp, bw_d HB10.out (k11 + k12)⟩
            · have heb : ((er : Int) != 0) = true := by simp [he]
              have hw : allW (l.map (doW cap)) bs = (bs, er) := by unfold allW; rw [HFULL.out, if_neg he]
              rw [hw] at HW7
              simp only at HW7
              clear hw he
              go_wp2_with fail
              refine (l5_out n w7 _ q _ bs cap HBS.out HW7.out (by omega)).mono ?_
              rintro e w8 ⟨A8, c8, rfl, hs8, hf8, hb8⟩
              have HS8 := hid hs8
              have HO8 := hid (HOS7.out.below hb8)
              have HB8 := hid hb8
              clear hs8 hf8 hb8
              go_wp2_with fail
              refine (same_at bs bs n n A8 oA c8 oc _ HBS.out HBS.out (by omega) HS8.out.rd HO8.out.rd).mono ?_
              rw [decide_eq_true rfl]
              rintro e w10 ⟨rfl, k10, rfl⟩
              go_wp2_with fail
              go_ret
              exact ⟨rfl, bw_t HB7.out (bw_d HB8.out k10)⟩
end Go.Proofs.Ytapgjkbodfpdaaa
