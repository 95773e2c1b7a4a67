/- The walk of OutletWrites. -/
import Derived.Test.YtapgjkbodfpdaaaLive5
import Derived.Test.YtapgjkbodfpdaaaOutRef
import Derived.Deep.RegionHeld3
set_option linter.unusedVariables false
namespace Go.Proofs.Ytapgjkbodfpdaaa
open Go.RowKit
/-- Are asks few, and short? -/
def smallB (l : List AskV) : Bool := decide (l.length ≤ 40) && l.all fun a => decide (a.s.xs.length ≤ 1000)
set_option maxRecDepth 100000 in
set_option maxHeartbeats 1000000 in
theorem small_any (l : List AskV) (m : Nat) (A : Option Addr) (c : Nat) (w : World) (hm : l.length = m) (hl : SlN w A m c 5 (l.flatMap askC)) (hok : ∀ a ∈ l, a.s.xs.length ≤ 9223372036854775807) :
    Calls Try.prog 13 #[.slice A m c] w fun e w' => e = .returned (.bool (smallB l)) ∧ ∃ k, w' = w.drewN k := by
  have hcm : m ≤ 9223372036854775807 := by have g1 := hl.cap; have g2 := hl.small; omega
  by_cases hb : 40 < m
  · have hs : smallB l = false := by unfold smallB; rw [hm]; simp; omega
    rw [hs]
    clear hs
    go_enter Try.func13, Try.ntmps13
    go_wp2_with fail
    go_ret
    exact ⟨rfl, 0, rfl⟩
  have HM := hid hm
  have HL := hid hl
  have HOK := hid hok
  clear hm hl hok
  go_enter Try.func13, Try.ntmps13
  go_wp2_with fail
  go_loopw [3] (fun i wr => ∃ j k : Nat, j ≤ m ∧ (∀ a ∈ l.take j, a.s.xs.length ≤ 1000) ∧ i = .int .i64 (j : Int) ∧ wr = w.drewN k) (fun i _ => m - (intOf i).toNat)
  case atStart => exact ⟨0, 0, by omega, by simp, rfl, rfl⟩
  case round =>
    obtain ⟨j, k, hj, hall, rfl, rfl⟩ := hrel
    have HALL := hid hall
    clear hall
    by_cases hlt : j < m
    · have hjl : j < l.length := by have := HM.out; omega
      have hsn : l.take (j + 1) = l.take j ++ [l[j]] := List.take_succ_eq_append_getElem hjl
      have hn0 : (l.flatMap askC)[j * 5 + 0]? = _ := flatMap_get askC 5 l j 0 hjl (fun _ _ => rfl) (by omega)
      have hn4 : (l.flatMap askC)[j * 5 + 4]? = _ := flatMap_get askC 5 l j 4 hjl (fun _ _ => rfl) (by omega)
      have hlen := HOK.out l[j] (List.getElem_mem hjl)
      have hmem := List.getElem_mem hjl
      have hsm : 1000 < l[j].s.xs.length → smallB l = false := fun h => by
        unfold smallB
        rw [Bool.and_eq_false_iff]
        exact .inr (by rw [List.all_eq_false]; exact ⟨l[j], hmem, by simp; omega⟩)
      obtain ⟨b, off, rfl, hbl, hc⟩ := HL.out.rd _ _ hn4
      replace hc : w.cell? ⟨b, off + (j * 5 + 4), none⟩ = some (.slice l[j].s.A l[j].s.xs.length l[j].s.c) := hc
      have hji : (j : Int) < (m : Int) := by omega
      have hj0 : (0 : Int) ≤ (j : Int) := by omega
      have HSN := hid hsn
      clear hsn hn0 hn4 hmem
      generalize l[j] = a at *
      obtain ⟨ak, an, anum, ax, aA, ac, axs⟩ := a
      simp only at hc hlen hsm
      generalize hal : axs.length = al at *
      have HAL := hid hal
      have HSM := hid hsm
      clear hal hsm
      have hc2 : (w.drewN k).cell? ⟨b, off + j * 5 + 4, none⟩ = some (.slice aA al ac) := by rw [Nat.add_assoc]; exact hc
      by_cases hbig : 1000 < al
      · have HF := hid (HSM.out hbig)
        go_wp2_with fail
        go_ret
        rw [HF.out]
        exact ⟨rfl, _, rfl⟩
      · go_wp2_with fail
        exact ⟨⟨j + 1, k, by omega, by rw [HSN.out]; intro s hs; rcases List.mem_append.1 hs with h | h; exact HALL.out s h; simp at h; subst h; show axs.length ≤ 1000; rw [HAL.out]; omega, by go_num, rfl⟩, by simp [intOf] <;> omega⟩
    · obtain rfl : j = m := by omega
      have hs : smallB l = true := by
        unfold smallB
        rw [Bool.and_eq_true]
        refine ⟨by have := HM.out; simp; omega, ?_⟩
        rw [List.all_eq_true]
        intro a ha
        have := HALL.out a (by rwa [List.take_of_length_le (by have := HM.out; omega)])
        simpa using this
      have HSB := hid hs
      clear hs
      go_wp2_with fail
      go_ret
      rw [HSB.out]
      exact ⟨rfl, _, rfl⟩
theorem smallB_facts {l : List AskV} (h : smallB l = true) : l.length ≤ 40 ∧ ∀ a ∈ l, a.s.xs.length ≤ 1000 := by
  unfold smallB at h
  rw [Bool.and_eq_true] at h
  refine ⟨by simpa using h.1, fun a ha => ?_⟩
  have := List.all_eq_true.1 h.2 a ha
  simpa using this
theorem doW_len (most : Nat) (a : AskV) (bs : List UInt8) (ha : a.s.xs.length ≤ 1000) (hn : a.n ≤ 18446744073709551615) (hx : a.x ≤ 255) : bs.length ≤ (doW most a bs).1.length ∧ (doW most a bs).1.length ≤ bs.length + 1010 := by
  have hw : ∀ ys : List UInt8, ys.length ≤ 1010 → bs.length ≤ (wput most bs ys).1.length ∧ (wput most bs ys).1.length ≤ bs.length + 1010 := by
    intro ys hy
    unfold wput
    split
    · exact ⟨Nat.le_refl _, Nat.le_add_right _ _⟩
    · simp only [List.length_append]; omega
  have hp : ∀ z, z ≤ 18446744073709551615 → (putN z).length ≤ 10 := fun z hz => putN_length10 hz
  unfold doW
  split
  · exact hw _ (by have := hp a.n hn; omega)
  split
  · unfold wtag
    split
    · have hf := mk_facts a.num (a.x : Int) (by omega) (by omega)
      exact hw _ (by have := hp (mk a.num (a.x : Int)).1.toNat (by omega); omega)
    · exact ⟨Nat.le_refl _, Nat.le_add_right _ _⟩
  split
  · exact hw _ (by rw [length_fixN]; omega)
  split
  · exact hw _ (by rw [length_fixN]; omega)
  split
  · exact hw _ (by rw [List.length_append]; have := hp a.s.xs.length (by omega); omega)
  · exact hw _ (by omega)
theorem askB_len (a : AskV) (ha : a.s.xs.length ≤ 1000) (hn : a.n ≤ 18446744073709551615) (hx : a.x ≤ 255) : (askB a).1.length ≤ 1010 := by
  have hp : ∀ z, z ≤ 18446744073709551615 → (putN z).length ≤ 10 := fun z hz => putN_length10 hz
  have hf := mk_facts a.num (a.x : Int) (by omega) (by omega)
  unfold askB
  split
  · have := hp a.n hn; simp only; omega
  split
  · have := hp (mk a.num (a.x : Int)).1.toNat (by omega); simp only; omega
  split
  · simp only; rw [length_fixN]; omega
  split
  · simp only; rw [length_fixN]; omega
  split
  · simp only; rw [List.length_append]; have := hp a.s.xs.length (by omega); omega
  · simp only; omega
theorem doW_le (most : Nat) (a : AskV) (bs : List UInt8) (hb : bs.length ≤ most) : (doW most a bs).1.length ≤ most := by
  have hw : ∀ ys : List UInt8, (wput most bs ys).1.length ≤ most := by
    intro ys
    unfold wput
    split
    · exact hb
    · simp only [List.length_append]; omega
  unfold doW
  split
  · exact hw _
  split
  · unfold wtag
    split
    · exact hw _
    · exact hb
  split
  · exact hw _
  split
  · exact hw _
  split
  · exact hw _
  · exact hw _
section
variable {S : Nat → Prop} {w w' : World} {b off j q2 n2 c2 al ac : Nat} {x0 x1 x2 x3 x4 y0 y1 : Value}
theorem held5 (hc : Chg S w w') (hb : ¬ S b) (hq : ¬ S q2) (t0 : w.cell? ⟨b, off + j * 5, none⟩ = some x0) (t1 : w.cell? ⟨b, off + j * 5 + 1, none⟩ = some x1) (t2 : w.cell? ⟨b, off + j * 5 + 2, none⟩ = some x2)
    (t3 : w.cell? ⟨b, off + j * 5 + 3, none⟩ = some x3) (t4 : w.cell? ⟨b, off + j * 5 + 4, none⟩ = some x4) (k0 : w.cell? ⟨q2, 0, none⟩ = some y0) (k1 : w.cell? ⟨q2, 1, none⟩ = some y1) :
    w'.cell? ⟨b, off + j * 5, none⟩ = some x0 ∧ w'.cell? ⟨b, off + j * 5 + 1, none⟩ = some x1 ∧ w'.cell? ⟨b, off + j * 5 + 2, none⟩ = some x2 ∧ w'.cell? ⟨b, off + j * 5 + 3, none⟩ = some x3 ∧ w'.cell? ⟨b, off + j * 5 + 4, none⟩ = some x4 ∧ w'.cell? ⟨q2, 0, none⟩ = some y0 ∧ w'.cell? ⟨q2, 1, none⟩ = some y1 := by
  have f : ∀ (p : Addr) (x : Value), ¬ S p.block → w.cell? p = some x → w'.cell? p = some x := fun p x hp h => (World.cell?_of_block (hc.block p.block (World.block_lt_of_cell? w p h) hp)).trans h
  exact ⟨f _ _ hb t0, f _ _ hb t1, f _ _ hb t2, f _ _ hb t3, f _ _ hb t4, f _ _ hq k0, f _ _ hq k1⟩
theorem held5b (hc : Below w.heap.size w w') (h : w.cell? ⟨b, off + j * 5, none⟩ = some x0 ∧ w.cell? ⟨b, off + j * 5 + 1, none⟩ = some x1 ∧ w.cell? ⟨b, off + j * 5 + 2, none⟩ = some x2 ∧ w.cell? ⟨b, off + j * 5 + 3, none⟩ = some x3 ∧ w.cell? ⟨b, off + j * 5 + 4, none⟩ = some x4 ∧ w.cell? ⟨q2, 0, none⟩ = some y0 ∧ w.cell? ⟨q2, 1, none⟩ = some y1) :
    w'.cell? ⟨b, off + j * 5, none⟩ = some x0 ∧ w'.cell? ⟨b, off + j * 5 + 1, none⟩ = some x1 ∧ w'.cell? ⟨b, off + j * 5 + 2, none⟩ = some x2 ∧ w'.cell? ⟨b, off + j * 5 + 3, none⟩ = some x3 ∧ w'.cell? ⟨b, off + j * 5 + 4, none⟩ = some x4 ∧ w'.cell? ⟨q2, 0, none⟩ = some y0 ∧ w'.cell? ⟨q2, 1, none⟩ = some y1 := by
  obtain ⟨t0, t1, t2, t3, t4, k0, k1⟩ := h
  exact held5 (S := fun _ => False) (.of_new hc) (fun h => h) (fun h => h) t0 t1 t2 t3 t4 k0 k1
end
set_option maxRecDepth 100000 in
set_option maxHeartbeats 4000000 in
theorem outWrites_any (most : Int) (l : List AskV) (m : Nat) (A : Option Addr) (c : Nat) (w : World) (h1 : -9223372036854775808 ≤ most) (h2 : most ≤ 9223372036854775807) (hm : l.length = m) (hl : SlN w A m c 5 (l.flatMap askC)) (hok : ∀ a ∈ l, AskOk w a) :
    Calls Try.prog 3 #[.int .i64 most, .slice A m c] w fun e w' => e = .returned (.bool true) ∧ Below w.heap.size w w' := by
  have hcm : m ≤ 9223372036854775807 := by have g1 := hl.cap; have g2 := hl.small; omega
  have hsm := fun W (hW : Below w.heap.size w W) => small_any l m A c W hm (hl.below hW) (fun a ha => by have h1 := (hok a ha).s.cap; have h2 := (hok a ha).s.small; rw [List.length_map] at h1; omega)
  have hsf := fun h => smallB_facts (l := l) h
  generalize smallB l = sm at *
  have HSM := hid hsm
  have HM := hid hm
  have HL := hid hl
  have HOK := hid hok
  have HSF := hid hsf
  clear hsm hm hl hok hsf
  cases sm with
  | false =>
    go_enter Try.func3, Try.ntmps3
    go_wp2_with fail
    refine (live5_any _).mono ?_
    rintro e w1 ⟨rfl, hb1⟩
    go_wp2_with fail
    refine (HSM.out _ hb1).mono ?_
    rintro e w2 ⟨rfl, k, rfl⟩
    go_wp2_with fail
    go_ret
    exact ⟨rfl, bw_d hb1 k⟩
  | true =>
    obtain ⟨hm40, h1000⟩ := HSF.out rfl
    have H1000 := hid h1000
    clear h1000 HSF
    go_enter Try.func3, Try.ntmps3
    go_wp2_with fail
    refine (live5_any _).mono ?_
    rintro e w1 ⟨rfl, hb1⟩
    go_wp2_with fail
    refine (HSM.out _ hb1).mono ?_
    rintro e w2 ⟨rfl, k, rfl⟩
    have hb2 := bw_d hb1 k
    generalize w1.drewN k = w2 at *
    go_wp2_with fail
    refine (onew_any most w2 h1 h2).mono ?_
    rintro e w3 ⟨q, rfl, ho3, hb3⟩
    have hcap : capN most ≤ 16777216 := ho3.lim
    go_wp2_with fail
    refine (rnew5_any most w3 h1 h2).mono ?_
    rintro e w4 ⟨rfl, rfl⟩
    generalize capN most = cap at *
    have hbA := bw_a (Below.refl w3.heap.size w3) (.cells #[.slice none 0 0, .int .i64 (cap : Nat)] 41)
    have hr4 : RWr (w3.alloc (.cells #[.slice none 0 0, .int .i64 (cap : Nat)] 41)) w3.heap.size none 0 [] cap := ⟨Blk.new w3 _ _, Sl.nil_ _⟩
    have ho4 := (ho3.mono hb2.size).new hbA
    have hB4 : Below w.heap.size w (w3.alloc (.cells #[.slice none 0 0, .int .i64 (cap : Nat)] 41)) := bw_t (bw_t hb2 hb3) hbA
    have hq2 : w.heap.size ≤ w3.heap.size := (bw_t hb2 hb3).size
    have hqq : q ≠ w3.heap.size := by have := ho3.lt; omega
    generalize w3.alloc _ = w4 at *
    generalize w3.heap.size = q2 at *
    have HO4 := hid ho4
    have HR4 := hid hr4
    have HB4 := hid hB4
    clear hb1 hb2 hb3 ho3 hbA hr4 ho4 hB4
    go_wp2_with fail
    go_loopw [7] (fun i wr => ∃ (j n : Nat) (v : Value) (bs : List UInt8) (A2 : Option Addr) (c2 : Nat), j ≤ m ∧ i = .int .i64 (j : Int) ∧ bs.length = n ∧ n ≤ 1010 * j ∧ Wr wr w.heap.size q v bs cap ∧ RWr wr q2 A2 c2 bs cap ∧ FarS A2 n (Oset q v) ∧ Below w.heap.size w wr) (fun i _ => m - (intOf i).toNat)
    case atStart => exact ⟨0, 0, _, [], none, 0, by omega, rfl, rfl, by omega, HO4.out, HR4.out, fun h => by omega, HB4.out⟩
    case round =>
      obtain ⟨j, n, v, bs, A1, c1, hj, rfl, hbs, hn10, hw, hr, hfr, hB⟩ := hrel
      have hno : ∀ k, k < w.heap.size → ¬ Oset q v k := fun k hk ho => by have := (hw.sets k ho).1; omega
      have hnq : ¬ Oset q v q2 := by
        rintro (h | h)
        · exact hqq h.symm
        · exact own_blk_ne hw.row hr.blk (by decide) h
      by_cases hlt : j < m
      · have hjl : j < l.length := by have := HM.out; omega
        have hn0 : (l.flatMap askC)[j * 5 + 0]? = _ := flatMap_get askC 5 l j 0 hjl (fun _ _ => rfl) (by omega)
        have hn1 : (l.flatMap askC)[j * 5 + 1]? = _ := flatMap_get askC 5 l j 1 hjl (fun _ _ => rfl) (by omega)
        have hn2 : (l.flatMap askC)[j * 5 + 2]? = _ := flatMap_get askC 5 l j 2 hjl (fun _ _ => rfl) (by omega)
        have hn3 : (l.flatMap askC)[j * 5 + 3]? = _ := flatMap_get askC 5 l j 3 hjl (fun _ _ => rfl) (by omega)
        have hn4 : (l.flatMap askC)[j * 5 + 4]? = _ := flatMap_get askC 5 l j 4 hjl (fun _ _ => rfl) (by omega)
        have hoka := HOK.out l[j] (List.getElem_mem hjl)
        have hala := H1000.out l[j] (List.getElem_mem hjl)
        obtain ⟨b, off, rfl, hbw, t0⟩ := HL.out.rd _ _ hn0
        have u1 := HL.out.rd.addr _ _ hn1
        have u2 := HL.out.rd.addr _ _ hn2
        have u3 := HL.out.rd.addr _ _ hn3
        have u4 := HL.out.rd.addr _ _ hn4
        rw [addr_add] at u1 u2 u3 u4
        simp only [Nat.add_zero, ← Nat.add_assoc] at t0 u1 u2 u3 u4
        have hji : (j : Int) < (m : Int) := by omega
        have hj0 : (0 : Int) ≤ (j : Int) := by omega
        clear hn0 hn1 hn2 hn3 hn4
        generalize l[j] = a at *
        have hby := fun W (hW : Below w.heap.size w W) => bytesOf_any a W ⟨hoka.k, hoka.n, hoka.n1, hoka.n2, hoka.x, hoka.s.below hW⟩ (by omega)
        have hfar : FarS a.s.A a.s.xs.length (Oset q v) := fun hp b' o' he ho => by
          obtain ⟨b2, o2, e2, hlt2, _⟩ := hoka.s.rd 0 (bv (a.s.xs[0]'hp)) (by simp [List.getElem?_eq_getElem hp])
          rw [he] at e2
          injection e2 with e2
          injection e2 with e3 e4
          exact hno b' (by omega) ho
        have hdo := fun W (hW : Below w.heap.size w W) hwr => do_any a W w.heap.size q v bs cap ⟨hoka.k, hoka.n, hoka.n1, hoka.n2, hoka.x, hoka.s.below hW⟩ (by omega) hfar hwr
        have hlen := doW_len cap a bs hala hoka.n hoka.x
        have hdw := doW_ref cap a bs hoka.x
        have hba := askB_len a hala hoka.n hoka.x
        have hdl := doW_le cap a bs hw.le
        obtain ⟨bs2, hbs2⟩ : ∃ x, (doW cap a bs).1 = x := ⟨_, rfl⟩
        obtain ⟨er, her⟩ : ∃ x, (doW cap a bs).2 = x := ⟨_, rfl⟩
        have hpair : doW cap a bs = (bs2, er) := Prod.ext hbs2 her
        rw [hpair] at hlen hdw hdo
        obtain ⟨ys, hys⟩ : ∃ x, (askB a).1 = x := ⟨_, rfl⟩
        obtain ⟨e0, he0⟩ : ∃ x, (askB a).2 = x := ⟨_, rfl⟩
        rw [hys] at hby hba hdw
        rw [he0] at hby hdw
        obtain ⟨n2, hn2⟩ : ∃ x, bs2.length = x := ⟨_, rfl⟩
        obtain ⟨yn, hyn⟩ : ∃ x, ys.length = x := ⟨_, rfl⟩
        rw [hyn] at hby hba
        have hn2' : (bs2, er).1.length = n2 := hn2
        rw [hn2'] at hlen
        rw [hbs] at hlen hdo
        have hbsl : n ≤ 40400 := by omega
        have hn2c : n2 ≤ cap := by rw [hpair, hn2'] at hdl; exact hdl
        have hlf : ((cap - bs2.length : Nat) : Int) = (cap : Int) - (n2 : Int) := by rw [hn2]; omega
        have hwl : IntKind.i64.wrap ((cap : Int) - (n2 : Int)) = (cap : Int) - (n2 : Int) := IntWalk.i64_in _ (by omega)
        clear hbs2 her hpair hys he0 hoka hfar hdl hn2'
        obtain ⟨ak, an, anum, ax, aA, ac, axs⟩ := a
        simp only [AskV.agg] at t0 u1 u2 u3 u4 hby hdo hala
        generalize axs.length = al at *
        have HBY := hid hby
        have HDO := hid hdo
        have HBS := hid hbs
        have HBS2 := hid hn2
        have HYN := hid hyn
        have HDW := hid hdw
        have HWR := hid hw
        have HRR := hid hr
        have HBr := hid hB
        have HFR := hid hfr
        have r0 : wr.cell? ⟨b, off + j * 5, none⟩ = some (.int .u8 (ak : Int)) := (hB.cell (p := ⟨b, off + j * 5, none⟩) hbw).trans t0
        have r1 : wr.cell? ⟨b, off + j * 5 + 1, none⟩ = some (.int .u64 (an : Int)) := (hB.cell (p := ⟨b, off + j * 5 + 1, none⟩) hbw).trans u1
        have r2 : wr.cell? ⟨b, off + j * 5 + 2, none⟩ = some (.int .i64 anum) := (hB.cell (p := ⟨b, off + j * 5 + 2, none⟩) hbw).trans u2
        have r3 : wr.cell? ⟨b, off + j * 5 + 3, none⟩ = some (.int .u8 (ax : Int)) := (hB.cell (p := ⟨b, off + j * 5 + 3, none⟩) hbw).trans u3
        have r4 : wr.cell? ⟨b, off + j * 5 + 4, none⟩ = some (.slice aA al ac) := (hB.cell (p := ⟨b, off + j * 5 + 4, none⟩) hbw).trans u4
        clear hby hdo hbs hn2 hyn hdw hw hr hB hfr
        go_wp2_with fail
        refine (HBY.out _ HBr.out).mono ?_
        rintro e wb ⟨Ab, cb, rfl, hsb, hbb⟩
        by_cases hz : e0 = 0
        · subst hz
          rw [if_pos rfl] at HDW
          have HSB := hid hsb
          have HBB := hid hbb
          clear hsb hbb
          go_wp2_with fail
          refine (rwput_any ys yn Ab cb wb q2 A1 c1 bs cap HYN.out (by omega) (by rw [HBS.out]; omega) hcap HSB.out ⟨HRR.out.blk.below HBB.out HRR.out.blk.lt, HRR.out.sl.below HBB.out⟩).mono ?_
          rintro e W0 ⟨A2, c2, rfl, hr0, hA2, ho0⟩
          rw [← HDW.out] at hr0 ⊢
          have hw0 : Wr W0 w.heap.size q v bs cap := (HWR.out.new HBB.out).chg (S := fun k => k = q2) (.of_only ho0 rfl) (fun k hk e => hnq (e ▸ hk))
          have hb0 : Below w.heap.size w W0 := (bw_t HBr.out HBB.out).trans (ho0.below hq2 (bw_t HBr.out HBB.out).size)
          have hsz := HBB.out.size
          have hfb : FarS A2 n2 (Oset q v) := by
            have h := hA2 (Oset q v) (by rw [HBS.out]; exact HFR.out) (fun k hk => by have h1 := (HWR.out.sets k hk).2; omega)
            rw [← HDW.out] at h
            have e2 : (bs2, er).1.length = n2 := HBS2.out
            rwa [e2] at h
          have hcw : Chg (fun k => k = q2) wr W0 := (Chg.of_new HBB.out).trans (.of_only ho0 rfl)
          have hbq : ¬ b = q2 := by omega
          have hbr : b < wr.heap.size := Nat.lt_of_lt_of_le hbw HBr.out.size
          have t0 : W0.cell? ⟨b, off + j * 5, none⟩ = some (.int .u8 (ak : Int)) := (World.cell?_of_block (a := ⟨b, off + j * 5, none⟩) (hcw.block b hbr hbq)).trans r0
          have t1 : W0.cell? ⟨b, off + j * 5 + 1, none⟩ = some (.int .u64 (an : Int)) := (World.cell?_of_block (a := ⟨b, off + j * 5 + 1, none⟩) (hcw.block b hbr hbq)).trans r1
          have t2 : W0.cell? ⟨b, off + j * 5 + 2, none⟩ = some (.int .i64 anum) := (World.cell?_of_block (a := ⟨b, off + j * 5 + 2, none⟩) (hcw.block b hbr hbq)).trans r2
          have t3 : W0.cell? ⟨b, off + j * 5 + 3, none⟩ = some (.int .u8 (ax : Int)) := (World.cell?_of_block (a := ⟨b, off + j * 5 + 3, none⟩) (hcw.block b hbr hbq)).trans r3
          have t4 : W0.cell? ⟨b, off + j * 5 + 4, none⟩ = some (.slice aA al ac) := (World.cell?_of_block (a := ⟨b, off + j * 5 + 4, none⟩) (hcw.block b hbr hbq)).trans r4
          simp only at hr0
          clear ho0 hA2 hcw r0 r1 r2 r3 r4
          have hnb := hno b hbw
          have k0 : W0.cell? ⟨q2, 0, none⟩ = some (.slice A2 n2 c2) := by have h := hr0.blk.cell 0; rw [HBS2.out] at h; simpa using h
          have k1 : W0.cell? ⟨q2, 1, none⟩ = some (.int .i64 (cap : Int)) := by simpa using hr0.blk.cell 1
          have hdo : ∀ j, Calls Try.prog 18 #[.pointer (some ⟨q, 0, none⟩), .agg #[.int .u8 (ak : Int), .int .u64 (an : Int), .int .i64 anum, .int .u8 (ax : Int), .slice aA al ac]] (W0.drewN j) fun e w' => ∃ v', e = .returned (.int .i64 (er : Nat)) ∧ Wr w' w.heap.size q v' bs2 cap ∧ Stp q v v' n (W0.drewN j) w' := fun j => HDO.out (W0.drewN j) (hb0.trans (below_drewN (Below.refl _ W0) j)) (hw0.new (below_drewN (Below.refl _ W0) j))
          have HDJ := hid hdo
          have HW0 := hid hw0
          have HR0 := hid hr0
          have HFB := hid hfb
          have HB0 := hid hb0
          have HT := hid (And.intro t0 (And.intro t1 (And.intro t2 (And.intro t3 (And.intro t4 (And.intro k0 k1))))))
          clear hw0 hr0 hfb hdo hb0
          go_wp2_with fail
          go_region_held3 (fun W => W.cell? ⟨b, off + j * 5, none⟩ = some (.int .u8 (ak : Int)) ∧ W.cell? ⟨b, off + j * 5 + 1, none⟩ = some (.int .u64 (an : Int)) ∧ W.cell? ⟨b, off + j * 5 + 2, none⟩ = some (.int .i64 anum) ∧ W.cell? ⟨b, off + j * 5 + 3, none⟩ = some (.int .u8 (ax : Int)) ∧ W.cell? ⟨b, off + j * 5 + 4, none⟩ = some (.slice aA al ac) ∧ W.cell? ⟨q2, 0, none⟩ = some (.slice A2 n2 c2) ∧ W.cell? ⟨q2, 1, none⟩ = some (.int .i64 (cap : Int))) (first | exact HK4.out | exact HK3.out | exact HT.out | go_keep) (first | (go_at_call 18; refine (HDJ.out 1).mono ?_; rintro e w3 ⟨v3, rfl, hw3, hst3⟩; have HK3 := hid (held5 (w := W0.drewN 1) (w' := w3) hst3.chg hnb hnq HT.out.1 HT.out.2.1 HT.out.2.2.1 HT.out.2.2.2.1 HT.out.2.2.2.2.1 HT.out.2.2.2.2.2.1 HT.out.2.2.2.2.2.2)) | (go_at_call 20; refine (l5_out n2 _ _ _ _ _ _ HBS2.out hw3 (by omega)).mono ?_; rintro e w4 ⟨A4, c4, rfl, hs4, hf4, hb4⟩; have HK4 := hid (held5b hb4 HK3.out)) | (go_at_call 19; refine (same_at bs2 bs2 n2 n2 _ _ _ _ _ HBS2.out HBS2.out (by omega) hs4.rd (((hst3.chg.sl (HR0.out.sl.drewN 1) HFB.out (by rw [List.length_map]; exact HBS2.out)).below hb4).rd)).mono ?_; rw [decide_eq_true rfl]; rintro e w5 ⟨rfl, k5, rfl⟩) | (go_at_call 21; refine (l5_left ((cap : Int) - (n2 : Int)) _ _ _ _ _ _ hlf ((hw3.new hb4).new (below_drewN (Below.refl _ w4) k5))).mono ?_; rintro e w6 ⟨rfl, k6, rfl⟩))
          have hb4' : Below w3.heap.size w3 (w4.drewN (k5 + k6)) := bw_d hb4 (k5 + k6)
          have hw6 := hw3.new hb4'
          have hr6 : RWr (w4.drewN (k5 + k6)) q2 A2 c2 bs2 cap := by
            have h1 := hst3.chg.blk (HR0.out.blk.drewN 1) hnq
            exact ⟨h1.below hb4' h1.lt, (hst3.chg.sl (HR0.out.sl.drewN 1) HFB.out (by rw [List.length_map]; exact HBS2.out)).below hb4'⟩
          have hf6 : FarS A2 n2 (Oset q v3) := by
            intro hp b' o' he ho
            obtain ⟨b3, o3, e3, hl3, _⟩ := HR0.out.sl.rd 0 (bv (bs2[0]'(by rw [HBS2.out]; exact hp))) (by simp [List.getElem?_eq_getElem (show 0 < bs2.length by rw [HBS2.out]; exact hp)])
            rw [he] at e3
            injection e3 with e3
            injection e3 with e4 e5
            exact HFB.out hp b' o' he (ho.back hst3.new (by rw [e4]; exact hl3))
          have hB6 : Below w.heap.size w (w4.drewN (k5 + k6)) := HB0.out.trans ((below_drewN (Below.refl _ W0) 1).trans ((hst3.below (HW0.out.new (below_drewN (Below.refl _ W0) 1))).trans (hb4'.mono (Nat.le_trans (bw_t HB0.out (bw_d (Below.refl _ W0) 1)).size hst3.chg.size))))
          generalize w4.drewN (k5 + k6) = w6 at *
          have H6 := hid (And.intro hw6 (And.intro hr6 (And.intro hf6 hB6)))
          clear hw6 hr6 hf6 hB6 hb4' hb4 hw3 hst3 hs4 hf4
          go_wp2_with fail
          exact ⟨⟨j + 1, n2, v3, bs2, A2, c2, by omega, by go_num, HBS2.out, by omega, H6.out.1, H6.out.2.1, H6.out.2.2.1, H6.out.2.2.2⟩, by simp [intOf] <;> omega⟩
        · rw [if_neg hz] at HDW
          have hb2 : bs2 = bs ∧ er = e0 := by have := HDW.out; simpa using this
          obtain ⟨rfl, rfl⟩ := hb2
          have hnn : n2 = n := by rw [← HBS2.out, ← HBS.out]
          subst hnn
          have hzb : ((er : Int) == 0) = false := by simp [hz]
          have hr0 : RWr wb q2 A1 c1 bs2 cap := ⟨HRR.out.blk.below hbb HRR.out.blk.lt, HRR.out.sl.below hbb⟩
          have hw0 : Wr wb w.heap.size q v bs2 cap := HWR.out.new hbb
          have hb0 : Below w.heap.size w wb := bw_t HBr.out hbb
          have hfb : FarS A1 n2 (Oset q v) := HFR.out
          have hbr : b < wr.heap.size := Nat.lt_of_lt_of_le hbw HBr.out.size
          have t0 : wb.cell? ⟨b, off + j * 5, none⟩ = some (.int .u8 (ak : Int)) := (hbb.cell (p := ⟨b, off + j * 5, none⟩) hbr).trans r0
          have t1 : wb.cell? ⟨b, off + j * 5 + 1, none⟩ = some (.int .u64 (an : Int)) := (hbb.cell (p := ⟨b, off + j * 5 + 1, none⟩) hbr).trans r1
          have t2 : wb.cell? ⟨b, off + j * 5 + 2, none⟩ = some (.int .i64 anum) := (hbb.cell (p := ⟨b, off + j * 5 + 2, none⟩) hbr).trans r2
          have t3 : wb.cell? ⟨b, off + j * 5 + 3, none⟩ = some (.int .u8 (ax : Int)) := (hbb.cell (p := ⟨b, off + j * 5 + 3, none⟩) hbr).trans r3
          have t4 : wb.cell? ⟨b, off + j * 5 + 4, none⟩ = some (.slice aA al ac) := (hbb.cell (p := ⟨b, off + j * 5 + 4, none⟩) hbr).trans r4
          clear hbb hsb r0 r1 r2 r3 r4
          generalize wb = W0 at *
          generalize A1 = A2 at *
          generalize c1 = c2 at *
          have hnb := hno b hbw
          have k0 : W0.cell? ⟨q2, 0, none⟩ = some (.slice A2 n2 c2) := by have h := hr0.blk.cell 0; rw [HBS2.out] at h; simpa using h
          have k1 : W0.cell? ⟨q2, 1, none⟩ = some (.int .i64 (cap : Int)) := by simpa using hr0.blk.cell 1
          have hdo : ∀ j, Calls Try.prog 18 #[.pointer (some ⟨q, 0, none⟩), .agg #[.int .u8 (ak : Int), .int .u64 (an : Int), .int .i64 anum, .int .u8 (ax : Int), .slice aA al ac]] (W0.drewN j) fun e w' => ∃ v', e = .returned (.int .i64 (er : Nat)) ∧ Wr w' w.heap.size q v' bs2 cap ∧ Stp q v v' n2 (W0.drewN j) w' := fun j => HDO.out (W0.drewN j) (hb0.trans (below_drewN (Below.refl _ W0) j)) (hw0.new (below_drewN (Below.refl _ W0) j))
          have HDJ := hid hdo
          have HW0 := hid hw0
          have HR0 := hid hr0
          have HFB := hid hfb
          have HB0 := hid hb0
          have HT := hid (And.intro t0 (And.intro t1 (And.intro t2 (And.intro t3 (And.intro t4 (And.intro k0 k1))))))
          clear hw0 hr0 hfb hdo hb0
          go_wp2_with fail
          go_region_held3 (fun W => W.cell? ⟨b, off + j * 5, none⟩ = some (.int .u8 (ak : Int)) ∧ W.cell? ⟨b, off + j * 5 + 1, none⟩ = some (.int .u64 (an : Int)) ∧ W.cell? ⟨b, off + j * 5 + 2, none⟩ = some (.int .i64 anum) ∧ W.cell? ⟨b, off + j * 5 + 3, none⟩ = some (.int .u8 (ax : Int)) ∧ W.cell? ⟨b, off + j * 5 + 4, none⟩ = some (.slice aA al ac) ∧ W.cell? ⟨q2, 0, none⟩ = some (.slice A2 n2 c2) ∧ W.cell? ⟨q2, 1, none⟩ = some (.int .i64 (cap : Int))) (first | exact HK4.out | exact HK3.out | exact HT.out | go_keep) (first | (go_at_call 18; refine (HDJ.out 1).mono ?_; rintro e w3 ⟨v3, rfl, hw3, hst3⟩; have HK3 := hid (held5 (w := W0.drewN 1) (w' := w3) hst3.chg hnb hnq HT.out.1 HT.out.2.1 HT.out.2.2.1 HT.out.2.2.2.1 HT.out.2.2.2.2.1 HT.out.2.2.2.2.2.1 HT.out.2.2.2.2.2.2)) | (go_at_call 20; refine (l5_out n2 _ _ _ _ _ _ HBS2.out hw3 (by omega)).mono ?_; rintro e w4 ⟨A4, c4, rfl, hs4, hf4, hb4⟩; have HK4 := hid (held5b hb4 HK3.out)) | (go_at_call 19; refine (same_at bs2 bs2 n2 n2 _ _ _ _ _ HBS2.out HBS2.out (by omega) hs4.rd (((hst3.chg.sl (HR0.out.sl.drewN 1) HFB.out (by rw [List.length_map]; exact HBS2.out)).below hb4).rd)).mono ?_; rw [decide_eq_true rfl]; rintro e w5 ⟨rfl, k5, rfl⟩) | (go_at_call 21; refine (l5_left ((cap : Int) - (n2 : Int)) _ _ _ _ _ _ hlf ((hw3.new hb4).new (below_drewN (Below.refl _ w4) k5))).mono ?_; rintro e w6 ⟨rfl, k6, rfl⟩))
          have hb4' : Below w3.heap.size w3 (w4.drewN (k5 + k6)) := bw_d hb4 (k5 + k6)
          have hw6 := hw3.new hb4'
          have hr6 : RWr (w4.drewN (k5 + k6)) q2 A2 c2 bs2 cap := by
            have h1 := hst3.chg.blk (HR0.out.blk.drewN 1) hnq
            exact ⟨h1.below hb4' h1.lt, (hst3.chg.sl (HR0.out.sl.drewN 1) HFB.out (by rw [List.length_map]; exact HBS2.out)).below hb4'⟩
          have hf6 : FarS A2 n2 (Oset q v3) := by
            intro hp b' o' he ho
            obtain ⟨b3, o3, e3, hl3, _⟩ := HR0.out.sl.rd 0 (bv (bs2[0]'(by rw [HBS2.out]; exact hp))) (by simp [List.getElem?_eq_getElem (show 0 < bs2.length by rw [HBS2.out]; exact hp)])
            rw [he] at e3
            injection e3 with e3
            injection e3 with e4 e5
            exact HFB.out hp b' o' he (ho.back hst3.new (by rw [e4]; exact hl3))
          have hB6 : Below w.heap.size w (w4.drewN (k5 + k6)) := HB0.out.trans ((below_drewN (Below.refl _ W0) 1).trans ((hst3.below (HW0.out.new (below_drewN (Below.refl _ W0) 1))).trans (hb4'.mono (Nat.le_trans (bw_t HB0.out (bw_d (Below.refl _ W0) 1)).size hst3.chg.size))))
          generalize w4.drewN (k5 + k6) = w6 at *
          have H6 := hid (And.intro hw6 (And.intro hr6 (And.intro hf6 hB6)))
          clear hw6 hr6 hf6 hB6 hb4' hb4 hw3 hst3 hs4 hf4
          go_wp2_with fail
          exact ⟨⟨j + 1, n2, v3, bs2, A2, c2, by omega, by go_num, HBS2.out, by omega, H6.out.1, H6.out.2.1, H6.out.2.2.1, H6.out.2.2.2⟩, by simp [intOf] <;> omega⟩
      · go_wp2_with fail
        go_ret
        exact ⟨rfl, hB⟩
end Go.Proofs.Ytapgjkbodfpdaaa
