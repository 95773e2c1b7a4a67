/- The walk of OutletBack. -/
import Derived.Test.YtapgjkbodfpdaaaLaw5B
import Derived.Test.YtapgjkbodfpdaaaInAt
import Derived.Test.YtapgjkbodfpdaaaInTag
set_option linter.unusedVariables false
namespace Go.Proofs.Ytapgjkbodfpdaaa
open Go.RowKit
/-- An ask that can be read back. -/
def AskGood (a : AskV) : Prop := a.k ≤ 4 ∧ (askB a).2 = 0
/-- The bytes of asks. -/
def encL (l : List AskV) : List UInt8 := l.flatMap fun a => (askB a).1
theorem encL_take (l : List AskV) (j : Nat) (hj : j < l.length) : encL (l.take (j + 1)) = encL (l.take j) ++ (askB l[j]).1 := by
  unfold encL
  rw [List.take_succ_eq_append_getElem hj, List.flatMap_append, List.flatMap_cons, List.flatMap_nil, List.append_nil]
theorem encL_split (l : List AskV) (j : Nat) (hj : j < l.length) : encL l = encL (l.take j) ++ ((askB l[j]).1 ++ encL (l.drop (j + 1))) := by
  have h : l = l.take j ++ (l[j] :: l.drop (j + 1)) := by rw [← List.drop_eq_getElem_cons hj, List.take_append_drop]
  calc encL l = encL (l.take j ++ (l[j] :: l.drop (j + 1))) := congrArg encL h
    _ = _ := by unfold encL; rw [List.flatMap_append, List.flatMap_cons]
theorem doW_good (cap : Nat) (a : AskV) (bs : List UInt8) (hx : a.x ≤ 255) (h : AskGood a) (hf : bs.length + (askB a).1.length ≤ cap) : doW cap a bs = (bs ++ (askB a).1, 0) := by
  rw [doW_ref cap a bs hx, if_pos h.2]
  unfold wput
  rw [if_neg (by omega)]
theorem doW_bad (cap : Nat) (a : AskV) (bs : List UInt8) (hx : a.x ≤ 255) (hk : a.k ≤ 4) (h : (askB a).2 ≠ 0) : doW cap a bs = (bs, (askB a).2) ∧ a.k = 1 := by
  refine ⟨by rw [doW_ref cap a bs hx, if_neg h], ?_⟩
  unfold askB at h
  by_cases h0 : a.k = 0
  · simp [h0] at h
  by_cases h1 : a.k = 1
  · exact h1
  by_cases h2 : a.k = 2
  · simp [h2] at h
  by_cases h3 : a.k = 3
  · simp [h3] at h
  have h4 : a.k = 4 := by omega
  simp [h4] at h
section
variable {E pre rest : List UInt8} {p : Nat}
theorem rd_num (n : Nat) (hn : n ≤ 18446744073709551615) (hE : E = pre ++ (putN n ++ rest)) (hp : pre.length = p) : M.get (E.drop p) = (n, (putN n).length, 0) := by
  subst hE hp
  rw [List.drop_left' rfl]
  exact get_put rest hn
theorem rd_head (num : Int) (x : Nat) (hx : x ≤ 255) (h0 : (mk num (x : Int)).2 = 0) (hE : E = pre ++ (putN (mk num (x : Int)).1.toNat ++ rest)) (hp : pre.length = p) : rHead E p = (num, (x : Int), 0, p + (putN (mk num (x : Int)).1.toNat).length) := by
  have hf := mk_facts num (x : Int) (by omega) (by omega)
  have hg := rd_num (mk num (x : Int)).1.toNat (by omega) hE hp
  unfold rHead
  rw [hg]
  simp only [if_true]
  rw [show (((mk num (x : Int)).1.toNat : Nat) : Int) = (mk num (x : Int)).1 from by omega, spl_mk h0]
  rfl
theorem rd_fix (k n : Nat) (hn : n < 256 ^ k) (hE : E = pre ++ (fixN k n ++ rest)) (hp : pre.length = p) : rFix k E p = (n, 0, p + k) := by
  subst hE hp
  unfold rFix
  rw [if_neg (by simp [length_fixN]), List.drop_left' rfl, List.take_left' (length_fixN k n), unfix_fix k n hn]
theorem rd_bytes (t : List UInt8) (ht : t.length ≤ 1000) (hE : E = pre ++ ((putN t.length ++ t) ++ rest)) (hp : pre.length = p) : rCount 1000 E p = (t, 0, p + (putN t.length ++ t).length) := by
  have hg := rd_num (E := E) (pre := pre) (rest := t ++ rest) t.length (by omega) (by rw [hE, List.append_assoc]) hp
  unfold rCount
  rw [hg]
  dsimp only
  rw [if_neg (by simp), if_neg (by omega), rTake_ok (by omega) (by rw [hE]; simp; omega)]
  have e : E = (pre ++ putN t.length) ++ (t ++ rest) := by rw [hE]; simp
  rw [e, ← hp, List.drop_left' (by simp)]
  simp
  omega
end
/-- What is read at the place of the j-th ask. -/
structure AskRead (a : AskV) (E : List UInt8) (p p' : Nat) : Prop where
  k0 : a.k = 0 → M.get (E.drop p) = (a.n, p' - p, 0)
  k1 : a.k = 1 → rHead E p = (a.num, (a.x : Int), 0, p')
  k2 : a.k = 2 → rFix 4 E p = (a.n % 4294967296, 0, p')
  k3 : a.k = 3 → rFix 8 E p = (a.n, 0, p')
  k4 : a.k = 4 → rCount 1000 E p = (a.s.xs, 0, p')
  le : p ≤ p'
theorem ask_read (l : List AskV) (j : Nat) (hj : j < l.length) (hg : AskGood l[j]) (hn : l[j].n ≤ 18446744073709551615) (hx : l[j].x ≤ 255) (hs : l[j].s.xs.length ≤ 1000) : AskRead l[j] (encL l) (encL (l.take j)).length (encL (l.take (j + 1))).length := by
  have hE := encL_split l j hj
  rw [encL_take l j hj, List.length_append]
  generalize l[j] = a at *
  generalize encL (l.take j) = pre at *
  generalize encL (l.drop (j + 1)) = rest at *
  generalize encL l = E at *
  obtain ⟨hk, he⟩ := hg
  refine ⟨fun h => ?_, fun h => ?_, fun h => ?_, fun h => ?_, fun h => ?_, Nat.le_add_right _ _⟩
  · simp only [askB, h, if_true] at hE ⊢
    rw [rd_num a.n hn hE rfl, Nat.add_sub_cancel_left]
  · have hh : (mk a.num (a.x : Int)).2 = 0 := by
      have hf := mk_facts a.num (a.x : Int) (by omega) (by omega)
      simp only [askB, h] at he
      simp at he
      omega
    have e1 : (askB a).1 = putN (mk a.num (a.x : Int)).1.toNat := by simp [askB, h]
    rw [e1] at hE ⊢
    exact rd_head a.num a.x hx hh hE rfl
  · have e1 : (askB a).1 = fixN 4 (a.n % 4294967296) := by simp [askB, h]
    rw [e1] at hE ⊢
    rw [rd_fix 4 (a.n % 4294967296) (by omega) hE rfl, length_fixN]
  · have e1 : (askB a).1 = fixN 8 a.n := by simp [askB, h]
    rw [e1] at hE ⊢
    rw [rd_fix 8 a.n (by omega) hE rfl, length_fixN]
  · have e1 : (askB a).1 = putN a.s.xs.length ++ a.s.xs := by simp [askB, h]
    rw [e1] at hE ⊢
    exact rd_bytes a.s.xs hs hE rfl
section
variable {w : World} {q : Nat} {A : Option Addr} {c : Nat} {E : List UInt8} {p p' : Nat}
theorem back_num (n d : Nat) (hr : M.get (E.drop p) = (n, d, 0)) (hd : p + d = p') (h : Rin 98 w q A c E p) :
    Calls Try.prog 25 #[.pointer (some ⟨q, 0, none⟩)] w fun e w' => e = .returned (.tuple #[.int .u64 (n : Nat), .agg #[.int .i64 0, .int .i64 0]]) ∧ Rin 98 w' q A c E p' ∧ Only q w w' := by
  have h1 := inumm_any w q A c E p h
  rw [hr] at h1
  subst hd
  exact h1
theorem back_tag (num x : Int) (hr : rHead E p = (num, x, 0, p')) (h : Rin 98 w q A c E p) :
    Calls Try.prog 26 #[.pointer (some ⟨q, 0, none⟩)] w fun e w' => e = .returned (.tuple #[.int .i64 num, .int .u8 x, .agg #[.int .i64 0, .int .i64 0]]) ∧ Rin 98 w' q A c E p' ∧ Only q w w' := by
  have h1 := itagm_any w q A c E p h
  rw [hr] at h1
  exact h1
theorem back_four (n : Nat) (hr : rFix 4 E p = (n, 0, p')) (h : Rin 98 w q A c E p) :
    Calls Try.prog 27 #[.pointer (some ⟨q, 0, none⟩)] w fun e w' => e = .returned (.tuple #[.int .u32 (n : Nat), .agg #[.int .i64 0, .int .i64 0]]) ∧ Rin 98 w' q A c E p' ∧ Only q w w' := by
  have h1 := ifourm_any w q A c E p h
  rw [hr] at h1
  exact h1
theorem back_eight (n : Nat) (hr : rFix 8 E p = (n, 0, p')) (h : Rin 98 w q A c E p) :
    Calls Try.prog 28 #[.pointer (some ⟨q, 0, none⟩)] w fun e w' => e = .returned (.tuple #[.int .u64 (n : Nat), .agg #[.int .i64 0, .int .i64 0]]) ∧ Rin 98 w' q A c E p' ∧ Only q w w' := by
  have h1 := ieightm_any w q A c E p h
  rw [hr] at h1
  exact h1
theorem back_bytes (t : List UInt8) (n : Nat) (hr : rCount 1000 E p = (t, 0, p')) (hn : t.length = n) (h : Rin 98 w q A c E p) :
    Calls Try.prog 29 #[.pointer (some ⟨q, 0, none⟩), .int .i64 1000] w fun e w' => ∃ A' c', e = .returned (.tuple #[.slice A' n c', .agg #[.int .i64 0, .int .i64 0]]) ∧ Sl w' A' c' (t.map bv) ∧ Rin 98 w' q A c E p' ∧ Only q w w' := by
  have h1 := ibytesm_any 1000 w q A c E p (by omega) (by omega) h
  rw [hr] at h1
  subst hn
  exact h1.mono fun e w' ⟨A', c', he, hs, _, hr, ho⟩ => ⟨A', c', he, hs, hr, ho⟩
end
theorem encL_len (l : List AskV) (h : ∀ a ∈ l, a.s.xs.length ≤ 1000 ∧ a.n ≤ 18446744073709551615 ∧ a.x ≤ 255) : (encL l).length ≤ 1010 * l.length := by
  induction l with
  | nil => simp [encL]
  | cons a r ih =>
    have h1 := ih fun b hb => h b (by simp [hb])
    have ha := h a (by simp)
    have h2 := askB_len a ha.1 ha.2.1 ha.2.2
    have h3 : (encL (a :: r)).length = (askB a).1.length + (encL r).length := by simp [encL]
    rw [h3, List.length_cons, Nat.mul_add]
    omega
set_option maxRecDepth 100000 in
set_option maxHeartbeats 4000000 in
theorem outBack_any (l : List AskV) (m : Nat) (A : Option Addr) (c : Nat) (w : World) (hm : l.length = m) (hl : SlN w A m c 5 (l.flatMap askC)) (hok : ∀ a ∈ l, AskOk w a) :
    Calls Try.prog 5 #[.slice A m c] w fun e w' => e = .returned (.bool true) ∧ Below w.heap.size w w' := by
  have hcm : m ≤ 9223372036854775807 := by have g1 := hl.cap; have g2 := hl.small; omega
  have hsm := fun W (hW : Below w.heap.size w W) => small_any l m A c W hm (hl.below hW) (fun a ha => by have h1 := (hok a ha).s.cap; have h2 := (hok a ha).s.small; rw [List.length_map] at h1; omega)
  have hsf := fun h => smallB_facts (l := l) h
  generalize smallB l = sm at *
  have HSM := hid hsm
  have HM := hid hm
  have HL := hid hl
  have HOK := hid hok
  have HSF := hid hsf
  clear hsm hm hl hok hsf
  cases sm with
  | false =>
    go_enter Try.func5, Try.ntmps5
    go_wp2_with fail
    refine (live5_any _).mono ?_
    rintro e w1 ⟨rfl, hb1⟩
    go_wp2_with fail
    refine (HSM.out _ hb1).mono ?_
    rintro e w2 ⟨rfl, k, rfl⟩
    go_wp2_with fail
    go_ret
    exact ⟨rfl, bw_d hb1 k⟩
  | true =>
    obtain ⟨hm40, h1000⟩ := HSF.out rfl
    have H1000 := hid h1000
    clear h1000 HSF
    go_enter Try.func5, Try.ntmps5
    go_wp2_with fail
    refine (live5_any _).mono ?_
    rintro e w1 ⟨rfl, hb1⟩
    go_wp2_with fail
    refine (HSM.out _ hb1).mono ?_
    rintro e w2 ⟨rfl, k, rfl⟩
    have hb2 := bw_d hb1 k
    generalize w1.drewN k = w2 at *
    go_wp2_with fail
    refine (l5_new 1048576 w2 (by omega)).mono ?_
    rintro e w3 ⟨q, rfl, ho3, hb3⟩
    have HO3 := hid (ho3.mono hb2.size)
    have HB3 := hid (bw_t hb2 hb3)
    clear hb1 hb2 hb3 ho3
    go_wp2_with fail
    go_loopw [4] (fun i wr => ∃ (j : Nat) (v : Value), j ≤ m ∧ i = .int .i64 (j : Int) ∧ (∀ a ∈ l.take j, AskGood a) ∧ Wr wr w.heap.size q v (encL (l.take j)) 1048576 ∧ Below w.heap.size w wr) (fun i _ => m - (intOf i).toNat)
    case atStart => exact ⟨0, _, by omega, rfl, by simp, HO3.out, HB3.out⟩
    case round =>
      obtain ⟨j, v, hj, rfl, hgood, hw, hB⟩ := hrel
      by_cases hlt : j < m
      · have hjl : j < l.length := by have := HM.out; omega
        obtain ⟨b, off, rfl, hat⟩ := askAt_of HL.out hjl
        have hoka := HOK.out l[j] (List.getElem_mem hjl)
        have hala := H1000.out l[j] (List.getElem_mem hjl)
        have hji : (j : Int) < (m : Int) := by omega
        have hj0 : (0 : Int) ≤ (j : Int) := by omega
        have hat2 := hat.below hB
        have hbl := encL_len (l.take j) (fun a ha => ⟨H1000.out a (List.mem_of_mem_take ha), (HOK.out a (List.mem_of_mem_take ha)).n, (HOK.out a (List.mem_of_mem_take ha)).x⟩)
        have hjt : (l.take j).length ≤ 40 := by rw [List.length_take]; omega
        have hen := encL_take l j hjl
        have hgn : AskGood l[j] → ∀ a ∈ l.take (j + 1), AskGood a := fun hg a ha => by
          rw [List.take_succ_eq_append_getElem hjl] at ha
          rcases List.mem_append.1 ha with h | h
          · exact hgood a h
          · simp at h; rw [h]; exact hg
        have hno : ∀ k, k < w.heap.size → ¬ Oset q v k := fun k hk ho => by have := (hw.sets k ho).1; omega
        generalize l[j] = a at *
        have hask := askB_len a hala hoka.n hoka.x
        have hdo : ∀ W, Below w.heap.size w W → Wr W w.heap.size q v (encL (l.take j)) 1048576 → _ := fun W hW hwr => do_any a W w.heap.size q v (encL (l.take j)) 1048576 (hoka.new hW) (by omega) (hoka.far hno) hwr
        have hgd := fun hg => doW_good 1048576 a (encL (l.take j)) hoka.x hg (by omega)
        have hbd := fun hk h => doW_bad 1048576 a (encL (l.take j)) hoka.x hk h
        have hkk : a.k ≤ 255 := hoka.k
        have hnb0 := hno b hat.lt
        clear hno hoka hala hgood hat
        by_cases h4 : 4 < a.k
        · obtain ⟨ak, an, anum, ax, aA, ac, axs⟩ := a
          obtain ⟨t0, t1, t2, t3, t4⟩ := hat2
          simp only at t0 t1 t2 t3 t4 h4
          clear hdo hgd hbd hgn hen hask hw
          have HBX := hid hB
          go_wp2_with fail
          go_ret
          exact ⟨rfl, HBX.out⟩
        have h4' : a.k ≤ 4 := by omega
        by_cases he : (askB a).2 = 0
        · have hg : AskGood a := ⟨h4', he⟩
          have hd2 := hgd hg
          rw [← hen] at hd2
          simp only [hd2] at hdo
          have HGN := hid (hgn hg)
          clear hgd hbd hgn hd2 hg he hen hask
          obtain ⟨ak, an, anum, ax, aA, ac, axs⟩ := a
          obtain ⟨t0, t1, t2, t3, t4⟩ := hat2
          simp only [AskV.agg] at t0 t1 t2 t3 t4 h4 h4' hdo
          generalize axs.length = al at *
          have HDO := hid (hdo wr hB hw)
          have HBX := hid hB
          have HWX := hid hw
          have hng : ((ak : Int)) ≤ 4 := by omega
          clear hdo hB hw
          go_wp2_with fail
          refine HDO.out.mono ?_
          rintro e w5 ⟨v5, rfl, hw5, hst5⟩
          have H5 := hid (And.intro hw5 (HBX.out.trans (hst5.below HWX.out)))
          clear hw5 hst5
          go_wp2_with fail
          exact ⟨⟨j + 1, v5, by omega, by go_num, HGN.out, H5.out.1, H5.out.2⟩, by simp [intOf] <;> omega⟩
        · obtain ⟨hd2, hk1⟩ := hbd h4' he
          simp only [hd2] at hdo
          obtain ⟨er, her⟩ : ∃ x, (askB a).2 = x := ⟨_, rfl⟩
          rw [her] at hdo he
          clear hgd hbd hgn hd2 hen hask her
          obtain ⟨ak, an, anum, ax, aA, ac, axs⟩ := a
          simp only at hk1
          subst hk1
          obtain ⟨t0, t1, t2, t3, t4⟩ := hat2
          simp only [AskV.agg] at t0 t1 t2 t3 t4 h4 h4' hdo
          generalize axs.length = al at *
          have HDO := hid (hdo wr hB hw)
          have HBX := hid hB
          have HWX := hid hw
          have hnbq : ¬ Oset q v b := hnb0
          have heb : ((er : Int) != 0) = true := by simp [he]
          clear hdo hB hw
          go_wp2_with fail
          refine HDO.out.mono ?_
          rintro e w5 ⟨v5, rfl, hw5, hst5⟩
          have k0 : w5.cell? ⟨b, off + j * 5, none⟩ = some (.int .u8 1) := (World.cell?_of_block (a := ⟨b, off + j * 5, none⟩) (hst5.chg.block b (World.block_lt_of_cell? wr _ t0) hnbq)).trans t0
          have HB5 := hid (HBX.out.trans (hst5.below HWX.out))
          clear hw5 hst5
          go_wp2_with fail
          go_ret
          exact ⟨rfl, HB5.out⟩
      · obtain rfl : j = m := by omega
        have hlm : l.take j = l := List.take_of_length_le (by have := HM.out; omega)
        rw [hlm] at hgood hw
        have hbl := encL_len l (fun a ha => ⟨H1000.out a ha, (HOK.out a ha).n, (HOK.out a ha).x⟩)
        have hrd : ∀ k (hk : k < l.length), AskRead l[k] (encL l) (encL (l.take k)).length (encL (l.take (k + 1))).length := fun k hk => ask_read l k hk (hgood _ (List.getElem_mem hk)) (HOK.out _ (List.getElem_mem hk)).n (HOK.out _ (List.getElem_mem hk)).x (H1000.out _ (List.getElem_mem hk))
        obtain ⟨E, hE⟩ : ∃ E, encL l = E := ⟨_, rfl⟩
        rw [hE] at hw hbl hrd
        obtain ⟨n, hn⟩ : ∃ n, E.length = n := ⟨_, rfl⟩
        have hn40 : n ≤ 40400 := by omega
        have hj40 : j ≤ 40 := by have := HM.out; omega
        have HRDS := hid hrd
        have HE := hid hE
        have HN := hid hn
        have HWX := hid hw
        have HBX := hid hB
        have HK4 := hid (fun a ha => (hgood a ha).1)
        clear hrd hE hn hw hB hgood hbl hlm
        go_wp2_with fail
        refine (l5_out n wr _ q v E _ HN.out HWX.out (by omega)).mono ?_
        rintro e wo ⟨oA, oc, rfl, hos, -, hob⟩
        have HOS := hid hos
        have HBO := hid (bw_t HBX.out hob)
        clear hos hob
        go_wp2_with fail
        refine (new_any E n oA oc wo HN.out (by omega) HOS.out).mono ?_
        rintro e wn ⟨qi, Ai, ci, rfl, hr1, hqi, -, hbn⟩
        have hwq : w.heap.size ≤ qi := Nat.le_trans HBO.out.size hqi
        have HR1 := hid hr1
        have HBN := hid (bw_t HBO.out hbn)
        clear hr1 hbn
        go_wp2_with fail
        go_loopw [7] (fun i wr => ∃ k : Nat, k ≤ j ∧ i = .int .i64 (k : Int) ∧ Rin 98 wr qi Ai ci E (encL (l.take k)).length ∧ Only qi wn wr) (fun i _ => j - (intOf i).toNat)
        case atStart => exact ⟨0, by omega, rfl, HR1.out, Only.refl _ _⟩
        case round =>
          obtain ⟨k, hk, rfl, hr, ho⟩ := hrel
          have hBw : Below w.heap.size w wr := HBN.out.trans (ho.below hwq HBN.out.size)
          by_cases hlt2 : k < j
          · have hkl : k < l.length := by have := HM.out; omega
            obtain ⟨b, off, rfl, hat⟩ := askAt_of HL.out hkl
            have hji : (k : Int) < (j : Int) := by omega
            have hj0 : (0 : Int) ≤ (k : Int) := by omega
            have hat2 := hat.below hBw
            have hrd := HRDS.out k hkl
            have hk4 := HK4.out l[k] (List.getElem_mem hkl)
            have hoka := HOK.out l[k] (List.getElem_mem hkl)
            have hala := H1000.out l[k] (List.getElem_mem hkl)
            obtain ⟨p, hp⟩ : ∃ p, (encL (l.take k)).length = p := ⟨_, rfl⟩
            obtain ⟨p', hp'⟩ : ∃ p', (encL (l.take (k + 1))).length = p' := ⟨_, rfl⟩
            rw [hp] at hr hrd
            rw [hp'] at hrd
            generalize l[k] = a at *
            have hpp := hrd.le
            have hqlt := hr.blk.lt
            have HRN := hid hr
            have HON := hid ho
            have HBW := hid hBw
            have HP' := hid hp'
            obtain ⟨ak, an, anum, ax, aA, ac, axs⟩ := a
            obtain ⟨t0, t1, t2, t3, t4⟩ := hat2
            have HAS := hid hoka.s
            have han := hoka.n
            simp only at t0 t1 t2 t3 t4 hk4 HAS han hala
            have HRD := hid hrd
            generalize hal : axs.length = al at *
            have HAL := hid hal
            clear hr ho hBw hp hp' hoka hrd hal hat
            rcases (by omega : ak = 0 ∨ ak = 1 ∨ ak = 2 ∨ ak = 3 ∨ ak = 4) with rfl | rfl | rfl | rfl | rfl
            · have HR := hid (HRD.out.k0 rfl)
              clear HRD
              have HRI := hid (HRN.out.below (bw_a (Below.refl wr.heap.size wr) (.cells #[.int .u8 (0), .int .u64 (an : Int), .int .i64 anum, .int .u8 (ax : Int), .slice aA al ac] 35)))
              have HBX := hid (Blk.new wr 35 #[.int .u8 (0), .int .u64 (an : Int), .int .i64 anum, .int .u8 (ax : Int), .slice aA al ac])
              go_wp2_with fail
              refine (back_num (p' := p') an (p' - p) HR.out (by omega) HRI.out).mono ?_
              rintro e w5 ⟨rfl, hr5, ho5⟩
              have hbx5 := ho5.blk HBX.out (by omega)
              have d1 : w5.cell? ⟨wr.heap.size, 1, none⟩ = some (.int .u64 (an : Int)) := hbx5.cell 1
              have d2 : w5.cell? ⟨wr.heap.size, 2, none⟩ = some (.int .i64 anum) := hbx5.cell 2
              have d3 : w5.cell? ⟨wr.heap.size, 3, none⟩ = some (.int .u8 (ax : Int)) := hbx5.cell 3
              have d4 : w5.cell? ⟨wr.heap.size, 4, none⟩ = some (.slice aA al ac) := hbx5.cell 4
              have hl5 := hbx5.lt
              have HR5 := hid hr5
              have HO5 := hid (((HON.out.alloc (.cells #[.int .u8 (0), .int .u64 (an : Int), .int .i64 anum, .int .u8 (ax : Int), .slice aA al ac] 35))).trans ho5)
              clear hbx5 hr5 ho5
              go_wp2_with fail
              exact ⟨⟨k + 1, by omega, by go_num, by rw [HP'.out]; exact HR5.out.below ((Below.refl w5.heap.size w5).alloc (Nat.le_refl _) _), HO5.out.alloc _⟩, by simp [intOf] <;> omega⟩
            · have HR := hid (HRD.out.k1 rfl)
              clear HRD
              have HRI := hid (HRN.out.below (bw_a (Below.refl wr.heap.size wr) (.cells #[.int .u8 (1), .int .u64 (an : Int), .int .i64 anum, .int .u8 (ax : Int), .slice aA al ac] 35)))
              have HBX := hid (Blk.new wr 35 #[.int .u8 (1), .int .u64 (an : Int), .int .i64 anum, .int .u8 (ax : Int), .slice aA al ac])
              go_wp2_with fail
              refine (back_tag anum (ax : Int) HR.out HRI.out).mono ?_
              rintro e w5 ⟨rfl, hr5, ho5⟩
              have hbx5 := ho5.blk HBX.out (by omega)
              have d1 : w5.cell? ⟨wr.heap.size, 1, none⟩ = some (.int .u64 (an : Int)) := hbx5.cell 1
              have d2 : w5.cell? ⟨wr.heap.size, 2, none⟩ = some (.int .i64 anum) := hbx5.cell 2
              have d3 : w5.cell? ⟨wr.heap.size, 3, none⟩ = some (.int .u8 (ax : Int)) := hbx5.cell 3
              have d4 : w5.cell? ⟨wr.heap.size, 4, none⟩ = some (.slice aA al ac) := hbx5.cell 4
              have hl5 := hbx5.lt
              have HR5 := hid hr5
              have HO5 := hid (((HON.out.alloc (.cells #[.int .u8 (1), .int .u64 (an : Int), .int .i64 anum, .int .u8 (ax : Int), .slice aA al ac] 35))).trans ho5)
              clear hbx5 hr5 ho5
              go_wp2_with fail
              exact ⟨⟨k + 1, by omega, by go_num, by rw [HP'.out]; exact HR5.out.below ((Below.refl w5.heap.size w5).alloc (Nat.le_refl _) _), HO5.out.alloc _⟩, by simp [intOf] <;> omega⟩
            · have HR := hid (HRD.out.k2 rfl)
              clear HRD
              have HRI := hid (HRN.out.below (bw_a (Below.refl wr.heap.size wr) (.cells #[.int .u8 (2), .int .u64 (an : Int), .int .i64 anum, .int .u8 (ax : Int), .slice aA al ac] 35)))
              have HBX := hid (Blk.new wr 35 #[.int .u8 (2), .int .u64 (an : Int), .int .i64 anum, .int .u8 (ax : Int), .slice aA al ac])
              have hwr4 : IntKind.u32.wrap (an : Int) = ((an % 4294967296 : Nat) : Int) := by rw [IntKind.wrap_u32]; omega
              generalize an % 4294967296 = n4 at *
              go_wp2_with fail
              refine (back_four n4 HR.out HRI.out).mono ?_
              rintro e w5 ⟨rfl, hr5, ho5⟩
              have hbx5 := ho5.blk HBX.out (by omega)
              have d1 : w5.cell? ⟨wr.heap.size, 1, none⟩ = some (.int .u64 (an : Int)) := hbx5.cell 1
              have d2 : w5.cell? ⟨wr.heap.size, 2, none⟩ = some (.int .i64 anum) := hbx5.cell 2
              have d3 : w5.cell? ⟨wr.heap.size, 3, none⟩ = some (.int .u8 (ax : Int)) := hbx5.cell 3
              have d4 : w5.cell? ⟨wr.heap.size, 4, none⟩ = some (.slice aA al ac) := hbx5.cell 4
              have hl5 := hbx5.lt
              have HR5 := hid hr5
              have HO5 := hid (((HON.out.alloc (.cells #[.int .u8 (2), .int .u64 (an : Int), .int .i64 anum, .int .u8 (ax : Int), .slice aA al ac] 35))).trans ho5)
              clear hbx5 hr5 ho5
              go_wp2_with fail
              exact ⟨⟨k + 1, by omega, by go_num, by rw [HP'.out]; exact HR5.out.below ((Below.refl w5.heap.size w5).alloc (Nat.le_refl _) _), HO5.out.alloc _⟩, by simp [intOf] <;> omega⟩
            · have HR := hid (HRD.out.k3 rfl)
              clear HRD
              have HRI := hid (HRN.out.below (bw_a (Below.refl wr.heap.size wr) (.cells #[.int .u8 (3), .int .u64 (an : Int), .int .i64 anum, .int .u8 (ax : Int), .slice aA al ac] 35)))
              have HBX := hid (Blk.new wr 35 #[.int .u8 (3), .int .u64 (an : Int), .int .i64 anum, .int .u8 (ax : Int), .slice aA al ac])
              go_wp2_with fail
              refine (back_eight an HR.out HRI.out).mono ?_
              rintro e w5 ⟨rfl, hr5, ho5⟩
              have hbx5 := ho5.blk HBX.out (by omega)
              have d1 : w5.cell? ⟨wr.heap.size, 1, none⟩ = some (.int .u64 (an : Int)) := hbx5.cell 1
              have d2 : w5.cell? ⟨wr.heap.size, 2, none⟩ = some (.int .i64 anum) := hbx5.cell 2
              have d3 : w5.cell? ⟨wr.heap.size, 3, none⟩ = some (.int .u8 (ax : Int)) := hbx5.cell 3
              have d4 : w5.cell? ⟨wr.heap.size, 4, none⟩ = some (.slice aA al ac) := hbx5.cell 4
              have hl5 := hbx5.lt
              have HR5 := hid hr5
              have HO5 := hid (((HON.out.alloc (.cells #[.int .u8 (3), .int .u64 (an : Int), .int .i64 anum, .int .u8 (ax : Int), .slice aA al ac] 35))).trans ho5)
              clear hbx5 hr5 ho5
              go_wp2_with fail
              exact ⟨⟨k + 1, by omega, by go_num, by rw [HP'.out]; exact HR5.out.below ((Below.refl w5.heap.size w5).alloc (Nat.le_refl _) _), HO5.out.alloc _⟩, by simp [intOf] <;> omega⟩
            · have HR := hid (HRD.out.k4 rfl)
              clear HRD
              have HRI := hid (HRN.out.below (bw_a (Below.refl wr.heap.size wr) (.cells #[.int .u8 (4), .int .u64 (an : Int), .int .i64 anum, .int .u8 (ax : Int), .slice aA al ac] 35)))
              have HBX := hid (Blk.new wr 35 #[.int .u8 (4), .int .u64 (an : Int), .int .i64 anum, .int .u8 (ax : Int), .slice aA al ac])
              go_wp2_with fail
              refine (back_bytes axs al HR.out HAL.out HRI.out).mono ?_
              rintro e w5 ⟨A5, c5, rfl, hs5, hr5, ho5⟩
              have HS5 := hid hs5
              have hbx5 := ho5.blk HBX.out (by omega)
              have d1 : w5.cell? ⟨wr.heap.size, 1, none⟩ = some (.int .u64 (an : Int)) := hbx5.cell 1
              have d2 : w5.cell? ⟨wr.heap.size, 2, none⟩ = some (.int .i64 anum) := hbx5.cell 2
              have d3 : w5.cell? ⟨wr.heap.size, 3, none⟩ = some (.int .u8 (ax : Int)) := hbx5.cell 3
              have d4 : w5.cell? ⟨wr.heap.size, 4, none⟩ = some (.slice aA al ac) := hbx5.cell 4
              have hl5 := hbx5.lt
              have HR5 := hid hr5
              have HO5 := hid (((HON.out.alloc (.cells #[.int .u8 (4), .int .u64 (an : Int), .int .i64 anum, .int .u8 (ax : Int), .slice aA al ac] 35))).trans ho5)
              have HSA := hid (HAS.out.below (HBW.out.trans ((bw_a (Below.refl wr.heap.size wr) (.cells #[.int .u8 (4), .int .u64 (an : Int), .int .i64 anum, .int .u8 (ax : Int), .slice aA al ac] 35)).mono HBW.out.size) |>.trans (ho5.below hwq (by simp; have := HBW.out.size; omega))))
              clear hbx5 hr5 ho5 hs5
              have hF := (Below.refl w5.heap.size w5).alloc (Nat.le_refl _) (.cells #[.int .i64 0, .int .i64 0] 51)
              have e4 : (w5.alloc (.cells #[.int .i64 0, .int .i64 0] 51)).cell? ⟨wr.heap.size, 4, none⟩ = some (.slice aA al ac) := (hF.cell (p := ⟨wr.heap.size, 4, none⟩) hl5).trans d4
              have HS6 := hid (HS5.out.below hF)
              have HSA6 := hid (HSA.out.below hF)
              go_wp2_with fail
              refine (same_at axs axs al al A5 aA c5 ac _ HAL.out HAL.out (by omega) HS6.out.rd HSA6.out.rd).mono ?_
              rw [decide_eq_true rfl]
              rintro e w6 ⟨rfl, k6, rfl⟩
              go_wp2_with fail
              exact ⟨⟨k + 1, by omega, by go_num, by rw [HP'.out]; exact (HR5.out.below hF).below (below_drewN (Below.refl _ _) k6), (HO5.out.alloc _).drewN k6⟩, by simp [intOf] <;> omega⟩
          · obtain rfl : k = j := by omega
            have hpE : (encL (l.take k)).length = n := by rw [List.take_of_length_le (by have := HM.out; omega), HE.out, HN.out]
            rw [hpE] at hr
            have hleft := ileft_any wr qi Ai ci E n hr
            rw [show ((E.length - n : Nat) : Int) = 0 from by rw [HN.out]; simp] at hleft
            have HLEFT := hid hleft
            have HBW := hid hBw
            clear hleft hr ho hBw hpE
            go_wp2_with fail
            refine HLEFT.out.mono ?_
            rintro e w9 ⟨rfl, k9, rfl⟩
            go_wp2_with fail
            go_ret
            exact ⟨rfl, bw_d HBW.out k9⟩
end Go.Proofs.Ytapgjkbodfpdaaa
