/- The walk of InletReads. -/
import Derived.Test.YtpicgemjfodlcaaProg
import Derived.Test.YtpicgemjfodlcaaBase
import Derived.Test.YtpicgemjfodlcaaOneAsk
import Derived.Test.YtpicgemjfodlcaaOpens
import Derived.Deep.RegionHeld3
import Derived.Test.YtpicgemjfodlcaaMidQuiet
set_option linter.unusedVariables false
namespace Go.Proofs.Ytpicgemjfodlcaa
open Go.RowKit
/-- An ask: what, and how many. -/
abbrev Ak := Nat × Int
def akv (a : Ak) : List Value := [.int .u8 (a.1 : Int), .int .i64 a.2]
def akOk (a : Ak) : Prop := a.1 ≤ 255 ∧ -9223372036854775808 ≤ a.2 ∧ a.2 ≤ 9223372036854775807
theorem openAk {P : Program} {W : World} {t : TypeId} {f0 f1 : Field} (ht : P.underlying t = some (.struct #[f0, f1])) (o0 : f0.offset = 0) (o1 : f1.offset = 1) (c0 : P.cellsOf f0.type = 1) (c1 : P.cellsOf f1.type = 1) (hC : P.cellsOf t = 1 + 1)
    (h0 : P.underlying f0.type = some (.int .u8)) (h1 : P.underlying f1.type = some (.int .i64)) : Opens P W t akv akOk :=
  (opens_struct2 (k0 := 1) (k1 := 1) ht o0 o1 c0 c1 hC (opens_int h0) (opens_int h1)).map (fun p => (p.1.toNat, p.2))
    fun p hp => ⟨by have := Go.Proofs.Ytpicgemjfodlcaa.wf_u8 hp.1; simp only [akv]; rw [Int.toNat_of_nonneg this.1]; rfl, by have := wf_u8 hp.1; show p.1.toNat ≤ 255; omega, (wf_i64 hp.2).1, (wf_i64 hp.2).2⟩
set_option maxRecDepth 100000 in
set_option maxHeartbeats 4000000 in
theorem inReads_any (bs : List UInt8) (n : Nat) (A : Option Addr) (c : Nat) (l : List Ak) (m : Nat) (B : Option Addr) (d : Nat) (w : World) (hn : bs.length = n) (hm : l.length = m) (hs : Sl w A c (bs.map bv)) (hok : ∀ a ∈ l, akOk a) (hl : SlN w B m d 2 (l.flatMap akv)) :
    Calls Try.prog 3 #[.slice A n c, .slice B m d] w fun e w' => e = .returned (.bool true) ∧ Below w.heap.size w w' := by
  have hcn : n ≤ 9223372036854775807 := by have g1 := hs.cap; have g2 := hs.small; simp only [List.length_map] at g1; omega
  have hcm : m ≤ 9223372036854775807 := by have g1 := hl.cap; have g2 := hl.small; omega
  have hdm : m ≤ d := hl.cap
  have hds : d ≤ 9223372036854775807 := hl.small
  by_cases h1 : 1000 < n
  · go_enter Try.func3, Try.ntmps3
    go_wp2_with fail
    refine (live4_any _).mono ?_
    rintro e w1 ⟨rfl, hb1⟩
    go_wp2_with fail
    go_ret
    exact ⟨rfl, hb1⟩
  by_cases h2 : 60 < m
  · go_enter Try.func3, Try.ntmps3
    go_wp2_with fail
    refine (live4_any _).mono ?_
    rintro e w1 ⟨rfl, hb1⟩
    go_wp2_with fail
    go_ret
    exact ⟨rfl, hb1⟩
  have HN := hid hn
  have HM := hid hm
  have HLw := hid hl
  have HOK := hid hok
  clear hn hm hok
  go_enter Try.func3, Try.ntmps3
  go_wp2_with fail
  refine (live4_any _).mono ?_
  rintro e w1 ⟨rfl, hb1⟩
  have hs1 := hs.below hb1
  have hw1 : w.heap.size ≤ w1.heap.size := hb1.size
  have hl1 := hl.below hb1
  have HL := hid hl1
  have hf2 : Far A n w1.heap.size → True := fun _ => trivial
  go_wp2_with fail
  refine (new_any bs n A c w1 HN.out (by omega) hs1).mono ?_
  rintro e w2 ⟨q1, A1, c1, rfl, hr1, hq1, hfar, hb2⟩
  have hs2 := hs1.below hb2
  have HB12 := hid (bw_t hb1 hb2)
  have hq1l := hr1.blk.lt
  have hbw := (Below.refl w2.heap.size w2).alloc (Nat.le_refl _) (.cells #[.slice A n c, .int .i64 0] 29)
  have hfA : Far A bs.length q1 := far_new hs1 hq1
  have htwo : Two (w2.alloc (.cells #[.slice A n c, .int .i64 0] 29)) q1 w2.heap.size A1 A c1 c bs 0 := by
    refine ⟨hr1.below hbw, ⟨?_, hs2.below hbw, Nat.zero_le _, far_new hs2 (Nat.le_refl _)⟩, by omega, hfar _ (.inr (by omega)), hfA⟩
    rw [HN.out]
    exact Blk.new w2 _ _
  have HT := hid htwo
  have HB3 := hid (HB12.out.trans (hbw.mono (by have := HB12.out.size; omega)))
  have HL2 := hid ((HL.out.below hb2).below hbw)
  clear hs hs1 hs2 hl hl1 hb1 hb2 hbw hr1 hfar hfA htwo hf2
  go_wp2_with fail
  generalize hW : World.alloc _ _ = W
  rw [hW] at HT HB3 HL2
  have hWl : w2.heap.size < W.heap.size := HT.out.r2.blk.lt
  have hw2 : w.heap.size ≤ w2.heap.size := HB12.out.size
  clear hW
  go_loopw [7] (fun i wr => ∃ k p : Nat, k ≤ m ∧ i = .int .i64 (k : Int) ∧ Two wr q1 w2.heap.size A1 A c1 c bs p ∧ Below w.heap.size w wr) (fun i _ => m - (intOf i).toNat)
  case atStart => exact ⟨0, 0, by omega, rfl, HT.out, HB3.out⟩
  case round =>
    obtain ⟨k, p, hk, rfl, htwo, hB⟩ := hrel
    have HTW := hid htwo
    by_cases hlt : k < m
    · have hkl : k < l.length := by have := HM.out; omega
      have hn0 : (l.flatMap akv)[k * 2 + 0]? = _ := flatMap_get akv 2 l k 0 hkl (fun _ _ => rfl) (by omega)
      have hn1 : (l.flatMap akv)[k * 2 + 1]? = _ := flatMap_get akv 2 l k 1 hkl (fun _ _ => rfl) (by omega)
      have hak := HOK.out l[k] (List.getElem_mem hkl)
      generalize l[k] = a at *
      obtain ⟨kd, nn⟩ := a
      obtain ⟨b, off, rfl, hbl, hc0⟩ := HLw.out.rd _ (.int .u8 (kd : Int)) (by rw [hn0]; rfl)
      obtain ⟨b', off', he', _, hc1⟩ := HLw.out.rd _ (.int .i64 nn) (by rw [hn1]; rfl)
      injection he' with he'; injection he' with e1 e2; subst e1; subst e2
      rw [Nat.add_zero] at hc0
      have hr0 : wr.cell? ⟨b, off + k * 2, none⟩ = some (.int .u8 (kd : Int)) := (hB.cell (p := ⟨b, off + k * 2, none⟩) hbl).trans hc0
      have hr1 : wr.cell? ⟨b, off + k * 2 + 1, none⟩ = some (.int .i64 nn) := (hB.cell (p := ⟨b, off + k * 2 + 1, none⟩) hbl).trans hc1
      clear hc0 hc1
      obtain ⟨hkd, hna, hnb⟩ := hak
      simp only at hkd hna hnb
      have hone : ∀ W, Two W q1 w2.heap.size A1 A c1 c bs p → Calls Try.prog 7 #[.pointer (some ⟨q1, 0, none⟩), .pointer (some ⟨w2.heap.size, 0, none⟩), .agg #[.int .u8 (kd : Int), .int .i64 nn]] W fun e w' => e = .returned (.bool true) ∧ ∃ p' : Nat, (p' : Int) ≤ (n : Int) ∧ w'.cell? ⟨w2.heap.size, 1, none⟩ = some (.int .i64 ((p' : Nat) : Int)) ∧ w2.heap.size < w'.heap.size ∧ Hid (Two w' q1 w2.heap.size A1 A c1 c bs p') ∧ Hid (Below w.heap.size W w') := by
        intro W h
        refine (ask_any kd nn hkd hna hnb W w.heap.size q1 w2.heap.size A1 A c1 c bs p (by omega) hw2 (by have := HN.out; omega) h).mono ?_
        rintro e w' ⟨rfl, ⟨p', h3⟩, hb⟩
        exact ⟨rfl, p', by have h4 := h3.r1.le; have h5 := HN.out; omega, by simpa using h3.r2.blk.cell 1, h3.r2.blk.lt, hid h3, hid hb⟩
      have hat : ∀ (p' : Nat) W W', Hid (Two W q1 w2.heap.size A1 A c1 c bs p') → (∃ j, W' = W.drewN j) → Calls Try.prog 8 #[.pointer (some ⟨q1, 0, none⟩)] W' fun e w' => e = .returned (.int .i64 (p' : Int)) ∧ w' = W' := by
        rintro p' W W' h ⟨j, rfl⟩
        exact (iat_any 0 _ q1 A1 c1 bs p' (h.out.r1.below (below_drewN (Below.refl _ _) j))).mono fun e w h => ⟨h.1, h.2.symm⟩
      have hlf : ∀ (p' : Nat) W W', Hid (Two W q1 w2.heap.size A1 A c1 c bs p') → (∃ j, W' = W.drewN j) → Calls Try.prog 9 #[.pointer (some ⟨q1, 0, none⟩)] W' fun e w' => e = .returned (.int .i64 ((n : Int) - (p' : Int))) ∧ ∃ j, w' = W'.drewN j := by
        rintro p' W W' h ⟨j, rfl⟩
        have h4 := h.out.r1.le
        have h5 := HN.out
        have h6 := ileft_any _ q1 A1 c1 bs p' (h.out.r1.below (below_drewN (Below.refl _ _) j))
        rwa [show ((bs.length - p' : Nat) : Int) = (n : Int) - (p' : Int) from by omega] at h6
      have HAT := hid hat
      have HLF := hid hlf
      have HONE := hid hone
      have hkm : (k : Int) < (m : Int) := by omega
      have hk0 : (0 : Int) ≤ (k : Int) := by omega
      clear hn0 hn1 hone htwo hat hlf
      have HTd := hid (HTW.out.below (below_drewN (Below.refl wr.heap.size wr) 1) : Two wr.drew q1 w2.heap.size A1 A c1 c bs p)
      go_wp2_with fail
      refine wp_region_held_drew (S := fun W => W.cell? ⟨b, off + k * 2, none⟩ = some (.int .u8 (kd : Int)) ∧ W.cell? ⟨b, off + k * 2 + 1, none⟩ = some (.int .i64 nn)) (by kernel_rfl) ?_ (fun hHeld => ?_)
      · exact ⟨hr0, hr1⟩
      refine wpAnyH_take (i := 0) (oi := { dst := some 31, op := Op.move (Operand.tmp 5), type := 25, pos := "law.go:48", after := #[], guard := none }) (v := ?_) rfl (by kernel_rfl) (by kernel_rfl) (by kernel_rfl) (fun _ _ _ h => h) (Or.inl ⟨by rfl, ?_⟩) (by assumption) ?_
      rotate_left
      · intro w hSw
        (try dsimp only at hSw)
        go_simp
        with_reducible rfl
      (try simp only [Act.put, List.setIfInBounds_toArray, List.set_cons_zero, List.set_cons_succ])
      refine wpAnyH_take (i := 1) (oi := { dst := some 32, op := Op.move (Operand.tmp 6), type := 27, pos := "law.go:48", after := #[], guard := none }) (v := ?_) rfl (by kernel_rfl) (by kernel_rfl) (by kernel_rfl) (fun _ _ _ h => h) (Or.inl ⟨by rfl, ?_⟩) (by assumption) ?_
      rotate_left
      · intro w hSw
        (try dsimp only at hSw)
        go_simp
        with_reducible rfl
      (try simp only [Act.put, List.setIfInBounds_toArray, List.set_cons_zero, List.set_cons_succ])
      refine wpAnyH_take (i := 2) (oi := { dst := some 33, op := Op.move (Operand.tmp 1), type := 23, pos := "law.go:48", after := #[], guard := none }) (v := ?_) rfl (by kernel_rfl) (by kernel_rfl) (by kernel_rfl) (fun _ _ _ h => h) (Or.inl ⟨by rfl, ?_⟩) (by assumption) ?_
      rotate_left
      · intro w hSw
        (try dsimp only at hSw)
        go_simp
        with_reducible rfl
      (try simp only [Act.put, List.setIfInBounds_toArray, List.set_cons_zero, List.set_cons_succ])
      refine wpAnyH_take (i := 3) (oi := { dst := some 34, op := Op.move (Operand.tmp 7), type := 3, pos := "law.go:48", after := #[], guard := none }) (v := ?_) rfl (by kernel_rfl) (by kernel_rfl) (by kernel_rfl) (fun _ _ _ h => h) (Or.inl ⟨by rfl, ?_⟩) (by assumption) ?_
      rotate_left
      · intro w hSw
        (try dsimp only at hSw)
        go_simp
        with_reducible rfl
      (try simp only [Act.put, List.setIfInBounds_toArray, List.set_cons_zero, List.set_cons_succ])
      refine wpAnyH_take (i := 4) (oi := { dst := some 35, op := Op.indexAddr 23 (Operand.tmp 33) (Operand.tmp 34), type := 0, pos := "law.go:48", after := #[{ on := 2, ground := Ground.data }, { on := 3, ground := Ground.data }], guard := none }) (v := ?_) rfl (by kernel_rfl) (by kernel_rfl) (by kernel_rfl) (fun _ _ _ h => h) (Or.inl ⟨by rfl, ?_⟩) (by assumption) ?_
      rotate_left
      · intro w hSw
        (try dsimp only at hSw)
        go_simp
        with_reducible rfl
      (try simp only [Act.put, List.setIfInBounds_toArray, List.set_cons_zero, List.set_cons_succ])
      refine wpAnyH_take (i := 5) (oi := { dst := some 36, op := Op.load 32 (Operand.tmp 35), type := 32, pos := "law.go:48", after := #[{ on := 4, ground := Ground.data }], guard := none }) (v := ?_) rfl (by kernel_rfl) (by kernel_rfl) (by kernel_rfl) (fun _ _ _ h => h) (Or.inl ⟨by rfl, ?_⟩) (by assumption) ?_
      rotate_left
      · intro w hSw
        (try dsimp only at hSw)
        go_simp
        with_reducible rfl
      (try simp only [Act.put, List.setIfInBounds_toArray, List.set_cons_zero, List.set_cons_succ])
      refine wpAnyH_ready (rs := [6]) (by kernel_rfl) (by simp) ?_
      refine AllReadyH.cons rfl (fun K hK => ?_) AllReadyH.nil
      go_simp
      refine (HONE.out _ HTd.out).mono ?_
      rintro e w3 ⟨rfl, p', e1, e0, el, H3, HB4⟩
      go_wp2_with fail
      refine hK.out _ _ ?_ (fun hHeld => ?_)
      · exact ⟨(HB4.out.cell (p := ⟨b, off + k * 2, none⟩) hbl).trans hr0, (HB4.out.cell (p := ⟨b, off + k * 2 + 1, none⟩) hbl).trans hr1⟩
      clear hK K
      (try simp only [Act.put, List.setIfInBounds_toArray, List.set_cons_zero, List.set_cons_succ])
      have hwr : IntKind.i64.wrap ((n : Int) - (p' : Int)) = (n : Int) - (p' : Int) := IntWalk.i64_in _ (by omega)
      refine held_rest7 (by kernel_rfl) (by kernel_rfl) (by kernel_rfl) (fun j => ⟨((below_drewN HB4.out j).cell (p := ⟨b, off + k * 2, none⟩) hbl).trans hr0, ((below_drewN HB4.out j).cell (p := ⟨b, off + k * 2 + 1, none⟩) hbl).trans hr1⟩) ?_
      repeat (quiet_step ((first | (go_at_call 8; exact Calls.quiet_of_same (HAT.out p' _ _ H3 ⟨_, rfl⟩)) | (go_at_call 9; exact Calls.quiet_of (HLF.out p' _ _ H3 ⟨_, rfl⟩)))))
      refine wpQuiet_nil ?_
      intro _ hw'
      obtain ⟨nq, hw''⟩ := hw'
      subst hw''
      have H3d := hid (H3.out.below (below_drewN (Below.refl w3.heap.size w3) nq) : Two (w3.drewN nq) q1 w2.heap.size A1 A c1 c bs p')
      have hBn : Below w.heap.size w (w3.drewN nq) := (below_drewN hB 1).trans (below_drewN HB4.out nq)
      go_wp2_with fail
      go_roundw
      case rel => exact ⟨k + 1, p', by omega, by go_num, H3d.out, hBn⟩
      case measure => simp [intOf] <;> omega
    · go_wp2_with fail
      go_ret
      exact ⟨rfl, hB⟩
theorem openAsk (W : World) : Opens Try.prog W 32 akv akOk :=
  openAk Try.underlying32 rfl rfl (by kernel_rfl) (by kernel_rfl) (by kernel_rfl) Try.underlying5 Try.underlying3
end Go.Proofs.Ytpicgemjfodlcaa
