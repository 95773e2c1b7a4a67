/- One ask, of the inlet and of the document's reader. -/
import Derived.Test.YtpicgemjfodlcaaProg
import Derived.Test.YtpicgemjfodlcaaBase
import Derived.Test.YtpicgemjfodlcaaLive4
import Derived.Test.YtpicgemjfodlcaaRefBytes
import Derived.Test.YtpicgemjfodlcaaSame
set_option linter.unusedVariables false
namespace Go.Proofs.Ytpicgemjfodlcaa
open Go.RowKit
/-- Both readers stand at one place of the same bytes. -/
structure Two (w : World) (q1 q2 : Nat) (A1 A2 : Option Addr) (c1 c2 : Nat) (bs : List UInt8) (p : Nat) : Prop where
  r1 : Rin 51 w q1 A1 c1 bs p
  r2 : Rin 29 w q2 A2 c2 bs p
  ne : q1 ≠ q2
  f1 : Far A1 bs.length q2
  f2 : Far A2 bs.length q1
theorem Two.below {w w' : World} {q1 q2 : Nat} {A1 A2 : Option Addr} {c1 c2 : Nat} {bs : List UInt8} {p : Nat} (h : Two w q1 q2 A1 A2 c1 c2 bs p) (hb : Below w.heap.size w w') : Two w' q1 q2 A1 A2 c1 c2 bs p :=
  ⟨h.r1.below hb, h.r2.below hb, h.ne, h.f1, h.f2⟩
theorem plc_eq {e p p1 : Nat} (h : e ≠ 0 → p1 = p) : plc e p p1 = p1 := by unfold plc; split; rfl; exact (h ‹_›).symm
theorem ite_zero {e v : Nat} (h : e ≠ 0 → v = 0) : (if e = 0 then v else 0) = v := by split; rfl; exact (h ‹_›).symm
theorem rFix_facts (k : Nat) (bs : List UInt8) (p : Nat) (h : p ≤ bs.length) : ((rFix k bs p).2.1 ≠ 0 → (rFix k bs p).1 = 0 ∧ (rFix k bs p).2.2 = p) ∧ (rFix k bs p).1 < 256 ^ k := by
  unfold rFix
  split
  · exact ⟨fun _ => ⟨rfl, rfl⟩, Nat.pow_pos (by omega)⟩
  · refine ⟨fun h => absurd rfl h, ?_⟩
    exact unfixN_take_lt (bs.drop p) k (by rw [List.length_drop]; omega)
theorem rTake_facts (n : Int) (bs : List UInt8) (p : Nat) : (rTake n bs p).2.1 ≠ 0 → (rTake n bs p).1 = [] ∧ (rTake n bs p).2.2 = p := by
  unfold rTake
  split
  · simp
  · split <;> simp
theorem ite_nil {e : Nat} {l : List UInt8} (h : e ≠ 0 → l = []) : (if e = 0 then l else []) = l := by split; rfl; exact (h ‹_›).symm
set_option maxRecDepth 100000 in
set_option maxHeartbeats 2000000 in
theorem one_num (n : Int) (w : World) (B q1 q2 : Nat) (A1 A2 : Option Addr) (c1 c2 : Nat) (bs : List UInt8) (p : Nat) (hB1 : B ≤ q1) (hB2 : B ≤ q2) (hbl : bs.length ≤ 100000) (h : Two w q1 q2 A1 A2 c1 c2 bs p) :
    Calls Try.prog 7 #[.pointer (some ⟨q1, 0, none⟩), .pointer (some ⟨q2, 0, none⟩), .agg #[.int .u8 0, .int .i64 n]] w fun e w' => e = .returned (.bool true) ∧ (∃ p', Two w' q1 q2 A1 A2 c1 c2 bs p') ∧ Below B w w' := by
  have hl1 := h.r1.blk.lt
  have hl2 := h.r2.blk.lt
  have hne := h.ne
  have hf1 := h.f1
  have hf2 := h.f2
  have hle := h.r1.le
  have hm := fun W hr => inumm_any W q1 A1 c1 bs p hr
  have hR := fun W hr => rvar_any W q2 A2 c2 bs p hr
  have hg := M.get_facts (bs.drop p)
  have hz : (M.get (bs.drop p)).2.2 ≠ 0 → (M.get (bs.drop p)).1 = 0 := fun h => (hg.2 h).1
  have hz2 : (M.get (bs.drop p)).2.2 ≠ 0 → p + (M.get (bs.drop p)).2.1 = p := fun h => by rw [(hg.2 h).2.1]; rfl
  rw [ite_zero hz, plc_eq hz2] at hm
  clear hg hz hz2
  generalize flt (M.get (bs.drop p)).2.2 p = fa at *
  generalize p + (M.get (bs.drop p)).2.1 = p1 at *
  generalize M.get (bs.drop p) = g at *
  obtain ⟨v, k, e⟩ := g
  simp only at hm hR
  have HM := hid hm
  have HR := hid hR
  have HT := hid h
  clear hm hR h
  go_enter Try.func7, Try.ntmps7
  go_wp2_with fail
  have hb0 := (Below.refl w.heap.size w).alloc (Nat.le_refl _) (.cells #[.int .u8 0, .int .i64 n] 32)
  have hr1 := HT.out.r1.below hb0
  have hr2 := HT.out.r2.below hb0
  refine (HM.out _ hr1).mono ?_
  rintro e1 w1 ⟨rfl, hr1', ho1⟩
  have hr2' := hr2.other ho1 (Ne.symm hne) hf2
  have hB0 := ho1.below hB1 (by simp; omega)
  have HA := hid ((hb0.mono (by omega : B ≤ w.heap.size)).trans hB0)
  have HR1 := hid hr1'
  have HR2 := hid hr2'
  clear hr1 hr2 hr1' hr2' ho1 hb0 hB0
  go_wp2_with fail
  have hb1 := (Below.refl w1.heap.size w1).alloc (Nat.le_refl _) (.cells #[.int .i64 (e : Nat), .int .i64 (fa : Nat)] 37)
  have hr2 := HR2.out.below hb1
  have hk := Blk.new w1 37 #[.int .i64 (e : Nat), .int .i64 (fa : Nat)]
  have hq2l := HR2.out.blk.lt
  have hq1l := HR1.out.blk.lt
  refine (HR.out _ hr2).mono ?_
  rintro e2 w2 ⟨rfl, hr2', ho2⟩
  have hk2 := ho2.blk hk (by omega)
  have hr1' := (HR1.out.below hb1).other ho2 hne hf1
  have HA2 := hid ((HA.out.trans (hb1.mono (by omega))).trans (ho2.below hB2 (by simp; omega)))
  have k0 : w2.cell? ⟨w1.heap.size, 0, none⟩ = some (.int .i64 (e : Nat)) := hk2.cell 0
  have k1 : w2.cell? ⟨w1.heap.size, 1, none⟩ = some (.int .i64 (fa : Nat)) := hk2.cell 1
  have kl := hk2.lt
  have hq1l2 := hr1'.blk.lt
  have HR1b := hid hr1'
  have HR2b := hid hr2'
  clear hr2 hk hk2 hr1' hr2' ho2 hb1
  go_wp2_with fail
  go_ret
  have hb2 := (Below.refl w2.heap.size w2).alloc (Nat.le_refl _) (.cells #[.int .i64 (e : Nat), .int .i64 (fa : Nat)] 37)
  exact ⟨by simp, ⟨p1, HR1b.out.below hb2, HR2b.out.below hb2, hne, hf1, hf2⟩, HA2.out.trans (hb2.mono (by omega))⟩
set_option maxRecDepth 100000 in
set_option maxHeartbeats 2000000 in
theorem one_four (n : Int) (w : World) (B q1 q2 : Nat) (A1 A2 : Option Addr) (c1 c2 : Nat) (bs : List UInt8) (p : Nat) (hB1 : B ≤ q1) (hB2 : B ≤ q2) (hbl : bs.length ≤ 100000) (h : Two w q1 q2 A1 A2 c1 c2 bs p) :
    Calls Try.prog 7 #[.pointer (some ⟨q1, 0, none⟩), .pointer (some ⟨q2, 0, none⟩), .agg #[.int .u8 2, .int .i64 n]] w fun e w' => e = .returned (.bool true) ∧ (∃ p', Two w' q1 q2 A1 A2 c1 c2 bs p') ∧ Below B w w' := by
  have hl1 := h.r1.blk.lt
  have hl2 := h.r2.blk.lt
  have hne := h.ne
  have hf1 := h.f1
  have hf2 := h.f2
  have hle := h.r1.le
  have hm := fun W hr => ifourm_any W q1 A1 c1 bs p hr

  have hfx := rFix_facts 4 bs p hle
  rw [ite_zero (fun h => (hfx.1 h).1), plc_eq (fun h => (hfx.1 h).2)] at hm
  have hR : ∀ W, Rin 29 W q2 A2 c2 bs p → Calls Try.prog 20 #[.pointer (some ⟨q2, 0, none⟩), .int .i64 4] W _ := fun W hr => rfixed_any 4 W q2 A2 c2 bs p (by omega) (by omega) hr
  have hvb := hfx.2
  clear hfx
  generalize flt (rFix 4 bs p).2.1 p = fa at *
  generalize (rFix 4 bs p).2.2 = p1 at *
  generalize (rFix 4 bs p).2.1 = e at *
  generalize (rFix 4 bs p).1 = v at *
  have HM := hid hm
  have HR := hid hR
  have HT := hid h
  clear hm hR h
  go_enter Try.func7, Try.ntmps7
  go_wp2_with fail
  have hb0 := (Below.refl w.heap.size w).alloc (Nat.le_refl _) (.cells #[.int .u8 2, .int .i64 n] 32)
  have hr1 := HT.out.r1.below hb0
  have hr2 := HT.out.r2.below hb0
  refine (HM.out _ hr1).mono ?_
  rintro e1 w1 ⟨rfl, hr1', ho1⟩
  have hr2' := hr2.other ho1 (Ne.symm hne) hf2
  have hB0 := ho1.below hB1 (by simp; omega)
  have HA := hid ((hb0.mono (by omega : B ≤ w.heap.size)).trans hB0)
  have HR1 := hid hr1'
  have HR2 := hid hr2'
  clear hr1 hr2 hr1' hr2' ho1 hb0 hB0
  go_wp2_with fail
  have hb1 := (Below.refl w1.heap.size w1).alloc (Nat.le_refl _) (.cells #[.int .i64 (e : Nat), .int .i64 (fa : Nat)] 37)
  have hr2 := HR2.out.below hb1
  have hk := Blk.new w1 37 #[.int .i64 (e : Nat), .int .i64 (fa : Nat)]
  have hq2l := HR2.out.blk.lt
  have hq1l := HR1.out.blk.lt
  refine (HR.out _ hr2).mono ?_
  rintro e2 w2 ⟨rfl, hr2', ho2⟩
  have hk2 := ho2.blk hk (by omega)
  have hr1' := (HR1.out.below hb1).other ho2 hne hf1
  have HA2 := hid ((HA.out.trans (hb1.mono (by omega))).trans (ho2.below hB2 (by simp; omega)))
  have k0 : w2.cell? ⟨w1.heap.size, 0, none⟩ = some (.int .i64 (e : Nat)) := hk2.cell 0
  have k1 : w2.cell? ⟨w1.heap.size, 1, none⟩ = some (.int .i64 (fa : Nat)) := hk2.cell 1
  have kl := hk2.lt
  have hq1l2 := hr1'.blk.lt
  have HR1b := hid hr1'
  have HR2b := hid hr2'
  clear hr2 hk hk2 hr1' hr2' ho2 hb1
  go_wp2_with fail
  go_ret
  have hb2 := (Below.refl w2.heap.size w2).alloc (Nat.le_refl _) (.cells #[.int .i64 (e : Nat), .int .i64 (fa : Nat)] 37)
  exact ⟨by simp, ⟨p1, HR1b.out.below hb2, HR2b.out.below hb2, hne, hf1, hf2⟩, HA2.out.trans (hb2.mono (by omega))⟩
set_option maxRecDepth 100000 in
set_option maxHeartbeats 2000000 in
theorem one_eight (n : Int) (w : World) (B q1 q2 : Nat) (A1 A2 : Option Addr) (c1 c2 : Nat) (bs : List UInt8) (p : Nat) (hB1 : B ≤ q1) (hB2 : B ≤ q2) (hbl : bs.length ≤ 100000) (h : Two w q1 q2 A1 A2 c1 c2 bs p) :
    Calls Try.prog 7 #[.pointer (some ⟨q1, 0, none⟩), .pointer (some ⟨q2, 0, none⟩), .agg #[.int .u8 3, .int .i64 n]] w fun e w' => e = .returned (.bool true) ∧ (∃ p', Two w' q1 q2 A1 A2 c1 c2 bs p') ∧ Below B w w' := by
  have hl1 := h.r1.blk.lt
  have hl2 := h.r2.blk.lt
  have hne := h.ne
  have hf1 := h.f1
  have hf2 := h.f2
  have hle := h.r1.le
  have hm := fun W hr => ieightm_any W q1 A1 c1 bs p hr

  have hfx := rFix_facts 8 bs p hle
  rw [ite_zero (fun h => (hfx.1 h).1), plc_eq (fun h => (hfx.1 h).2)] at hm
  have hR : ∀ W, Rin 29 W q2 A2 c2 bs p → Calls Try.prog 20 #[.pointer (some ⟨q2, 0, none⟩), .int .i64 8] W _ := fun W hr => rfixed_any 8 W q2 A2 c2 bs p (by omega) (by omega) hr
  have hvb := hfx.2
  clear hfx
  generalize flt (rFix 8 bs p).2.1 p = fa at *
  generalize (rFix 8 bs p).2.2 = p1 at *
  generalize (rFix 8 bs p).2.1 = e at *
  generalize (rFix 8 bs p).1 = v at *
  have HM := hid hm
  have HR := hid hR
  have HT := hid h
  clear hm hR h
  go_enter Try.func7, Try.ntmps7
  go_wp2_with fail
  have hb0 := (Below.refl w.heap.size w).alloc (Nat.le_refl _) (.cells #[.int .u8 3, .int .i64 n] 32)
  have hr1 := HT.out.r1.below hb0
  have hr2 := HT.out.r2.below hb0
  refine (HM.out _ hr1).mono ?_
  rintro e1 w1 ⟨rfl, hr1', ho1⟩
  have hr2' := hr2.other ho1 (Ne.symm hne) hf2
  have hB0 := ho1.below hB1 (by simp; omega)
  have HA := hid ((hb0.mono (by omega : B ≤ w.heap.size)).trans hB0)
  have HR1 := hid hr1'
  have HR2 := hid hr2'
  clear hr1 hr2 hr1' hr2' ho1 hb0 hB0
  go_wp2_with fail
  have hb1 := (Below.refl w1.heap.size w1).alloc (Nat.le_refl _) (.cells #[.int .i64 (e : Nat), .int .i64 (fa : Nat)] 37)
  have hr2 := HR2.out.below hb1
  have hk := Blk.new w1 37 #[.int .i64 (e : Nat), .int .i64 (fa : Nat)]
  have hq2l := HR2.out.blk.lt
  have hq1l := HR1.out.blk.lt
  refine (HR.out _ hr2).mono ?_
  rintro e2 w2 ⟨rfl, hr2', ho2⟩
  have hk2 := ho2.blk hk (by omega)
  have hr1' := (HR1.out.below hb1).other ho2 hne hf1
  have HA2 := hid ((HA.out.trans (hb1.mono (by omega))).trans (ho2.below hB2 (by simp; omega)))
  have k0 : w2.cell? ⟨w1.heap.size, 0, none⟩ = some (.int .i64 (e : Nat)) := hk2.cell 0
  have k1 : w2.cell? ⟨w1.heap.size, 1, none⟩ = some (.int .i64 (fa : Nat)) := hk2.cell 1
  have kl := hk2.lt
  have hq1l2 := hr1'.blk.lt
  have HR1b := hid hr1'
  have HR2b := hid hr2'
  clear hr2 hk hk2 hr1' hr2' ho2 hb1
  go_wp2_with fail
  go_ret
  have hb2 := (Below.refl w2.heap.size w2).alloc (Nat.le_refl _) (.cells #[.int .i64 (e : Nat), .int .i64 (fa : Nat)] 37)
  exact ⟨by simp, ⟨p1, HR1b.out.below hb2, HR2b.out.below hb2, hne, hf1, hf2⟩, HA2.out.trans (hb2.mono (by omega))⟩
set_option maxRecDepth 100000 in
set_option maxHeartbeats 2000000 in
theorem one_tag (n : Int) (w : World) (B q1 q2 : Nat) (A1 A2 : Option Addr) (c1 c2 : Nat) (bs : List UInt8) (p : Nat) (hB1 : B ≤ q1) (hB2 : B ≤ q2) (hbl : bs.length ≤ 100000) (h : Two w q1 q2 A1 A2 c1 c2 bs p) :
    Calls Try.prog 7 #[.pointer (some ⟨q1, 0, none⟩), .pointer (some ⟨q2, 0, none⟩), .agg #[.int .u8 1, .int .i64 n]] w fun e w' => e = .returned (.bool true) ∧ (∃ p', Two w' q1 q2 A1 A2 c1 c2 bs p') ∧ Below B w w' := by
  have hl1 := h.r1.blk.lt
  have hl2 := h.r2.blk.lt
  have hne := h.ne
  have hf1 := h.f1
  have hf2 := h.f2
  have hle := h.r1.le
  have hm := fun W hr => itagm_any W q1 A1 c1 bs p hr
  have hR := fun W hr => rtag_any W q2 A2 c2 bs p hr
  generalize plc (rHead bs p).2.2.1 p (rHead bs p).2.2.2 = p1 at *
  generalize flt (rHead bs p).2.2.1 p = fa at *
  generalize (if (rHead bs p).2.2.1 = 0 then (rHead bs p).1 else 0) = v1 at *
  generalize (if (rHead bs p).2.2.1 = 0 then (rHead bs p).2.1 else 0) = v2 at *
  generalize (rHead bs p).2.2.1 = e at *
  have HM := hid hm
  have HR := hid hR
  have HT := hid h
  clear hm hR h
  go_enter Try.func7, Try.ntmps7
  go_wp2_with fail
  have hb0 := (Below.refl w.heap.size w).alloc (Nat.le_refl _) (.cells #[.int .u8 1, .int .i64 n] 32)
  have hr1 := HT.out.r1.below hb0
  have hr2 := HT.out.r2.below hb0
  refine (HM.out _ hr1).mono ?_
  rintro e1 w1 ⟨rfl, hr1', ho1⟩
  have hr2' := hr2.other ho1 (Ne.symm hne) hf2
  have hB0 := ho1.below hB1 (by simp; omega)
  have HA := hid ((hb0.mono (by omega : B ≤ w.heap.size)).trans hB0)
  have HR1 := hid hr1'
  have HR2 := hid hr2'
  clear hr1 hr2 hr1' hr2' ho1 hb0 hB0
  go_wp2_with fail
  have hb1 := (Below.refl w1.heap.size w1).alloc (Nat.le_refl _) (.cells #[.int .i64 (e : Nat), .int .i64 (fa : Nat)] 37)
  have hr2 := HR2.out.below hb1
  have hk := Blk.new w1 37 #[.int .i64 (e : Nat), .int .i64 (fa : Nat)]
  have hq2l := HR2.out.blk.lt
  have hq1l := HR1.out.blk.lt
  refine (HR.out _ hr2).mono ?_
  rintro e2 w2 ⟨rfl, hr2', ho2⟩
  have hk2 := ho2.blk hk (by omega)
  have hr1' := (HR1.out.below hb1).other ho2 hne hf1
  have HA2 := hid ((HA.out.trans (hb1.mono (by omega))).trans (ho2.below hB2 (by simp; omega)))
  have k0 : w2.cell? ⟨w1.heap.size, 0, none⟩ = some (.int .i64 (e : Nat)) := hk2.cell 0
  have k1 : w2.cell? ⟨w1.heap.size, 1, none⟩ = some (.int .i64 (fa : Nat)) := hk2.cell 1
  have kl := hk2.lt
  have hq1l2 := hr1'.blk.lt
  have HR1b := hid hr1'
  have HR2b := hid hr2'
  clear hr2 hk hk2 hr1' hr2' ho2 hb1
  go_wp2_with fail
  go_ret
  have hb2 := (Below.refl w2.heap.size w2).alloc (Nat.le_refl _) (.cells #[.int .i64 (e : Nat), .int .i64 (fa : Nat)] 37)
  exact ⟨by simp, ⟨p1, HR1b.out.below hb2, HR2b.out.below hb2, hne, hf1, hf2⟩, HA2.out.trans (hb2.mono (by omega))⟩
set_option maxRecDepth 100000 in
set_option maxHeartbeats 2000000 in
theorem one_bytes (n : Int) (hn1 : -9223372036854775808 ≤ n) (hn2 : n ≤ 9223372036854775807) (w : World) (B q1 q2 : Nat) (A1 A2 : Option Addr) (c1 c2 : Nat) (bs : List UInt8) (p : Nat) (hB1 : B ≤ q1) (hB2 : B ≤ q2) (hbl : bs.length ≤ 100000) (h : Two w q1 q2 A1 A2 c1 c2 bs p) :
    Calls Try.prog 7 #[.pointer (some ⟨q1, 0, none⟩), .pointer (some ⟨q2, 0, none⟩), .agg #[.int .u8 4, .int .i64 n]] w fun e w' => e = .returned (.bool true) ∧ (∃ p', Two w' q1 q2 A1 A2 c1 c2 bs p') ∧ Below B w w' := by
  have hl1 := h.r1.blk.lt
  have hl2 := h.r2.blk.lt
  have hne := h.ne
  have hf1 := h.f1
  have hf2 := h.f2
  have hle := h.r1.le
  have hm := fun W hr => ibytesm_any n W q1 A1 c1 bs p hn1 hn2 hr
  have hR := fun W hr => rbytesm_any n W q2 A2 c2 bs p hn1 hn2 hbl hr
  generalize plc (rCount n bs p).2.1 p (rCount n bs p).2.2 = p1 at *
  generalize flt (rCount n bs p).2.1 p = fa at *
  generalize (if (rCount n bs p).2.1 = 0 then (rCount n bs p).1 else []) = L at *
  generalize (rCount n bs p).2.1 = e at *
  have HM := hid hm
  have HR := hid hR
  have HT := hid h
  clear hm hR h
  go_enter Try.func7, Try.ntmps7
  go_wp2_with fail
  have hb0 := (Below.refl w.heap.size w).alloc (Nat.le_refl _) (.cells #[.int .u8 4, .int .i64 n] 32)
  have hr1 := HT.out.r1.below hb0
  have hr2 := HT.out.r2.below hb0
  have ka : (w.alloc (.cells #[.int .u8 4, .int .i64 n] 32)).cell? ⟨w.heap.size, 1, none⟩ = some (.int .i64 n) := (Blk.new w 32 #[.int .u8 4, .int .i64 n]).cell 1
  have kb := Blk.new w 32 #[.int .u8 4, .int .i64 n]
  refine (HM.out _ hr1).mono ?_
  rintro e1 w1 ⟨X1, d1, rfl, hs1, hx1, hr1', ho1⟩
  have hr2' := hr2.other ho1 (Ne.symm hne) hf2
  have hB0 := ho1.below hB1 (by simp; omega)
  have kb1 := ho1.blk kb (by omega)
  have kn : w1.cell? ⟨w.heap.size, 1, none⟩ = some (.int .i64 n) := kb1.cell 1
  have knl := kb1.lt
  have HA := hid ((hb0.mono (by omega : B ≤ w.heap.size)).trans hB0)
  have HR1 := hid hr1'
  have HR2 := hid hr2'
  have HS1 := hid hs1
  have HX := hid (hx1 q2 hf1)
  clear hr1 hr2 hr1' hr2' ho1 hb0 hB0 hs1 hx1 ka kb kb1
  go_wp2_with fail
  have hb1 := (Below.refl w1.heap.size w1).alloc (Nat.le_refl _) (.cells #[.int .i64 (e : Nat), .int .i64 (fa : Nat)] 37)
  have hr2 := HR2.out.below hb1
  have hk := Blk.new w1 37 #[.int .i64 (e : Nat), .int .i64 (fa : Nat)]
  have hq2l := HR2.out.blk.lt
  have hq1l := HR1.out.blk.lt
  refine (HR.out _ hr2).mono ?_
  rintro e2 w2 ⟨X2, d2, rfl, hs2, hr2', ho2⟩
  have hk2 := ho2.blk hk (by omega)
  have hr1' := (HR1.out.below hb1).other ho2 hne hf1
  have hs1' := ho2.sl (HS1.out.below hb1) HX.out (by simp)
  have HA2 := hid ((HA.out.trans (hb1.mono (by omega))).trans (ho2.below hB2 (by simp; omega)))
  have k0 : w2.cell? ⟨w1.heap.size, 0, none⟩ = some (.int .i64 (e : Nat)) := hk2.cell 0
  have k1 : w2.cell? ⟨w1.heap.size, 1, none⟩ = some (.int .i64 (fa : Nat)) := hk2.cell 1
  have kl := hk2.lt
  have hb2 := (Below.refl w2.heap.size w2).alloc (Nat.le_refl _) (.cells #[.int .i64 (e : Nat), .int .i64 (fa : Nat)] 37)
  have HSa := hid (hs1'.below hb2)
  have HSb := hid (hs2.below hb2)
  have hLl : L.length ≤ 9223372036854775807 := by have g1 := hs2.cap; have g2 := hs2.small; simp only [List.length_map] at g1; omega
  have hq1l2 := hr1'.blk.lt
  have HR1b := hid (hr1'.below hb2)
  have HR2b := hid (hr2'.below hb2)
  have HA3 := hid (HA2.out.trans (hb2.mono (by omega)))
  clear hr2 hk hk2 hr1' hr2' ho2 hb1 hb2 hs1' hs2 kn knl
  go_wp2_with fail
  refine (same_at L L _ _ _ _ _ _ _ rfl rfl hLl HSa.out.rd HSb.out.rd).mono ?_
  rw [decide_eq_true rfl]
  rintro e3 w3 ⟨rfl, n3, rfl⟩
  have j0 : (w2.drewN n3).cell? ⟨w1.heap.size, 0, none⟩ = some (.int .i64 (e : Nat)) := k0
  go_wp2_with fail
  go_ret
  exact ⟨by simp, ⟨p1, ⟨HR1b.out.below (below_drewN (Below.refl _ _) n3), HR2b.out.below (below_drewN (Below.refl _ _) n3), hne, hf1, hf2⟩⟩, HA3.out.trans (below_drewN (Below.refl _ _) n3)⟩
set_option maxRecDepth 100000 in
set_option maxHeartbeats 2000000 in
theorem one_take (kd : Nat) (hk5 : 5 ≤ kd) (hk6 : kd ≤ 255) (n : Int) (hn1 : -9223372036854775808 ≤ n) (hn2 : n ≤ 9223372036854775807) (w : World) (B q1 q2 : Nat) (A1 A2 : Option Addr) (c1 c2 : Nat) (bs : List UInt8) (p : Nat) (hB1 : B ≤ q1) (hB2 : B ≤ q2) (hbl : bs.length ≤ 100000) (h : Two w q1 q2 A1 A2 c1 c2 bs p) :
    Calls Try.prog 7 #[.pointer (some ⟨q1, 0, none⟩), .pointer (some ⟨q2, 0, none⟩), .agg #[.int .u8 (kd : Int), .int .i64 n]] w fun e w' => e = .returned (.bool true) ∧ (∃ p', Two w' q1 q2 A1 A2 c1 c2 bs p') ∧ Below B w w' := by
  have hl1 := h.r1.blk.lt
  have hl2 := h.r2.blk.lt
  have hne := h.ne
  have hf1 := h.f1
  have hf2 := h.f2
  have hle := h.r1.le
  have hm := fun W hr => itakem_any n W q1 A1 c1 bs p hn1 hn2 hr
  have hR := fun W hr => rtake_any n W q2 A2 c2 bs p hn1 hn2 hbl hr
  have hR := fun W hr => (hR W hr).mono (R' := fun e w' => ∃ A' c', e = .returned (.tuple #[.slice A' (rTake n bs p).1.length c', .agg #[.int .i64 ((rTake n bs p).2.1 : Nat), .int .i64 (flt (rTake n bs p).2.1 p : Nat)]]) ∧ Sl w' A' c' ((rTake n bs p).1.map bv) ∧ Rin 29 w' q2 A2 c2 bs (rTake n bs p).2.2 ∧ Only q2 W w') fun e w' ⟨a, b, x1, x2, _, x4, x5⟩ => ⟨a, b, x1, x2, x4, x5⟩
  have htf := rTake_facts n bs p
  rw [ite_nil (fun h => (htf h).1), plc_eq (fun h => (htf h).2)] at hm
  clear htf
  generalize (rTake n bs p).2.2 = p1 at *
  generalize flt (rTake n bs p).2.1 p = fa at *
  generalize (rTake n bs p).1 = L at *
  generalize (rTake n bs p).2.1 = e at *
  have HM := hid hm
  have HR := hid hR
  have HT := hid h
  clear hm hR h
  go_enter Try.func7, Try.ntmps7
  go_wp2_with fail
  have hb0 := (Below.refl w.heap.size w).alloc (Nat.le_refl _) (.cells #[.int .u8 (kd : Int), .int .i64 n] 32)
  have hr1 := HT.out.r1.below hb0
  have hr2 := HT.out.r2.below hb0
  have ka : (w.alloc (.cells #[.int .u8 (kd : Int), .int .i64 n] 32)).cell? ⟨w.heap.size, 1, none⟩ = some (.int .i64 n) := (Blk.new w 32 #[.int .u8 (kd : Int), .int .i64 n]).cell 1
  have kb := Blk.new w 32 #[.int .u8 (kd : Int), .int .i64 n]
  refine (HM.out _ hr1).mono ?_
  rintro e1 w1 ⟨X1, d1, rfl, hs1, hx1, hr1', ho1⟩
  have hr2' := hr2.other ho1 (Ne.symm hne) hf2
  have hB0 := ho1.below hB1 (by simp; omega)
  have kb1 := ho1.blk kb (by omega)
  have kn : w1.cell? ⟨w.heap.size, 1, none⟩ = some (.int .i64 n) := kb1.cell 1
  have knl := kb1.lt
  have HA := hid ((hb0.mono (by omega : B ≤ w.heap.size)).trans hB0)
  have HR1 := hid hr1'
  have HR2 := hid hr2'
  have HS1 := hid hs1
  have HX := hid (hx1 q2 hf1)
  clear hr1 hr2 hr1' hr2' ho1 hb0 hB0 hs1 hx1 ka kb kb1
  go_wp2_with fail
  have hb1 := (Below.refl w1.heap.size w1).alloc (Nat.le_refl _) (.cells #[.int .i64 (e : Nat), .int .i64 (fa : Nat)] 37)
  have hr2 := HR2.out.below hb1
  have hk := Blk.new w1 37 #[.int .i64 (e : Nat), .int .i64 (fa : Nat)]
  have hq2l := HR2.out.blk.lt
  have hq1l := HR1.out.blk.lt
  refine (HR.out _ hr2).mono ?_
  rintro e2 w2 ⟨X2, d2, rfl, hs2, hr2', ho2⟩
  have hk2 := ho2.blk hk (by omega)
  have hr1' := (HR1.out.below hb1).other ho2 hne hf1
  have hs1' := ho2.sl (HS1.out.below hb1) HX.out (by simp)
  have HA2 := hid ((HA.out.trans (hb1.mono (by omega))).trans (ho2.below hB2 (by simp; omega)))
  have k0 : w2.cell? ⟨w1.heap.size, 0, none⟩ = some (.int .i64 (e : Nat)) := hk2.cell 0
  have k1 : w2.cell? ⟨w1.heap.size, 1, none⟩ = some (.int .i64 (fa : Nat)) := hk2.cell 1
  have kl := hk2.lt
  have hb2 := (Below.refl w2.heap.size w2).alloc (Nat.le_refl _) (.cells #[.int .i64 (e : Nat), .int .i64 (fa : Nat)] 37)
  have HSa := hid (hs1'.below hb2)
  have HSb := hid (hs2.below hb2)
  have hLl : L.length ≤ 9223372036854775807 := by have g1 := hs2.cap; have g2 := hs2.small; simp only [List.length_map] at g1; omega
  have hq1l2 := hr1'.blk.lt
  have HR1b := hid (hr1'.below hb2)
  have HR2b := hid (hr2'.below hb2)
  have HA3 := hid (HA2.out.trans (hb2.mono (by omega)))
  clear hr2 hk hk2 hr1' hr2' ho2 hb1 hb2 hs1' hs2 kn knl
  go_wp2_with fail
  refine (same_at L L _ _ _ _ _ _ _ rfl rfl hLl HSa.out.rd HSb.out.rd).mono ?_
  rw [decide_eq_true rfl]
  rintro e3 w3 ⟨rfl, n3, rfl⟩
  have j0 : (w2.drewN n3).cell? ⟨w1.heap.size, 0, none⟩ = some (.int .i64 (e : Nat)) := k0
  go_wp2_with fail
  go_ret
  exact ⟨by simp, ⟨p1, ⟨HR1b.out.below (below_drewN (Below.refl _ _) n3), HR2b.out.below (below_drewN (Below.refl _ _) n3), hne, hf1, hf2⟩⟩, HA3.out.trans (below_drewN (Below.refl _ _) n3)⟩
theorem ask_any (kd : Nat) (n : Int) (hkd : kd ≤ 255) (hn1 : -9223372036854775808 ≤ n) (hn2 : n ≤ 9223372036854775807) (w : World) (B q1 q2 : Nat) (A1 A2 : Option Addr) (c1 c2 : Nat) (bs : List UInt8) (p : Nat) (hB1 : B ≤ q1) (hB2 : B ≤ q2) (hbl : bs.length ≤ 100000) (h : Two w q1 q2 A1 A2 c1 c2 bs p) :
    Calls Try.prog 7 #[.pointer (some ⟨q1, 0, none⟩), .pointer (some ⟨q2, 0, none⟩), .agg #[.int .u8 (kd : Int), .int .i64 n]] w fun e w' => e = .returned (.bool true) ∧ (∃ p', Two w' q1 q2 A1 A2 c1 c2 bs p') ∧ Below B w w' := by
  rcases (by omega : kd = 0 ∨ kd = 1 ∨ kd = 2 ∨ kd = 3 ∨ kd = 4 ∨ 5 ≤ kd) with rfl | rfl | rfl | rfl | rfl | h5
  · exact one_num n w B q1 q2 A1 A2 c1 c2 bs p hB1 hB2 hbl h
  · exact one_tag n w B q1 q2 A1 A2 c1 c2 bs p hB1 hB2 hbl h
  · exact one_four n w B q1 q2 A1 A2 c1 c2 bs p hB1 hB2 hbl h
  · exact one_eight n w B q1 q2 A1 A2 c1 c2 bs p hB1 hB2 hbl h
  · exact one_bytes n hn1 hn2 w B q1 q2 A1 A2 c1 c2 bs p hB1 hB2 hbl h
  · exact one_take kd h5 hkd n hn1 hn2 w B q1 q2 A1 A2 c1 c2 bs p hB1 hB2 hbl h
end Go.Proofs.Ytpicgemjfodlcaa
