/- The document's writer, what it writes of an ask, and which asks are small. -/
import Derived.Test.YtapgjkbodfpdaaaOutAsk
set_option linter.unusedVariables false
namespace Go.Proofs.Ytapgjkbodfpdaaa
open Go.RowKit
/-- The document's bytes of an ask, and why not. -/
def askB (a : AskV) : List UInt8 × Nat :=
  if a.k = 0 then (putN a.n, 0) else if a.k = 1 then (putN (mk a.num (a.x : Int)).1.toNat, (mk a.num (a.x : Int)).2.toNat) else if a.k = 2 then (fixN 4 (a.n % 4294967296), 0) else if a.k = 3 then (fixN 8 a.n, 0)
  else if a.k = 4 then (putN a.s.xs.length ++ a.s.xs, 0) else (a.s.xs, 0)
theorem doW_ref (most : Nat) (a : AskV) (bs : List UInt8) (hx : a.x ≤ 255) : doW most a bs = if (askB a).2 = 0 then wput most bs (askB a).1 else (bs, (askB a).2) := by
  unfold doW askB
  by_cases h0 : a.k = 0
  · simp only [h0, if_true]
  by_cases h1 : a.k = 1
  · have hf := mk_facts a.num (a.x : Int) (by omega) (by omega)
    simp only [h1, if_true, wtag]
    rw [if_neg (by omega : ¬ (1 : Nat) = 0), if_neg (by omega : ¬ (1 : Nat) = 0)]
    by_cases he : (mk a.num (a.x : Int)).2 = 0
    · rw [if_pos he]; simp [he]
    · rw [if_neg he, if_neg (by show ¬ (mk a.num (a.x : Int)).2.toNat = 0; omega)]
  by_cases h2 : a.k = 2
  · simp [h2]
  by_cases h3 : a.k = 3
  · simp [h3]
  by_cases h4 : a.k = 4
  · simp [h4]
  simp [h0, h1, h2, h3, h4]
theorem rmake_q (n x : Int) (w : World) (h1 : 0 ≤ x) (h2 : x ≤ 255) :
    Calls Try.prog 58 #[.int .i64 n, .int .u8 x] w fun e w' => e = .returned (.tuple #[.int .u64 (mk n x).1, .int .i64 (mk n x).2]) ∧ w' = w :=
  (rmake_any n x w h1 h2).mono fun _ _ ⟨h, h'⟩ => ⟨h, h'.symm⟩
set_option maxRecDepth 100000 in
set_option maxHeartbeats 2000000 in
theorem bytesOf_any (a : AskV) (w : World) (ha : AskOk w a) (hl : a.s.xs.length ≤ 1000000) :
    Calls Try.prog 16 #[a.agg] w fun e w' => ∃ A' c', e = .returned (.tuple #[.slice A' (askB a).1.length c', .int .i64 ((askB a).2 : Nat)]) ∧ Sl w' A' c' ((askB a).1.map bv) ∧ Below w.heap.size w w' := by
  obtain ⟨k, n, num, x, A, c, xs⟩ := a
  obtain ⟨hk, hn, hn1, hn2, hx, hs⟩ := ha
  simp only at hk hn hn1 hn2 hx hs hl
  simp only [AskV.agg, askB]
  rcases (by omega : k = 0 ∨ k = 1 ∨ k = 2 ∨ k = 3 ∨ k = 4 ∨ 5 ≤ k) with rfl | rfl | rfl | rfl | rfl | h5
  · have HC := hid (fun W => rput_any n W hn)
    clear hs
    rw [if_pos rfl]
    generalize xs.length = m at *
    generalize putN n = ps at *
    generalize ps.length = pl at *
    go_enter Try.func16, Try.ntmps16
    go_wp2_with fail
    refine (HC.out _).mono ?_
    have hb := bw_a (Below.refl w.heap.size w) (.cells #[.int .u8 (0), .int .u64 (n : Int), .int .i64 num, .int .u8 (x : Int), .slice A m c] 35)
    rintro e w2 ⟨A2, c2, rfl, hs2, hb2⟩
    go_wp2_with fail
    go_ret2
    exact ⟨A2, c2, rfl, hs2, bw_t hb hb2⟩
  · have hf := mk_facts num (x : Int) (by omega) (by omega)
    have HM := hid (fun W => rmake_q num (x : Int) W (by omega) (by omega))
    clear hs
    rw [if_neg (by omega), if_pos rfl]
    generalize mk num (x : Int) = r at *
    obtain ⟨t, e0⟩ := r
    simp only at hf
    obtain ⟨n', rfl⟩ : ∃ n : Nat, t = (n : Int) := ⟨t.toNat, by omega⟩
    obtain ⟨e1, rfl⟩ : ∃ n : Nat, e0 = (n : Int) := ⟨e0.toNat, by omega⟩
    have HC := hid (fun W => rput_any n' W (by omega))
    simp only [Int.toNat_natCast]
    generalize xs.length = m at *
    generalize putN n' = ps at *
    generalize ps.length = pl at *
    go_enter Try.func16, Try.ntmps16
    go_wp2_with fail
    refine (HM.out _).mono ?_
    rintro e w1 ⟨rfl, rfl⟩
    go_wp2_with fail
    refine (HC.out _).mono ?_
    have hb := bw_a (Below.refl w.heap.size w) (.cells #[.int .u8 (1), .int .u64 (n : Int), .int .i64 num, .int .u8 (x : Int), .slice A m c] 35)
    rintro e w2 ⟨A2, c2, rfl, hs2, hb2⟩
    go_wp2_with fail
    go_ret2
    exact ⟨A2, c2, rfl, hs2, bw_t hb hb2⟩
  · have HC := hid (fun W => rfix_at (n % 4294967296) 4 4 W rfl (by omega) (by omega))
    have hmod : (n : Int) % 4294967296 = ((n % 4294967296 : Nat) : Int) := by omega
    have htm : (n : Int).tmod 4294967296 = ((n % 4294967296 : Nat) : Int) := by rw [Int.tmod_eq_emod_of_nonneg (by omega)]; omega
    have hwr : IntKind.u64.wrap ((n % 4294967296 : Nat) : Int) = ((n % 4294967296 : Nat) : Int) := IntWalk.u64_in _ (by omega)
    have hl4 := length_fixN 4 (n % 4294967296)
    clear hs
    rw [if_neg (by omega), if_neg (by omega), if_pos rfl]
    simp only
    rw [hl4]
    clear hl4
    generalize xs.length = m at *
    generalize fixN 4 (n % 4294967296) = ps at *
    generalize n % 4294967296 = n4 at *
    go_enter Try.func16, Try.ntmps16
    go_wp2_with fail
    refine (HC.out _).mono ?_
    have hb := bw_a (Below.refl w.heap.size w) (.cells #[.int .u8 (2), .int .u64 (n : Int), .int .i64 num, .int .u8 (x : Int), .slice A m c] 35)
    rintro e w2 ⟨A2, c2, rfl, hs2, hb2⟩
    go_wp2_with fail
    go_ret2
    exact ⟨A2, c2, rfl, hs2, bw_t hb hb2⟩
  · have HC := hid (fun W => rfix_at n 8 8 W rfl (by omega) (by omega))
    have hl4 := length_fixN 8 n
    clear hs
    rw [if_neg (by omega), if_neg (by omega), if_neg (by omega), if_pos rfl]
    simp only
    rw [hl4]
    clear hl4
    generalize xs.length = m at *
    generalize fixN 8 n = ps at *
    go_enter Try.func16, Try.ntmps16
    go_wp2_with fail
    refine (HC.out _).mono ?_
    have hb := bw_a (Below.refl w.heap.size w) (.cells #[.int .u8 (3), .int .u64 (n : Int), .int .i64 num, .int .u8 (x : Int), .slice A m c] 35)
    rintro e w2 ⟨A2, c2, rfl, hs2, hb2⟩
    go_wp2_with fail
    go_ret2
    exact ⟨A2, c2, rfl, hs2, bw_t hb hb2⟩
  · have HC := hid (fun W (hW : Below w.heap.size w W) => rbytes_any xs xs.length A c W rfl hl (hs.below hW))
    clear hs
    rw [if_neg (by omega), if_neg (by omega), if_neg (by omega), if_neg (by omega), if_pos rfl]
    simp only [List.length_append]
    generalize putN xs.length ++ xs = ps at *
    generalize (putN xs.length).length + xs.length = pl at *
    generalize xs.length = m at *
    go_enter Try.func16, Try.ntmps16
    go_wp2_with fail
    have hb0 := bw_a (Below.refl w.heap.size w) (.cells #[.int .u8 (4), .int .u64 (n : Int), .int .i64 num, .int .u8 (x : Int), .slice A m c] 35)
    refine (HC.out _ hb0).mono ?_
    rintro e w2 ⟨A2, c2, rfl, hs2, -, hb2⟩
    go_wp2_with fail
    go_ret2
    exact ⟨A2, c2, rfl, hs2, bw_t hb0 hb2⟩
  · have HS := hid (fun W (hW : Below w.heap.size w W) => hs.below hW)
    clear hs
    rw [if_neg (by omega), if_neg (by omega), if_neg (by omega), if_neg (by omega), if_neg (by omega)]
    simp only
    generalize xs.length = m at *
    have b0 : ((k : Int) == 0) = false := by simp; omega
    have b1 : ((k : Int) == 1) = false := by simp; omega
    have b2 : ((k : Int) == 2) = false := by simp; omega
    have b3 : ((k : Int) == 3) = false := by simp; omega
    have b4 : ((k : Int) == 4) = false := by simp; omega
    go_enter Try.func16, Try.ntmps16
    go_wp2_with fail
    go_ret2
    have hb0 := bw_a (Below.refl w.heap.size w) (.cells #[.int .u8 ((k : Int)), .int .u64 (n : Int), .int .i64 num, .int .u8 (x : Int), .slice A m c] 35)
    exact ⟨A, c, rfl, HS.out _ hb0, hb0⟩
set_option maxRecDepth 100000 in
set_option maxHeartbeats 1000000 in
theorem rnew5_any (m : Int) (w : World) (h1 : -9223372036854775808 ≤ m) (h2 : m ≤ 9223372036854775807) :
    Calls Try.prog 15 #[.int .i64 m] w fun e w' => e = .returned (.pointer (some ⟨w.heap.size, 0, none⟩)) ∧ w' = w.alloc (.cells #[.slice none 0 0, .int .i64 (capN m : Nat)] 41) := by
  by_cases a1 : m < 0
  · have hc : capN m = 0 := by unfold capN; omega
    rw [hc]
    go_enter Try.func15, Try.ntmps15
    go_wp2_with fail
    go_ret
    exact ⟨rfl, rfl⟩
  by_cases a2 : 16777216 < m
  · have hc : capN m = 16777216 := by unfold capN; omega
    rw [hc]
    go_enter Try.func15, Try.ntmps15
    go_wp2_with fail
    go_ret
    exact ⟨rfl, rfl⟩
  · have hc : ((capN m : Nat) : Int) = m := by unfold capN; omega
    rw [hc]
    go_enter Try.func15, Try.ntmps15
    go_wp2_with fail
    go_ret
    exact ⟨rfl, rfl⟩
/-- The document's writer. -/
structure RWr (w : World) (q : Nat) (A : Option Addr) (c : Nat) (bs : List UInt8) (most : Nat) : Prop where
  blk : Blk w q 41 #[.slice A bs.length c, .int .i64 (most : Int)]
  sl : Sl w A c (bs.map bv)
set_option maxRecDepth 100000 in
set_option maxHeartbeats 1000000 in
theorem rwput_any (xs : List UInt8) (n : Nat) (A' : Option Addr) (c' : Nat) (w : World) (q : Nat) (A : Option Addr) (c : Nat) (bs : List UInt8) (most : Nat) (hn : xs.length = n) (hl : n ≤ 1000000) (hbl : bs.length ≤ 1000000) (hm : most ≤ 16777216) (hs : Sl w A' c' (xs.map bv)) (h : RWr w q A c bs most) :
    Calls Try.prog 17 #[.pointer (some ⟨q, 0, none⟩), .slice A' n c'] w fun e w' => ∃ A2 c2, e = .returned (.int .i64 ((wput most bs xs).2 : Nat)) ∧ RWr w' q A2 c2 (wput most bs xs).1 most ∧ (∀ S : Nat → Prop, FarS A bs.length S → (∀ k, S k → k < w.heap.size) → FarS A2 (wput most bs xs).1.length S) ∧ Only q w w' := by
  have c0 : w.cell? ⟨q, 0, none⟩ = some (.slice A bs.length c) := by simpa using h.blk.cell 0
  have c1 : w.cell? ⟨q, 1, none⟩ = some (.int .i64 (most : Int)) := by simpa using h.blk.cell 1
  have f0 := h.blk.frozen 0
  have hql := h.blk.lt
  have hj := rjoin2_any bs xs bs.length n A A' c c'
  have HH := hid h
  have HS := hid hs
  have HN := hid hn
  clear h hs hn
  generalize hbn : bs.length = m at *
  have HBN := hid hbn
  clear hbn
  by_cases hf : most < m + n
  · have hw : wput most bs xs = (bs, 14) := by unfold wput; rw [HBN.out, HN.out, if_pos hf]
    have HW := hid hw
    clear hj hw
    have hfi : (most : Int) < (m : Int) + (n : Int) := by omega
    have hwr : IntKind.i64.wrap ((m : Int) + (n : Int)) = (m : Int) + (n : Int) := IntWalk.i64_in _ (by omega)
    go_enter Try.func17, Try.ntmps17
    go_wp2_with fail
    go_quiet (fail)
    go_wp2_with fail
    go_ret
    rw [HW.out]
    exact ⟨A, c, rfl, ⟨HH.out.blk.drewN _, HH.out.sl.drewN _⟩, fun S h _ => by rw [HBN.out]; exact h, (Only.refl _ _).drewN _⟩
  · have hw : wput most bs xs = (bs ++ xs, 0) := by unfold wput; rw [HBN.out, HN.out, if_neg hf]
    have HW := hid hw
    have HJ := hid hj
    clear hj hw
    have hfi : (m : Int) + (n : Int) ≤ (most : Int) := by omega
    have hwr : IntKind.i64.wrap ((m : Int) + (n : Int)) = (m : Int) + (n : Int) := IntWalk.i64_in _ (by omega)
    go_enter Try.func17, Try.ntmps17
    go_wp2_with fail
    go_quiet (fail)
    go_wp2_with fail
    refine (HJ.out _ trivial HN.out (by omega) (HH.out.sl.drewN nq) (HS.out.drewN nq)).mono ?_
    rintro e w3 ⟨A3, c3, rfl, hs3, hf3, hb3⟩
    have hb4 : Below w.heap.size w w3 := bw_t (below_drewN (Below.refl _ w) nq) hb3
    have hblk := HH.out.blk.below hb4 hql
    have d0 : w3.cell? ⟨q, 0, none⟩ = some (.slice A m c) := by simpa [HBN.out] using hblk.cell 0
    have g0 := hblk.frozen 0
    have HB4 := hid hb4
    have HS3 := hid hs3
    have HF3 := hid hf3
    have HBL := hid hblk
    clear hb3 hs3 hf3 hb4 hblk
    go_wp2_with fail
    go_ret
    rw [HW.out]
    have hlen : (bs ++ xs).length = m + n := by rw [List.length_append, HBN.out, HN.out]
    have hset := HBL.out.set_ 0 (.slice A3 (m + n) c3)
    refine ⟨A3, c3, rfl, ⟨by rw [hlen]; simpa using hset, ?_⟩, fun S _ hk _ b o he hS => by have h1 := HF3.out b o he; have h2 := hk b hS; simp at h1; omega, (Only.of_below HB4.out).set_ _ _⟩
    exact ((Only.refl q w3).set_ 0 _).sl HS3.out (n := (bs ++ xs).length) (fun _ b o he hq => by have := HF3.out b o he; simp at this; omega) (by simp)
end Go.Proofs.Ytapgjkbodfpdaaa
