/- The document's Set of lists. -/
import Derived.Test.YtpmfdlghckfgiaaLenRefS
set_option linter.unusedVariables false
namespace Go.Proofs.Ytpmfdlghckfgiaa
open Go.RowKit
set_option maxRecDepth 100000 in
set_option maxHeartbeats 8000000 in
theorem rset_long (m : MV) (num i : Int) (fnum fw : Int) (fn : Nat) (fA : Option Addr) (xl fc : Nat) (fat : Int) (xs : List UInt8) (w : World) (hxl : xs.length = xl) (hx : xl ≤ 9223372036854775807) (hsf : Sl w fA fc (xs.map bv)) (h64 : 64 ≤ m.l.length) :
    Calls Try.prog 19 #[mvV m, .agg #[.int .i64 num, .int .i64 10, .int .i64 i], .agg #[.int .i64 fnum, .int .u8 fw, .int .u64 (fn : Int), .slice fA xl fc, .int .i64 fat]] w fun e w' => e = .returned (.tuple #[mvV ZM, .int .i64 2]) ∧ Below w.heap.size w w' := by
  have hZ : mvV ZM = .agg #[.int .u8 0, .int .u64 0, .int .u64 0, .int .u64 0, .int .u64 0, .int .u64 0, .int .u64 0, .string ⟨#[]⟩, .string ⟨#[]⟩, .slice none 0 0] := rfl
  rw [hZ]
  unfold mvV mvA
  obtain ⟨len, hlen⟩ : ∃ n, m.l.length = n := ⟨_, rfl⟩
  rw [hlen] at h64
  rw [hlen]
  obtain ⟨mk, n0, n1, n2, n3, n4, n5, s0, s1, mA, mc, ml⟩ := m
  simp only at hlen ⊢
  obtain ⟨s, hws⟩ : ∃ s, w.heap.size = s := ⟨_, rfl⟩
  have hk0 : Blk ((((w.alloc (.cells #[.int .u8 (mk : Int), .int .u64 (n0 : Int), .int .u64 (n1 : Int), .int .u64 (n2 : Int), .int .u64 (n3 : Int), .int .u64 (n4 : Int), .int .u64 (n5 : Int), .string s0, .string s1, .slice mA len mc] 29)).alloc (.cells #[.int .i64 num, .int .i64 10, .int .i64 i] 48)).alloc (.cells #[.int .i64 fnum, .int .u8 fw, .int .u64 (fn : Int), .slice fA xl fc, .int .i64 fat] 50)).alloc (.cells #[.int .u8 0, .int .u64 0, .int .u64 0, .int .u64 0, .int .u64 0, .int .u64 0, .int .u64 0, .string ⟨#[]⟩, .string ⟨#[]⟩, .slice none 0 0] 29)) (s) 29 #[.int .u8 (mk : Int), .int .u64 (n0 : Int), .int .u64 (n1 : Int), .int .u64 (n2 : Int), .int .u64 (n3 : Int), .int .u64 (n4 : Int), .int .u64 (n5 : Int), .string s0, .string s1, .slice mA len mc] := by
    have h := ((((Blk.new w 29 #[.int .u8 (mk : Int), .int .u64 (n0 : Int), .int .u64 (n1 : Int), .int .u64 (n2 : Int), .int .u64 (n3 : Int), .int .u64 (n4 : Int), .int .u64 (n5 : Int), .string s0, .string s1, .slice mA len mc]).alloc (.cells #[.int .i64 num, .int .i64 10, .int .i64 i] 48)).alloc (.cells #[.int .i64 fnum, .int .u8 fw, .int .u64 (fn : Int), .slice fA xl fc, .int .i64 fat] 50)).alloc (.cells #[.int .u8 0, .int .u64 0, .int .u64 0, .int .u64 0, .int .u64 0, .int .u64 0, .int .u64 0, .string ⟨#[]⟩, .string ⟨#[]⟩, .slice none 0 0] 29))
    rw [hws] at h; exact h
  have hk1 : Blk ((((w.alloc (.cells #[.int .u8 (mk : Int), .int .u64 (n0 : Int), .int .u64 (n1 : Int), .int .u64 (n2 : Int), .int .u64 (n3 : Int), .int .u64 (n4 : Int), .int .u64 (n5 : Int), .string s0, .string s1, .slice mA len mc] 29)).alloc (.cells #[.int .i64 num, .int .i64 10, .int .i64 i] 48)).alloc (.cells #[.int .i64 fnum, .int .u8 fw, .int .u64 (fn : Int), .slice fA xl fc, .int .i64 fat] 50)).alloc (.cells #[.int .u8 0, .int .u64 0, .int .u64 0, .int .u64 0, .int .u64 0, .int .u64 0, .int .u64 0, .string ⟨#[]⟩, .string ⟨#[]⟩, .slice none 0 0] 29)) (s + 1) 48 #[.int .i64 num, .int .i64 10, .int .i64 i] := by
    have h := (((Blk.new (w.alloc (.cells #[.int .u8 (mk : Int), .int .u64 (n0 : Int), .int .u64 (n1 : Int), .int .u64 (n2 : Int), .int .u64 (n3 : Int), .int .u64 (n4 : Int), .int .u64 (n5 : Int), .string s0, .string s1, .slice mA len mc] 29)) 48 #[.int .i64 num, .int .i64 10, .int .i64 i]).alloc (.cells #[.int .i64 fnum, .int .u8 fw, .int .u64 (fn : Int), .slice fA xl fc, .int .i64 fat] 50)).alloc (.cells #[.int .u8 0, .int .u64 0, .int .u64 0, .int .u64 0, .int .u64 0, .int .u64 0, .int .u64 0, .string ⟨#[]⟩, .string ⟨#[]⟩, .slice none 0 0] 29))
    rw [World.size_alloc, hws] at h; exact h
  have hk2 : Blk ((((w.alloc (.cells #[.int .u8 (mk : Int), .int .u64 (n0 : Int), .int .u64 (n1 : Int), .int .u64 (n2 : Int), .int .u64 (n3 : Int), .int .u64 (n4 : Int), .int .u64 (n5 : Int), .string s0, .string s1, .slice mA len mc] 29)).alloc (.cells #[.int .i64 num, .int .i64 10, .int .i64 i] 48)).alloc (.cells #[.int .i64 fnum, .int .u8 fw, .int .u64 (fn : Int), .slice fA xl fc, .int .i64 fat] 50)).alloc (.cells #[.int .u8 0, .int .u64 0, .int .u64 0, .int .u64 0, .int .u64 0, .int .u64 0, .int .u64 0, .string ⟨#[]⟩, .string ⟨#[]⟩, .slice none 0 0] 29)) (s + 1 + 1) 50 #[.int .i64 fnum, .int .u8 fw, .int .u64 (fn : Int), .slice fA xl fc, .int .i64 fat] := by
    have h := ((Blk.new ((w.alloc (.cells #[.int .u8 (mk : Int), .int .u64 (n0 : Int), .int .u64 (n1 : Int), .int .u64 (n2 : Int), .int .u64 (n3 : Int), .int .u64 (n4 : Int), .int .u64 (n5 : Int), .string s0, .string s1, .slice mA len mc] 29)).alloc (.cells #[.int .i64 num, .int .i64 10, .int .i64 i] 48)) 50 #[.int .i64 fnum, .int .u8 fw, .int .u64 (fn : Int), .slice fA xl fc, .int .i64 fat]).alloc (.cells #[.int .u8 0, .int .u64 0, .int .u64 0, .int .u64 0, .int .u64 0, .int .u64 0, .int .u64 0, .string ⟨#[]⟩, .string ⟨#[]⟩, .slice none 0 0] 29))
    rw [World.size_alloc, World.size_alloc, hws] at h; exact h
  have hk3 : Blk ((((w.alloc (.cells #[.int .u8 (mk : Int), .int .u64 (n0 : Int), .int .u64 (n1 : Int), .int .u64 (n2 : Int), .int .u64 (n3 : Int), .int .u64 (n4 : Int), .int .u64 (n5 : Int), .string s0, .string s1, .slice mA len mc] 29)).alloc (.cells #[.int .i64 num, .int .i64 10, .int .i64 i] 48)).alloc (.cells #[.int .i64 fnum, .int .u8 fw, .int .u64 (fn : Int), .slice fA xl fc, .int .i64 fat] 50)).alloc (.cells #[.int .u8 0, .int .u64 0, .int .u64 0, .int .u64 0, .int .u64 0, .int .u64 0, .int .u64 0, .string ⟨#[]⟩, .string ⟨#[]⟩, .slice none 0 0] 29)) (s + 1 + 1 + 1) 29 #[.int .u8 0, .int .u64 0, .int .u64 0, .int .u64 0, .int .u64 0, .int .u64 0, .int .u64 0, .string ⟨#[]⟩, .string ⟨#[]⟩, .slice none 0 0] := by
    have h := (Blk.new (((w.alloc (.cells #[.int .u8 (mk : Int), .int .u64 (n0 : Int), .int .u64 (n1 : Int), .int .u64 (n2 : Int), .int .u64 (n3 : Int), .int .u64 (n4 : Int), .int .u64 (n5 : Int), .string s0, .string s1, .slice mA len mc] 29)).alloc (.cells #[.int .i64 num, .int .i64 10, .int .i64 i] 48)).alloc (.cells #[.int .i64 fnum, .int .u8 fw, .int .u64 (fn : Int), .slice fA xl fc, .int .i64 fat] 50)) 29 #[.int .u8 0, .int .u64 0, .int .u64 0, .int .u64 0, .int .u64 0, .int .u64 0, .int .u64 0, .string ⟨#[]⟩, .string ⟨#[]⟩, .slice none 0 0])
    rw [World.size_alloc, World.size_alloc, World.size_alloc, hws] at h; exact h
  have hb4 : Below s w ((((w.alloc (.cells #[.int .u8 (mk : Int), .int .u64 (n0 : Int), .int .u64 (n1 : Int), .int .u64 (n2 : Int), .int .u64 (n3 : Int), .int .u64 (n4 : Int), .int .u64 (n5 : Int), .string s0, .string s1, .slice mA len mc] 29)).alloc (.cells #[.int .i64 num, .int .i64 10, .int .i64 i] 48)).alloc (.cells #[.int .i64 fnum, .int .u8 fw, .int .u64 (fn : Int), .slice fA xl fc, .int .i64 fat] 50)).alloc (.cells #[.int .u8 0, .int .u64 0, .int .u64 0, .int .u64 0, .int .u64 0, .int .u64 0, .int .u64 0, .string ⟨#[]⟩, .string ⟨#[]⟩, .slice none 0 0] 29)) := by rw [← hws]; exact bw_a (bw_a (bw_a (bw_a (Below.refl _ w) _) _) _) _
  have hlen64 : ¬ (len : Int) < 64 := by omega
  have hlen65 : (64 : Int) ≤ (len : Int) := by omega
  have HK0 := hid hk0
  have HK1 := hid hk1
  have HK2 := hid hk2
  have HK3 := hid hk3
  have HB4 := hid hb4
  clear hk0 hk1 hk2 hk3 hb4 hsf hxl hlen hZ
  rw [hws]
  go_enter Try.func19, Try.ntmps19
  go_wp2_with fail
  generalize ((((w.alloc (.cells #[.int .u8 (mk : Int), .int .u64 (n0 : Int), .int .u64 (n1 : Int), .int .u64 (n2 : Int), .int .u64 (n3 : Int), .int .u64 (n4 : Int), .int .u64 (n5 : Int), .string s0, .string s1, .slice mA len mc] 29)).alloc (.cells #[.int .i64 num, .int .i64 10, .int .i64 i] 48)).alloc (.cells #[.int .i64 fnum, .int .u8 fw, .int .u64 (fn : Int), .slice fA xl fc, .int .i64 fat] 50)).alloc (.cells #[.int .u8 0, .int .u64 0, .int .u64 0, .int .u64 0, .int .u64 0, .int .u64 0, .int .u64 0, .string ⟨#[]⟩, .string ⟨#[]⟩, .slice none 0 0] 29)) = W4 at *
  have r0 := HK3.out.cell 0; have r1 := HK3.out.cell 1; have r2 := HK3.out.cell 2; have r3 := HK3.out.cell 3; have r4 := HK3.out.cell 4; have r5 := HK3.out.cell 5; have r6 := HK3.out.cell 6; have r7 := HK3.out.cell 7; have r8 := HK3.out.cell 8; have r9 := HK3.out.cell 9
  simp only [List.getElem?_toArray, List.getElem?_cons_zero, List.getElem?_cons_succ] at r0 r1 r2 r3 r4 r5 r6 r7 r8 r9
  exact bodyPost_ret (v := .tuple #[.agg #[.int .u8 0, .int .u64 0, .int .u64 0, .int .u64 0, .int .u64 0, .int .u64 0, .int .u64 0, .string ⟨#[]⟩, .string ⟨#[]⟩, .slice none 0 0], .int .i64 2]) (by simp [results, Try.results19, go_sem, r0, r1, r2, r3, r4, r5, r6, r7, r8, r9]) rfl ⟨rfl, HB4.out⟩
set_option maxRecDepth 100000 in
set_option maxHeartbeats 8000000 in
theorem rset_lbad (m : MV) (num i : Int) (fnum fw : Int) (fn : Nat) (fA : Option Addr) (xl fc : Nat) (fat : Int) (xs : List UInt8) (w : World) (hxl : xs.length = xl) (hx : xl ≤ 9223372036854775807) (hsf : Sl w fA fc (xs.map bv)) (h64 : m.l.length < 64) (hE : chk ⟨xs.toArray⟩ 64 ≠ 0) :
    Calls Try.prog 19 #[mvV m, .agg #[.int .i64 num, .int .i64 10, .int .i64 i], .agg #[.int .i64 fnum, .int .u8 fw, .int .u64 (fn : Int), .slice fA xl fc, .int .i64 fat]] w fun e w' => e = .returned (.tuple #[mvV ZM, .int .i64 (chk ⟨xs.toArray⟩ 64)]) ∧ Below w.heap.size w w' := by
  have hq : (⟨xs.toArray⟩ : ByteArray).size ≤ 9223372036854775807 := by show xs.toArray.size ≤ _; simp; omega
  have hch := fun W => rchk_any ⟨xs.toArray⟩ 64 W hq (by decide) (by decide)
  generalize chk ⟨xs.toArray⟩ 64 = E at *
  obtain ⟨q, hqe⟩ : ∃ q : ByteArray, (⟨xs.toArray⟩ : ByteArray) = q := ⟨_, rfl⟩
  have hcv : ∀ W, Below w.heap.size w W → (convert 22 9 (.slice fA xl fc)).run Try.prog W = .ok (.string q) W := fun W hW => by
    rw [← hqe]; exact conv_bs11 (hsf.below hW) hxl Try.underlying22 Try.underlying5 Try.underlying9
  rw [hqe] at hch
  have hZ : mvV ZM = .agg #[.int .u8 0, .int .u64 0, .int .u64 0, .int .u64 0, .int .u64 0, .int .u64 0, .int .u64 0, .string ⟨#[]⟩, .string ⟨#[]⟩, .slice none 0 0] := rfl
  rw [hZ]
  unfold mvV mvA
  obtain ⟨len, hlen⟩ : ∃ n, m.l.length = n := ⟨_, rfl⟩
  rw [hlen] at h64
  rw [hlen]
  obtain ⟨mk, n0, n1, n2, n3, n4, n5, s0, s1, mA, mc, ml⟩ := m
  simp only at hlen ⊢
  obtain ⟨s, hws⟩ : ∃ s, w.heap.size = s := ⟨_, rfl⟩
  have hk0 : Blk ((((w.alloc (.cells #[.int .u8 (mk : Int), .int .u64 (n0 : Int), .int .u64 (n1 : Int), .int .u64 (n2 : Int), .int .u64 (n3 : Int), .int .u64 (n4 : Int), .int .u64 (n5 : Int), .string s0, .string s1, .slice mA len mc] 29)).alloc (.cells #[.int .i64 num, .int .i64 10, .int .i64 i] 48)).alloc (.cells #[.int .i64 fnum, .int .u8 fw, .int .u64 (fn : Int), .slice fA xl fc, .int .i64 fat] 50)).alloc (.cells #[.int .u8 0, .int .u64 0, .int .u64 0, .int .u64 0, .int .u64 0, .int .u64 0, .int .u64 0, .string ⟨#[]⟩, .string ⟨#[]⟩, .slice none 0 0] 29)) (s) 29 #[.int .u8 (mk : Int), .int .u64 (n0 : Int), .int .u64 (n1 : Int), .int .u64 (n2 : Int), .int .u64 (n3 : Int), .int .u64 (n4 : Int), .int .u64 (n5 : Int), .string s0, .string s1, .slice mA len mc] := by
    have h := ((((Blk.new w 29 #[.int .u8 (mk : Int), .int .u64 (n0 : Int), .int .u64 (n1 : Int), .int .u64 (n2 : Int), .int .u64 (n3 : Int), .int .u64 (n4 : Int), .int .u64 (n5 : Int), .string s0, .string s1, .slice mA len mc]).alloc (.cells #[.int .i64 num, .int .i64 10, .int .i64 i] 48)).alloc (.cells #[.int .i64 fnum, .int .u8 fw, .int .u64 (fn : Int), .slice fA xl fc, .int .i64 fat] 50)).alloc (.cells #[.int .u8 0, .int .u64 0, .int .u64 0, .int .u64 0, .int .u64 0, .int .u64 0, .int .u64 0, .string ⟨#[]⟩, .string ⟨#[]⟩, .slice none 0 0] 29))
    rw [hws] at h; exact h
  have hk1 : Blk ((((w.alloc (.cells #[.int .u8 (mk : Int), .int .u64 (n0 : Int), .int .u64 (n1 : Int), .int .u64 (n2 : Int), .int .u64 (n3 : Int), .int .u64 (n4 : Int), .int .u64 (n5 : Int), .string s0, .string s1, .slice mA len mc] 29)).alloc (.cells #[.int .i64 num, .int .i64 10, .int .i64 i] 48)).alloc (.cells #[.int .i64 fnum, .int .u8 fw, .int .u64 (fn : Int), .slice fA xl fc, .int .i64 fat] 50)).alloc (.cells #[.int .u8 0, .int .u64 0, .int .u64 0, .int .u64 0, .int .u64 0, .int .u64 0, .int .u64 0, .string ⟨#[]⟩, .string ⟨#[]⟩, .slice none 0 0] 29)) (s + 1) 48 #[.int .i64 num, .int .i64 10, .int .i64 i] := by
    have h := (((Blk.new (w.alloc (.cells #[.int .u8 (mk : Int), .int .u64 (n0 : Int), .int .u64 (n1 : Int), .int .u64 (n2 : Int), .int .u64 (n3 : Int), .int .u64 (n4 : Int), .int .u64 (n5 : Int), .string s0, .string s1, .slice mA len mc] 29)) 48 #[.int .i64 num, .int .i64 10, .int .i64 i]).alloc (.cells #[.int .i64 fnum, .int .u8 fw, .int .u64 (fn : Int), .slice fA xl fc, .int .i64 fat] 50)).alloc (.cells #[.int .u8 0, .int .u64 0, .int .u64 0, .int .u64 0, .int .u64 0, .int .u64 0, .int .u64 0, .string ⟨#[]⟩, .string ⟨#[]⟩, .slice none 0 0] 29))
    rw [World.size_alloc, hws] at h; exact h
  have hk2 : Blk ((((w.alloc (.cells #[.int .u8 (mk : Int), .int .u64 (n0 : Int), .int .u64 (n1 : Int), .int .u64 (n2 : Int), .int .u64 (n3 : Int), .int .u64 (n4 : Int), .int .u64 (n5 : Int), .string s0, .string s1, .slice mA len mc] 29)).alloc (.cells #[.int .i64 num, .int .i64 10, .int .i64 i] 48)).alloc (.cells #[.int .i64 fnum, .int .u8 fw, .int .u64 (fn : Int), .slice fA xl fc, .int .i64 fat] 50)).alloc (.cells #[.int .u8 0, .int .u64 0, .int .u64 0, .int .u64 0, .int .u64 0, .int .u64 0, .int .u64 0, .string ⟨#[]⟩, .string ⟨#[]⟩, .slice none 0 0] 29)) (s + 1 + 1) 50 #[.int .i64 fnum, .int .u8 fw, .int .u64 (fn : Int), .slice fA xl fc, .int .i64 fat] := by
    have h := ((Blk.new ((w.alloc (.cells #[.int .u8 (mk : Int), .int .u64 (n0 : Int), .int .u64 (n1 : Int), .int .u64 (n2 : Int), .int .u64 (n3 : Int), .int .u64 (n4 : Int), .int .u64 (n5 : Int), .string s0, .string s1, .slice mA len mc] 29)).alloc (.cells #[.int .i64 num, .int .i64 10, .int .i64 i] 48)) 50 #[.int .i64 fnum, .int .u8 fw, .int .u64 (fn : Int), .slice fA xl fc, .int .i64 fat]).alloc (.cells #[.int .u8 0, .int .u64 0, .int .u64 0, .int .u64 0, .int .u64 0, .int .u64 0, .int .u64 0, .string ⟨#[]⟩, .string ⟨#[]⟩, .slice none 0 0] 29))
    rw [World.size_alloc, World.size_alloc, hws] at h; exact h
  have hk3 : Blk ((((w.alloc (.cells #[.int .u8 (mk : Int), .int .u64 (n0 : Int), .int .u64 (n1 : Int), .int .u64 (n2 : Int), .int .u64 (n3 : Int), .int .u64 (n4 : Int), .int .u64 (n5 : Int), .string s0, .string s1, .slice mA len mc] 29)).alloc (.cells #[.int .i64 num, .int .i64 10, .int .i64 i] 48)).alloc (.cells #[.int .i64 fnum, .int .u8 fw, .int .u64 (fn : Int), .slice fA xl fc, .int .i64 fat] 50)).alloc (.cells #[.int .u8 0, .int .u64 0, .int .u64 0, .int .u64 0, .int .u64 0, .int .u64 0, .int .u64 0, .string ⟨#[]⟩, .string ⟨#[]⟩, .slice none 0 0] 29)) (s + 1 + 1 + 1) 29 #[.int .u8 0, .int .u64 0, .int .u64 0, .int .u64 0, .int .u64 0, .int .u64 0, .int .u64 0, .string ⟨#[]⟩, .string ⟨#[]⟩, .slice none 0 0] := by
    have h := (Blk.new (((w.alloc (.cells #[.int .u8 (mk : Int), .int .u64 (n0 : Int), .int .u64 (n1 : Int), .int .u64 (n2 : Int), .int .u64 (n3 : Int), .int .u64 (n4 : Int), .int .u64 (n5 : Int), .string s0, .string s1, .slice mA len mc] 29)).alloc (.cells #[.int .i64 num, .int .i64 10, .int .i64 i] 48)).alloc (.cells #[.int .i64 fnum, .int .u8 fw, .int .u64 (fn : Int), .slice fA xl fc, .int .i64 fat] 50)) 29 #[.int .u8 0, .int .u64 0, .int .u64 0, .int .u64 0, .int .u64 0, .int .u64 0, .int .u64 0, .string ⟨#[]⟩, .string ⟨#[]⟩, .slice none 0 0])
    rw [World.size_alloc, World.size_alloc, World.size_alloc, hws] at h; exact h
  have hb4 : Below s w ((((w.alloc (.cells #[.int .u8 (mk : Int), .int .u64 (n0 : Int), .int .u64 (n1 : Int), .int .u64 (n2 : Int), .int .u64 (n3 : Int), .int .u64 (n4 : Int), .int .u64 (n5 : Int), .string s0, .string s1, .slice mA len mc] 29)).alloc (.cells #[.int .i64 num, .int .i64 10, .int .i64 i] 48)).alloc (.cells #[.int .i64 fnum, .int .u8 fw, .int .u64 (fn : Int), .slice fA xl fc, .int .i64 fat] 50)).alloc (.cells #[.int .u8 0, .int .u64 0, .int .u64 0, .int .u64 0, .int .u64 0, .int .u64 0, .int .u64 0, .string ⟨#[]⟩, .string ⟨#[]⟩, .slice none 0 0] 29)) := by rw [← hws]; exact bw_a (bw_a (bw_a (bw_a (Below.refl _ w) _) _) _) _
  have hlen64 : (len : Int) < 64 := by omega
  have hlen65 : ¬ (64 : Int) ≤ (len : Int) := by omega
  have hEb : (E != 0) = true := by simpa using hE
  have hcx := hcv _ (by rw [hws]; exact hb4)
  have HK0 := hid hk0
  have HK1 := hid hk1
  have HK2 := hid hk2
  have HK3 := hid hk3
  have HB4 := hid hb4
  have HCH := hid hch
  clear hk0 hk1 hk2 hk3 hb4 hsf hxl hlen hZ hcv hch hqe hq hE
  rw [hws]
  go_enter Try.func19, Try.ntmps19
  go_wp2_with (go_at_call 35; refine (HCH.out _).mono ?_; rintro e w' ⟨rfl, rfl⟩)
  generalize ((((w.alloc (.cells #[.int .u8 (mk : Int), .int .u64 (n0 : Int), .int .u64 (n1 : Int), .int .u64 (n2 : Int), .int .u64 (n3 : Int), .int .u64 (n4 : Int), .int .u64 (n5 : Int), .string s0, .string s1, .slice mA len mc] 29)).alloc (.cells #[.int .i64 num, .int .i64 10, .int .i64 i] 48)).alloc (.cells #[.int .i64 fnum, .int .u8 fw, .int .u64 (fn : Int), .slice fA xl fc, .int .i64 fat] 50)).alloc (.cells #[.int .u8 0, .int .u64 0, .int .u64 0, .int .u64 0, .int .u64 0, .int .u64 0, .int .u64 0, .string ⟨#[]⟩, .string ⟨#[]⟩, .slice none 0 0] 29)) = W4 at *
  have r0 := HK3.out.cell 0; have r1 := HK3.out.cell 1; have r2 := HK3.out.cell 2; have r3 := HK3.out.cell 3; have r4 := HK3.out.cell 4; have r5 := HK3.out.cell 5; have r6 := HK3.out.cell 6; have r7 := HK3.out.cell 7; have r8 := HK3.out.cell 8; have r9 := HK3.out.cell 9
  simp only [List.getElem?_toArray, List.getElem?_cons_zero, List.getElem?_cons_succ] at r0 r1 r2 r3 r4 r5 r6 r7 r8 r9
  exact bodyPost_ret (v := .tuple #[.agg #[.int .u8 0, .int .u64 0, .int .u64 0, .int .u64 0, .int .u64 0, .int .u64 0, .int .u64 0, .string ⟨#[]⟩, .string ⟨#[]⟩, .slice none 0 0], .int .i64 E]) (by simp [results, Try.results19, go_sem, r0, r1, r2, r3, r4, r5, r6, r7, r8, r9]) rfl ⟨rfl, HB4.out⟩
set_option maxRecDepth 100000 in
set_option maxHeartbeats 8000000 in
theorem rset_list (m : MV) (num i : Int) (fnum fw : Int) (fn : Nat) (fA : Option Addr) (xl fc : Nat) (fat : Int) (xs : List UInt8) (w : World) (hxl : xs.length = xl) (hx : xl ≤ 9223372036854775807) (hsf : Sl w fA fc (xs.map bv)) (h64 : m.l.length < 64) (hE : chk ⟨xs.toArray⟩ 64 = 0) (hsm : Sl w m.A m.c (m.l.map sv)) :
    Calls Try.prog 19 #[mvV m, .agg #[.int .i64 num, .int .i64 10, .int .i64 i], .agg #[.int .i64 fnum, .int .u8 fw, .int .u64 (fn : Int), .slice fA xl fc, .int .i64 fat]] w fun e w' => ∃ A' c', e = .returned (.tuple #[mvV { m with l := m.l ++ [⟨xs.toArray⟩], A := A', c := c' }, .int .i64 0]) ∧ w'.ownsRow w.heap.size 9 1 (.slice A' (m.l ++ [(⟨xs.toArray⟩ : ByteArray)]).length c') (m.l ++ [(⟨xs.toArray⟩ : ByteArray)]).length ((m.l ++ [(⟨xs.toArray⟩ : ByteArray)]).map sv) ∧ Below w.heap.size w w' := by
  obtain ⟨i5, hi5, hi50, hi51, hi52⟩ := info_parts Try.infoStr
  have hq : (⟨xs.toArray⟩ : ByteArray).size ≤ 9223372036854775807 := by show xs.toArray.size ≤ _; simp; omega
  have hch := fun W => rchk_any ⟨xs.toArray⟩ 64 W hq (by decide) (by decide)
  rw [hE] at hch
  obtain ⟨q, hqe⟩ : ∃ q : ByteArray, (⟨xs.toArray⟩ : ByteArray) = q := ⟨_, rfl⟩
  have hcv : ∀ W, Below w.heap.size w W → (convert 22 9 (.slice fA xl fc)).run Try.prog W = .ok (.string q) W := fun W hW => by
    rw [← hqe]; exact conv_bs11 (hsf.below hW) hxl Try.underlying22 Try.underlying5 Try.underlying9
  rw [hqe] at hch ⊢
  obtain ⟨Q, hQ⟩ : ∃ Q : Ending → World → Prop, Q = fun e w' => ∃ A' c', e = .returned (.tuple #[mvV { m with l := m.l ++ [q], A := A', c := c' }, .int .i64 0]) ∧ w'.ownsRow w.heap.size 9 1 (.slice A' (m.l ++ [q]).length c') (m.l ++ [q]).length ((m.l ++ [q]).map sv) ∧ Below w.heap.size w w' := ⟨_, rfl⟩
  rw [← hQ]
  have hqq : ∀ A' c' w' ul, ul = m.l.length + 1 → w'.ownsRow w.heap.size 9 1 (.slice A' ul c') ul ((m.l ++ [q]).map sv) → Below w.heap.size w w' → Q (.returned (.tuple #[.agg #[.int .u8 (m.k : Int), .int .u64 (m.n0 : Int), .int .u64 (m.n1 : Int), .int .u64 (m.n2 : Int), .int .u64 (m.n3 : Int), .int .u64 (m.n4 : Int), .int .u64 (m.n5 : Int), .string m.s0, .string m.s1, .slice A' ul c'], .int .i64 0])) w' := fun A' c' w' ul h0 h1 h2 => by
    have h3 : (m.l ++ [q]).length = ul := by simp; omega
    rw [hQ]; subst h3; exact ⟨A', c', rfl, h1, h2⟩
  clear hQ
  unfold mvV mvA
  obtain ⟨len, hlen⟩ : ∃ n, m.l.length = n := ⟨_, rfl⟩
  rw [hlen] at h64 hqq ⊢
  obtain ⟨mk, n0, n1, n2, n3, n4, n5, s0, s1, mA, mc, ml⟩ := m
  simp only at hlen hqq hsm ⊢
  obtain ⟨s, hws⟩ : ∃ s, w.heap.size = s := ⟨_, rfl⟩
  have hk0 : Blk ((((w.alloc (.cells #[.int .u8 (mk : Int), .int .u64 (n0 : Int), .int .u64 (n1 : Int), .int .u64 (n2 : Int), .int .u64 (n3 : Int), .int .u64 (n4 : Int), .int .u64 (n5 : Int), .string s0, .string s1, .slice mA len mc] 29)).alloc (.cells #[.int .i64 num, .int .i64 10, .int .i64 i] 48)).alloc (.cells #[.int .i64 fnum, .int .u8 fw, .int .u64 (fn : Int), .slice fA xl fc, .int .i64 fat] 50)).alloc (.cells #[.int .u8 0, .int .u64 0, .int .u64 0, .int .u64 0, .int .u64 0, .int .u64 0, .int .u64 0, .string ⟨#[]⟩, .string ⟨#[]⟩, .slice none 0 0] 29)) (s) 29 #[.int .u8 (mk : Int), .int .u64 (n0 : Int), .int .u64 (n1 : Int), .int .u64 (n2 : Int), .int .u64 (n3 : Int), .int .u64 (n4 : Int), .int .u64 (n5 : Int), .string s0, .string s1, .slice mA len mc] := by
    have h := ((((Blk.new w 29 #[.int .u8 (mk : Int), .int .u64 (n0 : Int), .int .u64 (n1 : Int), .int .u64 (n2 : Int), .int .u64 (n3 : Int), .int .u64 (n4 : Int), .int .u64 (n5 : Int), .string s0, .string s1, .slice mA len mc]).alloc (.cells #[.int .i64 num, .int .i64 10, .int .i64 i] 48)).alloc (.cells #[.int .i64 fnum, .int .u8 fw, .int .u64 (fn : Int), .slice fA xl fc, .int .i64 fat] 50)).alloc (.cells #[.int .u8 0, .int .u64 0, .int .u64 0, .int .u64 0, .int .u64 0, .int .u64 0, .int .u64 0, .string ⟨#[]⟩, .string ⟨#[]⟩, .slice none 0 0] 29))
    rw [hws] at h; exact h
  have hk1 : Blk ((((w.alloc (.cells #[.int .u8 (mk : Int), .int .u64 (n0 : Int), .int .u64 (n1 : Int), .int .u64 (n2 : Int), .int .u64 (n3 : Int), .int .u64 (n4 : Int), .int .u64 (n5 : Int), .string s0, .string s1, .slice mA len mc] 29)).alloc (.cells #[.int .i64 num, .int .i64 10, .int .i64 i] 48)).alloc (.cells #[.int .i64 fnum, .int .u8 fw, .int .u64 (fn : Int), .slice fA xl fc, .int .i64 fat] 50)).alloc (.cells #[.int .u8 0, .int .u64 0, .int .u64 0, .int .u64 0, .int .u64 0, .int .u64 0, .int .u64 0, .string ⟨#[]⟩, .string ⟨#[]⟩, .slice none 0 0] 29)) (s + 1) 48 #[.int .i64 num, .int .i64 10, .int .i64 i] := by
    have h := (((Blk.new (w.alloc (.cells #[.int .u8 (mk : Int), .int .u64 (n0 : Int), .int .u64 (n1 : Int), .int .u64 (n2 : Int), .int .u64 (n3 : Int), .int .u64 (n4 : Int), .int .u64 (n5 : Int), .string s0, .string s1, .slice mA len mc] 29)) 48 #[.int .i64 num, .int .i64 10, .int .i64 i]).alloc (.cells #[.int .i64 fnum, .int .u8 fw, .int .u64 (fn : Int), .slice fA xl fc, .int .i64 fat] 50)).alloc (.cells #[.int .u8 0, .int .u64 0, .int .u64 0, .int .u64 0, .int .u64 0, .int .u64 0, .int .u64 0, .string ⟨#[]⟩, .string ⟨#[]⟩, .slice none 0 0] 29))
    rw [World.size_alloc, hws] at h; exact h
  have hk2 : Blk ((((w.alloc (.cells #[.int .u8 (mk : Int), .int .u64 (n0 : Int), .int .u64 (n1 : Int), .int .u64 (n2 : Int), .int .u64 (n3 : Int), .int .u64 (n4 : Int), .int .u64 (n5 : Int), .string s0, .string s1, .slice mA len mc] 29)).alloc (.cells #[.int .i64 num, .int .i64 10, .int .i64 i] 48)).alloc (.cells #[.int .i64 fnum, .int .u8 fw, .int .u64 (fn : Int), .slice fA xl fc, .int .i64 fat] 50)).alloc (.cells #[.int .u8 0, .int .u64 0, .int .u64 0, .int .u64 0, .int .u64 0, .int .u64 0, .int .u64 0, .string ⟨#[]⟩, .string ⟨#[]⟩, .slice none 0 0] 29)) (s + 1 + 1) 50 #[.int .i64 fnum, .int .u8 fw, .int .u64 (fn : Int), .slice fA xl fc, .int .i64 fat] := by
    have h := ((Blk.new ((w.alloc (.cells #[.int .u8 (mk : Int), .int .u64 (n0 : Int), .int .u64 (n1 : Int), .int .u64 (n2 : Int), .int .u64 (n3 : Int), .int .u64 (n4 : Int), .int .u64 (n5 : Int), .string s0, .string s1, .slice mA len mc] 29)).alloc (.cells #[.int .i64 num, .int .i64 10, .int .i64 i] 48)) 50 #[.int .i64 fnum, .int .u8 fw, .int .u64 (fn : Int), .slice fA xl fc, .int .i64 fat]).alloc (.cells #[.int .u8 0, .int .u64 0, .int .u64 0, .int .u64 0, .int .u64 0, .int .u64 0, .int .u64 0, .string ⟨#[]⟩, .string ⟨#[]⟩, .slice none 0 0] 29))
    rw [World.size_alloc, World.size_alloc, hws] at h; exact h
  have hk3 : Blk ((((w.alloc (.cells #[.int .u8 (mk : Int), .int .u64 (n0 : Int), .int .u64 (n1 : Int), .int .u64 (n2 : Int), .int .u64 (n3 : Int), .int .u64 (n4 : Int), .int .u64 (n5 : Int), .string s0, .string s1, .slice mA len mc] 29)).alloc (.cells #[.int .i64 num, .int .i64 10, .int .i64 i] 48)).alloc (.cells #[.int .i64 fnum, .int .u8 fw, .int .u64 (fn : Int), .slice fA xl fc, .int .i64 fat] 50)).alloc (.cells #[.int .u8 0, .int .u64 0, .int .u64 0, .int .u64 0, .int .u64 0, .int .u64 0, .int .u64 0, .string ⟨#[]⟩, .string ⟨#[]⟩, .slice none 0 0] 29)) (s + 1 + 1 + 1) 29 #[.int .u8 0, .int .u64 0, .int .u64 0, .int .u64 0, .int .u64 0, .int .u64 0, .int .u64 0, .string ⟨#[]⟩, .string ⟨#[]⟩, .slice none 0 0] := by
    have h := (Blk.new (((w.alloc (.cells #[.int .u8 (mk : Int), .int .u64 (n0 : Int), .int .u64 (n1 : Int), .int .u64 (n2 : Int), .int .u64 (n3 : Int), .int .u64 (n4 : Int), .int .u64 (n5 : Int), .string s0, .string s1, .slice mA len mc] 29)).alloc (.cells #[.int .i64 num, .int .i64 10, .int .i64 i] 48)).alloc (.cells #[.int .i64 fnum, .int .u8 fw, .int .u64 (fn : Int), .slice fA xl fc, .int .i64 fat] 50)) 29 #[.int .u8 0, .int .u64 0, .int .u64 0, .int .u64 0, .int .u64 0, .int .u64 0, .int .u64 0, .string ⟨#[]⟩, .string ⟨#[]⟩, .slice none 0 0])
    rw [World.size_alloc, World.size_alloc, World.size_alloc, hws] at h; exact h
  have hb4 : Below s w ((((w.alloc (.cells #[.int .u8 (mk : Int), .int .u64 (n0 : Int), .int .u64 (n1 : Int), .int .u64 (n2 : Int), .int .u64 (n3 : Int), .int .u64 (n4 : Int), .int .u64 (n5 : Int), .string s0, .string s1, .slice mA len mc] 29)).alloc (.cells #[.int .i64 num, .int .i64 10, .int .i64 i] 48)).alloc (.cells #[.int .i64 fnum, .int .u8 fw, .int .u64 (fn : Int), .slice fA xl fc, .int .i64 fat] 50)).alloc (.cells #[.int .u8 0, .int .u64 0, .int .u64 0, .int .u64 0, .int .u64 0, .int .u64 0, .int .u64 0, .string ⟨#[]⟩, .string ⟨#[]⟩, .slice none 0 0] 29)) := by rw [← hws]; exact bw_a (bw_a (bw_a (bw_a (Below.refl _ w) _) _) _) _
  rw [hws] at hqq hcv
  have hlen64 : (len : Int) < 64 := by omega
  have hlen65 : ¬ (64 : Int) ≤ (len : Int) := by omega
  have hcx := hcv _ hb4
  have HK0 := hid hk0
  have HK1 := hid hk1
  have HK2 := hid hk2
  have HK3 := hid hk3
  have HB4 := hid hb4
  have HCH := hid hch
  have HCV := hid hcv
  have HQ := hid hqq
  have HSM := hid hsm
  have HLN := hid hlen
  clear hk0 hk1 hk2 hk3 hb4 hsf hxl hcv hch hqe hq hE hqq hsm hlen
  go_enter Try.func19, Try.ntmps19
  go_wp2_with (go_at_call 35; refine (HCH.out _).mono ?_; rintro e w' ⟨rfl, rfl⟩)
  clear hcx
  have hz4' : (((((w.alloc (.cells #[.int .u8 (mk : Int), .int .u64 (n0 : Int), .int .u64 (n1 : Int), .int .u64 (n2 : Int), .int .u64 (n3 : Int), .int .u64 (n4 : Int), .int .u64 (n5 : Int), .string s0, .string s1, .slice mA len mc] 29)).alloc (.cells #[.int .i64 num, .int .i64 10, .int .i64 i] 48)).alloc (.cells #[.int .i64 fnum, .int .u8 fw, .int .u64 (fn : Int), .slice fA xl fc, .int .i64 fat] 50)).alloc (.cells #[.int .u8 0, .int .u64 0, .int .u64 0, .int .u64 0, .int .u64 0, .int .u64 0, .int .u64 0, .string ⟨#[]⟩, .string ⟨#[]⟩, .slice none 0 0] 29))).heap.size = s + 4 := by simp [hws]
  generalize ((((w.alloc (.cells #[.int .u8 (mk : Int), .int .u64 (n0 : Int), .int .u64 (n1 : Int), .int .u64 (n2 : Int), .int .u64 (n3 : Int), .int .u64 (n4 : Int), .int .u64 (n5 : Int), .string s0, .string s1, .slice mA len mc] 29)).alloc (.cells #[.int .i64 num, .int .i64 10, .int .i64 i] 48)).alloc (.cells #[.int .i64 fnum, .int .u8 fw, .int .u64 (fn : Int), .slice fA xl fc, .int .i64 fat] 50)).alloc (.cells #[.int .u8 0, .int .u64 0, .int .u64 0, .int .u64 0, .int .u64 0, .int .u64 0, .int .u64 0, .string ⟨#[]⟩, .string ⟨#[]⟩, .slice none 0 0] 29)) = W4 at *
  go_loopw [12, 13] (fun v i wr => ∃ j : Nat, j ≤ len ∧ i = .int .i64 (j : Int) ∧ wr.ownsRow (s + 4) 9 1 v j ((ml.take j).map sv) ∧ Below (s + 4) W4 wr) (fun _ i _ => len - (intOf i).toNat)
  case atStart => exact ⟨0, by omega, rfl, World.ownsRow_nil _ _ _ _, Below.refl _ _⟩
  case round =>
    obtain ⟨j, hj, rfl, ho, hB⟩ := hrel
    have hz4 : s + 4 ≤ W4.heap.size := by have := HK3.out.lt; omega
    have hk0 := HK0.out.below hB (by omega)
    have hsw := (HSM.out.below (by rw [hws]; exact HB4.out)).rd
    by_cases hlt : j < len
    · have hjl : j < ml.length := by have := HLN.out; omega
      obtain ⟨bb, off, hA, hb, t0⟩ := hsw j (sv ml[j]) (by rw [List.getElem?_map, List.getElem?_eq_getElem hjl]; rfl)
      subst hA
      have t1 := (hB.cell (p := ⟨bb, off + j, none⟩) (by show bb < s + 4; omega)).trans t0
      have c9 := hk0.cell 9
      simp only [List.getElem?_toArray, List.getElem?_cons_zero, List.getElem?_cons_succ] at c9
      have hji : (j : Int) < (len : Int) := by omega
      have hj0 : (0 : Int) ≤ (j : Int) := by omega
      have htk : (ml.take (j + 1)).map sv = (ml.take j).map sv ++ [.string ml[j]] := by rw [List.take_succ_eq_append_getElem hjl, List.map_append]; rfl
      have hzr := hB.size
      have hbw : bb < wr.heap.size := by omega
      have hlr := hk0.lt
      unfold sv at t1
      have HTK := hid htk
      have HB := hid hB
      have HO := hid ho
      generalize ml[j] = mlj at *
      clear hk0 hsw t0 htk hB ho
      go_wp2_with (at_builtin; refine wpList_append_rd rfl (.tmp 162) (.tmp 168) 27 rfl (s + 4) 9 i5 (.string ⟨#[]⟩) 1 16 Try.underlying27 hi5 hi50 hi51 hi52 rfl (by decide) u12 j ((ml.take j).map sv) rfl (HO.out.alloc _) (some ⟨wr.heap.size, 0, none⟩) 1 1 [.string mlj] rfl rfl (Rd.new wr 9 #[.string mlj]) (fun h => by cases h) (by simp [Value.oneCell']) (by simp only [maxLen]; omega) (by omega) (by simp; omega) ?_; intro v3 w3 hown3 hgrow3; have hc3 := Chg.of_grown (S := fun x => s + 4 ≤ x) hgrow3 (fun g e => (HO.out.lt g e).1); have HO3 := hid hown3; have HB3 := hid ((HB.out.alloc (by omega) (.cells #[.string mlj] 9)).trans (hc3.below (B := s + 4) (fun x hx => hx) (by simp; omega))); clear hown3 hgrow3 hc3)
      go_roundw
      case rel => exact ⟨j + 1, by omega, by go_num, by rw [HTK.out]; exact HO3.out, HB3.out⟩
      case measure => simp [intOf]; omega
    · obtain rfl : j = len := by omega
      rw [List.take_of_length_le (by have := HLN.out; omega)] at ho
      have k0 := HK0.out.below hB (by omega)
      have k2 := HK2.out.below hB (by omega)
      have k3 := HK3.out.below hB (by omega)
      have hBw := HB4.out.trans (hB.mono (by omega))
      have hcx := HCV.out wr hBw
      have hzr := hB.size
      have a0 := k0.cell 0; have a1 := k0.cell 1; have a2 := k0.cell 2; have a3 := k0.cell 3; have a4 := k0.cell 4; have a5 := k0.cell 5; have a6 := k0.cell 6; have a7 := k0.cell 7; have a8 := k0.cell 8; have a9 := k0.cell 9
      have y3 := k2.cell 3
      simp only [List.getElem?_toArray, List.getElem?_cons_zero, List.getElem?_cons_succ] at a0 a1 a2 a3 a4 a5 a6 a7 a8 a9 y3
      have l0 := k0.lt
      have l3 := k3.lt
      have K0 := hid k0
      have K3 := hid k3
      have HB := hid hBw
      have HO := hid ho
      have hlt' : ¬ (j : Int) < (j : Int) := by omega
      clear hk0 hsw hB ho k0 k2 k3 hBw HB4 HK0 HK1 HK2 HK3 HSM
      go_wp2_with (at_builtin; refine wpList_append_rd rfl (.tmp 170) (.tmp 174) 27 rfl (s + 4) 9 i5 (.string ⟨#[]⟩) 1 16 Try.underlying27 hi5 hi50 hi51 hi52 rfl (by decide) u12 j (ml.map sv) rfl (HO.out.alloc _) (some ⟨wr.heap.size, 0, none⟩) 1 1 [.string q] rfl rfl (Rd.new wr 9 #[.string q]) (fun h => by cases h) (by simp [Value.oneCell']) (by simp only [maxLen]; omega) (by omega) (by simp; omega) ?_; intro v3 w3 hown3 hgrow3; obtain ⟨A9, q9, rfl⟩ := row_slice' hown3; have hc3 := ((Chg.refl (fun x => s + 4 ≤ x) wr).alloc (.cells #[.string q] 9)).trans (Chg.of_grown (S := fun x => s + 4 ≤ x) hgrow3 (fun g e => (HO.out.lt g e).1)); have k0 := hc3.blk K0.out (by omega); have k3 := hc3.blk K3.out (by omega); have HO3 := hid hown3; have HB3 := hid (HB.out.trans (hc3.below (B := s) (fun x hx => by omega) (by omega))); clear a0 a1 a2 a3 a4 a5 a6 a7 a8 a9 hcx; have a0 := k0.cell 0; have a1 := k0.cell 1; have a2 := k0.cell 2; have a3 := k0.cell 3; have a4 := k0.cell 4; have a5 := k0.cell 5; have a6 := k0.cell 6; have a7 := k0.cell 7; have a8 := k0.cell 8; have a9 := k0.cell 9; have f0 := k0.frozen 0; have f1 := k0.frozen 1; have f2 := k0.frozen 2; have f3 := k0.frozen 3; have f4 := k0.frozen 4; have f5 := k0.frozen 5; have f6 := k0.frozen 6; have f7 := k0.frozen 7; have f8 := k0.frozen 8; have f9 := k0.frozen 9; have b0 := k3.cell 0; have b1 := k3.cell 1; have b2 := k3.cell 2; have b3 := k3.cell 3; have b4 := k3.cell 4; have b5 := k3.cell 5; have b6 := k3.cell 6; have b7 := k3.cell 7; have b8 := k3.cell 8; have b9 := k3.cell 9; have g0 := k3.frozen 0; have g1 := k3.frozen 1; have g2 := k3.frozen 2; have g3 := k3.frozen 3; have g4 := k3.frozen 4; have g5 := k3.frozen 5; have g6 := k3.frozen 6; have g7 := k3.frozen 7; have g8 := k3.frozen 8; have g9 := k3.frozen 9; simp only [List.getElem?_toArray, List.getElem?_cons_zero, List.getElem?_cons_succ] at a0 a1 a2 a3 a4 a5 a6 a7 a8 a9 b0 b1 b2 b3 b4 b5 b6 b7 b8 b9; have l5 := k0.lt; have l6 := k3.lt; have K5 := hid k0; have K6 := hid k3; clear k0 k3 hown3 hgrow3 hc3)
      have hc1 : Chg (fun x => x = s) w3 (w3.setCell ⟨s, 9, none⟩ (.slice A9 (j + 1) q9)) := (Chg.refl (fun x => x = s) w3).set_ (.inl rfl) 9 _
      have hs3 := hc1.blk K6.out (by omega)
      obtain ⟨h5, hc5⟩ := mstore hs3 (.int .u8 (mk : Int)) (.int .u64 (n0 : Int)) (.int .u64 (n1 : Int)) (.int .u64 (n2 : Int)) (.int .u64 (n3 : Int)) (.int .u64 (n4 : Int)) (.int .u64 (n5 : Int)) (.string s0) (.string s1) (.slice A9 (j + 1) q9)
      have hbR := (HB3.out.trans (hc1.below (B := s) (fun x hx => by omega) (by omega))).trans (hc5.below (B := s) (fun x hx => by omega) (by have := hs3.lt; omega))
      have ho9 := own_chgS (own_chgS HO3.out hc1 (fun g hg hx => by have := (HO3.out.lt g hg).1; omega)) hc5 (fun g hg hx => by have := (HO3.out.lt g hg).1; omega)
      have r0 := h5.cell 0; have r1 := h5.cell 1; have r2 := h5.cell 2; have r3 := h5.cell 3; have r4 := h5.cell 4; have r5 := h5.cell 5; have r6 := h5.cell 6; have r7 := h5.cell 7; have r8 := h5.cell 8; have r9 := h5.cell 9
      simp only [List.getElem?_toArray, List.getElem?_cons_zero, List.getElem?_cons_succ] at r0 r1 r2 r3 r4 r5 r6 r7 r8 r9
      refine bodyPost_ret (v := .tuple #[.agg #[.int .u8 (mk : Int), .int .u64 (n0 : Int), .int .u64 (n1 : Int), .int .u64 (n2 : Int), .int .u64 (n3 : Int), .int .u64 (n4 : Int), .int .u64 (n5 : Int), .string s0, .string s1, .slice A9 (j + 1) q9], .int .i64 0]) (by simp [results, Try.results19, go_sem, r0, r1, r2, r3, r4, r5, r6, r7, r8, r9]) rfl ?_
      exact HQ.out A9 q9 _ _ rfl (by rw [List.map_append]; exact own_mono ho9 (by omega)) hbR
end Go.Proofs.Ytpmfdlghckfgiaa
