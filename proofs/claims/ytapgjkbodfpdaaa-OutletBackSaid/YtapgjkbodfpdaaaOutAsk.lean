/- An ask of a writer: what the law does, and the document's bytes of it. -/
import Derived.Test.YtapgjkbodfpdaaaOutBytes
import Derived.Test.YtapgjkbodfpdaaaJoin2
import Derived.Test.YtapgjkbodfpdaaaOpens5
import Derived.Test.YtapgjkbodfpdaaaLawF
set_option linter.unusedVariables false
namespace Go.Proofs.Ytapgjkbodfpdaaa
open Go.RowKit
/-- An ask: its kind, its number, a field's number and wire type, its bytes. -/
structure AskV where
  k : Nat
  n : Nat
  num : Int
  x : Nat
  s : SlV UInt8
def AskV.agg (a : AskV) : Value := .agg #[.int .u8 (a.k : Int), .int .u64 (a.n : Int), .int .i64 a.num, .int .u8 (a.x : Int), .slice a.s.A a.s.xs.length a.s.c]
def askC (a : AskV) : List Value := [.int .u8 (a.k : Int), .int .u64 (a.n : Int), .int .i64 a.num, .int .u8 (a.x : Int), .slice a.s.A a.s.xs.length a.s.c]
structure AskOk (w : World) (a : AskV) : Prop where
  k : a.k ≤ 255
  n : a.n ≤ 18446744073709551615
  n1 : -9223372036854775808 ≤ a.num
  n2 : a.num ≤ 9223372036854775807
  x : a.x ≤ 255
  s : Sl w a.s.A a.s.c (a.s.xs.map bv)
theorem openAskV (W : World) : Opens Try.prog W 35 askC (AskOk W) :=
  (opens_struct5 (e0 := fun n : Int => .int .u8 n) (e1 := fun n : Int => .int .u64 n) (e2 := fun n : Int => .int .i64 n) (e3 := fun n : Int => .int .u8 n) (e4 := fun s : SlV UInt8 => .slice s.A s.xs.length s.c)
    Try.underlying35 (by kernel_rfl) ⟨rfl, rfl, rfl, rfl, rfl⟩ ⟨by kernel_rfl, by kernel_rfl, by kernel_rfl, by kernel_rfl, by kernel_rfl⟩
    (opens_int Try.underlying5) (opens_int Try.underlying33) (opens_int Try.underlying3) (opens_int Try.underlying5) (opens_bytes Try.underlying29 Try.underlying5 (by kernel_rfl))).map
    (fun p => ⟨p.1.toNat, p.2.1.toNat, p.2.2.1, p.2.2.2.1.toNat, p.2.2.2.2⟩) fun p hp => by
      have h0 := wf_u8 hp.1
      have h1 := wf_u64 hp.2.1
      have h2 := wf_i64 hp.2.2.1
      have h3 := wf_u8 hp.2.2.2.1
      refine ⟨by simp only [askC]; rw [Int.toNat_of_nonneg h0.1, Int.toNat_of_nonneg h1.1, Int.toNat_of_nonneg h3.1], ?_⟩
      exact ⟨by show p.1.toNat ≤ 255; omega, by show p.2.1.toNat ≤ _; omega, h2.1, h2.2, by show p.2.2.2.1.toNat ≤ 255; omega, hp.2.2.2.2⟩
/-- What an ask makes of what was written. -/
def doW (most : Nat) (a : AskV) (bs : List UInt8) : List UInt8 × Nat :=
  if a.k = 0 then wput most bs (putN a.n) else if a.k = 1 then wtag most bs a.num (a.x : Int) else if a.k = 2 then wput most bs (fixN 4 (a.n % 4294967296)) else if a.k = 3 then wput most bs (fixN 8 a.n)
  else if a.k = 4 then wput most bs (putN a.s.xs.length ++ a.s.xs) else wput most bs a.s.xs
set_option maxRecDepth 100000 in
set_option maxHeartbeats 2000000 in
theorem do_any (a : AskV) (w : World) (B q : Nat) (v : Value) (bs : List UInt8) (most : Nat) (ha : AskOk w a) (hl : a.s.xs.length ≤ 1000000) (hf : FarS a.s.A a.s.xs.length (Oset q v)) (h : Wr w B q v bs most) :
    Calls Try.prog 18 #[.pointer (some ⟨q, 0, none⟩), a.agg] w fun e w' => ∃ v', e = .returned (.int .i64 ((doW most a bs).2 : Nat)) ∧ Wr w' B q v' (doW most a bs).1 most ∧ Stp q v v' bs.length w w' := by
  obtain ⟨k, n, num, x, A, c, xs⟩ := a
  obtain ⟨hk, hn, hn1, hn2, hx, hs⟩ := ha
  simp only at hk hn hn1 hn2 hx hs hl hf
  simp only [AskV.agg, doW]
  rcases (by omega : k = 0 ∨ k = 1 ∨ k = 2 ∨ k = 3 ∨ k = 4 ∨ 5 ≤ k) with rfl | rfl | rfl | rfl | rfl | h5
  · have HC := hid (fun W (hW : Below w.heap.size w W) => ovarint_any W B q v bs most n hn (h.new hW))
    clear h hs hf
    rw [if_pos rfl]
    generalize xs.length = m at *
    generalize wput most bs (putN n) = r at *
    go_enter Try.func18, Try.ntmps18
    go_wp2_with fail
    have hb := bw_a (Below.refl w.heap.size w) (.cells #[.int .u8 (0), .int .u64 (n : Int), .int .i64 num, .int .u8 (x : Int), .slice A m c] 35)
    refine (HC.out _ hb).mono ?_
    rintro e w2 ⟨v', rfl, hw, hst⟩
    go_wp2_with fail
    go_ret
    exact ⟨v', rfl, hw, (Stp.of_new hb).trans hst (Nat.le_refl _)⟩
  · have HC := hid (fun W (hW : Below w.heap.size w W) => otag_any W B q v bs most num x (by omega) (by omega) (h.new hW))
    clear h hs hf
    rw [if_neg (by omega), if_pos rfl]
    generalize xs.length = m at *
    generalize wtag most bs num x = r at *
    go_enter Try.func18, Try.ntmps18
    go_wp2_with fail
    have hb := bw_a (Below.refl w.heap.size w) (.cells #[.int .u8 (1), .int .u64 (n : Int), .int .i64 num, .int .u8 (x : Int), .slice A m c] 35)
    refine (HC.out _ hb).mono ?_
    rintro e w2 ⟨v', rfl, hw, hst⟩
    go_wp2_with fail
    go_ret
    exact ⟨v', rfl, hw, (Stp.of_new hb).trans hst (Nat.le_refl _)⟩
  · have hr := fun W (hW : Below w.heap.size w W) => ofour_any W B q v bs most (n % 4294967296) (by omega) (h.new hW)
    have hwr : IntKind.u32.wrap (n : Int) = ((n % 4294967296 : Nat) : Int) := by rw [IntKind.wrap_u32]; omega
    clear h hs hf
    rw [if_neg (by omega), if_neg (by omega), if_pos rfl]
    generalize xs.length = m at *
    generalize wput most bs (fixN 4 (n % 4294967296)) = r at *
    generalize n % 4294967296 = n4 at *
    have HC := hid hr
    clear hr
    go_enter Try.func18, Try.ntmps18
    go_wp2_with fail
    have hb := bw_a (Below.refl w.heap.size w) (.cells #[.int .u8 (2), .int .u64 (n : Int), .int .i64 num, .int .u8 (x : Int), .slice A m c] 35)
    refine (HC.out _ hb).mono ?_
    rintro e w2 ⟨v', rfl, hw, hst⟩
    go_wp2_with fail
    go_ret
    exact ⟨v', rfl, hw, (Stp.of_new hb).trans hst (Nat.le_refl _)⟩
  · have HC := hid (fun W (hW : Below w.heap.size w W) => oeight_any W B q v bs most n hn (h.new hW))
    clear h hs hf
    rw [if_neg (by omega), if_neg (by omega), if_neg (by omega), if_pos rfl]
    generalize xs.length = m at *
    generalize wput most bs (fixN 8 n) = r at *
    go_enter Try.func18, Try.ntmps18
    go_wp2_with fail
    have hb := bw_a (Below.refl w.heap.size w) (.cells #[.int .u8 (3), .int .u64 (n : Int), .int .i64 num, .int .u8 (x : Int), .slice A m c] 35)
    refine (HC.out _ hb).mono ?_
    rintro e w2 ⟨v', rfl, hw, hst⟩
    go_wp2_with fail
    go_ret
    exact ⟨v', rfl, hw, (Stp.of_new hb).trans hst (Nat.le_refl _)⟩
  · have HC := hid (fun W (hW : Below w.heap.size w W) => obytes_any xs xs.length A c W B q v bs most rfl hl (hs.below hW) hf (h.new hW))
    clear h hs hf
    rw [if_neg (by omega), if_neg (by omega), if_neg (by omega), if_neg (by omega), if_pos rfl]
    generalize wput most bs (putN xs.length ++ xs) = r at *
    generalize xs.length = m at *
    go_enter Try.func18, Try.ntmps18
    go_wp2_with fail
    have hb := bw_a (Below.refl w.heap.size w) (.cells #[.int .u8 (4), .int .u64 (n : Int), .int .i64 num, .int .u8 (x : Int), .slice A m c] 35)
    refine (HC.out _ hb).mono ?_
    rintro e w2 ⟨v', rfl, hw, hst⟩
    go_wp2_with fail
    go_ret
    exact ⟨v', rfl, hw, (Stp.of_new hb).trans hst (Nat.le_refl _)⟩
  · have HC := hid (fun W (hW : Below w.heap.size w W) => raw_any xs xs.length A c W B q v bs most rfl (hs.below hW) (h.new hW))
    clear h hs hf
    rw [if_neg (by omega), if_neg (by omega), if_neg (by omega), if_neg (by omega), if_neg (by omega)]
    generalize wput most bs xs = r at *
    generalize xs.length = m at *
    have b0 : ((k : Int) == 0) = false := by simp; omega
    have b1 : ((k : Int) == 1) = false := by simp; omega
    have b2 : ((k : Int) == 2) = false := by simp; omega
    have b3 : ((k : Int) == 3) = false := by simp; omega
    have b4 : ((k : Int) == 4) = false := by simp; omega
    go_enter Try.func18, Try.ntmps18
    go_wp2_with fail
    have hb := bw_a (Below.refl w.heap.size w) (.cells #[.int .u8 (k : Int), .int .u64 (n : Int), .int .i64 num, .int .u8 (x : Int), .slice A m c] 35)
    refine (HC.out _ hb).mono ?_
    rintro e w2 ⟨v', rfl, hw, hst⟩
    go_wp2_with fail
    go_ret
    exact ⟨v', rfl, hw, (Stp.of_new hb).trans hst (Nat.le_refl _)⟩
end Go.Proofs.Ytapgjkbodfpdaaa
