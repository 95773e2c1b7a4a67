/- The document's Bytes (layer 3). -/
import Derived.Test.YtpicgemjfodlcaaDoorProg
import Derived.Test.YtpicgemjfodlcaaDoorBase
import Derived.Test.YtpicgemjfodlcaaDoorRune
set_option linter.unusedVariables false
namespace Go.Proofs.YtpicgemjfodlcaaDoor
open Go.RowKit
/-- A rune's bytes. -/
def runeB (n : Nat) : List UInt8 :=
  if n < 128 then [b8 n] else
  if n < 2048 then [b8 (192 + n / 64), b8 (128 + n % 64)] else
  if n < 65536 then [b8 (224 + n / 4096), b8 (128 + n / 64 % 64), b8 (128 + n % 64)] else
  [b8 (240 + n / 262144), b8 (128 + n / 4096 % 64), b8 (128 + n / 64 % 64), b8 (128 + n % 64)]

/-- 'string(b)' of a row that was just made. -/
theorem conv_new {P : Program} (w : World) (t src dst e : TypeId) (vs : List UInt8) (hs : P.underlying src = some (.slice e)) (he : P.underlying e = some (.int .u8)) (hd : P.underlying dst = some .string) :
    (convert src dst (.slice (some ⟨w.heap.size, 0, none⟩) vs.length vs.length)).run P (w.alloc (.cells (vs.map bv).toArray t)) = .ok (.string ⟨vs.toArray⟩) (w.alloc (.cells (vs.map bv).toArray t)) := by
  refine run_convert_bytes_back _ src dst e _ _ vs hs he hd fun j hj => ?_
  rw [addr_add, (Blk.new w t _).cell]
  simp [hj, bv]

set_option maxRecDepth 100000 in
set_option maxHeartbeats 1000000 in
theorem rbytes_any (n : Nat) (w : World) (hn : n ≤ 1114111) :
    Calls Tryd.prog 17 #[.int .i32 (n : Int)] w fun e W' => ∃ s, e = .returned (.string s) ∧ s.data.toList = runeB n ∧ Below w.heap.size w W' := by
  by_cases a1 : n < 128
  · have q0 : decide ((n : Int) < 128) = true := by simp; omega
    have HB := hid (show runeB n = _ by rw [runeB, if_pos a1])
    have h := conv_new (P := Tryd.prog) w 5 42 9 5 [b8 n] Tryd.underlying42 Tryd.underlying5 Tryd.underlying9
    simp only [List.map_cons, List.map_nil, List.length_cons, List.length_nil, bv_b8 n (by omega)] at h
    push_cast at h
    go_enter Tryd.func17, Tryd.ntmps17
    go_wp2
    go_ret
    exact ⟨_, rfl, by simp [HB.out], (Below.refl _ _).alloc (Nat.le_refl _) _⟩
  have q0 : decide ((n : Int) < 128) = false := by simp; omega
  by_cases a2 : n < 2048
  · have q1 : decide ((n : Int) < 2048) = true := by simp; omega
    have HB := hid (show runeB n = _ by rw [runeB, if_neg a1, if_pos a2])
    have h := conv_new (P := Tryd.prog) w 5 42 9 5 [b8 (192 + n / 64), b8 (128 + n % 64)] Tryd.underlying42 Tryd.underlying5 Tryd.underlying9
    simp only [List.map_cons, List.map_nil, List.length_cons, List.length_nil, bv_b8 (192 + n / 64) (by omega), bv_b8 (128 + n % 64) (by omega)] at h
    push_cast at h
    go_enter Tryd.func17, Tryd.ntmps17
    go_wp2
    go_ret
    exact ⟨_, rfl, by simp [HB.out], (Below.refl _ _).alloc (Nat.le_refl _) _⟩
  have q1 : decide ((n : Int) < 2048) = false := by simp; omega
  by_cases a3 : n < 65536
  · have q2 : decide ((n : Int) < 65536) = true := by simp; omega
    have HB := hid (show runeB n = _ by rw [runeB, if_neg a1, if_neg a2, if_pos a3])
    have h := conv_new (P := Tryd.prog) w 5 42 9 5 [b8 (224 + n / 4096), b8 (128 + n / 64 % 64), b8 (128 + n % 64)] Tryd.underlying42 Tryd.underlying5 Tryd.underlying9
    simp only [List.map_cons, List.map_nil, List.length_cons, List.length_nil, bv_b8 (224 + n / 4096) (by omega), bv_b8 (128 + n / 64 % 64) (by omega), bv_b8 (128 + n % 64) (by omega)] at h
    push_cast at h
    go_enter Tryd.func17, Tryd.ntmps17
    go_wp2
    go_ret
    exact ⟨_, rfl, by simp [HB.out], (Below.refl _ _).alloc (Nat.le_refl _) _⟩
  · have q2 : decide ((n : Int) < 65536) = false := by simp; omega
    have HB := hid (show runeB n = _ by rw [runeB, if_neg a1, if_neg a2, if_neg a3])
    have h := conv_new (P := Tryd.prog) w 5 42 9 5 [b8 (240 + n / 262144), b8 (128 + n / 4096 % 64), b8 (128 + n / 64 % 64), b8 (128 + n % 64)] Tryd.underlying42 Tryd.underlying5 Tryd.underlying9
    simp only [List.map_cons, List.map_nil, List.length_cons, List.length_nil, Nat.zero_add, Nat.reduceAdd, bv_b8 (240 + n / 262144) (by omega), bv_b8 (128 + n / 4096 % 64) (by omega), bv_b8 (128 + n / 64 % 64) (by omega), bv_b8 (128 + n % 64) (by omega)] at h
    rw [show ((240 + n / 262144 : Nat) : Int) = 240 + (n : Int) / 262144 from by omega, show ((128 + n / 4096 % 64 : Nat) : Int) = 128 + (n : Int) / 4096 % 64 from by omega, show ((128 + n / 64 % 64 : Nat) : Int) = 128 + (n : Int) / 64 % 64 from by omega, show ((128 + n % 64 : Nat) : Int) = 128 + (n : Int) % 64 from by omega] at h
    have HH := hid h
    clear h a1 a2 a3
    go_enter Tryd.func17, Tryd.ntmps17
    go_wp2
    rw [HH.out]
    simp only [Result.andThen]
    go_wp2
    go_ret
    exact ⟨_, rfl, by simp [HB.out], (Below.refl _ _).alloc (Nat.le_refl _) _⟩
end Go.Proofs.YtpicgemjfodlcaaDoor
