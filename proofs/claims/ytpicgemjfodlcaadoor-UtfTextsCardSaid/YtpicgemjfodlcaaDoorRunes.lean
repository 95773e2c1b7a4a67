/- The document's Runes (layer 3). -/
import Derived.Test.YtpicgemjfodlcaaDoorProg
import Derived.Test.YtpicgemjfodlcaaDoorBase
import Derived.Test.YtpicgemjfodlcaaDoorFirst
set_option linter.unusedVariables false
namespace Go.Proofs.YtpicgemjfodlcaaDoor
open Go.RowKit
def rv (n : Nat) : Value := .int .i32 (n : Int)
theorem Tryd.info21 : (Tryd.prog.info? 21).map (fun i => (i.zero, i.size, i.bytes)) = some (some (.int .i32 0), 1, 4) := by kernel_rfl
/-- The runes of a text; none of what is none. -/
def runesOf (bs : List UInt8) : List Nat := if (scan bs 0).2 = none then (scan bs 0).1 else []

set_option maxRecDepth 100000 in
set_option maxHeartbeats 1000000 in
theorem rrunes_own (s : ByteArray) (bs : List UInt8) (w : World) (hs : s.data.toList = bs) (hl : bs.length ≤ 1000000) :
    Calls Tryd.prog 14 #[.string s] w fun e W' => ∃ v, e = .returned v ∧ W'.ownsRow w.heap.size 21 1 v (runesOf bs).length ((runesOf bs).map rv) ∧ Below w.heap.size w W' := by
  obtain ⟨i0, hi, hz0, hz1, hz2⟩ := info_parts Tryd.info21
  have hsz : s.size = bs.length := by rw [← hs]; simp
  have HSB := hid hs
  clear hs
  generalize hn : bs.length = n at *
  have HN := hid hn
  clear hn
  go_enter Tryd.func14, Tryd.ntmps14
  go_wp2
  go_loopw [2, 3, 4, 5, 6] (fun _ v a _ _ wr => ∃ (k : Nat) (pre : List Nat), k ≤ n ∧ a = .int .i64 (k : Int) ∧ pre.length ≤ k ∧ scan bs 0 = (pre ++ (scan (bs.drop k) k).1, (scan (bs.drop k) k).2) ∧ wr.ownsRow w.heap.size 21 1 v pre.length (pre.map rv) ∧ Below w.heap.size w wr) (fun _ _ a _ _ _ => n - (intOf a).toNat)
  case atStart => exact ⟨0, [], by omega, rfl, by simp, by simp, World.ownsRow_nil _ _ _ _, Below.refl _ _⟩
  case round =>
    obtain ⟨k, pre, hk, rfl, hpl, hsc, hrow, hB⟩ := hrel
    have HC := hid hsc
    clear hsc
    by_cases hlt : k < n
    · obtain ⟨c, r, hd⟩ : ∃ c r, bs.drop k = c :: r := by
        cases hq : bs.drop k with
        | nil => have := congrArg List.length hq; have := HN.out; simp at *; omega
        | cons c r => exact ⟨c, r, rfl⟩
      have ho := oneL_le (bs.drop k)
      rw [List.length_drop, HN.out, hd] at ho
      have HD := hid hd
      clear hd
      go_wp2_with fail
      refine (one_any s bs r k c _ HSB.out (by have := HN.out; omega) HD.out).mono ?_
      rintro e w1 ⟨rfl, rfl⟩
      have hb := @scan_bad c r k
      have hm := @scan_more c r k
      generalize hq : oneL (c :: r) = q at *
      obtain ⟨o, v⟩ := q
      simp only at ho hb hm
      have HQ := hid hq
      have HB := hid hb
      have HM := hid hm
      clear hq hb hm
      by_cases ho0 : o = 0
      · have HO0 := hid ho0
        clear ho0
        have t0 : ((o : Int) == 0) = true := by have := HO0.out; simp; omega
        go_wp2
        go_ret
        have hr : runesOf bs = [] := by rw [runesOf, HC.out, HD.out, HB.out HO0.out]; simp
        exact ⟨_, rfl, by rw [hr]; exact World.ownsRow_nil _ _ _ _, hB⟩
      · have t0 : ((o : Int) == 0) = false := by simp; omega
        have HM' := hid (HM.out ho0)
        go_wp2_with (at_builtin; refine wpList_append_own _ rfl _ _ 24 rfl w.heap.size 21 i0 (.int .i32 0) 1 4 Tryd.underlying24 hi hz0 hz1 hz2 rfl (by decide) _ _ _ rfl (hrow.alloc _) ⟨wr.heap.size, 0, none⟩ 1 1 [.int .i32 (v : Int)] rfl rfl (cell_one_new _ _ _) (by simp [Value.oneCell']) (by simp only [maxLen]; omega) (by omega) (by have := hB.size; simp; omega) ?_; intro v' w1 hown' hgrow _)
        have hg : Below w.heap.size w w1 := (hB.alloc hB.size _).grown hgrow (by have := hB.size; simp; omega) fun k ek => (hrow.lt k ek).1
        go_roundw
        case rel => exact ⟨k + o, pre ++ [v], by omega, by go_num, by simp; omega, by rw [HC.out, HD.out, HM'.out, ← HD.out, List.drop_drop]; simp, by simpa [rv] using hown', hg⟩
        case measure => simp [intOf] <;> omega
    · have hend : scan (bs.drop k) k = ([], none) := by rw [List.drop_eq_nil_of_le (by have := HN.out; omega), scan_nil]
      have hr : runesOf bs = pre := by rw [runesOf, HC.out, hend]; simp
      have HR := hid hr
      clear hr hend
      go_wp2
      go_ret
      exact ⟨_, rfl, by rw [HR.out]; exact hrow, hB⟩
end Go.Proofs.YtpicgemjfodlcaaDoor
