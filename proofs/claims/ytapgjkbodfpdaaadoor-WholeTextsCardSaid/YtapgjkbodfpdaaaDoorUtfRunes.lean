/- utf.Runes: a walk. -/
import Derived.Test.YtapgjkbodfpdaaaDoorProg
import Derived.Test.YtapgjkbodfpdaaaDoorBase
import Derived.Test.YtapgjkbodfpdaaaDoorUtfCount
import Derived.Test.YtapgjkbodfpdaaaDoorRunes
import Derived.WalkSmall
set_option linter.unusedVariables false
namespace Go.Proofs.YtapgjkbodfpdaaaDoor
open Go.RowKit
def badE (bs : List UInt8) : Nat := if (scan bs 0).2 = none then 0 else 9
def badA (bs : List UInt8) : Nat := (scan bs 0).2.getD 0
theorem runeI_le {n : Nat} (h : runeI (n : Int) = true) : n ≤ 1114111 := (runeI_nat.1 h).1
theorem heap_grown {w w' : World} {row : Option Nat} (hg : w.grownBy w' row) {k : Nat} {o : Obj} (hk : w.heap[k]? = some o) (hr : ∀ g, row = some g → g ≠ k) : w'.heap[k]? = some o := by
  rw [hg.block k (Array.getElem?_eq_some_iff.1 hk).1 (by intro h; exact hr k h.symm rfl)]; exact hk
set_option maxRecDepth 100000 in
set_option maxHeartbeats 2000000 in
theorem runes_any (s : ByteArray) (bs : List UInt8) (w : World) (hs : s.data.toList = bs) (hl : bs.length ≤ 1000000) :
    Calls Tryd.prog 9 #[.string s] w fun e w' => ∃ v, e = .returned (.tuple #[v, .agg #[.int .i64 (badE bs : Nat), .int .i64 (badA bs : Nat)]]) ∧ w'.ownsRow w.heap.size 21 1 v (runesOf bs).length ((runesOf bs).map rv) ∧ Below w.heap.size w w' := by
  obtain ⟨i0, hi, hz0, hz1, hz2⟩ := info_parts Tryd.info21
  have hsz : s.size = bs.length := by rw [← hs]; simp
  have hf := fun w => first_any s bs w hs (by omega)
  have hro := scan_runes bs 0
  have h1 : badE bs = if (scan bs 0).2 = none then 0 else 9 := rfl
  have h2 : badA bs = (scan bs 0).2.getD 0 := rfl
  have h3 : runesOf bs = if (scan bs 0).2 = none then (scan bs 0).1 else [] := rfl
  have HSB := hid hs
  clear hs
  generalize hn : bs.length = n at *
  have HN := hid hn
  clear hn
  generalize hsc : scan bs 0 = sc at *
  obtain ⟨rs, bad⟩ := sc
  simp only at hf hro h1 h2 h3
  generalize badE bs = be at *
  generalize badA bs = ba at *
  generalize runesOf bs = L at *
  have HF := hid hf
  have HSC := hid hsc
  clear hf hsc
  cases bad with
  | some k =>
    obtain rfl : be = 9 := by simpa using h1
    obtain rfl : ba = k := by simpa using h2
    obtain rfl : L = [] := by simpa using h3
    clear h1 h2 h3
    go_enter Tryd.func9, Tryd.ntmps9
    go_wp2_with fail
    refine (HF.out _).mono ?_
    rintro e w1 ⟨rfl, hb1⟩
    simp only [placeI]
    have hq : Blk w1 w.heap.size 28 #[.int .i64 0, .int .i64 0] := (Blk.new w _ _).below hb1 (by simp)
    have c0 : w1.cell? ⟨w.heap.size, 0, none⟩ = some (.int .i64 0) := hq.cell 0
    have c1 : w1.cell? ⟨w.heap.size, 1, none⟩ = some (.int .i64 0) := hq.cell 1
    have f0 := hq.frozen 0
    have f1 := hq.frozen 1
    go_wp2
    refine bodyPost_ret (v := .tuple #[.slice none 0 0, .agg #[.int .i64 9, .int .i64 (ba : Int)]]) (by simp [results, Tryd.results9, go_sem, c0, c1]) rfl ⟨_, rfl, World.ownsRow_nil _ _ _ _, ?_⟩
    exact ((bw_t (bw_a (Below.refl _ _) _) hb1).setCell (p := ⟨w.heap.size, 0, none⟩) (Nat.le_refl _) _).setCell (p := ⟨w.heap.size, 1, none⟩) (Nat.le_refl _) _
  | none =>
    obtain rfl : be = 0 := by simpa using h1
    obtain rfl : ba = 0 := by simpa using h2
    obtain rfl : L = rs := by simpa using h3
    clear h1 h2 h3
    have HR := hid hro
    clear hro
    go_enter Tryd.func9, Tryd.ntmps9
    go_wp2_with fail
    refine (HF.out _).mono ?_
    rintro e w1 ⟨rfl, hb1⟩
    simp only [placeI]
    have hb01 : Below w.heap.size w w1 := bw_t (bw_a (Below.refl _ _) _) hb1
    have hq : Blk w1 w.heap.size 28 #[.int .i64 0, .int .i64 0] := (Blk.new w _ _).below hb1 (by simp)
    have hlt1 : w.heap.size < w1.heap.size := hq.lt
    clear hb1
    go_wp2
    go_loopw [5] (fun v wr => ∃ (pos : Nat) (pre : List Nat), pos ≤ n ∧ pre.length ≤ pos ∧ wr.heap[w1.heap.size]? = some (.stringIter s pos) ∧ Below w1.heap.size w1 wr ∧ wr.ownsRow (w1.heap.size + 1) 21 1 v pre.length (pre.map rv) ∧ (scan (bs.drop pos) pos).2 = none ∧ L = pre ++ (scan (bs.drop pos) pos).1) (fun _ wr => s.size - wr.iterPos w1.heap.size)
    case atStart => exact ⟨0, [], by omega, by simp, World.iter_heap w1 s 0, below_iter w1 s 0, World.ownsRow_nil _ _ _ _, by rw [List.drop_zero, HSC.out], by rw [List.drop_zero, HSC.out]; simp⟩
    case round =>
      obtain ⟨pos, pre, hpn, hpl, hit, hB, hrow, hs2, hs1⟩ := hrel
      have HS2 := hid hs2
      have HS1 := hid hs1
      clear hs2 hs1
      have hszr := hB.size
      have hltr : w1.heap.size < wr.heap.size := (Array.getElem?_eq_some_iff.1 hit).1
      by_cases hp : pos < s.size
      · have hnx : ∀ ty, (Instr.next (.pointer (some ⟨w1.heap.size, 0, none⟩)) true ty).run Tryd.prog wr = _ := fun ty => Lib.run_next_any_at wr w1.heap.size s pos ty hit hp
        obtain ⟨c, r, hd⟩ := drop_cons HN.out (by omega : pos < n)
        have ho := oneL_le (bs.drop pos)
        rw [List.length_drop, HN.out, hd] at ho
        have hdec := decode_at s bs pos c r HSB.out hd
        have hb := @scan_bad c r pos
        have hm := @scan_more c r pos
        have hv := @one_forth (c :: r)
        have HD := hid hd
        clear hd
        generalize hq2 : oneL (c :: r) = q at *
        obtain ⟨o, v⟩ := q
        simp only at ho hb hm hdec hv
        have ho0 : o ≠ 0 := by
          intro h
          have := HS2.out
          rw [HD.out, hb h] at this
          cases this
        rw [if_neg ho0] at hdec
        rw [hdec] at hnx
        have hv1 := runeI_le (hv ho0).1
        have HO := hid ho0
        have HM := hid (hm ho0)
        have hit2 := Lib.iterAt_heap wr w1.heap.size s pos (pos + o) hit
        have hB2 := Lib.below_iterAt hB (k := w1.heap.size) (Nat.le_refl _) s (pos + o)
        have hrow2 := ownsRow_iterAt hrow (k := w1.heap.size) (by omega) s (pos + o)
        have hsz2 : (wr.iterAt w1.heap.size s (pos + o)).heap.size = wr.heap.size := Lib.iterAt_size _ _ _ _
        clear hdec ho0 hb hm hq2 hv
        go_wp2_with (at_builtin; refine wpList_append_own _ rfl _ _ 25 rfl (w1.heap.size + 1) 21 i0 (.int .i32 0) 1 4 Tryd.underlying25 hi hz0 hz1 hz2 rfl (by decide) _ _ _ rfl (hrow2.alloc _) ⟨wr.heap.size, 0, none⟩ 1 1 [.int .i32 (v : Int)] rfl rfl (by rw [← hsz2]; exact cell_one_new _ _ _) (by simp [Value.oneCell']) (by simp only [maxLen]; omega) (by omega) (by simp; omega) ?_; intro v' w3 hown' hgrow _)
        have hg : Below w1.heap.size w1 w3 := (hB2.alloc (by omega) _).grown hgrow (by simp; omega) fun k ek => by have := (hrow2.lt k ek).1; omega
        have hit3 : w3.heap[w1.heap.size]? = some (.stringIter s (pos + o)) := heap_grown hgrow ((Below.heap_alloc _ _ _ (by omega)).trans hit2) (fun g eg => by have := (hrow2.lt g eg).1; omega)
        go_roundw
        case rel => exact ⟨pos + o, pre ++ [v], by omega, by have := HO.out; simp; omega, hit3, hg, by simpa [rv] using hown', by have := HS2.out; rw [HD.out, HM.out, ← HD.out, List.drop_drop] at this; exact this, by rw [HS1.out, HD.out, HM.out, ← HD.out, List.drop_drop]; simp⟩
        case measure =>
          have := HO.out
          simp only [World.iterPos, hit3, hit]; omega
      · have hnx : ∀ ty, (Instr.next (.pointer (some ⟨w1.heap.size, 0, none⟩)) true ty).run Tryd.prog wr = _ := fun ty => Lib.run_next_end_at wr w1.heap.size s pos ty hit hp
        have hfin : L = pre := by
          have := HS1.out
          rw [List.drop_eq_nil_of_le (by have := HN.out; omega), scan_nil] at this
          simpa using this
        have HFIN := hid hfin
        clear hfin
        have hqr := hq.below hB (by omega)
        have c0 : wr.cell? ⟨w.heap.size, 0, none⟩ = some (.int .i64 0) := hqr.cell 0
        have c1 : wr.cell? ⟨w.heap.size, 1, none⟩ = some (.int .i64 0) := hqr.cell 1
        have f0 := hqr.frozen 0
        have f1 := hqr.frozen 1
        go_wp2
        refine bodyPost_ret (v := .tuple #[u5, .agg #[.int .i64 0, .int .i64 0]]) (by simp [results, Tryd.results9, go_sem, c0, c1]) rfl ⟨_, rfl, by rw [HFIN.out]; exact own_mono (own_setBelow (own_setBelow hrow (p := ⟨w.heap.size, 0, none⟩) (by show w.heap.size < _; omega) _) (p := ⟨w.heap.size, 1, none⟩) (by show w.heap.size < _; omega) _) (by omega), ?_⟩
        exact ((bw_t hb01 hB).setCell (p := ⟨w.heap.size, 0, none⟩) (Nat.le_refl _) _).setCell (p := ⟨w.heap.size, 1, none⟩) (Nat.le_refl _) _
end Go.Proofs.YtapgjkbodfpdaaaDoor
