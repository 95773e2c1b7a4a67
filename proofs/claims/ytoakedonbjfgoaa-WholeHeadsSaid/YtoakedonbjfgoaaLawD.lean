/- The walk of VarintAll. -/
import Derived.Test.YtoakedonbjfgoaaLawC
set_option linter.unusedVariables false
namespace Go.Proofs.Ytoakedonbjfgoaa
open Go.RowKit
def flat (ns : List Nat) : List UInt8 := ns.flatMap putN
theorem flat_cons (n : Nat) (ns : List Nat) : flat (n :: ns) = putN n ++ flat ns := rfl
theorem flat_snoc (ns : List Nat) (n : Nat) : flat (ns ++ [n]) = flat ns ++ putN n := by simp [flat]
theorem allF_flat (ns : List Nat) : ∀ f acc p, (∀ n ∈ ns, n ≤ 18446744073709551615) → (flat ns).length ≤ f → M.allF f acc p (flat ns) = (acc ++ ns, 0, 0) := by
  induction ns with
  | nil => intro f acc p _ _; rw [show flat [] = [] from rfl, M.allF_end]; simp
  | cons n ns ih =>
    intro f acc p hb hf
    have hn := hb n (by simp)
    have hg := get_put (flat ns) hn
    have hp : 0 < (putN n).length := by rw [putN_size]; exact sizeN_pos n
    rw [flat_cons] at hf ⊢
    rw [M.allF_step (by rw [List.length_append]; omega) hf (by rw [hg]), hg]
    simp only [List.drop_left]
    rw [ih f _ _ (fun m hm => hb m (by simp [hm])) (by rw [List.length_append] at hf; omega)]
    simp
theorem all_flat {ns : List Nat} (hb : ∀ n ∈ ns, n ≤ 18446744073709551615) : M.all (flat ns) = (ns, 0, 0) := by
  rw [M.all, allF_flat ns _ _ _ hb (Nat.le_refl _)]; simp
theorem flat_length {ns : List Nat} (hb : ∀ n ∈ ns, n ≤ 18446744073709551615) : (flat ns).length ≤ 10 * ns.length := by
  induction ns with
  | nil => simp [flat]
  | cons n ns ih =>
    rw [flat_cons, List.length_append, List.length_cons]
    have := putN_length10 (hb n (by simp))
    have := ih fun m hm => hb m (by simp [hm])
    omega
theorem all_at (bs : List UInt8) (n : Nat) (A : Option Addr) (c : Nat) (w : World) (hn : bs.length = n) (hl : n ≤ 100000) (hR : Sl w A c (bs.map bv)) :
    Calls Try.prog 24 #[.slice A n c] w fun e w' => ∃ B d, e = .returned (.tuple #[.slice B (M.all bs).1.length d, .agg #[.int .i64 (M.all bs).2.1, .int .i64 (M.all bs).2.2]]) ∧ Sl w' B d ((M.all bs).1.map nv) ∧ Below w.heap.size w w' := by
  subst hn
  refine (all_any bs A c w hl hR).mono ?_
  rintro e w' ⟨v, rfl, ho, hb⟩
  obtain ⟨B, d, rfl, _, hs⟩ := Sl.of_own ho
  exact ⟨B, d, rfl, hs, hb⟩
theorem rall_at (bs : List UInt8) (n : Nat) (A : Option Addr) (c : Nat) (w : World) (hn : bs.length = n) (hl : n ≤ 100000) (hR : Sl w A c (bs.map bv)) :
    Calls Try.prog 25 #[.slice A n c] w fun e w' => ∃ B d, e = .returned (.tuple #[.slice B (M.all bs).1.length d, .agg #[.int .i64 (M.all bs).2.1, .int .i64 (M.all bs).2.2]]) ∧ Sl w' B d ((M.all bs).1.map nv) ∧ Below w.heap.size w w' := by
  subst hn
  refine (rall_any bs A c w hl hR).mono ?_
  rintro e w' ⟨v, rfl, ho, hb⟩
  obtain ⟨B, d, rfl, _, hs⟩ := Sl.of_own ho
  exact ⟨B, d, rfl, hs, hb⟩
theorem allF_length (f : Nat) : ∀ (acc : List Nat) (p : Nat) (b : List UInt8), (M.allF f acc p b).1.length ≤ acc.length + b.length := by
  induction f with
  | zero => intro acc p b; cases b <;> simp [M.allF]
  | succ f ih =>
    intro acc p b
    cases b with
    | nil => simp [M.allF]
    | cons x r =>
      rw [M.allF]
      split
      · simp
      · rename_i he
        have hk := (M.get_facts (x :: r)).1 (by omega)
        have := ih (acc ++ [(M.get (x :: r)).1]) (p + (M.get (x :: r)).2.1) ((x :: r).drop (M.get (x :: r)).2.1)
        rw [List.length_append, List.length_drop] at this
        simp at this ⊢
        simp at hk
        omega
theorem all_length (b : List UInt8) : (M.all b).1.length ≤ b.length := by have := allF_length b.length [] 0 b; simpa [M.all] using this
set_option maxRecDepth 100000 in
set_option maxHeartbeats 600000 in
theorem alls_any (bs : List UInt8) (ns : List Nat) (nb nn : Nat) (A0 A1 : Option Addr) (c0 c1 : Nat) (w : World) (hnb : bs.length = nb) (hnn : ns.length = nn) (hn64 : ∀ n ∈ ns, n ≤ 18446744073709551615)
    (hb : Sl w A0 c0 (bs.map bv)) (hn : Sl w A1 c1 (ns.map nv)) :
    Calls Try.prog 7 #[.slice A0 nb c0, .slice A1 nn c1] w fun e w' => e = .returned (.bool true) ∧ Below w.heap.size w w' := by
  subst hnb
  subst hnn
  by_cases hl : 1000 < bs.length
  · go_enter Try.func7, Try.ntmps7
    go_wp2_with fail
    refine (live1_any _).mono ?_
    rintro e w1 ⟨rfl, hb1⟩
    go_wp2_with fail
    go_ret
    exact ⟨rfl, hb1⟩
  by_cases hl2 : 100 < ns.length
  · go_enter Try.func7, Try.ntmps7
    go_wp2_with fail
    refine (live1_any _).mono ?_
    rintro e w1 ⟨rfl, hb1⟩
    go_wp2_with fail
    go_ret
    exact ⟨rfl, hb1⟩
  obtain ⟨i0, hi, hz0, hz1, hz2⟩ := info_parts Try.info5
  have ha1 := fun W h => all_at bs _ A0 c0 W rfl (by omega) h
  have ha2 := fun W h => rall_at bs _ A0 c0 W rfl (by omega) h
  have hal := all_length bs
  generalize M.all bs = g at *
  obtain ⟨ls, e, p⟩ := g
  simp only at ha1 ha2 hal
  have H1 := hid ha1
  have H2 := hid ha2
  clear ha1 ha2
  go_enter Try.func7, Try.ntmps7
  go_wp2_with fail
  refine (live1_any _).mono ?_
  rintro e' w1 ⟨rfl, hb1⟩
  go_wp2_with fail
  refine (H1.out _ (hb.below hb1)).mono ?_
  rintro e' w2 ⟨B, d, rfl, hs2, hb2⟩
  have hb02 := bw_t hb1 hb2
  go_wp2_with fail
  refine (H2.out _ (hb.below (bw_a hb02 _))).mono ?_
  rintro e' w3 ⟨B', d', rfl, hs3, hb3⟩
  have hs3' := hs2.below ((bw_t (bw_a (Below.refl w2.heap.size w2) _) hb3))
  have q2 := (Blk.new w2 39 #[.int .i64 (e : Int), .int .i64 (p : Int)]).below hb3 (by simp)
  have q20 : w3.cell? ⟨w2.heap.size, 0, none⟩ = some (.int .i64 (e : Int)) := q2.cell 0
  have q21 : w3.cell? ⟨w2.heap.size, 1, none⟩ = some (.int .i64 (p : Int)) := q2.cell 1
  have hz3 : w2.heap.size < w3.heap.size := q2.lt
  have hb03 := bw_t (bw_a hb02 (.cells #[.int .i64 (e : Int), .int .i64 (p : Int)] 39)) hb3
  go_wp2_with fail
  refine (nums_at ls ls _ _ _ _ _ _ _ rfl rfl (by omega) (hs3'.rd.below (bw_a (Below.refl _ _) _)) (hs3.rd.below (bw_a (Below.refl _ _) _))).mono ?_
  rw [decide_eq_true (rfl : ls = ls)]
  rintro e' w4 ⟨rfl, n4, rfl⟩
  have hb04 : Below w.heap.size w ((w3.alloc (.cells #[.int .i64 (e : Int), .int .i64 (p : Int)] 39)).drewN n4) := bw_d (bw_a hb03 _) n4
  generalize (w3.alloc (.cells #[.int .i64 (e : Int), .int .i64 (p : Int)] 39)).drewN n4 = w4 at *
  go_wp2_with fail
  go_loopw [9, 10] (fun v i wr => ∃ j : Nat, j ≤ ns.length ∧ i = .int .i64 (j : Int) ∧ wr.ownsRow w.heap.size 5 1 v (flat (ns.take j)).length ((flat (ns.take j)).map bv) ∧ Below w.heap.size w wr) (fun _ i _ => ns.length - (intOf i).toNat)
  case atStart => exact ⟨0, by omega, rfl, World.ownsRow_nil _ _ _ _, hb04⟩
  case round =>
    obtain ⟨j, hj, rfl, hrow, hB⟩ := hrel
    have hB64 : ∀ n ∈ ns.take j, n ≤ 18446744073709551615 := fun n h => hn64 n (List.mem_of_mem_take h)
    have hfl := flat_length hB64
    have hjl : (ns.take j).length ≤ 100 := by rw [List.length_take]; omega
    by_cases hlt : j < ns.length
    · obtain ⟨b, o, rfl, _, hcell⟩ := NRd.at_ (hn.below hB).rd hlt
      have hx := hn64 ns[j] (List.getElem_mem hlt)
      have hlx := putN_length10 hx
      have hsn : flat (ns.take (j + 1)) = flat (ns.take j) ++ putN ns[j] := by rw [List.take_succ_eq_append_getElem hlt, flat_snoc]
      have HSN := hid hsn
      clear hsn
      generalize ns[j] = x at *
      go_wp2_with (first | (go_at_call 14; refine (vput_any x _ hx).mono ?_; rintro e' w5 ⟨A5, c5, rfl, hs5, hb5⟩; have hrow5 := hrow.kept (row := none) ⟨hb5.os, hb5.tape, hb5.output, hb5.size, fun k hk _ => hb5.block k hk⟩ (by cases hv : u9.ownBlock <;> simp)) | (at_builtin; refine wpList_append_rd rfl (.tmp 48) (.tmp 53) 24 rfl w.heap.size 5 i0 (.int .u8 0) 1 1 Try.underlying24 hi hz0 hz1 hz2 rfl (by decide) _ _ _ rfl hrow5 A5 (putN x).length c5 ((putN x).map bv) rfl (by simp) hs5.rd hs5.nil0 (bv_one _) (by simp only [maxLen]; omega) (by omega) (Nat.le_trans hB.size hb5.size) ?_; intro v6 w6 hown6 hgrow6))
      have hb6 : Below w.heap.size w w6 := bw_g (bw_t hB hb5) hgrow6 (fun k ek => (hrow5.lt k ek).1)
      go_roundw
      case rel => exact ⟨j + 1, by omega, by go_num, by rw [HSN.out, List.length_append, List.map_append]; exact hown6, hb6⟩
      case measure => simp [intOf] <;> omega
    · obtain rfl : j = ns.length := by omega
      have hall := all_flat hn64
      rw [List.take_length] at hrow hfl
      clear hB64 hjl hj
      obtain ⟨A5, c5, rfl, -, hs5⟩ := Sl.of_own hrow
      have HALL := hid hall
      clear hall
      go_wp2_with fail
      refine (all_at (flat ns) _ A5 c5 _ rfl (by omega) hs5).mono ?_
      rw [HALL.out]
      rintro e' w6 ⟨B6, d6, rfl, hs6, hb6⟩
      have hb06 := bw_t hB hb6
      go_wp2_with fail
      refine (nums_at ns ns _ _ _ _ _ _ _ rfl rfl (by omega) (hs6.rd.below (bw_a (Below.refl _ _) _)) (hn.rd.below (bw_a hb06 _))).mono ?_
      rw [decide_eq_true (rfl : ns = ns)]
      rintro e' w7 ⟨rfl, n7, rfl⟩
      go_wp2_with fail
      go_ret
      exact ⟨rfl, bw_d (bw_a hb06 _) _⟩
end Go.Proofs.Ytoakedonbjfgoaa
