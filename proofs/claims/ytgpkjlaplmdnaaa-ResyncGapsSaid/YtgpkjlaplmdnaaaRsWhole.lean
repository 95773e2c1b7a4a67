/- resync.Whole. -/
import Derived.Test.YtgpkjlaplmdnaaaRsAll
set_option linter.unusedVariables false
namespace Go.Proofs.Ytgpkjlaplmdnaaa
open Go.RowKit
theorem Try.info3 : (Try.prog.info? 3).map (fun i => (i.zero, i.size, i.bytes)) = some (some (.int .i64 0), 1, 8) := by kernel_rfl
def iv (k : Nat) : Value := .int .i64 (k : Int)
set_option maxRecDepth 100000 in
set_option maxHeartbeats 2000000 in
theorem swhole_any (bs : List UInt8) (n : Nat) (A : Option Addr) (c : Nat) (w : World) (hn : bs.length = n) (hl : n ≤ 1000000) (hs : Sl w A c (bs.map bv)) :
    Calls Try.prog 26 #[.slice A n c] w fun e w' => ∃ v, e = .returned v ∧ w'.ownsRow w.heap.size 3 1 v (Rs.whole bs n).length ((Rs.whole bs n).map iv) ∧ Below w.heap.size w w' := by
  obtain ⟨i0, hi, hz0, hz1, hz2⟩ := info_parts Try.info3
  have hcap := hs.cap
  have hsm := hs.small
  rw [List.length_map, hn] at hcap
  have HN := hid hn
  have HS := hid hs
  clear hn hs
  go_enter Try.func26, Try.ntmps26
  go_wp2_with fail
  go_loopw [3, 4, 5, 6, 7, 10] (fun v _ _ _ _ i wr => ∃ (k : Nat) (Ao : Option Addr) (co : Nat), k ≤ n ∧ i = .int .i64 (k : Int) ∧ v = .slice Ao (Rs.whole bs k).length co ∧ wr.ownsRow w.heap.size 3 1 (.slice Ao (Rs.whole bs k).length co) (Rs.whole bs k).length ((Rs.whole bs k).map iv) ∧ Below w.heap.size w wr) (fun _ _ _ _ _ i _ => n - (intOf i).toNat)
  case atStart => exact ⟨0, none, 0, by omega, rfl, rfl, World.ownsRow_nil _ _ _ _, Below.refl _ _⟩
  case round =>
    obtain ⟨k, Ao, co, hk, rfl, rfl, ho, hB⟩ := hrel
    by_cases hlt : k < n
    · have hsl := HS.out.below hB
      obtain ⟨b, off, rfl, hbl, -⟩ := BRd.at_ hsl.rd (k := k) (by rw [HN.out]; exact hlt)
      have hcut := hsl.cut k (by rw [HN.out]; omega)
      have hcA : cutA (some ⟨b, off, none⟩) c k = some ⟨b, off + k, none⟩ := by unfold cutA; rw [if_neg (by omega)]; simp [addr_add]
      rw [hcA] at hcut
      have hrd := fread_any (bs.drop k) (n - k) (some ⟨b, off + k, none⟩) (c - k) wr (by rw [List.length_drop, HN.out]) hcut
      have hws := Rs.whole_succ bs k
      have hwl := Rs.whole_len bs k
      have hkn : (k : Int) < (n : Int) := by omega
      have hk0 : (0 : Int) ≤ (k : Int) := by omega
      have hkc : (k : Int) ≤ (c : Int) := by omega
      have hck : ¬ c = k := by omega
      have hsz := hB.size
      generalize Rs.whole bs k = l at *
      obtain ⟨ll, hll⟩ : ∃ m, l.length = m := ⟨_, rfl⟩
      rw [hll] at ho hwl ⊢
      have HLL := hid hll
      have HB := hid hB
      clear hll hcut hcA hsl hB
      by_cases h0 : Fr.rE (bs.drop k) = 0
      · have hr := hrd.mono (fun e w' h => RdR.ok h h0)
        rw [if_pos h0] at hws
        generalize Fr.ln (bs.drop k) = L at *
        generalize (Fr.ty (bs.drop k)).toNat = ty at *
        have HR := hid hr
        have HWS := hid hws
        have HO := hid ho
        clear hr hrd h0 hws ho
        go_wp2_with fail
        refine HR.out.mono ?_
        rintro e w1 ⟨A1, c1, rfl, -, hb⟩
        have hO1 := own_below HO.out (bw_a (bw_a hb (.cells #[.int .u8 (ty : Int), .slice A1 L c1] 24)) (.cells #[.int .i64 (k : Int)] 3))
        have HO1 := hid hO1
        have HB1 := hid (bw_t HB.out (bw_a (bw_a hb (.cells #[.int .u8 (ty : Int), .slice A1 L c1] 24)) (.cells #[.int .i64 (k : Int)] 3)))
        have hrd1 := (Rd.new (w1.alloc (.cells #[.int .u8 (ty : Int), .slice A1 L c1] 24)) 3 #[.int .i64 (k : Int)])
        rw [World.size_alloc] at hrd1
        have HRD := hid hrd1
        clear hO1 hb hrd1
        go_wp2_with (at_builtin; refine wpList_append_rd rfl (.tmp 23) (.tmp 25) 44 rfl w.heap.size 3 i0 (.int .i64 0) 1 8 Try.underlying44 hi hz0 hz1 hz2 rfl (by decide) _ _ _ rfl HO1.out (some ⟨w1.heap.size + 1, 0, none⟩) 1 1 [.int .i64 (k : Int)] rfl rfl HRD.out (fun h => by cases h) (by simp [Value.oneCell']) (by simp only [maxLen]; omega) (by omega) HB1.out.size ?_; intro v2 w2 hown2 hgrow2; obtain ⟨A2, c2, rfl⟩ := row_slice_g hown2; have HO2 := hid hown2; have HB2 := hid (bw_g HB1.out hgrow2 (fun k ek => (HO1.out.lt k ek).1)); clear hown2 hgrow2)
        go_roundw
        case rel =>
          refine ⟨k + 1, A2, c2, by omega, by go_num, ?_, ?_, HB2.out⟩
          · rw [HWS.out, List.length_append, HLL.out]; rfl
          · rw [HWS.out, List.length_append, HLL.out, List.map_append]; exact HO2.out
        case measure => simp [intOf]; omega
      · have hr := hrd.mono (fun e w' h => RdR.no h h0)
        rw [if_neg h0] at hws
        have hE : ((Fr.rE (bs.drop k) : Int) == 0) = false := by simp; exact h0
        generalize Fr.rE (bs.drop k) = E at *
        have HR := hid hr
        have HWS := hid hws
        have HO := hid ho
        clear hr hrd h0 hws ho
        go_wp2_with fail
        refine HR.out.mono ?_
        rintro e w1 ⟨rfl, hb⟩
        have HO1 := hid (own_below HO.out (bw_a hb (.cells #[.int .u8 0, .slice none 0 0] 24)))
        have HB1 := hid (bw_t HB.out (bw_a hb (.cells #[.int .u8 0, .slice none 0 0] 24)))
        clear hb
        go_wp2_with fail
        go_roundw
        case rel =>
          refine ⟨k + 1, Ao, co, by omega, by go_num, by rw [HWS.out, HLL.out], ?_, HB1.out⟩
          rw [HWS.out, HLL.out]; exact HO1.out
        case measure => simp [intOf]; omega
    · obtain rfl : k = n := by omega
      have HO := hid ho
      have HB := hid hB
      clear ho hB
      go_wp2_with fail
      go_ret
      exact ⟨_, rfl, HO.out, HB.out⟩
end Go.Proofs.Ytgpkjlaplmdnaaa
