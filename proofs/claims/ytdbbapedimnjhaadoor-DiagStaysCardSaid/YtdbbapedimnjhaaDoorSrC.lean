/- scalar: what stands for a byte within quotes (within), Quote, Put: walks. -/
import Derived.Test.YtdbbapedimnjhaaDoorProg
import Derived.Test.YtdbbapedimnjhaaDoorM1
import Derived.Test.YtdbbapedimnjhaaDoorSrMath
import Derived.Test.YtdbbapedimnjhaaDoorSrA
import Derived.Test.YtdbbapedimnjhaaDoorSrB
import Derived.Test.YtdbbapedimnjhaaDoorUt
import Derived.Lib.Walk
import Derived.WalkSmall
import Derived.Deep.RegionHeld3
import Derived.Deep.AppendLies
import Derived.Deep.RegionLaw
import Derived.BigRegion
import Derived.Laws.BytesArg
import Derived.IntWalk
set_option linter.unusedVariables false
namespace Go.Proofs.YtdbbapedimnjhaaDoor
open Go.RowKit
theorem conv_ow {P : Program} {w : World} {B t : Nat} {src dst e : TypeId} {v : Value} {n : Nat} {vs : List UInt8} (hrow : w.ownsRow B t 1 v n (vs.map bv)) (hs : P.underlying src = some (.slice e)) (he : P.underlying e = some (.int .u8)) (hd : P.underlying dst = some .string) :
    ∃ s : ByteArray, s.data.toList = vs ∧ (convert src dst v).run P w = .ok (.string s) w := by
  obtain ⟨A, c, rfl, hn, hsl⟩ := Sl.of_own hrow
  rw [List.length_map] at hn
  subst hn
  cases A with
  | none =>
    obtain hnil := hsl.rd.none_nil
    obtain rfl : vs = [] := by simpa using hnil
    obtain rfl := hsl.nil0 rfl
    refine ⟨⟨#[]⟩, rfl, ?_⟩
    exact run_convert_bytes_nil w src e hs he 0 0 dst hd
  | some a =>
    refine ⟨⟨vs.toArray⟩, by simp, ?_⟩
    exact run_convert_bytes_back _ src dst e _ _ vs hs he hd fun j hj => by
      have := hsl.rd.addr j (bv vs[j]) (by simp [hj])
      simpa [bv] using this
theorem bv92 : bv 92 = .int .u8 92 := rfl
theorem bv110 : bv 110 = .int .u8 110 := rfl
theorem bv116 : bv 116 = .int .u8 116 := rfl
theorem bv120 : bv 120 = .int .u8 120 := rfl
theorem ix_dig : ∀ k : Nat, k < 16 → ∀ w : World, (Instr.index 9 (.string ⟨#[48, 49, 50, 51, 52, 53, 54, 55, 56, 57, 97, 98, 99, 100, 101, 102]⟩) (.int .i64 (k : Int))).run Tryd.prog w = .ok (.int .u8 ((hxD k).toNat : Int)) w
  | 0, _ => fun w => by kernel_rfl
  | 1, _ => fun w => by kernel_rfl
  | 2, _ => fun w => by kernel_rfl
  | 3, _ => fun w => by kernel_rfl
  | 4, _ => fun w => by kernel_rfl
  | 5, _ => fun w => by kernel_rfl
  | 6, _ => fun w => by kernel_rfl
  | 7, _ => fun w => by kernel_rfl
  | 8, _ => fun w => by kernel_rfl
  | 9, _ => fun w => by kernel_rfl
  | 10, _ => fun w => by kernel_rfl
  | 11, _ => fun w => by kernel_rfl
  | 12, _ => fun w => by kernel_rfl
  | 13, _ => fun w => by kernel_rfl
  | 14, _ => fun w => by kernel_rfl
  | 15, _ => fun w => by kernel_rfl
  | k + 16, h => absurd h (by omega)
theorem dig_at : ∀ k : Nat, k < 16 → ∀ h : k < 16, (((⟨#[48, 49, 50, 51, 52, 53, 54, 55, 56, 57, 97, 98, 99, 100, 101, 102]⟩ : ByteArray)[k]'h).toNat : Int) = ((hxD k).toNat : Int) := by
  intro k _ h
  have : ∀ k : Fin 16, (((⟨#[48, 49, 50, 51, 52, 53, 54, 55, 56, 57, 97, 98, 99, 100, 101, 102]⟩ : ByteArray)[k.1]'k.2).toNat : Int) = ((hxD k.1).toNat : Int) := by decide +kernel
  exact this ⟨k, h⟩
theorem bw_new {B : Nat} {w w1 : World} {o : Obj} {v : Value} {t n : Nat} {xs : List Value} (hB : B ≤ w.heap.size) (hrow : w.ownsRow B t 1 v n xs) (hg : (w.alloc o).grownBy w1 v.ownBlock) : Below B w w1 :=
  ((Below.refl B w).alloc hB o).grown hg (by simp; omega) fun k ek => (hrow.lt k ek).1
set_option maxRecDepth 100000 in
set_option maxHeartbeats 4000000 in
theorem within_any (x : UInt8) (xn : Nat) (v : Value) (n B : Nat) (xs : List Value) (w : World) (hx : x.toNat = xn) (hB : B ≤ w.heap.size) (hn : n ≤ 100000000) (hrow : w.ownsRow B 5 1 v n xs) :
    Calls Tryd.prog 57 #[v, .int .u8 (xn : Int)] w fun e w' => ∃ v', e = .returned v' ∧ w'.ownsRow B 5 1 v' (n + (qB x).length) (xs ++ (qB x).map bv) ∧ Below B w w' := by
  obtain ⟨i0, hi, hz0, hz1, hz2⟩ := info_parts Tryd.info5
  have hlt : xn < 256 := by have := x.toNat_lt; omega
  have hq : qB x = if xn = 34 ∨ xn = 92 then [92, x] else if xn = 10 then [92, 110] else if xn = 9 then [92, 116] else if hidN xn = true then [92, 120, hxD (xn / 16), hxD (xn % 16)] else [x] := by rw [qB, hx]
  have hbx : bv x = .int .u8 (xn : Int) := by rw [bv, hx]
  have HQ := hid hq
  have HBX := hid hbx
  have HHD := hid fun w => hidden_any xn w hlt
  clear hq hbx hx
  by_cases a1 : xn = 34 ∨ xn = 92
  · have hqe : qB x = [92, x] := by rw [HQ.out, if_pos a1]
    rw [hqe]
    have HF : ∀ y : Int, [Value.int .u8 92, .int .u8 y].length = 2 := fun _ => rfl
    rcases a1 with rfl | rfl
    · go_enter Tryd.func57, Tryd.ntmps57
      go_wp2_with (at_builtin; refine wpList_append_rd rfl (.tmp 12) (.tmp 14) 46 rfl B 5 i0 (.int .u8 0) 1 1 Tryd.underlying46 hi hz0 hz1 hz2 rfl (by decide) _ _ _ rfl (hrow.alloc _) (some ⟨w.heap.size, 0, none⟩) 2 2 [.int .u8 92, .int .u8 34] rfl rfl (Rd.new w 5 #[.int .u8 92, .int .u8 34]) (fun h => by cases h) (by simp [Value.oneCell']) (by simp only [maxLen]; omega) (by omega) (by simp; omega) ?_; intro v1 w1 hown1 hgrow1)
      go_ret
      exact ⟨_, rfl, by simpa [HBX.out, bv92] using hown1, bw_new hB hrow hgrow1⟩
    · go_enter Tryd.func57, Tryd.ntmps57
      go_wp2_with (at_builtin; refine wpList_append_rd rfl (.tmp 12) (.tmp 14) 46 rfl B 5 i0 (.int .u8 0) 1 1 Tryd.underlying46 hi hz0 hz1 hz2 rfl (by decide) _ _ _ rfl (hrow.alloc _) (some ⟨w.heap.size, 0, none⟩) 2 2 [.int .u8 92, .int .u8 92] rfl rfl (Rd.new w 5 #[.int .u8 92, .int .u8 92]) (fun h => by cases h) (by simp [Value.oneCell']) (by simp only [maxLen]; omega) (by omega) (by simp; omega) ?_; intro v1 w1 hown1 hgrow1)
      go_ret
      exact ⟨_, rfl, by simpa [HBX.out, bv92] using hown1, bw_new hB hrow hgrow1⟩
  have q34 : ((xn : Int) == 34) = false := by simp; omega
  have q92 : ((xn : Int) == 92) = false := by simp; omega
  by_cases a2 : xn = 10
  · have hqe : qB x = [92, 110] := by rw [HQ.out, if_neg a1, if_pos a2]
    rw [hqe]
    subst a2
    go_enter Tryd.func57, Tryd.ntmps57
    go_wp2_with (at_builtin; refine wpList_append_rd rfl (.tmp 19) (.tmp 20) 46 rfl B 5 i0 (.int .u8 0) 1 1 Tryd.underlying46 hi hz0 hz1 hz2 rfl (by decide) _ _ _ rfl (hrow.alloc _) (some ⟨w.heap.size, 0, none⟩) 2 2 [.int .u8 92, .int .u8 110] rfl rfl (Rd.new w 5 #[.int .u8 92, .int .u8 110]) (fun h => by cases h) (by simp [Value.oneCell']) (by simp only [maxLen]; omega) (by omega) (by simp; omega) ?_; intro v1 w1 hown1 hgrow1)
    go_ret
    exact ⟨_, rfl, by simpa [bv92, bv110, bv116] using hown1, bw_new hB hrow hgrow1⟩
  have q10 : ((xn : Int) == 10) = false := by simp; omega
  by_cases a3 : xn = 9
  · have hqe : qB x = [92, 116] := by rw [HQ.out, if_neg a1, if_neg a2, if_pos a3]
    rw [hqe]
    subst a3
    go_enter Tryd.func57, Tryd.ntmps57
    go_wp2_with (at_builtin; refine wpList_append_rd rfl (.tmp 25) (.tmp 26) 46 rfl B 5 i0 (.int .u8 0) 1 1 Tryd.underlying46 hi hz0 hz1 hz2 rfl (by decide) _ _ _ rfl (hrow.alloc _) (some ⟨w.heap.size, 0, none⟩) 2 2 [.int .u8 92, .int .u8 116] rfl rfl (Rd.new w 5 #[.int .u8 92, .int .u8 116]) (fun h => by cases h) (by simp [Value.oneCell']) (by simp only [maxLen]; omega) (by omega) (by simp; omega) ?_; intro v1 w1 hown1 hgrow1)
    go_ret
    exact ⟨_, rfl, by simpa [bv92, bv110, bv116] using hown1, bw_new hB hrow hgrow1⟩
  have q9 : ((xn : Int) == 9) = false := by simp; omega
  by_cases a4 : hidN xn = true
  · have hqe : qB x = [92, 120, hxD (xn / 16), hxD (xn % 16)] := by rw [HQ.out, if_neg a1, if_neg a2, if_neg a3, if_pos a4]
    rw [hqe]
    have hal2 : ∀ w, Calls Tryd.prog 67 #[.int .u8 (xn : Int)] w fun e w' => e = .returned (.bool true) ∧ w = w' := fun w => by have := HHD.out w; rwa [a4] at this
    have HAL2 := hid hal2
    clear hal2 a4
    have hk1 : xn / 16 < 16 := by omega
    have hk2 : xn % 16 < 16 := by omega
    have hi1 := fun w => ix_dig (xn / 16) hk1 w
    have hi2 := fun w => ix_dig (xn % 16) hk2 w
    have he1 : (xn : Int) / 16 = ((xn / 16 : Nat) : Int) := by omega
    have he2 : (xn : Int) % 16 = ((xn % 16 : Nat) : Int) := by omega
    have hw0 : IntKind.i64.wrap (xn : Int) = (xn : Int) := IntWalk.i64_in _ (by omega)
    have hw1 : IntKind.i64.wrap ((xn : Int).tdiv 16) = ((xn / 16 : Nat) : Int) := by rw [Int.tdiv_eq_ediv_of_nonneg (by omega), IntWalk.i64_in _ (by omega)]; omega
    have hw2 : IntKind.i64.wrap ((xn : Int).tmod 16) = ((xn % 16 : Nat) : Int) := by rw [Int.tmod_eq_emod_of_nonneg (by omega), IntWalk.i64_in _ (by omega)]; omega
    have hw3 : IntKind.i64.wrap ((xn / 16 : Nat) : Int) = ((xn / 16 : Nat) : Int) := IntWalk.i64_in _ (by omega)
    have hw4 : IntKind.i64.wrap ((xn % 16 : Nat) : Int) = ((xn % 16 : Nat) : Int) := IntWalk.i64_in _ (by omega)
    have hw5 : (xn : Int).tdiv 16 = ((xn / 16 : Nat) : Int) := by rw [Int.tdiv_eq_ediv_of_nonneg (by omega)]; omega
    have hw6 : (xn : Int).tmod 16 = ((xn % 16 : Nat) : Int) := by rw [Int.tmod_eq_emod_of_nonneg (by omega)]; omega
    have hc1 := dig_at (xn / 16) hk1
    have hc2 := dig_at (xn % 16) hk2
    have hl1 : ((xn / 16 : Nat) : Int) < 16 := by omega
    have hl2 : ((xn % 16 : Nat) : Int) < 16 := by omega
    have hm1 : 0 ≤ ((xn / 16 : Nat) : Int) := by omega
    have hm2 : 0 ≤ ((xn % 16 : Nat) : Int) := by omega
    generalize hd1 : hxD (xn / 16) = d1 at *
    generalize hd2 : hxD (xn % 16) = d2 at *
    clear hd1 hd2
    generalize xn / 16 = ka at *
    generalize xn % 16 = kb at *
    clear HQ hqe
    go_enter Tryd.func57, Tryd.ntmps57
    go_wp2_with (go_at_call 67; refine (HAL2.out _).mono ?_; rintro e w1 ⟨rfl, rfl⟩)
    go_region_law (refine step_append_lies _ (by rfl) _ _ _ (by rfl) B 5 i0 _ 1 1 Tryd.underlying46 hi hz0 hz1 hz2 rfl (by omega) v n xs (by rfl) ((hrow.alloc _).drew) ⟨w.heap.size, 0, none⟩ 4 4 [.int .u8 92, .int .u8 120, .int .u8 (d1.toNat : Int), .int .u8 (d2.toNat : Int)] (by rfl) (by rfl) (World.news_of_block (cs := #[.int .u8 92, .int .u8 120, .int .u8 (d1.toNat : Int), .int .u8 (d2.toNat : Int)]) (t := 5) (fr := (0, 0)) (heap_alloc_new w _)) (by simp [Value.oneCell']) (by omega) (by simp only [maxLen]; omega) (by omega) (by simp; omega) (w.heap.size + 1) (by simp) ?_; intro gg cap w1 hown1 hgrow hat hlt)
    all_goals
      go_wp2_with fail
      go_ret
      exact ⟨.slice (some ⟨gg, 0, none⟩) (n + 4) cap, rfl, by simpa [bv92, bv120, bv] using hown1, (((Below.refl B w).alloc hB _).trans ⟨rfl, rfl, rfl, Nat.le_refl _, fun _ _ => rfl⟩ : Below B w (w.alloc (.cells #[.int .u8 92, .int .u8 120, .int .u8 (d1.toNat : Int), .int .u8 (d2.toNat : Int)] 5)).drew).grown hgrow (by simp; omega) fun k ek => (hrow.lt k ek).1⟩
  · have hqe : qB x = [x] := by rw [HQ.out, if_neg a1, if_neg a2, if_neg a3, if_neg a4]
    rw [hqe]
    have hal2 : ∀ w, Calls Tryd.prog 67 #[.int .u8 (xn : Int)] w fun e w' => e = .returned (.bool false) ∧ w = w' := fun w => by have := HHD.out w; rwa [show hidN xn = false from by simpa using a4] at this
    have HAL2 := hid hal2
    clear hal2 a4
    go_enter Tryd.func57, Tryd.ntmps57
    go_wp2_with (first | (go_at_call 67; refine (HAL2.out _).mono ?_; rintro e w1 ⟨rfl, rfl⟩) | (at_builtin; refine wpList_append_rd rfl (.tmp 42) (.tmp 44) 46 rfl B 5 i0 (.int .u8 0) 1 1 Tryd.underlying46 hi hz0 hz1 hz2 rfl (by decide) _ _ _ rfl (hrow.alloc _) (some ⟨w.heap.size, 0, none⟩) 1 1 [.int .u8 (xn : Int)] rfl rfl (Rd.new w 5 #[.int .u8 (xn : Int)]) (fun h => by cases h) (by simp [Value.oneCell']) (by simp only [maxLen]; omega) (by omega) (by simp; omega) ?_; intro v1 w1 hown1 hgrow1))
    go_ret
    exact ⟨_, rfl, by simpa [HBX.out, bv92] using hown1, bw_new hB hrow hgrow1⟩
end Go.Proofs.YtdbbapedimnjhaaDoor
