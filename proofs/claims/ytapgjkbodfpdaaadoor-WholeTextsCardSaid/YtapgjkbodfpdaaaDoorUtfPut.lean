/- utf.put: a walk. -/
import Derived.Test.YtapgjkbodfpdaaaDoorProg
import Derived.Test.YtapgjkbodfpdaaaDoorBase
import Derived.Test.YtapgjkbodfpdaaaDoorInfo8
import Derived.Test.YtapgjkbodfpdaaaDoorUtfWidth
import Derived.WalkSmall
import Derived.Deep.RegionHeld3
import Derived.Deep.AppendLies
import Derived.IntWalk
set_option linter.unusedVariables false
namespace Go.Proofs.YtapgjkbodfpdaaaDoor
open Go.RowKit
set_option maxRecDepth 100000 in
set_option maxHeartbeats 1000000 in
theorem uput1_any (m : Nat) (v : Value) (n B : Nat) (xs : List Value) (w : World) (h1 : 0 ≤ m) (h2 : m < 128) (hT : Tab w) (hg : 0 < B) (hh : 1 < B) (hB : B ≤ w.heap.size) (hn : n ≤ 1000000) (hrow : w.ownsRow B 5 1 v n xs) :
    Calls Tryd.prog 14 #[v, .int .i32 m, .int .i64 1] w fun e w' => ∃ v', e = .returned v' ∧ w'.ownsRow B 5 1 v' (n + 1) (xs ++ [b8 m].map bv) ∧ Below B w w' := by
  obtain ⟨i0, hi, hz0, hz1, hz2⟩ := info_parts Tryd.info5
  have c1 := hT.2.cell0 0 rfl
  clear hT
  have hw1 : IntKind.i64.wrap 0 = 0 := by decide
  have hw2 : IntKind.u8.wrap ((m : Int)) = (m : Int) := IntWalk.u8_in _ (by omega)
  have hw3 : IntKind.u8.wrap (0 + (m : Int)) = 0 + (m : Int) := IntWalk.u8_in _ (by omega)
  have hown0 : some 1 ≠ v.ownBlock := by
    intro h
    have := (hrow.lt _ h.symm).1
    omega
  have hL : (bv (b8 m)) = .int .u8 ((m : Int)) := by rw [bv_b8 _ (by omega)]
  have HL := hid hL
  clear hL
  go_enter Tryd.func14, Tryd.ntmps14
  go_wp2_with fail
  go_region_held3 (fun w' => w'.cell? ⟨1, 0, none⟩ = some (.int .u8 0)) (first | go_keep | ((rw [hgrow.cell_far _ (by simp; omega) hown0]); assumption)) ((refine step_append_lies _ (by rfl) _ _ _ (by rfl) B 5 i0 _ 1 1 Tryd.underlying24 hi hz0 hz1 hz2 rfl (by omega) v n xs (by rfl) ((hrow.alloc _).drew) ⟨w.heap.size, 0, none⟩ 1 1 [.int .u8 ((m : Int))] (by rfl) (by rfl) (World.news_of_block (cs := #[.int .u8 ((m : Int))]) (t := 5) (fr := (0, 0)) (heap_alloc_new w _)) (by simp [Value.oneCell']) (by omega) (by simp only [maxLen]; omega) (by omega) (by simp; omega) (w.heap.size + 1) (by simp) ?_; intro gg cap w1 hown1 hgrow hat hlt))
  have hB1 : Below B w w1 := (((Below.refl _ w).alloc hB _).trans ⟨rfl, rfl, rfl, Nat.le_refl _, fun _ _ => rfl⟩ : Below B w (w.alloc (.cells #[.int .u8 ((m : Int))] 5)).drew).grown hgrow (by simp; omega) fun k ek => (hrow.lt k ek).1
  go_wp2_with fail
  go_loopw [0, 7] (fun bv' lf wr => ∃ j : Nat, j ≤ 0 ∧ lf = .int .i64 ((6 * j : Nat) : Int) ∧ wr.ownsRow B 5 1 bv' (n + (1 - j)) (xs ++ ([b8 m].take (1 - j)).map bv) ∧ Below B w wr) (fun _ lf _ => (intOf lf).toNat)
  case atStart => exact ⟨0, by omega, rfl, by rw [show 1 - 0 = 1 from rfl]; simpa [HL.out] using hown1, hB1⟩
  case round =>
    obtain ⟨j, hj, rfl, hrw, hbr⟩ := hrel
    have hszr := hbr.size
    obtain rfl : j = 0 := by omega
    · go_wp2
      go_ret
      exact ⟨_, rfl, by simpa using hrw, hbr⟩
set_option maxRecDepth 100000 in
set_option maxHeartbeats 1000000 in
theorem uput2_any (m : Nat) (v : Value) (n B : Nat) (xs : List Value) (w : World) (h1 : 128 ≤ m) (h2 : m < 2048) (hT : Tab w) (hg : 0 < B) (hh : 1 < B) (hB : B ≤ w.heap.size) (hn : n ≤ 1000000) (hrow : w.ownsRow B 5 1 v n xs) :
    Calls Tryd.prog 14 #[v, .int .i32 m, .int .i64 2] w fun e w' => ∃ v', e = .returned v' ∧ w'.ownsRow B 5 1 v' (n + 2) (xs ++ [b8 (192 + m / 64), b8 (128 + m % 64)].map bv) ∧ Below B w w' := by
  obtain ⟨i0, hi, hz0, hz1, hz2⟩ := info_parts Tryd.info5
  have c1 := hT.2.cell0 1 rfl
  clear hT
  have hw1 : IntKind.i64.wrap 1 = 1 := by decide
  have hw2 : IntKind.u8.wrap ((m : Int) / 64) = (m : Int) / 64 := IntWalk.u8_in _ (by omega)
  have hw3 : IntKind.u8.wrap (192 + (m : Int) / 64) = 192 + (m : Int) / 64 := IntWalk.u8_in _ (by omega)
  have hown0 : some 1 ≠ v.ownBlock := by
    intro h
    have := (hrow.lt _ h.symm).1
    omega
  have hL : (bv (b8 (192 + m / 64))) = .int .u8 (192 + (m : Int) / 64) := by rw [bv_b8 _ (by omega)]; rfl
  have HL := hid hL
  clear hL
  go_enter Tryd.func14, Tryd.ntmps14
  go_wp2_with fail
  go_region_held3 (fun w' => w'.cell? ⟨1, 1, none⟩ = some (.int .u8 192)) (first | go_keep | ((rw [hgrow.cell_far _ (by simp; omega) hown0]); assumption)) ((refine step_append_lies _ (by rfl) _ _ _ (by rfl) B 5 i0 _ 1 1 Tryd.underlying24 hi hz0 hz1 hz2 rfl (by omega) v n xs (by rfl) ((hrow.alloc _).drew) ⟨w.heap.size, 0, none⟩ 1 1 [.int .u8 (192 + (m : Int) / 64)] (by rfl) (by rfl) (World.news_of_block (cs := #[.int .u8 (192 + (m : Int) / 64)]) (t := 5) (fr := (0, 0)) (heap_alloc_new w _)) (by simp [Value.oneCell']) (by omega) (by simp only [maxLen]; omega) (by omega) (by simp; omega) (w.heap.size + 1) (by simp) ?_; intro gg cap w1 hown1 hgrow hat hlt))
  have hB1 : Below B w w1 := (((Below.refl _ w).alloc hB _).trans ⟨rfl, rfl, rfl, Nat.le_refl _, fun _ _ => rfl⟩ : Below B w (w.alloc (.cells #[.int .u8 (192 + (m : Int) / 64)] 5)).drew).grown hgrow (by simp; omega) fun k ek => (hrow.lt k ek).1
  go_wp2_with fail
  go_loopw [0, 7] (fun bv' lf wr => ∃ j : Nat, j ≤ 1 ∧ lf = .int .i64 ((6 * j : Nat) : Int) ∧ wr.ownsRow B 5 1 bv' (n + (2 - j)) (xs ++ ([b8 (192 + m / 64), b8 (128 + m % 64)].take (2 - j)).map bv) ∧ Below B w wr) (fun _ lf _ => (intOf lf).toNat)
  case atStart => exact ⟨1, by omega, rfl, by rw [show 2 - 1 = 1 from rfl]; simpa [HL.out] using hown1, hB1⟩
  case round =>
    obtain ⟨j, hj, rfl, hrw, hbr⟩ := hrel
    have hszr := hbr.size
    rcases (by omega : j = 0 ∨ j = 1) with rfl | rfl
    · go_wp2
      go_ret
      exact ⟨_, rfl, by simpa using hrw, hbr⟩
    · have hx : bv (b8 (128 + m % 64)) = .int .u8 (128 + (m : Int) % 64) := by rw [bv_b8 _ (by omega)]; rfl
      have HX := hid hx
      clear hx
      go_wp2_with (at_builtin; refine wpList_append_own _ rfl _ _ 24 rfl B 5 i0 (.int .u8 0) 1 1 Tryd.underlying24 hi hz0 hz1 hz2 rfl (by decide) _ _ _ rfl (hrw.alloc _) ⟨wr.heap.size, 0, none⟩ 1 1 [.int .u8 (128 + (m : Int) % 64)] rfl rfl (cell_one_new _ _ _) (by simp [Value.oneCell']) (by simp only [maxLen]; omega) (by omega) (by simp; omega) ?_; intro v' w3 hown' hgrow' _)
      go_roundw
      case rel => exact ⟨0, by omega, rfl, by simpa [HX.out] using hown', (hbr.alloc (by omega) _).grown hgrow' (by simp; omega) fun k ek => (hrw.lt k ek).1⟩
      case measure => simp [intOf]
set_option maxRecDepth 100000 in
set_option maxHeartbeats 1000000 in
theorem uput3_any (m : Nat) (v : Value) (n B : Nat) (xs : List Value) (w : World) (h1 : 2048 ≤ m) (h2 : m < 65536) (hT : Tab w) (hg : 0 < B) (hh : 1 < B) (hB : B ≤ w.heap.size) (hn : n ≤ 1000000) (hrow : w.ownsRow B 5 1 v n xs) :
    Calls Tryd.prog 14 #[v, .int .i32 m, .int .i64 3] w fun e w' => ∃ v', e = .returned v' ∧ w'.ownsRow B 5 1 v' (n + 3) (xs ++ [b8 (224 + m / 4096), b8 (128 + m / 64 % 64), b8 (128 + m % 64)].map bv) ∧ Below B w w' := by
  obtain ⟨i0, hi, hz0, hz1, hz2⟩ := info_parts Tryd.info5
  have c1 := hT.2.cell0 2 rfl
  clear hT
  have hw1 : IntKind.i64.wrap 2 = 2 := by decide
  have hw2 : IntKind.u8.wrap ((m : Int) / 4096) = (m : Int) / 4096 := IntWalk.u8_in _ (by omega)
  have hw3 : IntKind.u8.wrap (224 + (m : Int) / 4096) = 224 + (m : Int) / 4096 := IntWalk.u8_in _ (by omega)
  have hown0 : some 1 ≠ v.ownBlock := by
    intro h
    have := (hrow.lt _ h.symm).1
    omega
  have hL : (bv (b8 (224 + m / 4096))) = .int .u8 (224 + (m : Int) / 4096) := by rw [bv_b8 _ (by omega)]; rfl
  have HL := hid hL
  clear hL
  go_enter Tryd.func14, Tryd.ntmps14
  go_wp2_with fail
  go_region_held3 (fun w' => w'.cell? ⟨1, 2, none⟩ = some (.int .u8 224)) (first | go_keep | ((rw [hgrow.cell_far _ (by simp; omega) hown0]); assumption)) ((refine step_append_lies _ (by rfl) _ _ _ (by rfl) B 5 i0 _ 1 1 Tryd.underlying24 hi hz0 hz1 hz2 rfl (by omega) v n xs (by rfl) ((hrow.alloc _).drew) ⟨w.heap.size, 0, none⟩ 1 1 [.int .u8 (224 + (m : Int) / 4096)] (by rfl) (by rfl) (World.news_of_block (cs := #[.int .u8 (224 + (m : Int) / 4096)]) (t := 5) (fr := (0, 0)) (heap_alloc_new w _)) (by simp [Value.oneCell']) (by omega) (by simp only [maxLen]; omega) (by omega) (by simp; omega) (w.heap.size + 1) (by simp) ?_; intro gg cap w1 hown1 hgrow hat hlt))
  have hB1 : Below B w w1 := (((Below.refl _ w).alloc hB _).trans ⟨rfl, rfl, rfl, Nat.le_refl _, fun _ _ => rfl⟩ : Below B w (w.alloc (.cells #[.int .u8 (224 + (m : Int) / 4096)] 5)).drew).grown hgrow (by simp; omega) fun k ek => (hrow.lt k ek).1
  go_wp2_with fail
  go_loopw [0, 7] (fun bv' lf wr => ∃ j : Nat, j ≤ 2 ∧ lf = .int .i64 ((6 * j : Nat) : Int) ∧ wr.ownsRow B 5 1 bv' (n + (3 - j)) (xs ++ ([b8 (224 + m / 4096), b8 (128 + m / 64 % 64), b8 (128 + m % 64)].take (3 - j)).map bv) ∧ Below B w wr) (fun _ lf _ => (intOf lf).toNat)
  case atStart => exact ⟨2, by omega, rfl, by rw [show 3 - 2 = 1 from rfl]; simpa [HL.out] using hown1, hB1⟩
  case round =>
    obtain ⟨j, hj, rfl, hrw, hbr⟩ := hrel
    have hszr := hbr.size
    rcases (by omega : j = 0 ∨ j = 1 ∨ j = 2) with rfl | rfl | rfl
    · go_wp2
      go_ret
      exact ⟨_, rfl, by simpa using hrw, hbr⟩
    · have hx : bv (b8 (128 + m % 64)) = .int .u8 (128 + (m : Int) % 64) := by rw [bv_b8 _ (by omega)]; rfl
      have HX := hid hx
      clear hx
      go_wp2_with (at_builtin; refine wpList_append_own _ rfl _ _ 24 rfl B 5 i0 (.int .u8 0) 1 1 Tryd.underlying24 hi hz0 hz1 hz2 rfl (by decide) _ _ _ rfl (hrw.alloc _) ⟨wr.heap.size, 0, none⟩ 1 1 [.int .u8 (128 + (m : Int) % 64)] rfl rfl (cell_one_new _ _ _) (by simp [Value.oneCell']) (by simp only [maxLen]; omega) (by omega) (by simp; omega) ?_; intro v' w3 hown' hgrow' _)
      go_roundw
      case rel => exact ⟨0, by omega, rfl, by simpa [HX.out] using hown', (hbr.alloc (by omega) _).grown hgrow' (by simp; omega) fun k ek => (hrw.lt k ek).1⟩
      case measure => simp [intOf]
    · have hx : bv (b8 (128 + m / 64 % 64)) = .int .u8 (128 + (m : Int) / 64 % 64) := by rw [bv_b8 _ (by omega)]; rfl
      have HX := hid hx
      clear hx
      go_wp2_with (at_builtin; refine wpList_append_own _ rfl _ _ 24 rfl B 5 i0 (.int .u8 0) 1 1 Tryd.underlying24 hi hz0 hz1 hz2 rfl (by decide) _ _ _ rfl (hrw.alloc _) ⟨wr.heap.size, 0, none⟩ 1 1 [.int .u8 (128 + (m : Int) / 64 % 64)] rfl rfl (cell_one_new _ _ _) (by simp [Value.oneCell']) (by simp only [maxLen]; omega) (by omega) (by simp; omega) ?_; intro v' w3 hown' hgrow' _)
      go_roundw
      case rel => exact ⟨1, by omega, rfl, by simpa [HX.out] using hown', (hbr.alloc (by omega) _).grown hgrow' (by simp; omega) fun k ek => (hrw.lt k ek).1⟩
      case measure => simp [intOf]
set_option maxRecDepth 100000 in
set_option maxHeartbeats 1000000 in
theorem uput4_any (m : Nat) (v : Value) (n B : Nat) (xs : List Value) (w : World) (h1 : 65536 ≤ m) (h2 : m < 1114112) (hT : Tab w) (hg : 0 < B) (hh : 1 < B) (hB : B ≤ w.heap.size) (hn : n ≤ 1000000) (hrow : w.ownsRow B 5 1 v n xs) :
    Calls Tryd.prog 14 #[v, .int .i32 m, .int .i64 4] w fun e w' => ∃ v', e = .returned v' ∧ w'.ownsRow B 5 1 v' (n + 4) (xs ++ [b8 (240 + m / 262144), b8 (128 + m / 4096 % 64), b8 (128 + m / 64 % 64), b8 (128 + m % 64)].map bv) ∧ Below B w w' := by
  obtain ⟨i0, hi, hz0, hz1, hz2⟩ := info_parts Tryd.info5
  have c1 := hT.2.cell0 3 rfl
  clear hT
  have hw1 : IntKind.i64.wrap 3 = 3 := by decide
  have hw2 : IntKind.u8.wrap ((m : Int) / 262144) = (m : Int) / 262144 := IntWalk.u8_in _ (by omega)
  have hw3 : IntKind.u8.wrap (240 + (m : Int) / 262144) = 240 + (m : Int) / 262144 := IntWalk.u8_in _ (by omega)
  have hown0 : some 1 ≠ v.ownBlock := by
    intro h
    have := (hrow.lt _ h.symm).1
    omega
  have hL : (bv (b8 (240 + m / 262144))) = .int .u8 (240 + (m : Int) / 262144) := by rw [bv_b8 _ (by omega)]; rfl
  have HL := hid hL
  clear hL
  go_enter Tryd.func14, Tryd.ntmps14
  go_wp2_with fail
  go_region_held3 (fun w' => w'.cell? ⟨1, 3, none⟩ = some (.int .u8 240)) (first | go_keep | ((rw [hgrow.cell_far _ (by simp; omega) hown0]); assumption)) ((refine step_append_lies _ (by rfl) _ _ _ (by rfl) B 5 i0 _ 1 1 Tryd.underlying24 hi hz0 hz1 hz2 rfl (by omega) v n xs (by rfl) ((hrow.alloc _).drew) ⟨w.heap.size, 0, none⟩ 1 1 [.int .u8 (240 + (m : Int) / 262144)] (by rfl) (by rfl) (World.news_of_block (cs := #[.int .u8 (240 + (m : Int) / 262144)]) (t := 5) (fr := (0, 0)) (heap_alloc_new w _)) (by simp [Value.oneCell']) (by omega) (by simp only [maxLen]; omega) (by omega) (by simp; omega) (w.heap.size + 1) (by simp) ?_; intro gg cap w1 hown1 hgrow hat hlt))
  have hB1 : Below B w w1 := (((Below.refl _ w).alloc hB _).trans ⟨rfl, rfl, rfl, Nat.le_refl _, fun _ _ => rfl⟩ : Below B w (w.alloc (.cells #[.int .u8 (240 + (m : Int) / 262144)] 5)).drew).grown hgrow (by simp; omega) fun k ek => (hrow.lt k ek).1
  go_wp2_with fail
  go_loopw [0, 7] (fun bv' lf wr => ∃ j : Nat, j ≤ 3 ∧ lf = .int .i64 ((6 * j : Nat) : Int) ∧ wr.ownsRow B 5 1 bv' (n + (4 - j)) (xs ++ ([b8 (240 + m / 262144), b8 (128 + m / 4096 % 64), b8 (128 + m / 64 % 64), b8 (128 + m % 64)].take (4 - j)).map bv) ∧ Below B w wr) (fun _ lf _ => (intOf lf).toNat)
  case atStart => exact ⟨3, by omega, rfl, by rw [show 4 - 3 = 1 from rfl]; simpa [HL.out] using hown1, hB1⟩
  case round =>
    obtain ⟨j, hj, rfl, hrw, hbr⟩ := hrel
    have hszr := hbr.size
    rcases (by omega : j = 0 ∨ j = 1 ∨ j = 2 ∨ j = 3) with rfl | rfl | rfl | rfl
    · go_wp2
      go_ret
      exact ⟨_, rfl, by simpa using hrw, hbr⟩
    · have hx : bv (b8 (128 + m % 64)) = .int .u8 (128 + (m : Int) % 64) := by rw [bv_b8 _ (by omega)]; rfl
      have HX := hid hx
      clear hx
      go_wp2_with (at_builtin; refine wpList_append_own _ rfl _ _ 24 rfl B 5 i0 (.int .u8 0) 1 1 Tryd.underlying24 hi hz0 hz1 hz2 rfl (by decide) _ _ _ rfl (hrw.alloc _) ⟨wr.heap.size, 0, none⟩ 1 1 [.int .u8 (128 + (m : Int) % 64)] rfl rfl (cell_one_new _ _ _) (by simp [Value.oneCell']) (by simp only [maxLen]; omega) (by omega) (by simp; omega) ?_; intro v' w3 hown' hgrow' _)
      go_roundw
      case rel => exact ⟨0, by omega, rfl, by simpa [HX.out] using hown', (hbr.alloc (by omega) _).grown hgrow' (by simp; omega) fun k ek => (hrw.lt k ek).1⟩
      case measure => simp [intOf]
    · have hx : bv (b8 (128 + m / 64 % 64)) = .int .u8 (128 + (m : Int) / 64 % 64) := by rw [bv_b8 _ (by omega)]; rfl
      have HX := hid hx
      clear hx
      go_wp2_with (at_builtin; refine wpList_append_own _ rfl _ _ 24 rfl B 5 i0 (.int .u8 0) 1 1 Tryd.underlying24 hi hz0 hz1 hz2 rfl (by decide) _ _ _ rfl (hrw.alloc _) ⟨wr.heap.size, 0, none⟩ 1 1 [.int .u8 (128 + (m : Int) / 64 % 64)] rfl rfl (cell_one_new _ _ _) (by simp [Value.oneCell']) (by simp only [maxLen]; omega) (by omega) (by simp; omega) ?_; intro v' w3 hown' hgrow' _)
      go_roundw
      case rel => exact ⟨1, by omega, rfl, by simpa [HX.out] using hown', (hbr.alloc (by omega) _).grown hgrow' (by simp; omega) fun k ek => (hrw.lt k ek).1⟩
      case measure => simp [intOf]
    · have hx : bv (b8 (128 + m / 4096 % 64)) = .int .u8 (128 + (m : Int) / 4096 % 64) := by rw [bv_b8 _ (by omega)]; rfl
      have HX := hid hx
      clear hx
      go_wp2_with (at_builtin; refine wpList_append_own _ rfl _ _ 24 rfl B 5 i0 (.int .u8 0) 1 1 Tryd.underlying24 hi hz0 hz1 hz2 rfl (by decide) _ _ _ rfl (hrw.alloc _) ⟨wr.heap.size, 0, none⟩ 1 1 [.int .u8 (128 + (m : Int) / 4096 % 64)] rfl rfl (cell_one_new _ _ _) (by simp [Value.oneCell']) (by simp only [maxLen]; omega) (by omega) (by simp; omega) ?_; intro v' w3 hown' hgrow' _)
      go_roundw
      case rel => exact ⟨2, by omega, rfl, by simpa [HX.out] using hown', (hbr.alloc (by omega) _).grown hgrow' (by simp; omega) fun k ek => (hrw.lt k ek).1⟩
      case measure => simp [intOf]
theorem uput_any (m : Nat) (v : Value) (n B k : Nat) (xs : List Value) (w : World) (hr : runeI (m : Int) = true) (hk : (runeB m).length = k) (hT : Tab w) (hg : 0 < B) (hh : 1 < B) (hB : B ≤ w.heap.size) (hn : n ≤ 1000000) (hrow : w.ownsRow B 5 1 v n xs) :
    Calls Tryd.prog 14 #[v, .int .i32 m, .int .i64 (k : Int)] w fun e w' => ∃ v', e = .returned v' ∧ w'.ownsRow B 5 1 v' (n + k) (xs ++ (runeB m).map bv) ∧ Below B w w' := by
  have hm := runeI_nat.1 hr
  subst hk
  unfold runeB
  by_cases a1 : m < 128
  · rw [if_pos a1]; exact uput1_any m v n B xs w (by omega) a1 hT hg hh hB hn hrow
  by_cases a2 : m < 2048
  · rw [if_neg a1, if_pos a2]; exact uput2_any m v n B xs w (by omega) a2 hT hg hh hB hn hrow
  by_cases a3 : m < 65536
  · rw [if_neg a1, if_neg a2, if_pos a3]; exact uput3_any m v n B xs w (by omega) a3 hT hg hh hB hn hrow
  · rw [if_neg a1, if_neg a2, if_neg a3]; exact uput4_any m v n B xs w (by omega) (by omega) hT hg hh hB hn hrow
end Go.Proofs.YtapgjkbodfpdaaaDoor
