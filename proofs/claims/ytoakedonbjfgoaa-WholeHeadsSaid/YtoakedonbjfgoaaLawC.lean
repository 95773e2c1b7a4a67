/- The walk of VarintBack. -/
import Derived.Test.YtoakedonbjfgoaaLawB
import Derived.Deep.RegionHeld3
set_option linter.unusedVariables false
namespace Go.Proofs.Ytoakedonbjfgoaa
open Go.RowKit
theorem short_put {n : Nat} (h : n ≤ 18446744073709551615) : shortB (putN n) = true := by
  have := get_put [] h
  rw [List.append_nil] at this
  unfold shortB
  rw [this, putN_size]; simp
set_option maxRecDepth 100000 in
set_option maxHeartbeats 2000000 in
theorem back_any (n more : Nat) (xs bs : List UInt8) (nx nb : Nat) (A2 A3 : Option Addr) (c2 c3 : Nat) (w : World) (h64 : n ≤ 18446744073709551615) (hm64 : more ≤ 18446744073709551615)
    (hnx : xs.length = nx) (hnb : bs.length = nb) (hx : Sl w A2 c2 (xs.map bv)) (hb : Sl w A3 c3 (bs.map bv)) :
    Calls Try.prog 5 #[.int .u64 (n : Int), .int .u64 (more : Int), .slice A2 nx c2, .slice A3 nb c3] w fun e w' => e = .returned (.bool true) ∧ Below w.heap.size w w' := by
  have hlb : nb ≤ 9223372036854775807 := by have h1 := hb.cap; have h2 := hb.small; simp only [List.length_map] at h1; omega
  by_cases hlen : 1000 < nx
  · go_enter Try.func5, Try.ntmps5
    go_wp2_with fail
    refine (live1_any _).mono ?_
    rintro e w1 ⟨rfl, hb1⟩
    go_wp2_with fail
    go_ret
    exact ⟨rfl, hb1⟩
  · obtain ⟨i0, hi, hz0, hz1, hz2⟩ := info_parts Try.info5
    have hl := putN_length10 h64
    have hg := get_put xs h64
    have hsp := short_put h64
    have HG := hid hg
    have HSP := hid hsp
    clear hg hsp
    go_enter Try.func5, Try.ntmps5
    go_wp2_with fail
    refine (live1_any _).mono ?_
    rintro e w1 ⟨rfl, hb1⟩
    go_wp2_with fail
    refine (vput_any n _ h64).mono ?_
    rintro e w2 ⟨A, c, rfl, hs, hb2⟩
    have hbw2 := bw_t hb1 hb2
    have hrow0 : (w2.alloc (.cells #[] 5)).ownsRow w2.heap.size 5 1 (.slice (some ⟨w2.heap.size, 0, none⟩) 0 0) 0 [] := World.ownsRow_made w2 #[] 0 (Nat.le_refl _) (by decide) rfl
    have hsa : Sl (w2.alloc (.cells #[] 5)) A c ((putN n).map bv) := hs.below ((Below.refl _ _).alloc (Nat.le_refl _) _)
    go_wp2_with (first | (at_builtin; refine wpList_append_rd rfl (.tmp 24) (.tmp 25) 24 rfl w2.heap.size 5 i0 (.int .u8 0) 1 1 Try.underlying24 hi hz0 hz1 hz2 rfl (by decide) _ _ _ rfl hrow0 A (putN n).length c ((putN n).map bv) rfl (by simp) hsa.rd hsa.nil0 (bv_one _) (by simp only [maxLen]; omega) (by omega) (by simp) ?_; intro v1 w3 hown1 hgrow1; have hb3 : Below w2.heap.size w2 w3 := bw_g (bw_a (Below.refl _ _) _) hgrow1 (fun k ek => (hrow0.lt k ek).1); have hx3 := ((hx.below hbw2).below hb3)) | (at_builtin; refine wpList_append_rd rfl (.tmp 26) (.tmp 27) 24 rfl w2.heap.size 5 i0 (.int .u8 0) 1 1 Try.underlying24 hi hz0 hz1 hz2 rfl (by decide) _ _ _ rfl hown1 A2 nx c2 (xs.map bv) rfl (by simp [hnx]) hx3.rd hx3.nil0 (bv_one _) (by simp only [maxLen]; omega) (by omega) hb3.size ?_; intro v2 w4 hown2 hgrow2; have hb4 : Below w2.heap.size w2 w4 := bw_g hb3 hgrow2 (fun k ek => (hown1.lt k ek).1)))
    obtain ⟨A4, c4, hv4, hn4, hs4⟩ := Sl.of_own hown2
    subst hv4
    rw [List.nil_append, ← List.map_append] at hs4 hn4
    rw [List.length_map] at hn4
    refine (get_at (putN n ++ xs) _ A4 c4 _ hn4.symm (by omega) hs4.rd).mono ?_
    rw [HG.out]
    rintro e w5 ⟨rfl, rfl⟩
    have hs5 := (hs.below hb4)
    have hb5 : Below w.heap.size w w4 := bw_t hbw2 hb4
    go_wp2_with fail
    refine (short_at (putN n) _ A c _ rfl (by omega) hs5.rd).mono ?_
    rw [HSP.out]
    rintro e w6 ⟨rfl, rfl⟩
    go_wp2_with fail
    have hr5 := hb.below hb5
    refine (short_at bs nb A3 c3 _ hnb hlb hr5.rd).mono ?_
    have hmono : n ≤ more → (putN n).length ≤ sizeN more := fun h => by rw [putN_size]; exact sizeN_mono h
    have hsm := fun W => size_any more W hm64
    generalize sizeN more = z at *
    have HSM := hid hsm
    clear hsm
    generalize hsb : shortB bs = sb
    cases sb
    · rintro e w7 ⟨rfl, rfl⟩
      by_cases hmn : more < n
      · go_wp2_with fail
        go_ret
        exact ⟨rfl, hb5⟩
      · have hz := hmono (by omega)
        go_wp2_with fail
        refine (HSM.out _).mono ?_
        rintro e w8 ⟨rfl, rfl⟩
        go_wp2_with fail
        go_ret
        exact ⟨rfl, hb5⟩
    · have hpg := put_get hsb
      have hgf := (M.get_facts bs).1 (by unfold shortB at hsb; exact (of_decide_eq_true hsb).1)
      have hge : (M.get bs).2.2 = 0 := (of_decide_eq_true (by unfold shortB at hsb; exact hsb) : (M.get bs).2.2 = 0 ∧ _).1
      rintro e w7 ⟨rfl, rfl⟩
      have hgb := get_at bs nb A3 c3 w4 hnb hlb hr5.rd
      clear hsb
      generalize M.get bs = g at *
      obtain ⟨v, k, e⟩ := g
      simp only at hpg hgf hge hgb
      subst hge
      rw [hnb] at hgf
      have HGB := hid hgb
      have HPG := hid hpg
      clear hgb hpg
      go_wp2_with fail
      refine HGB.out.mono ?_
      rintro e w8 ⟨rfl, rfl⟩
      obtain ⟨b3, o3, rfl, _, _⟩ := BRd.at_ (bs := bs) hr5.rd (k := 0) (by omega)
      have hcap : nb ≤ c3 := by have := hb.cap; simpa [hnb] using this
      have hcs := hb.small
      go_wp2_with fail
      have hgt : decide ((nb : Int) < (k : Int)) = false := by simp; omega
      have hgt2 : decide (nb < k) = false := by simp; omega
      have hk0 : (0 : Int) ≤ (k : Int) := by omega
      have hkc : (k : Int) ≤ (c3 : Int) := by omega
      have hv64 := hgf.2.2.2
      have hlv := putN_length10 hv64
      have htk : (bs.take k).length = k := by rw [List.length_take, hnb]; omega
      have hrt : BRd w4 (some ⟨b3, o3, none⟩) (bs.take k) := by have := hr5.rd.take k; rwa [← List.map_take] at this
      have hrtd : BRd w4.drew (some ⟨b3, o3, none⟩) (bs.take k) := hrt
      go_region_held3 (fun _ => True) (trivial) (first | (go_at_call 14; refine (vput_any v _ hv64).mono ?_; rintro e w9 ⟨A9, c9, rfl, hs9, hb9⟩) | (go_at_call 15; refine (same_at (putN v) (bs.take k) _ _ _ _ _ _ _ rfl htk (by omega) hs9.rd (hrtd.below hb9)).mono ?_; rw [decide_eq_true HPG.out]; rintro e w10 ⟨rfl, n10, rfl⟩))
      have hb9' : Below w4.heap.size w4 w9 := ⟨hb9.os, hb9.tape, hb9.output, hb9.size, hb9.block⟩
      by_cases hmn : more < n
      · go_wp2_with fail
        go_ret
        exact ⟨rfl, bw_d (bw_t hb5 hb9') _⟩
      · have hz := hmono (by omega)
        go_wp2_with fail
        refine (HSM.out _).mono ?_
        rintro e w11 ⟨rfl, rfl⟩
        go_wp2_with fail
        go_ret
        exact ⟨rfl, bw_d (bw_t hb5 hb9') _⟩
end Go.Proofs.Ytoakedonbjfgoaa
