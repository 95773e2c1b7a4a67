/- What is live in layer 5's statements. -/
import Derived.Test.YtapgjkbodfpdaaaOutBytes
import Derived.Test.YtapgjkbodfpdaaaSame
import Derived.Test.YtapgjkbodfpdaaaLive
set_option linter.unusedVariables false
namespace Go.Proofs.Ytapgjkbodfpdaaa
open Go.RowKit
theorem Wr.mono {w : World} {B B' q : Nat} {v : Value} {bs : List UInt8} {most : Nat} (h : Wr w B q v bs most) (hB : B' ≤ B) : Wr w B' q v bs most := ⟨h.blk, own_mono h.row hB, h.le, h.lim, Nat.le_trans hB h.low⟩
theorem put3 : putN 3 = [3] := by rw [putN_small (by omega)]; rfl
theorem put2 : putN 2 = [2] := by rw [putN_small (by omega)]; rfl
theorem capN_of {m : Nat} (h : m ≤ 16777216) : capN (m : Int) = m := by unfold capN; omega
theorem l5_new (m : Nat) (w : World) (h : m ≤ 16777216) :
    Calls Try.prog 14 #[.int .i64 (m : Int)] w fun e w' => ∃ q, e = .returned (.pointer (some ⟨q, 0, none⟩)) ∧ Wr w' w.heap.size q (.slice none 0 0) [] m ∧ Below w.heap.size w w' := by
  have h1 := onew_any (m : Int) w (by omega) (by omega)
  rwa [capN_of h] at h1
/-- The bytes of a slice that was just made. -/
theorem l5_bytes (xs ys : List UInt8) (n N : Nat) (cs : Array Value) (E : Nat) (bs' : List UInt8) (W : World) (B q : Nat) (v : Value) (bs : List UInt8) (most : Nat) (hN : W.heap.size = N) (hcs : cs.toList = xs.map bv) (hn : xs.length = n) (hl : n ≤ 1000)
    (hp : wput most bs (putN n ++ xs) = (bs', E)) (h : Wr W B q v bs most) :
    Calls Try.prog 52 #[.pointer (some ⟨q, 0, none⟩), .slice (some ⟨N, 0, none⟩) n n] (W.alloc (.cells cs 5)) fun e w' => ∃ v', e = .returned (.int .i64 (E : Nat)) ∧ Wr w' B q v' bs' most ∧ Stp q v v' bs.length W w' := by
  subst hN
  have hb := bw_a (Below.refl W.heap.size W) (.cells cs 5)
  have hrd := Rd.new W 5 cs
  rw [hcs] at hrd
  have h1 := obytes_any xs n (some ⟨W.heap.size, 0, none⟩) n (W.alloc (.cells cs 5)) B q v bs most hn (by omega) ⟨by simp [hn], by omega, (fun h => by cases h), hrd⟩
    (fun _ b o he ho => by injection he with he; injection he with he; have := (h.sets b ho).2; omega) (h.new hb)
  rw [hp] at h1
  exact h1.mono fun e w' ⟨v', he, hw, hst⟩ => ⟨v', he, hw, (Stp.of_new hb).trans hst (Nat.le_refl _)⟩
theorem l5_raw (xs : List UInt8) (n N : Nat) (cs : Array Value) (E : Nat) (bs' : List UInt8) (W : World) (B q : Nat) (v : Value) (bs : List UInt8) (most : Nat) (hN : W.heap.size = N) (hcs : cs.toList = xs.map bv) (hn : xs.length = n) (hl : n ≤ 1000)
    (hp : wput most bs xs = (bs', E)) (h : Wr W B q v bs most) :
    Calls Try.prog 53 #[.pointer (some ⟨q, 0, none⟩), .slice (some ⟨N, 0, none⟩) n n] (W.alloc (.cells cs 5)) fun e w' => ∃ v', e = .returned (.int .i64 (E : Nat)) ∧ Wr w' B q v' bs' most ∧ Stp q v v' bs.length W w' := by
  subst hN
  have hb := bw_a (Below.refl W.heap.size W) (.cells cs 5)
  have hrd := Rd.new W 5 cs
  rw [hcs] at hrd
  have h1 := raw_any xs n (some ⟨W.heap.size, 0, none⟩) n (W.alloc (.cells cs 5)) B q v bs most hn ⟨by simp [hn], by omega, (fun h => by cases h), hrd⟩ (h.new hb)
  rw [hp] at h1
  exact h1.mono fun e w' ⟨v', he, hw, hst⟩ => ⟨v', he, hw, (Stp.of_new hb).trans hst (Nat.le_refl _)⟩
section
variable (W : World) (B q : Nat) (v : Value) (bs : List UInt8) (most : Nat)
theorem live1c_any (h : Wr W B q v bs most) : Calls Try.prog 54 #[.pointer (some ⟨q, 0, none⟩)] W fun e w' => ∃ v', e = .returned (.int .i64 ((wput most bs [172, 2]).2 : Nat)) ∧ Wr w' B q v' (wput most bs [172, 2]).1 most ∧ Stp q v v' bs.length W w' := by
  have hv := ovarint_any W B q v bs most 300 (by omega) h
  rw [put300] at hv
  generalize wput most bs [172, 2] = r at *
  have HV := hid hv
  clear hv h
  go_enter Try.func54, Try.ntmps54
  go_wp2_with fail
  refine HV.out.mono ?_
  rintro e w2 ⟨v', rfl, hw, hst⟩
  go_wp2_with fail
  go_ret
  exact ⟨v', rfl, hw, hst⟩
theorem live3c_any (h : Wr W B q v bs most) : Calls Try.prog 56 #[.pointer (some ⟨q, 0, none⟩)] W fun e w' => ∃ v', e = .returned (.int .i64 ((wput most bs [172, 2]).2 : Nat)) ∧ Wr w' B q v' (wput most bs [172, 2]).1 most ∧ Stp q v v' bs.length W w' := by
  have hv := ovarint_any W B q v bs most 300 (by omega) h
  rw [put300] at hv
  generalize wput most bs [172, 2] = r at *
  have HV := hid hv
  clear hv h
  go_enter Try.func56, Try.ntmps56
  go_wp2_with fail
  refine HV.out.mono ?_
  rintro e w2 ⟨v', rfl, hw, hst⟩
  go_wp2_with fail
  go_ret
  exact ⟨v', rfl, hw, hst⟩
theorem live2c_any (h : Wr W B q v bs most) : Calls Try.prog 55 #[.pointer (some ⟨q, 0, none⟩)] W fun e w' => ∃ v', e = .returned (.int .i64 1) ∧ Wr w' B q v' bs most ∧ Stp q v v' bs.length W w' := by
  have hv := otag_any W B q v bs most 0 0 (by omega) (by omega) h
  rw [show wtag most bs 0 0 = (bs, 1) from rfl] at hv
  have HV := hid hv
  clear hv h
  go_enter Try.func55, Try.ntmps55
  go_wp2_with fail
  refine HV.out.mono ?_
  rintro e w2 ⟨v', rfl, hw, hst⟩
  go_wp2_with fail
  go_ret
  exact ⟨v', rfl, hw, hst⟩
end
/-- All of closures in a slice that was just made. -/
theorem l5_all (gs : List Wf) (fs : List Value) (n N : Nat) (cs : Array Value) (E : Nat) (bs' : List UInt8) (W : World) (B q : Nat) (v : Value) (bs : List UInt8) (most : Nat) (hN : W.heap.size = N) (hcs : cs.toList = fs) (hn : fs.length = n) (hg : gs.length = n) (hl : n ≤ 1000)
    (hc : ∀ W', Below W.heap.size W W' → ∀ j (h1 : j < fs.length) (h2 : j < gs.length), CloOK W' B q v bs.length most fs[j] gs[j]) (hp : allW gs bs = (bs', E)) (h : Wr W B q v bs most) :
    Calls Try.prog 23 #[.pointer (some ⟨q, 0, none⟩), .slice (some ⟨N, 0, none⟩) n n] (W.alloc (.cells cs 45)) fun e w' => ∃ v', e = .returned (.int .i64 (E : Nat)) ∧ Wr w' B q v' bs' most ∧ Stp q v v' bs.length W w' := by
  subst hN
  have hb := bw_a (Below.refl W.heap.size W) (.cells cs 45)
  have hrd := Rd.new W 45 cs
  rw [hcs] at hrd
  have h1 := oall_any gs fs n (some ⟨W.heap.size, 0, none⟩) n (W.alloc (.cells cs 45)) B q v bs most hn hg ⟨by omega, by omega, (fun h => by cases h), hrd⟩
    (fun b o he ho => by injection he with he; injection he with he; have := (h.sets b ho).2; omega) (hc _ hb) (h.new hb)
  rw [hp] at h1
  exact h1.mono fun e w' ⟨v', he, hw, hst, _⟩ => ⟨v', he, hw, (Stp.of_new hb).trans hst (Nat.le_refl _)⟩
theorem l5_d (N : Nat) (W : World) (B q : Nat) (v : Value) (hN : W.heap.size = N) (h : Wr W B q v [] 9) :
    Calls Try.prog 23 #[.pointer (some ⟨q, 0, none⟩), .slice (some ⟨N, 0, none⟩) 2 2] (W.alloc (.cells #[.func (.func 54) #[] #[], .func (.func 55) #[] #[]] 45)) fun e w' => ∃ v', e = .returned (.int .i64 1) ∧ Wr w' B q v' [] 9 ∧ Stp q v v' 0 W w' :=
  l5_all [fun b => wput 9 b [172, 2], fun b => (b, 1)] _ 2 N _ 1 [] W B q v [] 9 hN rfl rfl rfl (by omega) (fun W' hW j h1 h2 => by
    rcases j with _ | _ | j
    · exact .inr ⟨_, _, rfl, fun args W => by kernel_rfl, fun W2 v1 bs1 hw hst hle => (live1c_any W2 B q v1 bs1 9 hw).mono fun e w' ⟨v2, he, hw2, hst2⟩ => ⟨v2, he, hw2, hst2, wput_len _ _ _⟩⟩
    · exact .inr ⟨_, _, rfl, fun args W => by kernel_rfl, fun W2 v1 bs1 hw hst hle => (live2c_any W2 B q v1 bs1 9 hw).mono fun e w' ⟨v2, he, hw2, hst2⟩ => ⟨v2, he, hw2, hst2, Nat.le_refl _⟩⟩
    · simp at h1; omega) rfl h
theorem l5_e (N : Nat) (W : World) (B q : Nat) (v : Value) (hN : W.heap.size = N) (h : Wr W B q v [] 9) :
    Calls Try.prog 23 #[.pointer (some ⟨q, 0, none⟩), .slice (some ⟨N, 0, none⟩) 2 2] (W.alloc (.cells #[.func (.func 56) #[] #[], .nilFunc] 45)) fun e w' => ∃ v', e = .returned (.int .i64 0) ∧ Wr w' B q v' [172, 2] 9 ∧ Stp q v v' 0 W w' :=
  l5_all [fun b => wput 9 b [172, 2], fun b => (b, 0)] _ 2 N _ 0 [172, 2] W B q v [] 9 hN rfl rfl rfl (by omega) (fun W' hW j h1 h2 => by
    rcases j with _ | _ | j
    · exact .inr ⟨_, _, rfl, fun args W => by kernel_rfl, fun W2 v1 bs1 hw hst hle => (live3c_any W2 B q v1 bs1 9 hw).mono fun e w' ⟨v2, he, hw2, hst2⟩ => ⟨v2, he, hw2, hst2, wput_len _ _ _⟩⟩
    · exact .inl ⟨rfl, fun bs => rfl⟩
    · simp at h1; omega) rfl h
theorem l5_out (n : Nat) (w : World) (B q : Nat) (v : Value) (bs : List UInt8) (most : Nat) (hn : bs.length = n) (h : Wr w B q v bs most) (hl : n ≤ 1000000) :
    Calls Try.prog 20 #[.pointer (some ⟨q, 0, none⟩)] w fun e w' => ∃ A c, e = .returned (.slice A n c) ∧ Sl w' A c (bs.map bv) ∧ (∀ b o, A = some ⟨b, o, none⟩ → w.heap.size ≤ b) ∧ Below w.heap.size w w' := by
  subst hn; exact oout_any w B q v bs most h hl
theorem l5_left (l : Int) (w : World) (B q : Nat) (v : Value) (bs : List UInt8) (most : Nat) (hl : ((most - bs.length : Nat) : Int) = l) (h : Wr w B q v bs most) :
    Calls Try.prog 21 #[.pointer (some ⟨q, 0, none⟩)] w fun e w' => e = .returned (.int .i64 l) ∧ ∃ n, w' = w.drewN n := by
  subst hl; exact oleft_any w B q v bs most h
set_option maxRecDepth 100000 in
set_option maxHeartbeats 4000000 in
theorem live5_any (w : World) : Calls Try.prog 12 #[] w fun e w' => e = .returned (.bool true) ∧ Below w.heap.size w w' := by
  have hmf := func_run (P := Try.prog)
  go_enter Try.func12, Try.ntmps12
  go_wp2_with fail
  refine (l5_new 3 _ (by omega)).mono ?_
  rintro e w1 ⟨q, rfl, ho1, hb1⟩
  go_wp2_with fail
  refine (l5_bytes [1, 2, 3] [] 3 _ _ 14 [] _ _ q _ _ _ rfl rfl rfl (by omega) (by rw [put3]; rfl) ho1).mono ?_
  rintro e w2 ⟨v2, rfl, ho2, hs2⟩
  go_wp2_with fail
  refine (l5_bytes [1, 2] [] 2 _ _ 0 [2, 1, 2] _ _ q _ _ _ rfl rfl rfl (by omega) (by rw [put2]; rfl) ho2).mono ?_
  rintro e w3 ⟨v3, rfl, ho3, hs3⟩
  go_wp2_with fail
  refine (l5_raw [7] 1 _ _ 14 [2, 1, 2] _ _ q _ _ _ rfl rfl rfl (by omega) rfl ho3).mono ?_
  rintro e w4 ⟨v4, rfl, ho4, hs4⟩
  have hB4 : Below w.heap.size w w4 := hb1.trans ((hs2.below ho1).trans (((hs3.below ho2)).trans (hs4.below ho3)))
  have HO4 := hid ho4
  have HB4 := hid hB4
  clear hb1 ho1 hs2 ho2 hs3 ho3 hs4 ho4 hB4
  go_wp2_with fail
  refine (l5_new 9 _ (by omega)).mono ?_
  rintro e w5 ⟨p, rfl, hp5, hb5⟩
  have ho5 := HO4.out.new hb5
  go_wp2_with fail
  refine (l5_d _ _ _ p _ rfl hp5).mono ?_
  rintro e w6 ⟨v6, rfl, hp6, hs6⟩
  go_wp2_with fail
  refine (l5_e _ _ _ p _ rfl hp6).mono ?_
  rintro e w7 ⟨v7, rfl, hp7, hs7⟩
  have hset := HO4.out.sets
  have hp4 := hp5.low
  have hs67 := hs6.trans hs7 (Nat.le_refl _)
  have ho7 : Wr w7 _ q v4 [2, 1, 2] 3 := ho5.chg hs67.chg fun k hk hk2 => by have h1 := (hset k hk).2; have h2 := (hp5.sets k hk2).1; omega
  have hB7 : Below w.heap.size w w7 := bw_t HB4.out (hb5.trans (hs67.below hp5))
  have HO7 := hid ho7
  have HP7 := hid hp7
  have HB7 := hid hB7
  clear hp5 hb5 ho5 hp6 hs6 hp7 hs7 hset hs67 ho7 hB7
  go_wp2_with fail
  refine (l5_out 3 w7 _ q _ [2, 1, 2] 3 rfl HO7.out (by omega)).mono ?_
  rintro e w8 ⟨A8, c8, rfl, hs8, -, hb8⟩
  have HS8 := hid (hs8.below (bw_a (Below.refl w8.heap.size w8) (.cells #[.int .u8 2, .int .u8 1, .int .u8 2] 5)))
  have HB8 := hid hb8
  clear hs8 hb8
  go_wp2_with fail
  have hr9 : BRd (w8.alloc (.cells #[.int .u8 2, .int .u8 1, .int .u8 2] 5)) (some ⟨w8.heap.size, 0, none⟩) [2, 1, 2] := Rd.new w8 5 #[.int .u8 2, .int .u8 1, .int .u8 2]
  refine (same_at [2, 1, 2] [2, 1, 2] 3 3 A8 (some ⟨w8.heap.size, 0, none⟩) c8 3 _ rfl rfl (by omega) HS8.out.rd hr9).mono ?_
  rintro e w9 ⟨rfl, k9, rfl⟩
  rw [show decide (([2, 1, 2] : List UInt8) = [2, 1, 2]) = true from by decide]
  have hb9 : Below w7.heap.size w7 ((w8.alloc (.cells #[.int .u8 2, .int .u8 1, .int .u8 2] 5)).drewN k9) := bw_d (bw_a HB8.out _) k9
  generalize ((w8.alloc (.cells #[.int .u8 2, .int .u8 1, .int .u8 2] 5)).drewN k9) = w9 at *
  have HO9 := hid (HO7.out.new hb9)
  have HP9 := hid (HP7.out.new hb9)
  have HB9 := hid (bw_t HB7.out hb9)
  clear hb9 hr9
  go_wp2_with fail
  refine (l5_left 0 w9 _ q _ _ _ rfl HO9.out).mono ?_
  rintro e w10 ⟨rfl, k10, rfl⟩
  have HP10 := hid (HP9.out.new (below_drewN (Below.refl _ w9) k10))
  have HB10 := hid (bw_d HB9.out k10)
  generalize w9.drewN k10 = w10 at *
  go_wp2_with fail
  refine (l5_out 2 w10 _ p _ [172, 2] 9 rfl HP10.out (by omega)).mono ?_
  rintro e w11 ⟨A11, c11, rfl, -, -, hb11⟩
  have HP11 := hid (HP10.out.new hb11)
  have HB11 := hid (bw_t HB10.out hb11)
  clear hb11
  go_wp2_with fail
  refine (l5_left 7 w11 _ p _ _ _ rfl HP11.out).mono ?_
  rintro e w12 ⟨rfl, k12, rfl⟩
  have HB12 := hid (bw_d HB11.out k12)
  generalize w11.drewN k12 = w12 at *
  go_wp2_with fail
  refine (raw_nil none 0 0 w12).mono ?_
  rintro e w13 ⟨rfl, rfl⟩
  go_wp2_with fail
  refine (oleft_nil w12).mono ?_
  rintro e w13 ⟨rfl, rfl⟩
  go_wp2_with fail
  refine (oout_nil w12).mono ?_
  rintro e w13 ⟨rfl, rfl⟩
  go_wp2_with fail
  refine (oall_nil none 0 0 w12).mono ?_
  rintro e w13 ⟨rfl, hb13⟩
  go_wp2_with fail
  go_ret
  exact ⟨rfl, bw_t HB12.out hb13⟩
end Go.Proofs.Ytapgjkbodfpdaaa
