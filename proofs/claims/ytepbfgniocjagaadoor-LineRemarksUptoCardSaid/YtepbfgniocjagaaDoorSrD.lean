/- scalar: Quote, Put, sign, unquoted, Read: walks. -/
import Derived.Test.YtepbfgniocjagaaDoorProg
import Derived.Test.YtepbfgniocjagaaDoorM1
import Derived.Test.YtepbfgniocjagaaDoorSrMath
import Derived.Test.YtepbfgniocjagaaDoorSrA
import Derived.Test.YtepbfgniocjagaaDoorSrB
import Derived.Test.YtepbfgniocjagaaDoorSrC
import Derived.Test.YtepbfgniocjagaaDoorUt
import Derived.Lib.Walk
import Derived.WalkSmall
import Derived.IntWalk
set_option linter.unusedVariables false
namespace Go.Proofs.YtepbfgniocjagaaDoor
open Go.RowKit
theorem qB_snoc (bs : List UInt8) {k : Nat} {c : UInt8} {r : List UInt8} (hd : bs.drop k = c :: r) : (bs.take (k + 1)).flatMap qB = (bs.take k).flatMap qB ++ qB c := by
  have hk : k < bs.length := by have := congrArg List.length hd; simp at this; omega
  have hc : bs[k] = c := by
    have := List.drop_eq_getElem_cons hk
    rw [hd] at this; injection this with h _; exact h.symm
  rw [List.take_succ_eq_append_getElem hk, List.flatMap_append, hc]; simp
theorem qB_le (l : List UInt8) : (l.flatMap qB).length ≤ 4 * l.length := by
  induction l with
  | nil => simp
  | cons c r ih => rw [List.flatMap_cons, List.length_append]; have := (qB_len c).2; simp only [List.length_cons]; omega
theorem sgF_one {c : UInt8} {r : List UInt8} (h1 : hidN c.toNat = false) (h2 : c.toNat ≠ 34) (h3 : c.toNat ≠ 92) : sgF (c :: r) = (c.toNat, 1) := by
  rw [sgF_cons, if_neg (by simp [h1, h2]), if_pos h3]
theorem sgF_no {c : UInt8} {r : List UInt8} (h : hidN c.toNat = true ∨ c.toNat = 34) : sgF (c :: r) = (0, 0) := by rw [sgF_cons, if_pos h]
theorem hid92 : hidN 92 = false := by decide
set_option maxRecDepth 100000 in
set_option maxHeartbeats 4000000 in
theorem sign_any (s : ByteArray) (c : UInt8) (r : List UInt8) (w : World) (hs : s.data.toList = c :: r) (hl : r.length < 9223372036854770000) :
    Calls Tryd.prog 107 #[.string s] w fun e w' => e = .returned (.tuple #[.int .u8 ((sgF (c :: r)).1 : Nat), .int .i64 ((sgF (c :: r)).2 : Nat)]) ∧ Below w.heap.size w w' := by
  have hsz : s.size = r.length + 1 := by rw [Lib.size_eq, hs]; simp
  obtain ⟨hi0, hg0⟩ := str_at (k := 0) (c := c) (r := r) hs rfl
  have hlt := c.toNat_lt
  have HH := hid fun w => hidden_any c.toNat w hlt
  by_cases h1 : hidN c.toNat = true
  · have hsg := sgF_no (r := r) (.inl h1)
    rw [hsg]
    rw [h1] at HH
    clear hs hsg h1
    generalize c.toNat = x at *
    go_enter Tryd.func107, Tryd.ntmps107
    go_wp2_with (go_at_call 110; refine (HH.out _).mono ?_; rintro e w1 ⟨rfl, rfl⟩)
    go_ret2
    exact ⟨rfl, Below.refl _ _⟩
  have h1' : hidN c.toNat = false := by simpa using h1
  by_cases h2 : c.toNat = 34
  · have hsg := sgF_no (r := r) (.inr h2)
    rw [hsg]
    rw [h1'] at HH
    clear hs hsg h1 h1'
    rw [h2] at hg0 HH
    go_enter Tryd.func107, Tryd.ntmps107
    go_wp2_with (go_at_call 110; refine (HH.out _).mono ?_; rintro e w1 ⟨rfl, rfl⟩)
    go_ret2
    exact ⟨rfl, Below.refl _ _⟩
  by_cases h3 : c.toNat = 92
  · rw [h3] at hg0 HH
    rw [hid92] at HH
    match r, hs, hl, hsz with
    | [], hs, hl, hsz =>
      have hsg : sgF [c] = (0, 0) := by simp [sgF_cons, sgE, h3]
      rw [hsg]
      have hz : s.size = 1 := by simpa using hsz
      clear hs hsg hsz
      go_enter Tryd.func107, Tryd.ntmps107
      go_wp2_with (go_at_call 110; refine (HH.out _).mono ?_; rintro e w1 ⟨rfl, rfl⟩)
      go_ret2
      exact ⟨rfl, Below.refl _ _⟩
    | d :: q, hs, hl, hsz =>
      obtain ⟨hi1, hg1⟩ := str_at (k := 1) (c := d) (r := q) hs rfl
      have HTD := hid fun w => told_any s c d q w hs (by simp at hl; omega)
      have hz : s.size = q.length + 2 := by simpa using hsz
      have hq : q.length < 9223372036854770000 := by simp at hl; omega
      have hsg : sgF (c :: d :: q) = if d.toNat = 34 ∨ d.toNat = 92 then (d.toNat, 2) else if d.toNat = 110 then (10, 2) else if d.toNat = 116 then (9, 2) else if d.toNat = 120 then tdF q else (0, 0) := by
        rw [sgF_cons, if_neg (by simp [h1', h2]), if_neg (by simp [h3]), sgE_cons]
      have hdl := d.toNat_lt
      generalize d.toNat = y at *
      generalize tdF q = td at *
      clear hs hsz hl h1 h1' h2 h3 hlt
      by_cases a1 : y = 34
      · rw [hsg, if_pos (.inl a1)]
        subst a1
        clear hsg
        go_enter Tryd.func107, Tryd.ntmps107
        go_wp2_with (go_at_call 110; refine (HH.out _).mono ?_; rintro e w1 ⟨rfl, rfl⟩)
        go_ret2
        exact ⟨rfl, Below.refl _ _⟩
      by_cases a2 : y = 92
      · rw [hsg, if_pos (.inr a2)]
        subst a2
        clear hsg
        go_enter Tryd.func107, Tryd.ntmps107
        go_wp2_with (go_at_call 110; refine (HH.out _).mono ?_; rintro e w1 ⟨rfl, rfl⟩)
        go_ret2
        exact ⟨rfl, Below.refl _ _⟩
      have q1 : ((y : Int) == 34) = false := by simp; omega
      have q2 : ((y : Int) == 92) = false := by simp; omega
      rw [if_neg (by simp [a1, a2])] at hsg
      by_cases a3 : y = 110
      · rw [hsg, if_pos a3]
        subst a3
        clear hsg
        go_enter Tryd.func107, Tryd.ntmps107
        go_wp2_with (go_at_call 110; refine (HH.out _).mono ?_; rintro e w1 ⟨rfl, rfl⟩)
        go_ret2
        exact ⟨rfl, Below.refl _ _⟩
      have q3 : ((y : Int) == 110) = false := by simp; omega
      rw [if_neg a3] at hsg
      by_cases a4 : y = 116
      · rw [hsg, if_pos a4]
        subst a4
        clear hsg
        go_enter Tryd.func107, Tryd.ntmps107
        go_wp2_with (go_at_call 110; refine (HH.out _).mono ?_; rintro e w1 ⟨rfl, rfl⟩)
        go_ret2
        exact ⟨rfl, Below.refl _ _⟩
      have q4 : ((y : Int) == 116) = false := by simp; omega
      rw [if_neg a4] at hsg
      by_cases a5 : y = 120
      · rw [hsg, if_pos a5]
        subst a5
        clear hsg
        obtain ⟨t1, t2⟩ := td
        go_enter Tryd.func107, Tryd.ntmps107
        go_wp2_with (first | (go_at_call 110; refine (HH.out _).mono ?_; rintro e w1 ⟨rfl, rfl⟩) | (go_at_call 111; refine (HTD.out _).mono ?_; rintro e w2 ⟨rfl, hb2⟩))
        go_ret2
        exact ⟨rfl, hb2⟩
      · have q5 : ((y : Int) == 120) = false := by simp; omega
        rw [hsg, if_neg a5]
        clear hsg
        go_enter Tryd.func107, Tryd.ntmps107
        go_wp2_with (go_at_call 110; refine (HH.out _).mono ?_; rintro e w1 ⟨rfl, rfl⟩)
        go_ret2
        exact ⟨rfl, Below.refl _ _⟩
  · have hsg := sgF_one (r := r) h1' h2 h3
    rw [hsg]
    rw [h1'] at HH
    clear hs hsg h1 h1'
    generalize c.toNat = x at *
    have q1 : ((x : Int) == 34) = false := by simp; omega
    have q2 : ((x : Int) == 92) = false := by simp; omega
    have q3 : ((x : Int) != 92) = true := by simp; omega
    go_enter Tryd.func107, Tryd.ntmps107
    go_wp2_with (go_at_call 110; refine (HH.out _).mono ?_; rintro e w1 ⟨rfl, rfl⟩)
    go_ret2
    exact ⟨rfl, Below.refl _ _⟩
end Go.Proofs.YtepbfgniocjagaaDoor
