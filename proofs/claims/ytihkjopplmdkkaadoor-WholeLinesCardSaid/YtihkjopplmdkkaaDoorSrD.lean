/- scalar: Quote, Put, sign, unquoted, Read: walks. -/
import Derived.Test.YtihkjopplmdkkaaDoorProg
import Derived.Test.YtihkjopplmdkkaaDoorM1
import Derived.Test.YtihkjopplmdkkaaDoorSrMath
import Derived.Test.YtihkjopplmdkkaaDoorSrA
import Derived.Test.YtihkjopplmdkkaaDoorSrB
import Derived.Test.YtihkjopplmdkkaaDoorSrC
import Derived.Test.YtihkjopplmdkkaaDoorUt
import Derived.Lib.Walk
import Derived.WalkSmall
import Derived.IntWalk
set_option linter.unusedVariables false
namespace Go.Proofs.YtihkjopplmdkkaaDoor
open Go.RowKit
theorem qB_snoc (bs : List UInt8) {k : Nat} {c : UInt8} {r : List UInt8} (hd : bs.drop k = c :: r) : (bs.take (k + 1)).flatMap qB = (bs.take k).flatMap qB ++ qB c := by
  have hk : k < bs.length := by have := congrArg List.length hd; simp at this; omega
  have hc : bs[k] = c := by
    have := List.drop_eq_getElem_cons hk
    rw [hd] at this; injection this with h _; exact h.symm
  rw [List.take_succ_eq_append_getElem hk, List.flatMap_append, hc]; simp
theorem qB_le (l : List UInt8) : (l.flatMap qB).length ≤ 4 * l.length := by
  induction l with
  | nil => simp
  | cons c r ih => rw [List.flatMap_cons, List.length_append]; have := (qB_len c).2; simp only [List.length_cons]; omega
set_option maxRecDepth 100000 in
set_option maxHeartbeats 2000000 in
theorem sQuote_any (s : ByteArray) (bs : List UInt8) (w : World) (hs : s.data.toList = bs) (hl : bs.length ≤ 10000) :
    Calls Tryd.prog 27 #[.string s] w fun e w' => ∃ t : ByteArray, e = .returned (.string t) ∧ t.data.toList = quB bs ∧ Below w.heap.size w w' := by
  obtain ⟨i0, hi0, hz0, hz1, hz2⟩ := info_parts Tryd.info5
  have hsz : s.size = bs.length := by rw [Lib.size_eq, hs]
  have HSB := hid hs
  clear hs
  have hqe : quB bs = ([34] ++ bs.flatMap qB) ++ [34] := by simp [quB]
  have HQ := hid hqe
  clear hqe
  generalize hn : bs.length = n at *
  have HN := hid hn
  clear hn
  go_enter Tryd.func27, Tryd.ntmps27
  go_wp2_with fail
  generalize hW0 : w.alloc _ = W0
  have hz0' : W0.heap.size = w.heap.size + 1 := by rw [← hW0]; simp
  have hB0 : Below w.heap.size w W0 := by rw [← hW0]; exact (Below.refl _ w).alloc (Nat.le_refl _) _
  have hrow0 : W0.ownsRow w.heap.size 5 1 (.slice (some ⟨w.heap.size, 0, none⟩) 1 1) 1 (([34] : List UInt8).map bv) := by
    refine ⟨rfl, .inr ⟨w.heap.size, 1, #[.int .u8 34], rfl, Nat.le_refl _, by rw [← hW0]; exact heap_alloc_new w _, by omega, by simp only [maxLen]; omega, rfl, rfl⟩⟩
  clear hW0
  go_loopw [3, 4, 8] (fun v _ i wr => ∃ k : Nat, k ≤ n ∧ i = .int .i64 (k : Int) ∧ wr.ownsRow w.heap.size 5 1 v ([34] ++ (bs.take k).flatMap qB).length (([34] ++ (bs.take k).flatMap qB).map bv) ∧ Below w.heap.size w wr) (fun _ _ i _ => n - (intOf i).toNat)
  case atStart => exact ⟨0, by omega, rfl, by simpa using hrow0, hB0⟩
  case round =>
    obtain ⟨k, hk, rfl, hrow, hbr⟩ := hrel
    have hszr := hbr.size
    have hql := qB_le (bs.take k)
    have htl : (bs.take k).length ≤ k := List.length_take_le _ _
    by_cases hlt : k < n
    · obtain ⟨c, r, hd⟩ := str_cons HN.out hlt
      obtain ⟨hi, hg⟩ := str_at HSB.out hd
      have hx := c.toNat_lt
      have hsn := qB_snoc bs hd
      have hwi := fun v n xs (w' : World) => within_any c c.toNat v n w.heap.size xs w' rfl
      generalize hcx : c.toNat = x at *
      have HD := hid hd
      have HSN := hid hsn
      have HW := hid hwi
      have HR := hid hrow
      clear hd hsn hwi hrow hcx
      generalize hL : ([34] ++ (bs.take k).flatMap qB).length = m at *
      have hm : m ≤ 4 * n + 1 := by rw [← hL]; simp only [List.length_append, List.length_cons, List.length_nil]; omega
      have HLL := hid hL
      clear hL
      go_wp2_with fail
      refine (HW.out _ _ _ _ hszr (by omega) HR.out).mono ?_
      rintro e w1 ⟨v1, rfl, hown1, hb1⟩
      have HO := hid hown1
      clear hown1
      go_wp2
      go_roundw
      case rel =>
        refine ⟨k + 1, by omega, by go_num, ?_, hbr.trans hb1⟩
        have h := HO.out
        rw [← List.map_append, List.append_assoc, ← HSN.out] at h
        have hlen : m + (qB c).length = ([34] ++ (bs.take (k + 1)).flatMap qB).length := by rw [HSN.out, ← List.append_assoc, List.length_append, HLL.out]
        rw [hlen] at h
        exact h
      case measure => simp [intOf] <;> omega
    · obtain rfl : k = n := by omega
      have ht : bs.take k = bs := List.take_of_length_le (by have := HN.out; omega)
      rw [ht] at hrow hql
      have HR := hid hrow
      generalize hL : ([34] ++ bs.flatMap qB).length = m at *
      have hm : m ≤ 4 * k + 1 := by rw [← hL]; simp only [List.length_append, List.length_cons, List.length_nil]; have := HN.out; omega
      clear hL hrow
      go_wp2_with (at_builtin; refine wpList_append_rd rfl (.tmp 17) (.tmp 18) 51 rfl w.heap.size 5 i0 (.int .u8 0) 1 1 Tryd.underlying51 hi0 hz0 hz1 hz2 rfl (by decide) _ _ _ rfl (HR.out.alloc _) (some ⟨wr.heap.size, 0, none⟩) 1 1 [.int .u8 34] rfl rfl (Rd.new wr 5 #[.int .u8 34]) (fun h => by cases h) (by simp [Value.oneCell']) (by simp only [maxLen]; omega) (by omega) (by simp; omega) ?_; intro v1 w1 hown1 hgrow1)
      have hown2 : w1.ownsRow w.heap.size 5 1 v1 (m + 1) (quB bs |>.map bv) := by rw [HQ.out, List.map_append]; exact hown1
      obtain ⟨t, ht1, ht2⟩ := conv_ow (P := Tryd.prog) hown2 Tryd.underlying51 Tryd.underlying5 Tryd.underlying9
      have HT := hid ht1
      have hfin := bw_new hszr HR.out hgrow1
      clear ht1 hown1 hown2 hgrow1
      go_wp2
      rw [ht2]
      simp only [Result.andThen]
      go_wp2
      go_ret
      exact ⟨t, rfl, HT.out, hbr.trans hfin⟩
set_option maxRecDepth 100000 in
set_option maxHeartbeats 1000000 in
theorem sPut_any (s : ByteArray) (bs : List UInt8) (w : World) (hs : s.data.toList = bs) (hl : bs.length ≤ 10000) :
    Calls Tryd.prog 29 #[.string s] w fun e w' => ∃ t : ByteArray, e = .returned (.string t) ∧ t.data.toList = puL bs ∧ Below w.heap.size w w' := by
  have HP := hid fun w => sPlain_any s bs w hs (by omega)
  have HQ := hid fun w => sQuote_any s bs w hs hl
  have HS := hid hs
  clear hs
  have hpu : puL bs = if plB bs = true then bs else quB bs := rfl
  have HPU := hid hpu
  clear hpu
  generalize plB bs = p at *
  cases p with
  | true =>
    go_enter Tryd.func29, Tryd.ntmps29
    go_wp2_with (go_at_call 25; refine (HP.out _).mono ?_; rintro e w1 ⟨rfl, rfl⟩)
    go_ret
    exact ⟨s, rfl, by rw [HPU.out]; simp [HS.out], Below.refl _ _⟩
  | false =>
    go_enter Tryd.func29, Tryd.ntmps29
    go_wp2_with (first | (go_at_call 25; refine (HP.out _).mono ?_; rintro e w1 ⟨rfl, rfl⟩) | (go_at_call 27; refine (HQ.out _).mono ?_; rintro e w1 ⟨t, rfl, ht, hb⟩))
    go_ret
    exact ⟨t, rfl, by rw [HPU.out]; simp [ht], hb⟩
theorem sgF_one {c : UInt8} {r : List UInt8} (h1 : hidN c.toNat = false) (h2 : c.toNat ≠ 34) (h3 : c.toNat ≠ 92) : sgF (c :: r) = (c.toNat, 1) := by
  rw [sgF_cons, if_neg (by simp [h1, h2]), if_pos h3]
theorem sgF_no {c : UInt8} {r : List UInt8} (h : hidN c.toNat = true ∨ c.toNat = 34) : sgF (c :: r) = (0, 0) := by rw [sgF_cons, if_pos h]
theorem hid92 : hidN 92 = false := by decide
set_option maxRecDepth 100000 in
set_option maxHeartbeats 4000000 in
theorem sign_any (s : ByteArray) (c : UInt8) (r : List UInt8) (w : World) (hs : s.data.toList = c :: r) (hl : r.length < 9223372036854770000) :
    Calls Tryd.prog 76 #[.string s] w fun e w' => e = .returned (.tuple #[.int .u8 ((sgF (c :: r)).1 : Nat), .int .i64 ((sgF (c :: r)).2 : Nat)]) ∧ Below w.heap.size w w' := by
  have hsz : s.size = r.length + 1 := by rw [Lib.size_eq, hs]; simp
  obtain ⟨hi0, hg0⟩ := str_at (k := 0) (c := c) (r := r) hs rfl
  have hlt := c.toNat_lt
  have HH := hid fun w => hidden_any c.toNat w hlt
  by_cases h1 : hidN c.toNat = true
  · have hsg := sgF_no (r := r) (.inl h1)
    rw [hsg]
    rw [h1] at HH
    clear hs hsg h1
    generalize c.toNat = x at *
    go_enter Tryd.func76, Tryd.ntmps76
    go_wp2_with (go_at_call 79; refine (HH.out _).mono ?_; rintro e w1 ⟨rfl, rfl⟩)
    go_ret2
    exact ⟨rfl, Below.refl _ _⟩
  have h1' : hidN c.toNat = false := by simpa using h1
  by_cases h2 : c.toNat = 34
  · have hsg := sgF_no (r := r) (.inr h2)
    rw [hsg]
    rw [h1'] at HH
    clear hs hsg h1 h1'
    rw [h2] at hg0 HH
    go_enter Tryd.func76, Tryd.ntmps76
    go_wp2_with (go_at_call 79; refine (HH.out _).mono ?_; rintro e w1 ⟨rfl, rfl⟩)
    go_ret2
    exact ⟨rfl, Below.refl _ _⟩
  by_cases h3 : c.toNat = 92
  · rw [h3] at hg0 HH
    rw [hid92] at HH
    match r, hs, hl, hsz with
    | [], hs, hl, hsz =>
      have hsg : sgF [c] = (0, 0) := by simp [sgF_cons, sgE, h3]
      rw [hsg]
      have hz : s.size = 1 := by simpa using hsz
      clear hs hsg hsz
      go_enter Tryd.func76, Tryd.ntmps76
      go_wp2_with (go_at_call 79; refine (HH.out _).mono ?_; rintro e w1 ⟨rfl, rfl⟩)
      go_ret2
      exact ⟨rfl, Below.refl _ _⟩
    | d :: q, hs, hl, hsz =>
      obtain ⟨hi1, hg1⟩ := str_at (k := 1) (c := d) (r := q) hs rfl
      have HTD := hid fun w => told_any s c d q w hs (by simp at hl; omega)
      have hz : s.size = q.length + 2 := by simpa using hsz
      have hq : q.length < 9223372036854770000 := by simp at hl; omega
      have hsg : sgF (c :: d :: q) = if d.toNat = 34 ∨ d.toNat = 92 then (d.toNat, 2) else if d.toNat = 110 then (10, 2) else if d.toNat = 116 then (9, 2) else if d.toNat = 120 then tdF q else (0, 0) := by
        rw [sgF_cons, if_neg (by simp [h1', h2]), if_neg (by simp [h3]), sgE_cons]
      have hdl := d.toNat_lt
      generalize d.toNat = y at *
      generalize tdF q = td at *
      clear hs hsz hl h1 h1' h2 h3 hlt
      by_cases a1 : y = 34
      · rw [hsg, if_pos (.inl a1)]
        subst a1
        clear hsg
        go_enter Tryd.func76, Tryd.ntmps76
        go_wp2_with (go_at_call 79; refine (HH.out _).mono ?_; rintro e w1 ⟨rfl, rfl⟩)
        go_ret2
        exact ⟨rfl, Below.refl _ _⟩
      by_cases a2 : y = 92
      · rw [hsg, if_pos (.inr a2)]
        subst a2
        clear hsg
        go_enter Tryd.func76, Tryd.ntmps76
        go_wp2_with (go_at_call 79; refine (HH.out _).mono ?_; rintro e w1 ⟨rfl, rfl⟩)
        go_ret2
        exact ⟨rfl, Below.refl _ _⟩
      have q1 : ((y : Int) == 34) = false := by simp; omega
      have q2 : ((y : Int) == 92) = false := by simp; omega
      rw [if_neg (by simp [a1, a2])] at hsg
      by_cases a3 : y = 110
      · rw [hsg, if_pos a3]
        subst a3
        clear hsg
        go_enter Tryd.func76, Tryd.ntmps76
        go_wp2_with (go_at_call 79; refine (HH.out _).mono ?_; rintro e w1 ⟨rfl, rfl⟩)
        go_ret2
        exact ⟨rfl, Below.refl _ _⟩
      have q3 : ((y : Int) == 110) = false := by simp; omega
      rw [if_neg a3] at hsg
      by_cases a4 : y = 116
      · rw [hsg, if_pos a4]
        subst a4
        clear hsg
        go_enter Tryd.func76, Tryd.ntmps76
        go_wp2_with (go_at_call 79; refine (HH.out _).mono ?_; rintro e w1 ⟨rfl, rfl⟩)
        go_ret2
        exact ⟨rfl, Below.refl _ _⟩
      have q4 : ((y : Int) == 116) = false := by simp; omega
      rw [if_neg a4] at hsg
      by_cases a5 : y = 120
      · rw [hsg, if_pos a5]
        subst a5
        clear hsg
        obtain ⟨t1, t2⟩ := td
        go_enter Tryd.func76, Tryd.ntmps76
        go_wp2_with (first | (go_at_call 79; refine (HH.out _).mono ?_; rintro e w1 ⟨rfl, rfl⟩) | (go_at_call 94; refine (HTD.out _).mono ?_; rintro e w2 ⟨rfl, hb2⟩))
        go_ret2
        exact ⟨rfl, hb2⟩
      · have q5 : ((y : Int) == 120) = false := by simp; omega
        rw [hsg, if_neg a5]
        clear hsg
        go_enter Tryd.func76, Tryd.ntmps76
        go_wp2_with (go_at_call 79; refine (HH.out _).mono ?_; rintro e w1 ⟨rfl, rfl⟩)
        go_ret2
        exact ⟨rfl, Below.refl _ _⟩
  · have hsg := sgF_one (r := r) h1' h2 h3
    rw [hsg]
    rw [h1'] at HH
    clear hs hsg h1 h1'
    generalize c.toNat = x at *
    have q1 : ((x : Int) == 34) = false := by simp; omega
    have q2 : ((x : Int) == 92) = false := by simp; omega
    have q3 : ((x : Int) != 92) = true := by simp; omega
    go_enter Tryd.func76, Tryd.ntmps76
    go_wp2_with (go_at_call 79; refine (HH.out _).mono ?_; rintro e w1 ⟨rfl, rfl⟩)
    go_ret2
    exact ⟨rfl, Below.refl _ _⟩
end Go.Proofs.YtihkjopplmdkkaaDoor
