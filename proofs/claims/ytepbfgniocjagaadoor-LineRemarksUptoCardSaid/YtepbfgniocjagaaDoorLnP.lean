/- The document's Split (layer 17): a walk. -/
import Derived.Test.YtepbfgniocjagaaDoorLnR
set_option linter.unusedVariables false
namespace Go.Proofs.YtepbfgniocjagaaDoor
open Go.RowKit
theorem Tryd.infoStr : (Tryd.prog.info? 9).map (fun i => (i.zero, i.size, i.bytes)) = some (some (.string ⟨#[]⟩), 1, 16) := by kernel_rfl
/-- Texts, as a row's cells. -/
def sL (X : List (List UInt8)) : List Value := X.map fun l => .string ⟨l.toArray⟩
theorem sL_len (X : List (List UInt8)) : (sL X).length = X.length := by simp [sL]
theorem sL_snoc (X : List (List UInt8)) (l : List UInt8) : sL (X ++ [l]) = sL X ++ [.string ⟨l.toArray⟩] := by simp [sL]
set_option maxRecDepth 100000 in
set_option maxHeartbeats 4000000 in
theorem rsplit17_any (s : ByteArray) (bs : List UInt8) (w : World) (hs : s.data.toList = bs) (hl : bs.length ≤ 10000000) :
    Calls Tryd.prog 9 #[.string s] w fun e w' => ∃ v, e = .returned v ∧ w'.ownsRow w.heap.size 9 1 v (lnsL bs).length (sL (lnsL bs)) ∧ Below w.heap.size w w' := by
  obtain ⟨i0, hi0, hz0, hz1, hz2⟩ := info_parts Tryd.infoStr
  have hsz : s.size = bs.length := by rw [Lib.size_eq, hs]
  have HSB := hid hs
  have HSP := hid (spG_spl _ bs (Nat.le_refl _))
  clear hs
  generalize hn : bs.length = n at *
  have HN := hid hn
  clear hn
  go_enter Tryd.func9, Tryd.ntmps9
  go_wp2
  go_loopw [3, 4, 5] (fun v nw i wr => ∃ (k : Nat) (t : ByteArray) (now : List UInt8) (dn : List (List UInt8)), k ≤ n ∧ i = .int .i64 (k : Int) ∧ nw = .string t ∧ t.data.toList = now ∧ now.length ≤ k ∧ dn.length ≤ k ∧ wr.ownsRow w.heap.size 9 1 v dn.length (sL dn) ∧ Below w.heap.size w wr ∧ spG [] bs = dn ++ spG now (bs.drop k)) (fun _ _ i _ => n - (intOf i).toNat)
  case atStart => exact ⟨0, ⟨#[]⟩, [], [], by omega, rfl, rfl, rfl, by simp, by simp, World.ownsRow_nil _ _ _ _, Below.refl _ _, by simp⟩
  case round =>
    obtain ⟨k, t, now, dn, hk, rfl, rfl, ht, hnl, hdl, hrow, hbr, hsc⟩ := hrel
    have hszr := hbr.size
    have htz : t.size = now.length := by rw [Lib.size_eq, ht]
    have HC := hid hsc
    have HR := hid hrow
    have HT := hid ht
    have HTM := hid (str_mk t now ht)
    clear hsc hrow ht
    by_cases hlt : k < n
    · obtain ⟨c, r, hd⟩ := str_cons HN.out hlt
      obtain ⟨hi, hg⟩ := str_at HSB.out hd
      have hx := c.toNat_lt
      have hdn := drop_next hd
      have hst : spG now (c :: r) = if c.toNat = 10 then now :: spG [] r else spG (now ++ [c]) r := by rw [spG]
      have hone := ext_one HSB.out hd
      generalize c.toNat = x at *
      have HD := hid hd
      have HDN := hid hdn
      have HST := hid hst
      have HON := hid hone
      clear hd hdn hst hone
      by_cases h : x = 10
      · have HS2 := hid (show spG [] bs = (dn ++ [now]) ++ spG [] (bs.drop (k + 1)) from by rw [HC.out, HD.out, HST.out, if_pos h, HDN.out]; simp)
        have q : ((x : Int) == 10) = true := by simp [h]
        clear h
        go_wp2_with (at_builtin; refine wpList_append_rd rfl (.tmp 16) (.tmp 18) 23 rfl w.heap.size 9 i0 (.string ⟨#[]⟩) 1 16 Tryd.underlying23 hi0 hz0 hz1 hz2 rfl (by decide) _ _ _ rfl (HR.out.alloc _) (some ⟨wr.heap.size, 0, none⟩) 1 1 [.string t] rfl rfl (Rd.new wr 9 #[.string t]) (fun h => by cases h) (by simp [Value.oneCell']) (by simp only [maxLen]; omega) (by omega) (by simp; omega) ?_; intro v2 w2 hown2 hgrow2)
        have HO := hid hown2
        have hb2 : Below w.heap.size w w2 := hbr.trans (bw_new hszr HR.out hgrow2)
        clear hown2 hgrow2
        go_wp2
        go_roundw
        case rel =>
          refine ⟨k + 1, ⟨#[]⟩, [], dn ++ [now], by omega, by go_num, rfl, rfl, by simp, by simp; omega, ?_, hb2, HS2.out⟩
          have h := HO.out
          rw [HTM.out] at h
          rw [sL_snoc, List.length_append]
          exact h
        case measure => simp [intOf] <;> omega
      · have HS2 := hid (show spG [] bs = dn ++ spG (now ++ [c]) (bs.drop (k + 1)) from by rw [HC.out, HD.out, HST.out, if_neg h, HDN.out])
        have q : ((x : Int) == 10) = false := by simp; omega
        have hz1 : ¬ 9223372036854775807 < t.size + 1 := by omega
        have hs1 : (s.extract k (k + 1)).size = 1 := by rw [Lib.size_eq, HON.out]; rfl
        have HAP := hid (show (t ++ s.extract k (k + 1)).data.toList = now ++ [c] from by rw [app_data, HT.out, HON.out])
        go_wp2
        go_roundw
        case rel => exact ⟨k + 1, _, now ++ [c], dn, by omega, by go_num, rfl, HAP.out, by simp; omega, by omega, HR.out, hbr, HS2.out⟩
        case measure => simp [intOf] <;> omega
    · have hnil : bs.drop k = [] := List.drop_eq_nil_of_le (by have := HN.out; omega)
      have HE := hid (show lnsL bs = dn ++ (if now = [] then [] else [now]) from by rw [← HSP.out, HC.out, hnil]; rfl)
      clear hnil
      cases hnow : now with
      | nil =>
        have hte : t = ⟨#[]⟩ := str_nil (HT.out.trans hnow)
        have HE2 := hid (show lnsL bs = dn from by rw [HE.out, if_pos hnow]; simp)
        subst hte
        clear hnow htz
        go_wp2
        go_ret
        exact ⟨_, rfl, by rw [HE2.out]; exact HR.out, hbr⟩
      | cons c r =>
        obtain ⟨h0, h1⟩ := str_ne0 (HT.out.trans hnow)
        have HE2 := hid (show lnsL bs = dn ++ [now] from by rw [HE.out, if_neg (by rw [hnow]; simp)])
        clear hnow
        go_wp2_with (at_builtin; refine wpList_append_rd rfl (.tmp 29) (.tmp 31) 23 rfl w.heap.size 9 i0 (.string ⟨#[]⟩) 1 16 Tryd.underlying23 hi0 hz0 hz1 hz2 rfl (by decide) _ _ _ rfl (HR.out.alloc _) (some ⟨wr.heap.size, 0, none⟩) 1 1 [.string t] rfl rfl (Rd.new wr 9 #[.string t]) (fun h => by cases h) (by simp [Value.oneCell']) (by simp only [maxLen]; omega) (by omega) (by simp; omega) ?_; intro v2 w2 hown2 hgrow2)
        have HO := hid hown2
        have hb2 : Below w.heap.size w w2 := hbr.trans (bw_new hszr HR.out hgrow2)
        clear hown2 hgrow2
        go_ret
        refine ⟨_, rfl, ?_, hb2⟩
        have h := HO.out
        rw [HTM.out] at h
        rw [HE2.out, sL_snoc, List.length_append]
        exact h
end Go.Proofs.YtepbfgniocjagaaDoor
