/- resync.Gaps: the closure that notes a gap. -/
import Derived.Test.YtnfodgjihdoncaaRsWhole
set_option linter.unusedVariables false
namespace Go.Proofs.Ytnfodgjihdoncaa
open Go.RowKit Go.Shelf
attribute [local go_sem] Oper.semAt_some
def Rs.gap (b e : Nat) : List (Nat × Nat) := if b < e then [(b, e)] else []
def Rs.gstep (s : List (Nat × Nat) × Nat) (f : Fnd) : List (Nat × Nat) × Nat := (s.1 ++ Rs.gap s.2 f.at_, f.at_ + f.size)
/-- The gaps between frames, so far, and where the last frame ended. -/
def Rs.gs (l : List Fnd) : List (Nat × Nat) × Nat := l.foldl Rs.gstep ([], 0)
def Rs.gaps (l : List Fnd) (e : Nat) : List (Nat × Nat) := (Rs.gs l).1 ++ Rs.gap (Rs.gs l).2 e
theorem Rs.gs_snoc (l : List Fnd) (f : Fnd) : Rs.gs (l ++ [f]) = ((Rs.gs l).1 ++ Rs.gap (Rs.gs l).2 f.at_, f.at_ + f.size) := by
  unfold Rs.gs
  rw [List.foldl_append]
  rfl
theorem Rs.gap_len (b e : Nat) : (Rs.gap b e).length ≤ 1 := by unfold Rs.gap; split <;> simp
theorem Rs.gs_len' (l : List Fnd) : ∀ s : List (Nat × Nat) × Nat, (l.foldl Rs.gstep s).1.length ≤ s.1.length + l.length := by
  induction l with
  | nil => intro s; simp
  | cons f l ih =>
    intro s
    rw [List.foldl_cons]
    have h1 := ih (Rs.gstep s f)
    have h2 := Rs.gap_len s.2 f.at_
    have h3 : (Rs.gstep s f).1.length = s.1.length + (Rs.gap s.2 f.at_).length := by simp [Rs.gstep]
    simp only [List.length_cons]
    omega
theorem Rs.gs_len (l : List Fnd) : (Rs.gs l).1.length ≤ l.length := by
  have := Rs.gs_len' l ([], 0)
  simpa [Rs.gs] using this
def gC (g : Nat × Nat) : List Value := [.int .i64 (g.1 : Int), .int .i64 (g.2 : Int)]
theorem Try.info125 : (Try.prog.info? 125).map (fun i => (i.zero, i.size, i.bytes)) = some (some (.agg #[.int .i64 0, .int .i64 0]), 2, 16) := by kernel_rfl
/-- The box of gaps. -/
def GBox (s B : Nat) (W : World) (l : List (Nat × Nat)) : Prop := ∃ Ao co, Blk W s 123 #[.slice Ao l.length co] ∧ W.ownsRow B 125 2 (.slice Ao l.length co) l.length (l.flatMap gC)
theorem GBox.chg {s B : Nat} {W W' : World} {l : List (Nat × Nat)} {S : Nat → Prop} (h : GBox s B W l) (hc : Chg S W W') (hs : ¬ S s) (hS : ∀ q, B ≤ q → ¬ S q) : GBox s B W' l := by
  obtain ⟨Ao, co, h1, h2⟩ := h
  exact ⟨Ao, co, hc.blk h1 hs, own_chgS h2 hc (fun g hg => hS g (h2.lt g hg).1)⟩
set_option maxRecDepth 100000 in
set_option maxHeartbeats 2000000 in
theorem sgap_any (b e : Nat) (l : List (Nat × Nat)) (s q B : Nat) (W : World) (hb : b ≤ 10000000) (he : e ≤ 10000000) (hl : l.length ≤ 1000000) (hsB : s < B) (hqs : q ≠ s) (hqB : q < B) (hBW : B ≤ W.heap.size)
    (hk : Blk W q 3 #[.int .i64 (b : Int)]) (hg : GBox s B W l) :
    Calls Try.prog 93 #[.int .i64 (e : Int), .pointer (some ⟨q, 0, none⟩), .pointer (some ⟨s, 0, none⟩)] W fun r W' => (∃ v, r = .returned v) ∧ GBox s B W' (l ++ Rs.gap b e) ∧ Chg (fun k => k = s ∨ B ≤ k) W W' := by
  obtain ⟨i0, hi, hz0, hz1, hz2⟩ := info_parts Try.info125
  have c0 := hk.cell 0
  simp only [List.getElem?_toArray, List.getElem?_cons_zero] at c0
  have hql := hk.lt
  obtain ⟨Ao, co, h1, h2⟩ := hg
  have d0 := h1.cell 0
  simp only [List.getElem?_toArray, List.getElem?_cons_zero] at d0
  have df := h1.frozen 0
  have hsl := h1.lt
  by_cases hlt : b < e
  · have hgp : Rs.gap b e = [(b, e)] := by unfold Rs.gap; rw [if_pos hlt]
    have hbe : (b : Int) < (e : Int) := by omega
    rw [hgp]
    obtain ⟨n, hn⟩ : ∃ n, l.length = n := ⟨_, rfl⟩
    have hlen : (l ++ [(b, e)]).length = n + 1 := by rw [List.length_append, hn]; rfl
    have hfl : (l ++ [(b, e)]).flatMap gC = l.flatMap gC ++ [.int .i64 (b : Int), .int .i64 (e : Int)] := by rw [List.flatMap_append]; rfl
    rw [hn] at h1 h2 d0 hl
    have hO := own_below h2 (bw_a (Below.refl _ W) (.cells #[.int .i64 (b : Int), .int .i64 (e : Int)] 125))
    have HO := hid hO
    have HO2 := hid h2
    have HK := hid h1
    have HRD := hid (Rd.new W 125 #[.int .i64 (b : Int), .int .i64 (e : Int)])
    have HLEN := hid hlen
    have HFL := hid hfl
    clear hO h2 h1 hn hlen hfl hk hgp
    go_enter Try.func93, Try.ntmps93
    go_wp2_with (at_builtin; refine wpList_append_rd rfl (.tmp 7) (.tmp 11) 123 rfl B 125 i0 (.agg #[.int .i64 0, .int .i64 0]) 2 16 Try.underlying123 hi hz0 hz1 hz2 rfl (by decide) _ _ _ rfl HO.out (some ⟨W.heap.size, 0, none⟩) 1 1 [.int .i64 (b : Int), .int .i64 (e : Int)] rfl rfl HRD.out (fun h => by cases h) (by simp [Value.oneCell']) (by simp only [maxLen]; omega) (by omega) (by rw [World.size_alloc]; omega) ?_; intro v' w4 hown' hgrow; obtain ⟨A', c', rfl⟩ := row_slice_g hown'; have HOW := hid hown'; have HGR := hid hgrow; have hvv : some s ≠ (Value.slice Ao n co).ownBlock := (fun e => by have := (HO2.out.lt _ e.symm).1; omega); have hkw := (hgrow.block s (by rw [World.size_alloc]; omega) hvv).trans (HK.out.alloc _); have hc4 := Blk.cell hkw 0; have hf4 := Blk.frozen hkw 0; simp only [List.getElem?_toArray, List.getElem?_cons_zero] at hc4; have HKW := hid hkw; clear hown' hgrow hkw)
    refine bodyPost_end (results_none rfl _ _ _) rfl ⟨⟨_, rfl⟩, ⟨A', c', ?_, ?_⟩, ?_⟩
    · rw [HLEN.out]; have := Blk.set_ HKW.out 0 (.slice A' (n + 1) c'); exact this
    · rw [HLEN.out, HFL.out]
      exact own_chgS HOW.out ((Chg.refl (fun q => q = s) w4).set_ (.inl rfl) 0 _) (fun g hg h => by have := (HOW.out.lt g hg).1; omega)
    · exact (((Chg.refl _ W).alloc _).trans (Chg.of_grown HGR.out (fun g e => .inr (HO2.out.lt g e).1))).set_ (.inl (.inl rfl)) 0 _
  · have hgp : Rs.gap b e = [] := by unfold Rs.gap; rw [if_neg hlt]
    rw [hgp, List.append_nil]
    have HG : Hid (GBox s B W l) := ⟨Ao, co, h1, h2⟩
    clear h1 h2 hk hgp
    go_enter Try.func93, Try.ntmps93
    go_wp2_with fail
    refine bodyPost_end (results_none rfl _ _ _) rfl ⟨⟨_, rfl⟩, HG.out, Chg.refl _ _⟩
end Go.Proofs.Ytnfodgjihdoncaa
