/- A region that draws its order, by an invariant over what has come up. No program is named here. · A region that draws its order, by an invariant over what has come up: only edges that bind are asked of. No program is named here. · A region that draws its order, within a fence, by an invariant over what has come up. No program is named here. -/
import Derived.Orders
import Derived.Tactics
import Derived.WalkKit
import Derived.OrdersIn
import Derived.TacticsIn
set_option linter.unusedVariables false
namespace Go.Proofs.Ytejdlhjbakndaaa
theorem wpOp_of_list {P : Program} {ops : Array Oper} {Q : Exit → Act → World → Prop} {i : Nat} {o : Oper} {K : Act → World → Prop} {a : Act} {w : World} (ho : ops[i]? = some o) (h : wpList P ops (Exit.then K Q) [o] a w) : wpOp P ops Q i K a w := by
  unfold wpOp
  simp only [ho]
  unfold wpList at h
  split
  · rename_i hw
    simp only [hw, if_true] at h
    rcases h with h | ⟨h1, h2⟩
    · left
      unfold Oper.wp at *
      generalize (execOp a.eval o).run P w = r at *
      cases r with
      | ok n w' =>
        cases n <;> simp only [Oper.upon] at h ⊢ <;> first
          | exact h
          | exact Calls.mono h (fun e w'' he => by cases e <;> first | exact he | (obtain ⟨a2, w2, h2⟩ := he; exact ⟨a2, w2, h2⟩))
          | exact Rows.mono h (fun _ _ he => he)
      | halt x w' => cases x <;> simp only [Oper.upon] at h ⊢ <;> exact h
    · exact .inr ⟨h1, by obtain ⟨a2, w2, h3⟩ := h2; exact ⟨a2, w2, h3⟩⟩
  · rename_i hw
    simp only [hw] at h
    exact h
/-- Each operation waits for earlier ones alone. -/
def regUp (ops : Array Oper) : Bool := (List.range ops.size).all fun i => ((ops[i]?).map fun o => o.after.all fun e => decide (e.on < i)).getD true
theorem regUp_spec {ops : Array Oper} (h : regUp ops = true) {i : Nat} {o : Oper} (ho : ops[i]? = some o) : ∀ e ∈ o.after, e.on < i := by
  have hi : i < ops.size := (Array.getElem?_eq_some_iff.1 ho).1
  unfold regUp at h
  rw [List.all_eq_true] at h
  have h1 := h i (List.mem_range.2 hi)
  rw [ho] at h1
  intro e he
  obtain ⟨k, hk, rfl⟩ := Array.mem_iff_getElem.1 he
  have h2 : ∀ (j : Nat) (x : j < o.after.size), o.after[j].on < i := by simpa using h1
  exact h2 k hk
theorem wpAny_inv {P : Program} {md : Region.Mode} {ops : Array Oper} {Q : Exit → Act → World → Prop} (hup : regUp ops = true) (I : (Nat → Bool) → Act → World → Prop)
    (hstep : ∀ f a w i o, ops[i]? = some o → f i = false → (∀ e ∈ o.after, Region.binds md e = true → f e.on = true) → I f a w → wpList P ops (Exit.then (fun a' w' => I (fun k => decide (k = i) || f k) a' w') Q) [o] a w)
    (hdone : ∀ f a w, (∀ i, i < ops.size → f i = true) → I f a w → Q .normal a w) :
    ∀ (fuel : Nat) (listed : Array Bool) (a : Act) (w : World), listed.size = ops.size → ((List.range ops.size).filter fun i => !listed.getD i true).length ≤ fuel → I (fun k => listed.getD k true) a w → wpAny P md ops Q fuel listed a w := by
  have hall : ∀ (listed : Array Bool), listed.size = ops.size → Region.ready md ops listed = [] → ∀ i, i < ops.size → listed.getD i true = true := by
    intro listed hsz hr i
    induction i using Nat.strongRecOn with
    | _ i ih =>
      intro hi
      cases hb : listed.getD i true with
      | true => rfl
      | false =>
        exfalso
        have ho : ops[i]? = some ops[i] := Array.getElem?_eq_getElem hi
        have : i ∈ Region.ready md ops listed := mem_ready.2 ⟨hb, ops[i], ho, fun e he _ => by
          have h1 := regUp_spec hup ho e he
          have h2 := ih e.on h1 (by omega)
          have h3 : e.on < listed.size := by omega
          simp only [Array.getD_eq_getD_getElem?, Array.getElem?_eq_getElem h3, Option.getD_some] at h2 ⊢
          exact h2⟩
        rw [hr] at this
        cases this
  intro fuel
  induction fuel with
  | zero =>
    intro listed a w hsz hc hI
    have hnil : Region.ready md ops listed = [] := by
      cases hr : Region.ready md ops listed with
      | nil => rfl
      | cons x xs =>
        have hx : x ∈ Region.ready md ops listed := by rw [hr]; exact List.mem_cons_self ..
        obtain ⟨h1, o, h2, -⟩ := mem_ready.1 hx
        have h3 : x ∈ (List.range ops.size).filter fun i => !listed.getD i true := List.mem_filter.2 ⟨List.mem_range.2 (Array.getElem?_eq_some_iff.1 h2).1, by rw [h1]; rfl⟩
        have := List.length_pos_of_mem h3
        omega
    exact ⟨hnil, hdone _ a w (hall listed hsz hnil) hI⟩
  | succ fuel ih =>
    intro listed a w hsz hc hI
    refine ⟨fun hr => hdone _ a w (hall listed hsz hr) hI, fun i hi => ?_⟩
    obtain ⟨h1, o, h2, h3⟩ := mem_ready.1 hi
    have hlt : i < ops.size := (Array.getElem?_eq_some_iff.1 h2).1
    refine wpOp_mono (fun a' w' h => ?_) (wpOp_of_list h2 (hstep _ a w i o h2 h1 (fun e he hb => by
      have h4 := h3 e he hb
      have h5 := regUp_spec hup h2 e he
      have h6 : e.on < listed.size := by omega
      simp only [Array.getD_eq_getD_getElem?, Array.getElem?_eq_getElem h6, Option.getD_some] at h4 ⊢
      exact h4) hI))
    have hfn : (fun k => decide (k = i) || listed.getD k true) = fun k => (listed.setIfInBounds i true).getD k true := by
      funext k
      by_cases hk : k = i
      · subst hk
        simp [Array.getD_eq_getD_getElem?, hsz, hlt]
      · rw [getD_set_ne true (fun e => hk e.symm)]
        simp [hk]
    refine ih _ a' w' (by simpa using hsz) ?_ (by rw [← hfn]; exact h)
    have hf : ((List.range ops.size).filter fun k => !(listed.setIfInBounds i true).getD k true) = ((List.range ops.size).filter fun k => !listed.getD k true).filter fun k => !decide (k = i) := by
      rw [List.filter_filter]
      congr 1
      funext k
      rw [← congrFun hfn k]
      cases decide (k = i) <;> simp
    have hmem : i ∈ (List.range ops.size).filter fun k => !listed.getD k true := List.mem_filter.2 ⟨List.mem_range.2 hlt, by rw [h1]; rfl⟩
    have hlt2 : (((List.range ops.size).filter fun k => !listed.getD k true).filter fun k => !decide (k = i)).length < ((List.range ops.size).filter fun k => !listed.getD k true).length :=
      List.length_filter_lt_length_iff_exists.2 ⟨i, hmem, by simp⟩
    rw [hf]
    omega
/-- A region that draws its order: an invariant over what has come up, from the frame and the world at its head. -/
theorem wp_region_inv {P : Program} {ops : Array Oper} {Q : Exit → Act → World → Prop} {id : Nat} {a : Act} {w : World} (hm : P.follows .mixedOrders = true) (hup : regUp ops = true) (I : Act → World → (Nat → Bool) → Act → World → Prop)
    (h0 : I a w (fun k => decide (ops.size ≤ k)) a w.drew)
    (hstep : ∀ f a' w' i o, ops[i]? = some o → f i = false → (∀ e ∈ o.after, Region.binds .any e = true → f e.on = true) → I a w f a' w' → wpList P ops (Exit.then (fun a'' w'' => I a w (fun k => decide (k = i) || f k) a'' w'') Q) [o] a' w')
    (hdone : ∀ f a' w', (∀ i, i < ops.size → f i = true) → I a w f a' w' → Q .normal a' w') : (Code.region id ops true).wp P Q a w := by
  refine wp_region_any hm (wpAny_inv hup (I a w) hstep hdone ops.size _ a _ (by simp) ?_ ?_)
  · exact Nat.le_trans (List.length_filter_le _ _) (by simp)
  · have e : (fun k => (Array.replicate ops.size false).getD k true) = fun k => decide (ops.size ≤ k) := by
      funext k
      by_cases hk : k < ops.size
      · simp [Array.getD_eq_getD_getElem?, hk]
      · simp [Array.getD_eq_getD_getElem?, hk]; omega
    rw [e]
    exact h0
end Go.Proofs.Ytejdlhjbakndaaa
set_option linter.unusedVariables false
namespace Go.Proofs.Ytejdlhjbakndaaa
/-- Each operation waits for earlier ones alone. -/
def regUpB (md : Region.Mode) (ops : Array Oper) : Bool := (List.range ops.size).all fun i => ((ops[i]?).map fun o => o.after.all fun e => !Region.binds md e || decide (e.on < i)).getD true
theorem regUpB_spec {md : Region.Mode} {ops : Array Oper} (h : regUpB md ops = true) {i : Nat} {o : Oper} (ho : ops[i]? = some o) : ∀ e ∈ o.after, Region.binds md e = true → e.on < i := by
  have hi : i < ops.size := (Array.getElem?_eq_some_iff.1 ho).1
  unfold regUpB at h
  rw [List.all_eq_true] at h
  have h1 := h i (List.mem_range.2 hi)
  rw [ho] at h1
  intro e he hb
  simp only [Option.map_some, Option.getD_some] at h1
  have h2 := (Array.all_eq_true'.1 h1) e he
  rw [hb] at h2
  simpa using h2
theorem wpAny_invB {P : Program} {md : Region.Mode} {ops : Array Oper} {Q : Exit → Act → World → Prop} (hup : regUpB md ops = true) (I : (Nat → Bool) → Act → World → Prop)
    (hstep : ∀ f a w i o, ops[i]? = some o → f i = false → (∀ e ∈ o.after, Region.binds md e = true → f e.on = true) → I f a w → wpList P ops (Exit.then (fun a' w' => I (fun k => decide (k = i) || f k) a' w') Q) [o] a w)
    (hdone : ∀ f a w, (∀ i, i < ops.size → f i = true) → I f a w → Q .normal a w) :
    ∀ (fuel : Nat) (listed : Array Bool) (a : Act) (w : World), listed.size = ops.size → ((List.range ops.size).filter fun i => !listed.getD i true).length ≤ fuel → I (fun k => listed.getD k true) a w → wpAny P md ops Q fuel listed a w := by
  have hall : ∀ (listed : Array Bool), listed.size = ops.size → Region.ready md ops listed = [] → ∀ i, i < ops.size → listed.getD i true = true := by
    intro listed hsz hr i
    induction i using Nat.strongRecOn with
    | _ i ih =>
      intro hi
      cases hb : listed.getD i true with
      | true => rfl
      | false =>
        exfalso
        have ho : ops[i]? = some ops[i] := Array.getElem?_eq_getElem hi
        have : i ∈ Region.ready md ops listed := mem_ready.2 ⟨hb, ops[i], ho, fun e he hb2 => by
          have h1 := regUpB_spec hup ho e he hb2
          have h2 := ih e.on h1 (by omega)
          have h3 : e.on < listed.size := by omega
          simp only [Array.getD_eq_getD_getElem?, Array.getElem?_eq_getElem h3, Option.getD_some] at h2 ⊢
          exact h2⟩
        rw [hr] at this
        cases this
  intro fuel
  induction fuel with
  | zero =>
    intro listed a w hsz hc hI
    have hnil : Region.ready md ops listed = [] := by
      cases hr : Region.ready md ops listed with
      | nil => rfl
      | cons x xs =>
        have hx : x ∈ Region.ready md ops listed := by rw [hr]; exact List.mem_cons_self ..
        obtain ⟨h1, o, h2, -⟩ := mem_ready.1 hx
        have h3 : x ∈ (List.range ops.size).filter fun i => !listed.getD i true := List.mem_filter.2 ⟨List.mem_range.2 (Array.getElem?_eq_some_iff.1 h2).1, by rw [h1]; rfl⟩
        have := List.length_pos_of_mem h3
        omega
    exact ⟨hnil, hdone _ a w (hall listed hsz hnil) hI⟩
  | succ fuel ih =>
    intro listed a w hsz hc hI
    refine ⟨fun hr => hdone _ a w (hall listed hsz hr) hI, fun i hi => ?_⟩
    obtain ⟨h1, o, h2, h3⟩ := mem_ready.1 hi
    have hlt : i < ops.size := (Array.getElem?_eq_some_iff.1 h2).1
    refine wpOp_mono (fun a' w' h => ?_) (wpOp_of_list h2 (hstep _ a w i o h2 h1 (fun e he hb => by
      have h4 := h3 e he hb
      have h5 := regUpB_spec hup h2 e he hb
      have h6 : e.on < listed.size := by omega
      simp only [Array.getD_eq_getD_getElem?, Array.getElem?_eq_getElem h6, Option.getD_some] at h4 ⊢
      exact h4) hI))
    have hfn : (fun k => decide (k = i) || listed.getD k true) = fun k => (listed.setIfInBounds i true).getD k true := by
      funext k
      by_cases hk : k = i
      · subst hk
        simp [Array.getD_eq_getD_getElem?, hsz, hlt]
      · rw [getD_set_ne true (fun e => hk e.symm)]
        simp [hk]
    refine ih _ a' w' (by simpa using hsz) ?_ (by rw [← hfn]; exact h)
    have hf : ((List.range ops.size).filter fun k => !(listed.setIfInBounds i true).getD k true) = ((List.range ops.size).filter fun k => !listed.getD k true).filter fun k => !decide (k = i) := by
      rw [List.filter_filter]
      congr 1
      funext k
      rw [← congrFun hfn k]
      cases decide (k = i) <;> simp
    have hmem : i ∈ (List.range ops.size).filter fun k => !listed.getD k true := List.mem_filter.2 ⟨List.mem_range.2 hlt, by rw [h1]; rfl⟩
    have hlt2 : (((List.range ops.size).filter fun k => !listed.getD k true).filter fun k => !decide (k = i)).length < ((List.range ops.size).filter fun k => !listed.getD k true).length :=
      List.length_filter_lt_length_iff_exists.2 ⟨i, hmem, by simp⟩
    rw [hf]
    omega
/-- A region that draws its order: an invariant over what has come up, from the frame and the world at its head. -/
theorem wp_region_invB {P : Program} {ops : Array Oper} {Q : Exit → Act → World → Prop} {id : Nat} {a : Act} {w : World} (hm : P.follows .mixedOrders = true) (hup : regUpB .any ops = true) (I : Act → World → (Nat → Bool) → Act → World → Prop)
    (h0 : I a w (fun k => decide (ops.size ≤ k)) a w.drew)
    (hstep : ∀ f a' w' i o, ops[i]? = some o → f i = false → (∀ e ∈ o.after, Region.binds .any e = true → f e.on = true) → I a w f a' w' → wpList P ops (Exit.then (fun a'' w'' => I a w (fun k => decide (k = i) || f k) a'' w'') Q) [o] a' w')
    (hdone : ∀ f a' w', (∀ i, i < ops.size → f i = true) → I a w f a' w' → Q .normal a' w') : (Code.region id ops true).wp P Q a w := by
  refine wp_region_any hm (wpAny_invB hup (I a w) hstep hdone ops.size _ a _ (by simp) ?_ ?_)
  · exact Nat.le_trans (List.length_filter_le _ _) (by simp)
  · have e : (fun k => (Array.replicate ops.size false).getD k true) = fun k => decide (ops.size ≤ k) := by
      funext k
      by_cases hk : k < ops.size
      · simp [Array.getD_eq_getD_getElem?, hk]
      · simp [Array.getD_eq_getD_getElem?, hk]; omega
    rw [e]
    exact h0
end Go.Proofs.Ytejdlhjbakndaaa
set_option linter.unusedVariables false
namespace Go.Proofs.Ytejdlhjbakndaaa
theorem wpOpIn_of_list {F : Fence} {n : Nat} {P : Program} {ops : Array Oper} {Q : Exit → Act → World → Prop} {i : Nat} {o : Oper} {K : Act → World → Prop} {a : Act} {w : World} (ho : ops[i]? = some o) (h : wpListIn F n P ops (Exit.then K Q) [o] a w) : wpOpIn F n P ops Q i K a w := by
  unfold wpOpIn
  simp only [ho]
  unfold wpListIn at h
  split
  · rename_i hw
    simp only [hw, if_true] at h
    unfold Oper.wpIn at *
    refine ⟨h.1, ?_⟩
    have h := h.2
    generalize (o.semAt F.round a.eval).run P w = r at *
    cases r with
    | ok x w' =>
      cases x <;> simp only [Oper.uponIn] at h ⊢ <;>
        first
          | exact h
          | exact ⟨h.1, CallsIn.mono h.2 (fun e w'' he => by cases e <;> exact he)⟩
          | exact ⟨h.1, RowsIn.mono h.2 (fun _ _ he => he)⟩
          | exact ⟨h.1, RoundIn.mono h.2 (fun e w'' he => by cases e <;> exact he)⟩
    | halt x w' => cases x <;> simp only [Oper.uponIn] at h ⊢ <;> exact h
  · rename_i hw
    simp only [hw] at h
    exact h
theorem wpAnyIn_invB {F : Fence} {n : Nat} {P : Program} {md : Region.Mode} {ops : Array Oper} {Q : Exit → Act → World → Prop} (hup : regUpB md ops = true) (I : (Nat → Bool) → Act → World → Prop)
    (hstep : ∀ f a w i o, ops[i]? = some o → f i = false → (∀ e ∈ o.after, Region.binds md e = true → f e.on = true) → I f a w → wpListIn F n P ops (Exit.then (fun a' w' => I (fun k => decide (k = i) || f k) a' w') Q) [o] a w)
    (hdone : ∀ f a w, (∀ i, i < ops.size → f i = true) → I f a w → Q .normal a w) :
    ∀ (fuel : Nat) (listed : Array Bool) (a : Act) (w : World), listed.size = ops.size → ((List.range ops.size).filter fun i => !listed.getD i true).length ≤ fuel → I (fun k => listed.getD k true) a w → wpAnyIn F n P md ops Q fuel listed a w := by
  have hall : ∀ (listed : Array Bool), listed.size = ops.size → Region.ready md ops listed = [] → ∀ i, i < ops.size → listed.getD i true = true := by
    intro listed hsz hr i
    induction i using Nat.strongRecOn with
    | _ i ih =>
      intro hi
      cases hb : listed.getD i true with
      | true => rfl
      | false =>
        exfalso
        have ho : ops[i]? = some ops[i] := Array.getElem?_eq_getElem hi
        have : i ∈ Region.ready md ops listed := mem_ready.2 ⟨hb, ops[i], ho, fun e he hb2 => by
          have h1 := regUpB_spec hup ho e he hb2
          have h2 := ih e.on h1 (by omega)
          have h3 : e.on < listed.size := by omega
          simp only [Array.getD_eq_getD_getElem?, Array.getElem?_eq_getElem h3, Option.getD_some] at h2 ⊢
          exact h2⟩
        rw [hr] at this
        cases this
  intro fuel
  induction fuel with
  | zero =>
    intro listed a w hsz hc hI
    have hnil : Region.ready md ops listed = [] := by
      cases hr : Region.ready md ops listed with
      | nil => rfl
      | cons x xs =>
        have hx : x ∈ Region.ready md ops listed := by rw [hr]; exact List.mem_cons_self ..
        obtain ⟨h1, o, h2, -⟩ := mem_ready.1 hx
        have h3 : x ∈ (List.range ops.size).filter fun i => !listed.getD i true := List.mem_filter.2 ⟨List.mem_range.2 (Array.getElem?_eq_some_iff.1 h2).1, by rw [h1]; rfl⟩
        have := List.length_pos_of_mem h3
        omega
    exact ⟨hnil, hdone _ a w (hall listed hsz hnil) hI⟩
  | succ fuel ih =>
    intro listed a w hsz hc hI
    refine ⟨fun hr => hdone _ a w (hall listed hsz hr) hI, fun i hi => ?_⟩
    obtain ⟨h1, o, h2, h3⟩ := mem_ready.1 hi
    have hlt : i < ops.size := (Array.getElem?_eq_some_iff.1 h2).1
    refine wpOpIn_mono (fun a' w' h => ?_) (wpOpIn_of_list h2 (hstep _ a w i o h2 h1 (fun e he hb => by
      have h4 := h3 e he hb
      have h5 := regUpB_spec hup h2 e he hb
      have h6 : e.on < listed.size := by omega
      simp only [Array.getD_eq_getD_getElem?, Array.getElem?_eq_getElem h6, Option.getD_some] at h4 ⊢
      exact h4) hI))
    have hfn : (fun k => decide (k = i) || listed.getD k true) = fun k => (listed.setIfInBounds i true).getD k true := by
      funext k
      by_cases hk : k = i
      · subst hk
        simp [Array.getD_eq_getD_getElem?, hsz, hlt]
      · rw [getD_set_ne true (fun e => hk e.symm)]
        simp [hk]
    refine ih _ a' w' (by simpa using hsz) ?_ (by rw [← hfn]; exact h)
    have hf : ((List.range ops.size).filter fun k => !(listed.setIfInBounds i true).getD k true) = ((List.range ops.size).filter fun k => !listed.getD k true).filter fun k => !decide (k = i) := by
      rw [List.filter_filter]
      congr 1
      funext k
      rw [← congrFun hfn k]
      cases decide (k = i) <;> simp
    have hmem : i ∈ (List.range ops.size).filter fun k => !listed.getD k true := List.mem_filter.2 ⟨List.mem_range.2 hlt, by rw [h1]; rfl⟩
    have hlt2 : (((List.range ops.size).filter fun k => !listed.getD k true).filter fun k => !decide (k = i)).length < ((List.range ops.size).filter fun k => !listed.getD k true).length :=
      List.length_filter_lt_length_iff_exists.2 ⟨i, hmem, by simp⟩
    rw [hf]
    omega
/-- A region that draws its order: an invariant over what has come up, from the frame and the world at its head. -/
theorem wpIn_region_invB {F : Fence} {n : Nat} {P : Program} {ops : Array Oper} {Q : Exit → Act → World → Prop} {id : Nat} {a : Act} {w : World} (hm : P.follows .mixedOrders = true) (hup : regUpB .any ops = true) (I : Act → World → (Nat → Bool) → Act → World → Prop)
    (h0 : I a w (fun k => decide (ops.size ≤ k)) a w.drew)
    (hstep : ∀ f a' w' i o, ops[i]? = some o → f i = false → (∀ e ∈ o.after, Region.binds .any e = true → f e.on = true) → I a w f a' w' → wpListIn F n P ops (Exit.then (fun a'' w'' => I a w (fun k => decide (k = i) || f k) a'' w'') Q) [o] a' w')
    (hdone : ∀ f a' w', (∀ i, i < ops.size → f i = true) → I a w f a' w' → Q .normal a' w') : (Code.region id ops true).wpIn F n P Q a w := by
  refine wpIn_region_any hm (wpAnyIn_invB hup (I a w) hstep hdone ops.size _ a _ (by simp) ?_ ?_)
  · exact Nat.le_trans (List.length_filter_le _ _) (by simp)
  · have e : (fun k => (Array.replicate ops.size false).getD k true) = fun k => decide (ops.size ≤ k) := by
      funext k
      by_cases hk : k < ops.size
      · simp [Array.getD_eq_getD_getElem?, hk]
      · simp [Array.getD_eq_getD_getElem?, hk]; omega
    rw [e]
    exact h0
end Go.Proofs.Ytejdlhjbakndaaa
