/- What is wrong with definitions, as plain data: the order, a list each once, sorted: no program here. -/
import Derived.Sort.Statements
set_option linter.unusedVariables false
namespace Go.Proofs.Ytejdlhjbakndaaa
namespace Dg
abbrev D := Int × Int × ByteArray

def ltb (a b : D) : Bool :=
  if a.1 = b.1 then (if a.2.1 = b.2.1 then decide (a.2.2.data.toList < b.2.2.data.toList) else decide (a.2.1 < b.2.1)) else decide (a.1 < b.1)

theorem bext {a b : ByteArray} (h : a.data.toList = b.data.toList) : a = b := by
  cases a; cases b; simp at h; simp [h]

theorem lirr : ∀ (l : List UInt8), ¬ l < l := fun l => List.lt_irrefl l
theorem ltri (a b : List UInt8) : a < b ∨ a = b ∨ b < a := by
  rcases Decidable.em (a < b) with h | h
  · exact .inl h
  · rcases Decidable.em (b < a) with h' | h'
    · exact .inr (.inr h')
    · exact .inr (.inl (List.le_antisymm (List.not_lt.1 h') (List.not_lt.1 h)))

theorem irr (a : D) : ltb a a = false := by simp [ltb]
theorem tr {a b c : D} (h1 : ltb a b = true) (h2 : ltb b c = true) : ltb a c = true := by
  obtain ⟨s1, e1, t1⟩ := a; obtain ⟨s2, e2, t2⟩ := b; obtain ⟨s3, e3, t3⟩ := c
  simp only [ltb] at *
  by_cases ha : s1 = s2
  · subst ha
    by_cases hb : s1 = s3
    · subst hb
      simp only [if_true] at *
      by_cases hc : e1 = e2
      · subst hc
        by_cases hd : e1 = e3
        · subst hd
          simp only [if_true, decide_eq_true_eq] at *
          exact List.lt_trans h1 h2
        · simp only [hd, if_false, if_true] at *; exact h2
      · by_cases hd : e2 = e3
        · subst hd; simp only [hc, if_false, if_true] at *; exact h1
        · simp only [hc, hd, if_false, decide_eq_true_eq] at h1 h2
          have hx : ¬ e1 = e3 := by omega
          simp only [hx, if_false, decide_eq_true_eq]; omega
    · simp only [hb, if_false] at h2 ⊢; exact h2
  · by_cases hb : s2 = s3
    · subst hb; simp only [ha, if_false] at h1 ⊢; exact h1
    · simp only [ha, hb, if_false, decide_eq_true_eq] at h1 h2
      have hx : ¬ s1 = s3 := by omega
      simp only [hx, if_false, decide_eq_true_eq]; omega
theorem tri (a b : D) : ltb a b = true ∨ a = b ∨ ltb b a = true := by
  obtain ⟨s1, e1, t1⟩ := a; obtain ⟨s2, e2, t2⟩ := b
  simp only [ltb]
  by_cases ha : s1 = s2
  · subst ha
    by_cases hc : e1 = e2
    · subst hc
      simp only [if_true, decide_eq_true_eq]
      rcases ltri t1.data.toList t2.data.toList with h | h | h
      · exact .inl h
      · exact .inr (.inl (by rw [bext h]))
      · exact .inr (.inr h)
    · have hc' : ¬ e2 = e1 := fun h => hc h.symm
      simp only [hc, hc', if_false, if_true, decide_eq_true_eq]
      rcases Int.lt_trichotomy e1 e2 with h | h | h
      · exact .inl h
      · exact absurd h hc
      · exact .inr (.inr h)
  · have ha' : ¬ s2 = s1 := fun h => ha h.symm
    simp only [ha, ha', if_false, decide_eq_true_eq]
    rcases Int.lt_trichotomy s1 s2 with h | h | h
    · exact .inl h
    · exact absurd h ha
    · exact .inr (.inr h)
theorem asym {a b : D} (h : ltb a b = true) : ltb b a = false := by
  cases h' : ltb b a
  · rfl
  · have := tr h h'; rw [irr] at this; cases this
theorem nlt {a b : D} (h : ltb a b = false) : a = b ∨ ltb b a = true := by
  rcases tri a b with h1 | h1 | h1
  · rw [h] at h1; cases h1
  · exact .inl h1
  · exact .inr h1
theorem swo : Go.Sort.SWO ltb where
  irrefl := irr
  trans _ _ _ := tr
  ntrans x y z h1 h2 := by
    rcases nlt h1 with rfl | h1'
    · exact h2
    · rcases nlt h2 with rfl | h2'
      · exact h1
      · exact asym (tr h2' h1')

/-- Rising: each stands ahead of all behind it. -/
def Up (l : List D) : Prop := l.Pairwise fun a b => ltb a b = true

theorem up_ext : ∀ {l m : List D}, Up l → Up m → (∀ x, x ∈ l ↔ x ∈ m) → l = m
  | [], [], _, _, _ => rfl
  | [], y :: _, _, _, h => absurd ((h y).2 (by simp)) (by simp)
  | x :: _, [], _, _, h => absurd ((h x).1 (by simp)) (by simp)
  | x :: l, y :: m, h1, h2, h => by
    obtain ⟨a1, b1⟩ := List.pairwise_cons.1 h1
    obtain ⟨a2, b2⟩ := List.pairwise_cons.1 h2
    have e : x = y := by
      rcases List.mem_cons.1 ((h x).1 (by simp)) with e | hx
      · exact e
      · rcases List.mem_cons.1 ((h y).2 (by simp)) with e | hy
        · exact e.symm
        · have := tr (a1 y hy) (a2 x hx); rw [irr] at this; cases this
    subst e
    have : l = m := up_ext b1 b2 fun z => by
      have hz := h z
      simp only [List.mem_cons] at hz
      constructor
      · intro hl
        rcases hz.1 (.inr hl) with e | hm
        · subst e; have := a1 z hl; rw [irr] at this; cases this
        · exact hm
      · intro hm
        rcases hz.2 (.inr hm) with e | hl
        · subst e; have := a2 z hm; rw [irr] at this; cases this
        · exact hl
    rw [this]

/-- Where one stands among some that rise: behind all that are ahead of it. -/
def pos (x : D) : List D → Nat
  | [] => 0
  | y :: l => if ltb y x = true then pos x l + 1 else 0
theorem pos_le (x : D) : ∀ l, pos x l ≤ l.length
  | [] => by simp [pos]
  | y :: l => by unfold pos; split <;> simp; exact pos_le x l
/-- One put in among some. -/
def ins (l : List D) (x : D) : List D := if l[pos x l]? = some x then l else l.take (pos x l) ++ x :: l.drop (pos x l)
theorem pos_lt (x : D) : ∀ (l : List D) (k : Nat), k < pos x l → ∃ y, l[k]? = some y ∧ ltb y x = true
  | [], k, h => by simp [pos] at h
  | y :: l, k, h => by
    unfold pos at h
    split at h
    · cases k with
      | zero => exact ⟨y, rfl, by assumption⟩
      | succ k => simpa using pos_lt x l k (by omega)
    · omega
theorem pos_at (x : D) : ∀ (l : List D), (pos x l = l.length) ∨ ∃ y, l[pos x l]? = some y ∧ ltb y x = false
  | [] => .inl rfl
  | y :: l => by
    unfold pos
    split
    · rcases pos_at x l with h | ⟨z, h1, h2⟩
      · exact .inl (by simp [h])
      · exact .inr ⟨z, by simpa using h1, h2⟩
    · rename_i h
      exact .inr ⟨y, rfl, by simpa using h⟩
theorem pos_eq {x : D} {l : List D} {k : Nat} (h1 : ∀ j < k, ∃ y, l[j]? = some y ∧ ltb y x = true) (h2 : k = l.length ∨ ∃ y, l[k]? = some y ∧ ltb y x = false) : k = pos x l := by
  rcases Nat.lt_trichotomy k (pos x l) with h | h | h
  · obtain ⟨y, e1, e2⟩ := pos_lt x l k h
    rcases h2 with h2 | ⟨z, e3, e4⟩
    · have := pos_le x l; omega
    · rw [e1] at e3; cases e3; rw [e2] at e4; cases e4
  · exact h
  · obtain ⟨y, e1, e2⟩ := h1 _ h
    rcases pos_at x l with h3 | ⟨z, e3, e4⟩
    · rw [h3] at e1; simp at e1
    · rw [e1] at e3; cases e3; rw [e2] at e4; cases e4

theorem mem_ins {l : List D} {x z : D} : z ∈ ins l x ↔ z = x ∨ z ∈ l := by
  unfold ins
  split
  · rename_i h
    have := List.mem_of_getElem? h
    constructor
    · exact .inr
    · rintro (rfl | h)
      · exact this
      · exact h
  · have e : z ∈ l ↔ z ∈ l.take (pos x l) ∨ z ∈ l.drop (pos x l) := by rw [← List.mem_append, List.take_append_drop]
    simp only [List.mem_append, List.mem_cons, e]
    constructor
    · rintro (h | h | h)
      · exact .inr (.inl h)
      · exact .inl h
      · exact .inr (.inr h)
    · rintro (h | h | h)
      · exact .inr (.inl h)
      · exact .inl h
      · exact .inr (.inr h)

theorem up_ins {l : List D} (hl : Up l) (x : D) : Up (ins l x) := by
  unfold ins
  split
  · exact hl
  · rename_i hx
    have htl : ∀ y ∈ l.take (pos x l), ltb y x = true := fun y hy => by
      obtain ⟨k, hk, e⟩ := List.mem_take_iff_getElem.1 hy
      obtain ⟨z, e1, e2⟩ := pos_lt x l k (by omega)
      rw [List.getElem?_eq_getElem (by omega)] at e1
      cases e1; rw [← e]; exact e2
    have hup : Up (l.take (pos x l) ++ l.drop (pos x l)) := by rw [List.take_append_drop]; exact hl
    obtain ⟨u1, u2, u3⟩ := List.pairwise_append.1 hup
    have hdr : ∀ y ∈ l.drop (pos x l), ltb x y = true := by
      rcases pos_at x l with h | ⟨z, e1, e2⟩
      · intro y hy; rw [h] at hy; simp at hy
      · have hlt : pos x l < l.length := by
          rcases Nat.lt_or_ge (pos x l) l.length with h | h
          · exact h
          · rw [List.getElem?_eq_none h] at e1; cases e1
        have hd := List.drop_eq_getElem_cons hlt
        rw [List.getElem?_eq_getElem hlt] at e1
        cases e1
        have hxz : ltb x l[pos x l] = true := by
          rcases nlt e2 with e | h
          · exact absurd (by rw [List.getElem?_eq_getElem hlt, e]) hx
          · exact h
        intro y hy
        rw [hd] at hy u2
        rcases List.mem_cons.1 hy with rfl | hy
        · exact hxz
        · exact tr hxz ((List.pairwise_cons.1 u2).1 y hy)
    refine List.pairwise_append.2 ⟨u1, List.pairwise_cons.2 ⟨hdr, u2⟩, ?_⟩
    intro a ha b hb
    rcases List.mem_cons.1 hb with rfl | hb
    · exact htl a ha
    · exact u3 a ha b hb

/-- What is wrong, in order, each once. -/
def srt (l : List D) : List D := l.foldl ins []
theorem srt_snoc (l : List D) (x : D) : srt (l ++ [x]) = ins (srt l) x := by simp [srt]
theorem fold_up : ∀ (l acc : List D), Up acc → Up (l.foldl ins acc)
  | [], _, h => h
  | x :: l, acc, h => fold_up l _ (up_ins h x)
theorem fold_mem : ∀ (l acc : List D) (z : D), z ∈ l.foldl ins acc ↔ z ∈ acc ∨ z ∈ l
  | [], acc, z => by simp
  | x :: l, acc, z => by
    rw [List.foldl_cons, fold_mem l, mem_ins]
    simp only [List.mem_cons]
    constructor
    · rintro ((h | h) | h)
      · exact .inr (.inl h)
      · exact .inl h
      · exact .inr (.inr h)
    · rintro (h | h | h)
      · exact .inl (.inr h)
      · exact .inl (.inl h)
      · exact .inr h
theorem srt_up (l : List D) : Up (srt l) := fold_up l [] List.Pairwise.nil
theorem srt_mem {l : List D} {z : D} : z ∈ srt l ↔ z ∈ l := by unfold srt; rw [fold_mem]; simp
theorem srt_ext {l m : List D} (h : ∀ x, x ∈ l ↔ x ∈ m) : srt l = srt m :=
  up_ext (srt_up l) (srt_up m) fun x => by rw [srt_mem, srt_mem]; exact h x
theorem srt_of_up {l : List D} (h : Up l) : srt l = l := up_ext (srt_up l) h fun x => srt_mem
theorem srt_srt (l : List D) : srt (srt l) = srt l := srt_of_up (srt_up l)
theorem ins_len (l : List D) (x : D) : (ins l x).length ≤ l.length + 1 := by
  unfold ins
  split
  · omega
  · have := pos_le x l; simp; omega
theorem srt_len_aux : ∀ (l acc : List D), (l.foldl ins acc).length ≤ acc.length + l.length
  | [], acc => by simp
  | x :: l, acc => by have := srt_len_aux l (ins acc x); have := ins_len acc x; simp; omega
theorem srt_len (l : List D) : (srt l).length ≤ l.length := by simpa [srt] using srt_len_aux l []

/-- Is one among some? -/
def isIn (x : D) (l : List D) : Bool := l.any fun y => decide (y = x)
theorem isIn_iff {x : D} {l : List D} : isIn x l = true ↔ x ∈ l := by simp [isIn]
theorem isIn_not {x : D} {l : List D} : isIn x l = false ↔ ¬ x ∈ l := by rw [← Bool.not_eq_true, isIn_iff]
def add (a : List D) (x : D) : List D := if isIn x a = true then a else a ++ [x]
/-- A list, each once, where it stands first. -/
def once (l : List D) : List D := l.foldl add []
theorem once_snoc (l : List D) (x : D) : once (l ++ [x]) = add (once l) x := by simp [once]
theorem once_aux : ∀ (l acc : List D), acc.Nodup → (l.foldl add acc).Nodup ∧ ∀ z, z ∈ l.foldl add acc ↔ z ∈ acc ∨ z ∈ l
  | [], acc, h => ⟨h, by simp⟩
  | x :: l, acc, h => by
    rw [List.foldl_cons]
    by_cases hx : isIn x acc = true
    · rw [show add acc x = acc from if_pos hx]
      have hx' := isIn_iff.1 hx
      obtain ⟨h1, h2⟩ := once_aux l acc h
      refine ⟨h1, fun z => ?_⟩
      rw [h2, List.mem_cons]
      constructor
      · rintro (h | h)
        · exact .inl h
        · exact .inr (.inr h)
      · rintro (h | rfl | h)
        · exact .inl h
        · exact .inl hx'
        · exact .inr h
    · rw [show add acc x = acc ++ [x] from if_neg hx]
      have hx' : ¬ x ∈ acc := fun h => hx (isIn_iff.2 h)
      have hn : (acc ++ [x]).Nodup := List.nodup_append.2 ⟨h, by simp, fun a ha b hb => by simp at hb; subst hb; rintro rfl; exact hx' ha⟩
      obtain ⟨h1, h2⟩ := once_aux l _ hn
      refine ⟨h1, fun z => ?_⟩
      rw [h2]; simp only [List.mem_append, List.mem_cons, List.mem_nil_iff, or_false, or_assoc]
theorem once_nodup (l : List D) : (once l).Nodup := (once_aux l [] List.nodup_nil).1
theorem once_mem {l : List D} {z : D} : z ∈ once l ↔ z ∈ l := by have := (once_aux l [] List.nodup_nil).2 z; simpa [once] using this
theorem add_len (a : List D) (x : D) : (add a x).length ≤ a.length + 1 := by unfold add; split <;> simp
theorem once_len_aux : ∀ (l acc : List D), (l.foldl add acc).length ≤ acc.length + l.length
  | [], _ => by simp
  | x :: l, acc => by have := once_len_aux l (add acc x); have := add_len acc x; simp; omega
theorem once_len (l : List D) : (once l).length ≤ l.length := by simpa [once] using once_len_aux l []

/-- What sorts a list each once, sorts the list. -/
theorem sorted_once {l m : List D} (hp : m.Perm (once l)) (hs : ∀ i j (hi : i < m.length) (hj : j < m.length), i < j → ltb m[j] m[i] = false) : m = srt l := by
  have hn : m.Nodup := hp.nodup_iff.2 (once_nodup l)
  have hu : Up m := List.pairwise_iff_getElem.2 fun i j hi hj hij => by
    rcases nlt (hs i j hi hj hij) with e | h
    · exact absurd (List.pairwise_iff_getElem.1 hn i j hi hj hij) (by simp [e])
    · exact h
  exact up_ext hu (srt_up l) fun x => by rw [hp.mem_iff, once_mem, srt_mem]
end Dg
end Go.Proofs.Ytejdlhjbakndaaa
