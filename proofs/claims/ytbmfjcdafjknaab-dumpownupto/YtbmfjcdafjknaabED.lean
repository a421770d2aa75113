/- Patch, pure: what the document's loops lay is what Patch lays. -/
import Derived.Test.YtbmfjcdafjknaabEC
namespace Go.Proofs.Ytbmfjcdafjknaab
open Go.RowKit
set_option linter.unusedVariables false

/-- Does a change fit pairs, the document's way. -/
def fitsR (a : List (Nat × Nat)) (c : Ch) : Bool := ((lkP a c.k).isSome == c.had) && decide ((lkP a c.k).getD 0 = c.old)
def hasL (c : Ch) : List (Nat × Nat) := if c.has then [(c.k, c.new)] else []
/-- What the document's loops lay. -/
def ro (T : Nat → Bool) : List (Nat × Nat) → List Ch → List (Nat × Nat)
  | [], [] => []
  | x :: a, [] => (if T x.1 then [] else [x]) ++ ro T a []
  | [], c :: l => hasL c ++ ro T [] l
  | x :: a, c :: l => if x.1 < c.k then (if T x.1 then [] else [x]) ++ ro T a (c :: l) else hasL c ++ ro T (x :: a) l
termination_by a l => a.length + l.length
theorem ro_nil (T : Nat → Bool) : ro T [] [] = [] := by rw [ro]
theorem ro_a (T : Nat → Bool) (x : Nat × Nat) (a : List (Nat × Nat)) : ro T (x :: a) [] = (if T x.1 then [] else [x]) ++ ro T a [] := by rw [ro]
theorem ro_l (T : Nat → Bool) (c : Ch) (l : List Ch) : ro T [] (c :: l) = hasL c ++ ro T [] l := by rw [ro]
theorem ro_lt (T : Nat → Bool) {x : Nat × Nat} {c : Ch} (h : x.1 < c.k) (a : List (Nat × Nat)) (l : List Ch) : ro T (x :: a) (c :: l) = (if T x.1 then [] else [x]) ++ ro T a (c :: l) := by rw [ro, if_pos h]
theorem ro_ge (T : Nat → Bool) {x : Nat × Nat} {c : Ch} (h : ¬ x.1 < c.k) (a : List (Nat × Nat)) (l : List Ch) : ro T (x :: a) (c :: l) = hasL c ++ ro T (x :: a) l := by rw [ro, if_neg h]
theorem lkP_cons_ne {x : Nat × Nat} {k : Nat} (h : x.1 ≠ k) (a : List (Nat × Nat)) : lkP (x :: a) k = lkP a k := by
  unfold lkP
  rw [List.find?_cons_of_neg (by simpa using h)]
theorem lkP_cons_eq (x : Nat × Nat) (a : List (Nat × Nat)) : lkP (x :: a) x.1 = some x.2 := by
  unfold lkP
  rw [List.find?_cons_of_pos (by simp)]
  rfl
theorem lkP_no {a : List (Nat × Nat)} {k : Nat} (h : ∀ x ∈ a, x.1 ≠ k) : lkP a k = none := by
  induction a with
  | nil => rfl
  | cons x a ih => rw [lkP_cons_ne (h x (by simp)), ih (fun y hy => h y (by simp [hy]))]
theorem all_fits {x : Nat × Nat} {l : List Ch} (h : ∀ c ∈ l, x.1 ≠ c.k) (a : List (Nat × Nat)) : l.all (fitsR (x :: a)) = l.all (fitsR a) := by
  induction l with
  | nil => rfl
  | cons c l ih =>
    simp only [List.all_cons]
    rw [ih (fun d hd => h d (by simp [hd]))]
    congr 1
    unfold fitsR
    rw [lkP_cons_ne (h c (by simp))]
theorem fits_no {a : List (Nat × Nat)} {c : Ch} (hr : c.right = true) (h : ∀ x ∈ a, x.1 ≠ c.k) : fitsR a c = fitsB c none := by
  unfold fitsR
  rw [lkP_no h]
  obtain ⟨k, had, has, old, new⟩ := c
  cases had <;> cases has <;> simp_all [fitsB, Ch.right]
theorem fits_yes (x : Nat × Nat) (a : List (Nat × Nat)) {c : Ch} (hk : c.k = x.1) : fitsR (x :: a) c = fitsB c (some x) := by
  unfold fitsR
  rw [hk, lkP_cons_eq]
  obtain ⟨k, had, has, old, new⟩ := c
  cases had <;> simp [fitsB, eq_comm]
theorem patch_doc (T : Nat → Bool) (n : Nat) : ∀ (a : List (Nat × Nat)) (l : List Ch), a.length + l.length ≤ n → a.Pairwise (fun x y => x.1 < y.1) → l.Pairwise (fun c d => c.k < d.k) → (∀ c ∈ l, c.right = true) → (∀ x ∈ a, T x.1 = true ↔ ∃ c ∈ l, c.k = x.1) →
    patchM (mrg (fun y : Ch => y.k) a l) = if l.all (fitsR a) then some (ro T a l) else none := by
  induction n with
  | zero =>
    intro a l hn _ _ _ _
    have ha : a = [] := List.length_eq_zero_iff.1 (by omega)
    have hl : l = [] := List.length_eq_zero_iff.1 (by omega)
    subst ha hl
    rw [mrg_nil, ro_nil]
    rfl
  | succ n ih =>
    intro a l hn pa pl hr hT
    cases a with
    | nil =>
      cases l with
      | nil => rw [mrg_nil, ro_nil]; rfl
      | cons c l =>
        have ea : (c :: l).all (fitsR []) = (fitsB c none && l.all (fitsR [])) := by rw [List.all_cons, fits_no (hr c (by simp)) (fun x hx => by simp at hx)]
        rw [mrg_right, ro_l, ea]
        simp only [patchM, pStep]
        rw [ih [] l (by simp at hn ⊢; omega) pa (List.pairwise_cons.1 pl).2 (fun d hd => hr d (by simp [hd])) (fun x hx => by simp at hx)]
        by_cases h1 : fitsB c none = true
        · by_cases h2 : l.all (fitsR []) = true
          · simp [h1, h2, hasL]
          · simp [h1, h2]
        · simp [h1]
    | cons x a =>
      have px := (List.pairwise_cons.1 pa).1
      cases l with
      | nil =>
        have tx : T x.1 = false := by
          cases t : T x.1 with
          | false => rfl
          | true => obtain ⟨c, hc, _⟩ := (hT x (by simp)).1 t; simp at hc
        rw [mrg_left, ro_a]
        simp only [patchM, pStep]
        rw [ih a [] (by simp at hn ⊢; omega) (List.pairwise_cons.1 pa).2 pl hr (fun y hy => hT y (by simp [hy]))]
        simp [tx]
      | cons c l =>
        have pc := (List.pairwise_cons.1 pl).1
        by_cases h : x.1 < c.k
        · have tx : T x.1 = false := by
            cases t : T x.1 with
            | false => rfl
            | true =>
              obtain ⟨d, hd, he⟩ := (hT x (by simp)).1 t
              rcases List.mem_cons.1 hd with rfl | hd
              · omega
              · have := pc d hd; omega
          have e : mrg (fun y : Ch => y.k) (x :: a) (c :: l) = (some x, none) :: mrg (fun y : Ch => y.k) a (c :: l) := by rw [mrg, if_pos h]
          rw [e, ro_lt T h]
          simp only [patchM, pStep]
          rw [ih a (c :: l) (by simp at hn ⊢; omega) (List.pairwise_cons.1 pa).2 pl hr (fun y hy => hT y (by simp [hy])), all_fits (fun d hd => by
            rcases List.mem_cons.1 hd with rfl | hd
            · omega
            · have := pc d hd; omega)]
          by_cases h2 : (c :: l).all (fitsR a) = true
          · rw [if_pos h2, if_pos h2]; simp [tx]
          · rw [if_neg h2, if_neg h2]; rfl
        · by_cases h' : c.k < x.1
          · have e : mrg (fun y : Ch => y.k) (x :: a) (c :: l) = (none, some c) :: mrg (fun y : Ch => y.k) (x :: a) l := by rw [mrg, if_neg h, if_pos h']
            have nk : ∀ y ∈ x :: a, y.1 ≠ c.k := by
              intro y hy
              rcases List.mem_cons.1 hy with rfl | hy
              · omega
              · have := px y hy; omega
            have ea : (c :: l).all (fitsR (x :: a)) = (fitsB c none && l.all (fitsR (x :: a))) := by rw [List.all_cons, fits_no (hr c (by simp)) nk]
            rw [e, ro_ge T h, ea]
            simp only [patchM, pStep]
            rw [ih (x :: a) l (by simp at hn ⊢; omega) pa (List.pairwise_cons.1 pl).2 (fun d hd => hr d (by simp [hd])) (fun y hy => by
              rw [hT y hy]
              constructor
              · rintro ⟨d, hd, he⟩
                rcases List.mem_cons.1 hd with rfl | hd
                · exact absurd he.symm (nk y hy)
                · exact ⟨d, hd, he⟩
              · rintro ⟨d, hd, he⟩; exact ⟨d, by simp [hd], he⟩)]
            by_cases h1 : fitsB c none = true
            · by_cases h2 : l.all (fitsR (x :: a)) = true
              · simp [h1, h2, hasL]
              · simp [h1, h2]
            · simp [h1]
          · have hk : c.k = x.1 := by omega
            have e : mrg (fun y : Ch => y.k) (x :: a) (c :: l) = (some x, some c) :: mrg (fun y : Ch => y.k) a l := by rw [mrg, if_neg h, if_neg h']
            have tx : T x.1 = true := (hT x (by simp)).2 ⟨c, by simp, hk⟩
            have skip : ro T (x :: a) l = ro T a l := by
              cases l with
              | nil => rw [ro_a]; simp [tx]
              | cons d l =>
                rw [ro_lt T (by have := pc d (by simp); omega)]
                simp [tx]
            have ea : (c :: l).all (fitsR (x :: a)) = (fitsB c (some x) && l.all (fitsR a)) := by rw [List.all_cons, fits_yes x a hk, all_fits (fun d hd => by have := pc d hd; omega)]
            rw [e, ro_ge T h, skip, ea]
            simp only [patchM, pStep]
            rw [ih a l (by simp at hn ⊢; omega) (List.pairwise_cons.1 pa).2 (List.pairwise_cons.1 pl).2 (fun d hd => hr d (by simp [hd])) (fun y hy => by
              rw [hT y (by simp [hy])]
              constructor
              · rintro ⟨d, hd, he⟩
                rcases List.mem_cons.1 hd with rfl | hd
                · have := px y hy; omega
                · exact ⟨d, hd, he⟩
              · rintro ⟨d, hd, he⟩; exact ⟨d, by simp [hd], he⟩)]
            by_cases h1 : fitsB c (some x) = true
            · by_cases h2 : l.all (fitsR a) = true
              · simp [h1, h2, hasL]
              · simp [h1, h2]
            · simp [h1]
theorem ro_stepA {T : Nat → Bool} {a : List (Nat × Nat)} {l : List Ch} {i k : Nat} {x : Nat × Nat} (hx : a[i]? = some x) (h : ∀ c, l[k]? = some c → x.1 < c.k) : ro T (a.drop i) (l.drop k) = (if T x.1 then [] else [x]) ++ ro T (a.drop (i + 1)) (l.drop k) := by
  rw [drop_of hx]
  cases hl : l[k]? with
  | none =>
    have : l.drop k = [] := List.drop_eq_nil_of_le (List.getElem?_eq_none_iff.1 hl)
    rw [this, ro_a]
  | some c => rw [drop_of hl, ro_lt T (h c hl)]
theorem ro_stepC {T : Nat → Bool} {a : List (Nat × Nat)} {l : List Ch} {i k : Nat} {c : Ch} (hc : l[k]? = some c) (h : ∀ x, a[i]? = some x → ¬ x.1 < c.k) : ro T (a.drop i) (l.drop k) = hasL c ++ ro T (a.drop i) (l.drop (k + 1)) := by
  rw [drop_of hc]
  cases ha : a[i]? with
  | none =>
    have : a.drop i = [] := List.drop_eq_nil_of_le (List.getElem?_eq_none_iff.1 ha)
    rw [this, ro_l]
  | some x => rw [drop_of ha, ro_ge T (h x ha)]
theorem rightC_pair {l : List Ch} (h : rightC l = true) : l.Pairwise (fun c d => c.k < d.k) ∧ ∀ c ∈ l, c.right = true := by
  unfold rightC riseC at h
  rw [Bool.and_eq_true] at h
  refine ⟨?_, List.all_eq_true.1 h.1⟩
  have := riseB_pair h.2
  unfold keysC at this
  rw [List.pairwise_map] at this
  exact this
end Go.Proofs.Ytbmfjcdafjknaab
