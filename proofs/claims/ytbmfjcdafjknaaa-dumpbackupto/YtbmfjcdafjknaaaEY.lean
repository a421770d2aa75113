/- Patch of Diff, pure. -/
import Derived.Test.YtbmfjcdafjknaaaEI
namespace Go.Proofs.Ytbmfjcdafjknaaa
open Go.RowKit
set_option linter.unusedVariables false

theorem diffL_nil : diffL [] [] = [] := by simp [diffL, diffX, mrg_nil]
theorem diffL_right (y : Nat × Nat) (b : List (Nat × Nat)) : diffL [] (y :: b) = ⟨y.1, false, true, 0, y.2⟩ :: diffL [] b := by simp [diffL, diffX, mrg_right, chOf, Ch.right]
theorem diffL_left (x : Nat × Nat) (a : List (Nat × Nat)) : diffL (x :: a) [] = ⟨x.1, true, false, x.2, 0⟩ :: diffL a [] := by simp [diffL, diffX, mrg_left, chOf, Ch.right]
theorem diffL_lt {x y : Nat × Nat} (h : x.1 < y.1) (a b : List (Nat × Nat)) : diffL (x :: a) (y :: b) = ⟨x.1, true, false, x.2, 0⟩ :: diffL a (y :: b) := by simp [diffL, diffX, mrg_lt _ h, chOf, Ch.right]
theorem diffL_gt {x y : Nat × Nat} (h : y.1 < x.1) (a b : List (Nat × Nat)) : diffL (x :: a) (y :: b) = ⟨y.1, false, true, 0, y.2⟩ :: diffL (x :: a) b := by simp [diffL, diffX, mrg_gt (fun y : Nat × Nat => y.1) h, chOf, Ch.right]
theorem diffL_ne {x y : Nat × Nat} (h : x.1 = y.1) (h2 : x.2 ≠ y.2) (a b : List (Nat × Nat)) : diffL (x :: a) (y :: b) = ⟨y.1, true, true, x.2, y.2⟩ :: diffL a b := by simp [diffL, diffX, mrg_eq _ h, chOf, Ch.right, h2]
theorem diffL_eq {x y : Nat × Nat} (h : x.1 = y.1) (h2 : x.2 = y.2) (a b : List (Nat × Nat)) : diffL (x :: a) (y :: b) = diffL a b := by simp [diffL, diffX, mrg_eq _ h, chOf, Ch.right, h2]
theorem patch_cons (p : Option (Nat × Nat) × Option Ch) (m : List (Option (Nat × Nat) × Option Ch)) {o r : List (Nat × Nat)} (h : pStep p = some o) (hr : patchM m = some r) : patchM (p :: m) = some (o ++ r) := by simp [patchM, h, hr]
abbrev kC : Ch → Nat := fun y => y.k
/-- Patch of Diff is the second; its keys rise, and none is below both rows. -/
theorem patch_diff (n : Nat) : ∀ (a b : List (Nat × Nat)), a.length + b.length ≤ n → a.Pairwise (fun x y => x.1 < y.1) → b.Pairwise (fun x y => x.1 < y.1) →
    patchM (mrg kC a (diffL a b)) = some b ∧ (diffL a b).Pairwise (fun c d => c.k < d.k) ∧ ∀ m, (∀ x ∈ a, m < x.1) → (∀ y ∈ b, m < y.1) → ∀ c ∈ diffL a b, m < c.k := by
  induction n with
  | zero =>
    intro a b h _ _
    have ha : a = [] := List.length_eq_zero_iff.1 (by omega)
    have hb : b = [] := List.length_eq_zero_iff.1 (by omega)
    subst ha hb
    rw [diffL_nil, mrg_nil]
    exact ⟨rfl, List.Pairwise.nil, fun m _ _ c hc => by simp at hc⟩
  | succ n ih =>
    intro a b h pa pb
    cases a with
    | nil =>
      cases b with
      | nil =>
        rw [diffL_nil, mrg_nil]
        exact ⟨rfl, List.Pairwise.nil, fun m _ _ c hc => by simp at hc⟩
      | cons y b =>
        obtain ⟨hy, pb'⟩ := List.pairwise_cons.1 pb
        obtain ⟨i1, i2, i3⟩ := ih [] b (by simp at h ⊢; omega) pa pb'
        rw [diffL_right, mrg_right]
        refine ⟨patch_cons _ _ (o := [y]) (by simp [pStep, fitsB]) i1, List.pairwise_cons.2 ⟨fun c hc => i3 y.1 (by simp) hy c hc, i2⟩, fun m h1 h2 c hc => ?_⟩
        rcases List.mem_cons.1 hc with rfl | hc
        · exact h2 y (by simp)
        · exact i3 m h1 (fun z hz => h2 z (by simp [hz])) c hc
    | cons x a =>
      obtain ⟨hx, pa'⟩ := List.pairwise_cons.1 pa
      cases b with
      | nil =>
        obtain ⟨i1, i2, i3⟩ := ih a [] (by simp at h ⊢; omega) pa' pb
        rw [diffL_left, mrg_eq kC (show x.1 = kC ⟨x.1, true, false, x.2, 0⟩ from rfl)]
        refine ⟨patch_cons _ _ (o := []) (by simp [pStep, fitsB]) i1, List.pairwise_cons.2 ⟨fun c hc => i3 x.1 hx (by simp) c hc, i2⟩, fun m h1 h2 c hc => ?_⟩
        rcases List.mem_cons.1 hc with rfl | hc
        · exact h1 x (by simp)
        · exact i3 m (fun z hz => h1 z (by simp [hz])) h2 c hc
      | cons y b =>
        obtain ⟨hy, pb'⟩ := List.pairwise_cons.1 pb
        rcases Nat.lt_trichotomy x.1 y.1 with t | t | t
        · obtain ⟨i1, i2, i3⟩ := ih a (y :: b) (by simp at h ⊢; omega) pa' pb
          rw [diffL_lt t, mrg_eq kC (show x.1 = kC ⟨x.1, true, false, x.2, 0⟩ from rfl)]
          refine ⟨patch_cons _ _ (o := []) (by simp [pStep, fitsB]) i1, List.pairwise_cons.2 ⟨fun c hc => i3 x.1 hx (fun z hz => ?_) c hc, i2⟩, fun m h1 h2 c hc => ?_⟩
          · rcases List.mem_cons.1 hz with rfl | hz
            · exact t
            · exact Nat.lt_trans t (hy z hz)
          · rcases List.mem_cons.1 hc with rfl | hc
            · exact h1 x (by simp)
            · exact i3 m (fun z hz => h1 z (by simp [hz])) h2 c hc
        · obtain ⟨i1, i2, i3⟩ := ih a b (by simp at h ⊢; omega) pa' pb'
          by_cases e : x.2 = y.2
          · have exy : x = y := Prod.ext t e
            rw [diffL_eq t e]
            refine ⟨?_, i2, fun m h1 h2 c hc => i3 m (fun z hz => h1 z (by simp [hz])) (fun z hz => h2 z (by simp [hz])) c hc⟩
            have q : mrg kC (x :: a) (diffL a b) = (some x, none) :: mrg kC a (diffL a b) := by
              cases hd : diffL a b with
              | nil => rw [mrg_left]
              | cons c L => exact mrg_lt kC (i3 x.1 hx (fun z hz => by rw [t]; exact hy z hz) c (by rw [hd]; simp))
            rw [q]
            have := patch_cons (some x, none) _ (o := [x]) rfl i1
            rw [this, exy]
            rfl
          · rw [diffL_ne t e, mrg_eq kC (show x.1 = kC ⟨y.1, true, true, x.2, y.2⟩ from t)]
            refine ⟨patch_cons _ _ (o := [y]) (by simp [pStep, fitsB]) i1, List.pairwise_cons.2 ⟨fun c hc => i3 y.1 (fun z hz => by rw [← t]; exact hx z hz) hy c hc, i2⟩, fun m h1 h2 c hc => ?_⟩
            rcases List.mem_cons.1 hc with rfl | hc
            · exact h2 y (by simp)
            · exact i3 m (fun z hz => h1 z (by simp [hz])) (fun z hz => h2 z (by simp [hz])) c hc
        · obtain ⟨i1, i2, i3⟩ := ih (x :: a) b (by simp at h ⊢; omega) pa pb'
          rw [diffL_gt t, mrg_gt kC (show kC ⟨y.1, false, true, 0, y.2⟩ < x.1 from t)]
          refine ⟨patch_cons _ _ (o := [y]) (by simp [pStep, fitsB]) i1, List.pairwise_cons.2 ⟨fun c hc => i3 y.1 (fun z hz => ?_) hy c hc, i2⟩, fun m h1 h2 c hc => ?_⟩
          · rcases List.mem_cons.1 hz with rfl | hz
            · exact t
            · exact Nat.lt_trans t (hx z hz)
          · rcases List.mem_cons.1 hc with rfl | hc
            · exact h2 y (by simp)
            · exact i3 m h1 (fun z hz => h2 z (by simp [hz])) c hc
theorem diff_right {a b : List (Nat × Nat)} (ra : riseB a = true) (rb : riseB b = true) : rightC (diffL a b) = true := by
  unfold rightC riseC
  rw [Bool.and_eq_true]
  refine ⟨?_, ?_⟩
  · rw [List.all_eq_true]
    intro c hc
    unfold diffL diffX at hc
    exact (List.mem_filter.1 hc).2
  · have h := (patch_diff _ a b (Nat.le_refl _) (riseB_pair ra) (riseB_pair rb)).2.1
    rw [riseB_iff]
    intro i x y hx hy
    unfold keysC at hx hy
    rw [List.getElem?_map] at hx hy
    cases h1 : (diffL a b)[i]? with
    | none => rw [h1] at hx; simp at hx
    | some c =>
      cases h2 : (diffL a b)[i + 1]? with
      | none => rw [h2] at hy; simp at hy
      | some d =>
        rw [h1] at hx
        rw [h2] at hy
        simp at hx hy
        subst hx hy
        obtain ⟨l1, e1⟩ := List.getElem?_eq_some_iff.1 h1
        obtain ⟨l2, e2⟩ := List.getElem?_eq_some_iff.1 h2
        have := List.pairwise_iff_getElem.1 h i (i + 1) l1 l2 (by omega)
        rw [e1, e2] at this
        exact this
/-- What Patch tells of Diff. -/
theorem pl_diff {a b : List (Nat × Nat)} (ra : riseB a = true) (rb : riseB b = true) : pl a (diffL a b) = b ∧ pe a (diffL a b) = 0 := by
  have rc := diff_right ra rb
  have h := (patch_diff _ a b (Nat.le_refl _) (riseB_pair ra) (riseB_pair rb)).1
  have q := patch_is ra rc
  rw [show (fun y : Ch => y.k) = kC from rfl, h] at q
  by_cases hf : (diffL a b).all (fitsR a) = true
  · rw [if_pos hf] at q
    injection q with q
    unfold pl pe
    simp only [ra, rc, hf, Bool.and_self, if_true]
    exact ⟨q.symm, trivial⟩
  · rw [if_neg hf] at q
    cases q
theorem diff_same (a : List (Nat × Nat)) : diffL a a = [] := by
  induction a with
  | nil => exact diffL_nil
  | cons x a ih => rw [diffL_eq rfl rfl, ih]
theorem patch_none_ch (a : List (Nat × Nat)) : patchM (mrg kC a []) = some a := by
  induction a with
  | nil => rw [mrg_nil]; rfl
  | cons x a ih => rw [mrg_left]; exact patch_cons (some x, none) _ (o := [x]) rfl ih
theorem diff_none {a b : List (Nat × Nat)} (ra : riseB a = true) (rb : riseB b = true) : (diffL a b).length = 0 ↔ a = b := by
  constructor
  · intro h
    have e := List.length_eq_zero_iff.1 h
    have q := (patch_diff _ a b (Nat.le_refl _) (riseB_pair ra) (riseB_pair rb)).1
    rw [e, patch_none_ch] at q
    injection q
  · intro h; rw [h, diff_same]; rfl
theorem encI_ge (l : List (Nat × Nat)) (i : Nat) : i ≤ (encI l i).length := by
  induction i with
  | zero => simp
  | succ i ih =>
    have h1 := List.length_pos_iff.2 (numB_ne ((l[i]?.getD (0, 0)).2))
    simp only [encI, List.length_append]
    omega
theorem encL_ge (l : List (Nat × Nat)) : l.length ≤ (encL l).length := by
  have := encI_ge l l.length
  unfold encL encH
  simp only [List.length_append]
  omega
theorem encL_le {l : List (Nat × Nat)} (hs : small64 l) (hl : l.length ≤ 10000000) : (encL l).length ≤ 1000000000 := by
  have := encH_len hs hl l.length
  unfold encL
  simp only [List.length_append, sum4, List.length_cons, List.length_nil]
  omega
end Go.Proofs.Ytbmfjcdafjknaaa
