/- What a Cut leaves of a row of versions: the pure part. -/
import Derived.Test.YtciohnfbjaglbaaKh
namespace Go.Proofs.Ytciohnfbjaglbaa
open Go.RowKit Go.Shelf
set_option linter.unusedVariables false

/-- Where the version j of n lies; behind the last one there is none. -/
def aN (n j : Nat) : Nat := if j < n then 1 + 3 * (n - 1 - j) else 0
def stA (st : List Nat) (j : Nat) : Nat := st.getD j 0
def effN (st : List Nat) (a : Nat) : Nat := if stA st a = 0 then 18446744073709551615 else stA st a
theorem aN_lt {n j : Nat} (h : j < n) : aN n j = 1 + 3 * (n - 1 - j) := if_pos h
theorem aN_end {n j : Nat} (h : n ≤ j) : aN n j = 0 := if_neg (by omega)
theorem aN_le (n j : Nat) : aN n j + 2 ≤ 3 * n + 2 := by
  unfold aN
  split <;> omega
theorem aN_pos {n j : Nat} (h : j < n) : aN n j ≠ 0 := by rw [aN_lt h]; omega
theorem aN_inj {n i j : Nat} (hi : i < n) (hj : j < n) (h : aN n i = aN n j) : i = j := by
  rw [aN_lt hi, aN_lt hj] at h
  omega
theorem addP_small {a k : Nat} (h : a + k < 18446744073709551616) : addP a k = a + k := Nat.mod_eq_of_lt h

section
variable (F : Nat) (l st : List Nat) (n : Nat)
def needI (a j : Nat) : Bool := ndN F l (stA st j) (effN st a)
def nxtF (a : Nat) : Nat → Nat → Nat
  | 0, j => j
  | k + 1, j => if needI F l st a j = true then j else nxtF a k (j + 1)
theorem nxtF_spec (a : Nat) : ∀ k j, j ≤ nxtF F l st a k j ∧ nxtF F l st a k j ≤ j + k ∧ (∀ i, j ≤ i → i < nxtF F l st a k j → needI F l st a i = false) ∧ (nxtF F l st a k j < j + k → needI F l st a (nxtF F l st a k j) = true) := by
  intro k
  induction k with
  | zero => intro j; exact ⟨Nat.le_refl _, Nat.le_refl _, fun i h1 h2 => absurd h2 (Nat.not_lt.2 h1), fun h => absurd h (Nat.lt_irrefl _)⟩
  | succ k ih =>
    intro j
    unfold nxtF
    by_cases h : needI F l st a j = true
    · rw [if_pos h]
      exact ⟨Nat.le_refl _, by omega, fun i h1 h2 => absurd h2 (Nat.not_lt.2 h1), fun _ => h⟩
    · rw [if_neg h]
      obtain ⟨h1, h2, h3, h4⟩ := ih (j + 1)
      refine ⟨by omega, by omega, fun i i1 i2 => ?_, fun hh => h4 (by omega)⟩
      by_cases e : i = j
      · subst e; simpa using h
      · exact h3 i (by omega) i2
def nxt (a : Nat) : Nat := nxtF F l st a (n - (a + 1)) (a + 1)
theorem nxt_spec {a : Nat} (ha : a < n) : a < nxt F l st n a ∧ nxt F l st n a ≤ n ∧ (∀ i, a < i → i < nxt F l st n a → needI F l st a i = false) ∧ (nxt F l st n a < n → needI F l st a (nxt F l st n a) = true) := by
  obtain ⟨h1, h2, h3, h4⟩ := nxtF_spec F l st a (n - (a + 1)) (a + 1)
  exact ⟨h1, by unfold nxt; omega, fun i i1 i2 => h3 i i1 i2, fun hh => h4 (by unfold nxt at hh; omega)⟩
theorem nxt_is {a r : Nat} (ha : a < n) (h1 : a < r) (h2 : r ≤ n) (h3 : ∀ i, a < i → i < r → needI F l st a i = false) (h4 : r < n → needI F l st a r = true) : nxt F l st n a = r := by
  obtain ⟨g1, g2, g3, g4⟩ := nxt_spec F l st n ha
  by_cases c : nxt F l st n a < r
  · have := h3 _ g1 c
    rw [g4 (by omega)] at this
    simp at this
  · by_cases c2 : r < nxt F l st n a
    · have := g3 _ h1 c2
      rw [h4 (by omega)] at this
      simp at this
    · omega
def itN : Nat → Nat
  | 0 => 0
  | m + 1 => if itN m < n then nxt F l st n (itN m) else n
theorem itN_succ {m : Nat} (h : itN F l st n m < n) : itN F l st n (m + 1) = nxt F l st n (itN F l st n m) := if_pos h

structure RowC (cs : List Nat) : Prop where
  val : ∀ j, j < n → cellN cs (aN n j) = j + 1
  stp : ∀ j, j < n → cellN cs (aN n j + 1) = stA st j
  obj : cellN cs (1 + 3 * n) = aN n 0
structure Ph (cs : List Nat) (s : CutS) (m : Nat) : Prop where
  row : RowC st n cs
  lt : itN F l st n m < n
  old : ∀ t, t < m → itN F l st n t < n ∧ cellN cs (aN n (itN F l st n t) + 2) = aN n (itN F l st n (t + 1)) ∧ itN F l st n t < itN F l st n (t + 1)
  new : ∀ j, itN F l st n m ≤ j → j < n → cellN cs (aN n j + 2) = aN n (j + 1)
  kept : s.kept = aN n (itN F l st n m)
  kst : s.kst = effN st (itN F l st n m)
  head : s.head = 1
inductive PInv (cs : List Nat) (s : CutS) : Nat → Prop
  | p0 : s.nx = 0 → s.obj = 1 + 3 * n → s.cnt = 0 → s.head = 0 → RowC st n cs → (∀ j, j < n → cellN cs (aN n j + 2) = aN n (j + 1)) → PInv cs s (4 * n + 7)
  | p1 : s.nx = 1 → s.kept = aN n 0 → 0 < n → s.cnt = 0 → RowC st n cs → (∀ j, j < n → cellN cs (aN n j + 2) = aN n (j + 1)) → PInv cs s (4 * n + 6)
  | p2 : s.nx = 2 → s.kept = aN n 0 → s.kst = effN st 0 → 0 < n → s.cnt = 0 → RowC st n cs → (∀ j, j < n → cellN cs (aN n j + 2) = aN n (j + 1)) → PInv cs s (4 * n + 5)
  | p3 (m : Nat) : s.nx = 3 → Ph F l st n cs s m → s.cnt + m = itN F l st n m → PInv cs s (4 * (n - itN F l st n m) + 4)
  | p4 (m j : Nat) : s.nx = 4 → Ph F l st n cs s m → itN F l st n m < j → j < n → s.asked = aN n j → s.first = aN n (itN F l st n m + 1) → (∀ i, itN F l st n m < i → i < j → needI F l st (itN F l st n m) i = false) → s.cnt + m + 1 = j → PInv cs s (4 * (n - j) + 7)
  | p5 (m j : Nat) : s.nx = 5 → Ph F l st n cs s m → itN F l st n m < j → j < n → s.asked = aN n j → s.first = aN n (itN F l st n m + 1) → (∀ i, itN F l st n m < i → i < j + 1 → needI F l st (itN F l st n m) i = false) → s.cnt + m + 1 = j → PInv cs s (4 * (n - j) + 6)
  | p6 (m j : Nat) : s.nx = 6 → Ph F l st n cs s m → itN F l st n (m + 1) = j → itN F l st n m < j → j ≤ n → s.asked = aN n j → (j < n → s.ast = stA st j) → s.cnt + m + 1 = j → PInv cs s (4 * (n - j) + 5)
structure PEnd (cs : List Nat) (s : CutS) (M : Nat) : Prop where
  row : RowC st n cs
  fin : itN F l st n M = n
  lnk : ∀ t, t < M → itN F l st n t < n ∧ cellN cs (aN n (itN F l st n t) + 2) = aN n (itN F l st n (t + 1)) ∧ itN F l st n t < itN F l st n (t + 1)
  cnt : s.cnt + M = n
  head : 0 < n → s.head = 1
  nx : s.nx = 7
end

section
variable {F : Nat} {l st : List Nat} {n : Nat}
theorem RowC.store {cs : List Nat} {most i x : Nat} (h : RowC st n cs) (hi : i < n) : RowC st n (stN most cs (aN n i + 2) x) := by
  have e := aN_lt hi
  refine ⟨fun j hj => ?_, fun j hj => ?_, ?_⟩
  · rw [stN_cell, if_neg (by rw [aN_lt hj]; omega)]
    exact h.val j hj
  · rw [stN_cell, if_neg (by rw [aN_lt hj]; omega)]
    exact h.stp j hj
  · rw [stN_cell, if_neg (by omega)]
    exact h.obj
theorem lnk_store {cs : List Nat} {most i x j : Nat} (hi : i < n) (hj : j < n) (hne : j ≠ i) : cellN (stN most cs (aN n i + 2) x) (aN n j + 2) = cellN cs (aN n j + 2) := by
  rw [stN_cell, if_neg]
  intro e
  exact hne (aN_inj hj hi (by omega))
theorem lnk_same {cs : List Nat} {most i x : Nat} (hi : i < n) (hm : 3 * n + 2 < most) : cellN (stN most cs (aN n i + 2) x) (aN n i + 2) = x := by
  have := aN_le n i
  rw [stN_cell, if_pos ⟨rfl, by omega⟩]
theorem Ph.with {cs : List Nat} {s s' : CutS} {m : Nat} (h : Ph F l st n cs s m) (h1 : s'.kept = s.kept) (h2 : s'.kst = s.kst) (h3 : s'.head = s.head) : Ph F l st n cs s' m :=
  ⟨h.row, h.lt, h.old, h.new, h1.trans h.kept, h2.trans h.kst, h3.trans h.head⟩
theorem effN_at (hf : ∀ j, 0 < j → j < n → stA st j ≠ 0) {j : Nat} (h0 : 0 < j) (hj : j < n) : effN st j = stA st j := if_neg (hf j h0 hj)
/-- One behind the other, where nothing is left out. -/
theorem Ph.go {cs : List Nat} {s s' : CutS} {m j : Nat} (h : Ph F l st n cs s m) (hf : ∀ j, 0 < j → j < n → stA st j ≠ 0) (hj : itN F l st n (m + 1) = j) (hi : j = itN F l st n m + 1) (hjn : j < n) (h1 : s'.kept = aN n j) (h2 : s'.kst = stA st j) (h3 : s'.head = s.head) : Ph F l st n cs s' (m + 1) := by
  refine ⟨h.row, by rw [hj]; exact hjn, fun t ht => ?_, fun k k1 k2 => h.new k (by rw [hj] at k1; omega) k2, by rw [hj]; exact h1, by rw [hj, effN_at hf (by omega) hjn]; exact h2, h3.trans h.head⟩
  by_cases e : t = m
  · subst e
    exact ⟨h.lt, by rw [h.new _ (Nat.le_refl _) h.lt, hj, hi], by rw [hj]; omega⟩
  · exact h.old t (by omega)
theorem itN_le {m : Nat} (h : ∀ t, t < m → itN F l st n t < itN F l st n (t + 1)) : ∀ t, t ≤ m → itN F l st n t ≤ itN F l st n m := by
  intro t ht
  induction m with
  | zero =>
    obtain rfl : t = 0 := by omega
    exact Nat.le_refl _
  | succ m ih =>
    by_cases e : t = m + 1
    · subst e; exact Nat.le_refl _
    · have := ih (fun t ht => h t (by omega)) (by omega)
      have := h m (by omega)
      omega
theorem itN_lt {m : Nat} (h : ∀ t, t < m → itN F l st n t < itN F l st n (t + 1)) {t : Nat} (ht : t < m) : itN F l st n t < itN F l st n m := by
  have h1 := h t ht
  have h2 := itN_le h (t + 1) (by omega)
  omega
theorem Ph.store {cs : List Nat} {s s' : CutS} {m j most : Nat} (h : Ph F l st n cs s m) (hf : ∀ j, 0 < j → j < n → stA st j ≠ 0) (hm : 3 * n + 2 < most) (hj : itN F l st n (m + 1) = j) (hi : itN F l st n m < j) (hjn : j < n) (h1 : s'.kept = aN n j) (h2 : s'.kst = stA st j) (h3 : s'.head = s.head) : Ph F l st n (stN most cs (aN n (itN F l st n m) + 2) (aN n j)) s' (m + 1) := by
  have up : ∀ t, t < m → itN F l st n t < itN F l st n m := fun t ht => itN_lt (fun t ht => (h.old t ht).2.2) ht
  refine ⟨h.row.store h.lt, by rw [hj]; exact hjn, fun t ht => ?_, fun k k1 k2 => ?_, by rw [hj]; exact h1, by rw [hj, effN_at hf (by omega) hjn]; exact h2, h3.trans h.head⟩
  · by_cases e : t = m
    · subst e
      exact ⟨h.lt, by rw [lnk_same h.lt hm, hj], by rw [hj]; exact hi⟩
    · obtain ⟨g1, g2, g3⟩ := h.old t (by omega)
      exact ⟨g1, by rw [lnk_store h.lt g1 (by have := up t (by omega); omega)]; exact g2, g3⟩
  · rw [hj] at k1
    rw [lnk_store h.lt k2 (by omega)]
    exact h.new k (by omega) k2
theorem PInv.cnt_le {cs : List Nat} {s : CutS} {u : Nat} (h : PInv F l st n cs s u) : s.cnt ≤ n ∧ s.nx ≤ 6 ∧ u ≤ 4 * n + 7 := by
  cases h with
  | p0 h1 h2 h3 => omega
  | p1 h1 h2 h3 h4 => omega
  | p2 h1 h2 h3 h4 h5 => omega
  | p3 m h1 h2 h3 => have := h2.lt; omega
  | p4 m j h1 h2 h3 h4 h5 h6 h7 h8 => omega
  | p5 m j h1 h2 h3 h4 h5 h6 h7 h8 => omega
  | p6 m j h1 h2 h3 h4 h5 h6 h7 h8 => omega
theorem pinv_step {cs : List Nat} {s : CutS} {u most : Nat} {th : Int} (hf : ∀ j, 0 < j → j < n → stA st j ≠ 0) (hm : 3 * n + 2 < most) (hmo : most ≤ 4194304) (h : PInv F l st n cs s u) :
    ((kstep th F l most cs s).2.1.nx = 7 ∧ ∃ M, PEnd F l st n (kstep th F l most cs s).1 (kstep th F l most cs s).2.1 M) ∨ ((kstep th F l most cs s).2.1.nx ≠ 7 ∧ ∃ u', u' < u ∧ PInv F l st n (kstep th F l most cs s).1 (kstep th F l most cs s).2.1 u') := by
  have ad : ∀ j k, k ≤ 2 → addP (aN n j) k = aN n j + k := fun j k hk => addP_small (by have := aN_le n j; omega)
  obtain ⟨obj, nx, head, cnt, kept, kst, first, asked, ast⟩ := s
  cases h with
  | p0 h1 h2 h3 h4 h5 h6 =>
    simp only at h1 h2 h3 h4
    subst h1 h2 h3 h4
    by_cases e : n = 0
    · subst e
      have e0 : cellN cs (1 + 3 * 0) = 0 := h5.obj
      left
      simp only [kstep, if_true, e0]
      exact ⟨trivial, 0, h5, rfl, fun t ht => by omega, rfl, fun h => by omega, rfl⟩
    · have e0 : cellN cs (1 + 3 * n) = aN n 0 := h5.obj
      have e1 : aN n 0 ≠ 0 := aN_pos (by omega)
      right
      simp only [kstep, if_true, e0, if_neg e1]
      exact ⟨by omega, 4 * n + 6, by omega, .p1 rfl rfl (by omega) rfl h5 h6⟩
  | p1 h1 h2 h3 h4 h5 h6 =>
    simp only at h1 h2 h4
    subst h1 h2 h4
    right
    have e0 : cellN cs (addP (aN n 0) 1) = stA st 0 := by rw [ad 0 1 (by omega)]; exact h5.stp 0 h3
    simp only [kstep, if_true, e0, if_neg (show ¬ 1 = 0 by omega)]
    exact ⟨by omega, 4 * n + 5, by omega, .p2 rfl rfl rfl h3 rfl h5 h6⟩
  | p2 h1 h2 h3 h4 h5 h6 h7 =>
    simp only at h1 h2 h3 h5
    subst h1 h2 h3 h5
    right
    have e0 : cellN cs (aN n 0) = 1 := h6.val 0 h4
    simp only [kstep, if_true, e0, if_neg (show ¬ 2 = 0 by omega), if_neg (show ¬ 2 = 1 by omega)]
    refine ⟨by omega, 4 * (n - itN F l st n 0) + 4, by show 4 * (n - 0) + 4 < _; omega, .p3 0 rfl ⟨h6, h4, fun t ht => by omega, fun j _ hj => h7 j hj, rfl, rfl, rfl⟩ rfl⟩
  | p3 m h1 h2 h3 =>
    simp only at h1 h3
    subst h1
    have hk : kept = aN n (itN F l st n m) := h2.kept
    subst hk
    have e0 : cellN cs (addP (aN n (itN F l st n m)) 2) = aN n (itN F l st n m + 1) := by rw [ad _ 2 (by omega)]; exact h2.new _ (Nat.le_refl _) h2.lt
    have hlt := h2.lt
    simp only [kstep, if_true, e0, if_neg (show ¬ 3 = 0 by omega), if_neg (show ¬ 3 = 1 by omega), if_neg (show ¬ 3 = 2 by omega)]
    by_cases c : itN F l st n m + 1 < n
    · right
      have e1 : aN n (itN F l st n m + 1) ≠ 0 := aN_pos c
      unfold CutS.ask
      rw [if_neg e1]
      exact ⟨by simp, 4 * (n - (itN F l st n m + 1)) + 7, by omega, .p4 m (itN F l st n m + 1) rfl (h2.with rfl rfl rfl) (by omega) c rfl rfl (fun i i1 i2 => by omega) (by simp only []; omega)⟩
    · left
      have c2 : itN F l st n m + 1 = n := by omega
      have e1 : aN n (itN F l st n m + 1) = 0 := aN_end (by omega)
      have hn : itN F l st n (m + 1) = n := by
        rw [itN_succ F l st n hlt]
        exact nxt_is F l st n hlt hlt (Nat.le_refl _) (fun i i1 i2 => by omega) (fun h => by omega)
      unfold CutS.ask
      rw [if_pos e1]
      unfold CutS.join
      rw [e1]
      simp only [if_true]
      unfold CutS.goOn
      simp only [if_true]
      refine ⟨trivial, m + 1, h2.row, hn, fun t ht => ?_, by simp only []; omega, fun _ => h2.head, rfl⟩
      by_cases e : t = m
      · subst e
        exact ⟨hlt, by rw [h2.new _ (Nat.le_refl _) hlt, hn, c2], by omega⟩
      · exact h2.old t (by omega)
  | p4 m j h1 h2 h3 h4 h5 h6 h7 h8 =>
    simp only at h1 h5 h6 h8
    subst h1 h5 h6
    have hk : kst = effN st (itN F l st n m) := h2.kst
    subst hk
    right
    have hlt := h2.lt
    have e0 : cellN cs (addP (aN n j) 1) = stA st j := by rw [ad _ 1 (by omega)]; exact h2.row.stp j h4
    simp only [kstep, if_true, e0, if_neg (show ¬ 4 = 0 by omega), if_neg (show ¬ 4 = 1 by omega), if_neg (show ¬ 4 = 2 by omega), if_neg (show ¬ 4 = 3 by omega)]
    by_cases c : ndN F l (stA st j) (effN st (itN F l st n m)) = true
    · rw [if_pos c]
      have hn : itN F l st n (m + 1) = j := by
        rw [itN_succ F l st n hlt]
        exact nxt_is F l st n hlt h3 (by omega) h7 (fun _ => c)
      unfold CutS.join
      by_cases e : j = itN F l st n m + 1
      · have e1 : aN n j = aN n (itN F l st n m + 1) := by rw [e]
        simp only [e1, if_true]
        rw [← e1]
        unfold CutS.goOn
        simp only [if_neg (aN_pos h4)]
        refine ⟨by omega, 4 * (n - itN F l st n (m + 1)) + 4, by rw [hn]; omega, .p3 (m + 1) rfl (h2.go hf hn e h4 rfl rfl rfl) (by simp only []; omega)⟩
      · have e1 : ¬ aN n j = aN n (itN F l st n m + 1) := fun x => e (aN_inj h4 (by omega) x)
        simp only [if_neg e1]
        exact ⟨by omega, 4 * (n - j) + 5, by omega, .p6 m j rfl (h2.with rfl rfl rfl) hn h3 (by omega) rfl (fun _ => rfl) h8⟩
    · rw [if_neg c]
      refine ⟨by simp, 4 * (n - j) + 6, by omega, .p5 m j rfl (h2.with rfl rfl rfl) h3 h4 rfl rfl (fun i i1 i2 => ?_) h8⟩
      by_cases e : i = j
      · subst e; simpa [needI] using c
      · exact h7 i i1 (by omega)
  | p5 m j h1 h2 h3 h4 h5 h6 h7 h8 =>
    simp only at h1 h5 h6 h8
    subst h1 h5 h6
    right
    have hlt := h2.lt
    have e0 : cellN cs (addP (aN n j) 2) = aN n (j + 1) := by rw [ad _ 2 (by omega)]; exact h2.new j (by omega) h4
    simp only [kstep, if_true, e0, if_neg (show ¬ 5 = 0 by omega), if_neg (show ¬ 5 = 1 by omega), if_neg (show ¬ 5 = 2 by omega), if_neg (show ¬ 5 = 3 by omega), if_neg (show ¬ 5 = 4 by omega)]
    by_cases c : j + 1 < n
    · have e1 : aN n (j + 1) ≠ 0 := aN_pos c
      unfold CutS.ask
      rw [if_neg e1]
      exact ⟨by simp, 4 * (n - (j + 1)) + 7, by omega, .p4 m (j + 1) rfl (h2.with rfl rfl rfl) (by omega) c rfl rfl h7 (by simp only []; omega)⟩
    · have c2 : j + 1 = n := by omega
      have e1 : aN n (j + 1) = 0 := aN_end (by omega)
      have hn : itN F l st n (m + 1) = n := by
        rw [itN_succ F l st n hlt]
        exact nxt_is F l st n hlt hlt (Nat.le_refl _) (fun i i1 i2 => h7 i i1 (by omega)) (fun h => by omega)
      have e2 : ¬ 0 = aN n (itN F l st n m + 1) := fun x => aN_pos (n := n) (j := itN F l st n m + 1) (by omega) x.symm
      unfold CutS.ask
      rw [if_pos e1, e1]
      unfold CutS.join
      simp only [if_neg e2]
      exact ⟨by omega, 4 * (n - n) + 5, by omega, .p6 m n rfl (h2.with rfl rfl rfl) hn hlt (Nat.le_refl _) (aN_end (Nat.le_refl _)).symm (fun h => by omega) (by simp only []; omega)⟩
  | p6 m j h1 h2 h3 h4 h5 h6 h7 h8 =>
    simp only at h1 h6 h7 h8
    subst h1 h6
    have hk : kept = aN n (itN F l st n m) := h2.kept
    subst hk
    have hlt := h2.lt
    simp only [kstep, if_neg (show ¬ 6 = 0 by omega), if_neg (show ¬ 6 = 1 by omega), if_neg (show ¬ 6 = 2 by omega), if_neg (show ¬ 6 = 3 by omega), if_neg (show ¬ 6 = 4 by omega), if_neg (show ¬ 6 = 5 by omega)]
    rw [ad _ 2 (by omega)]
    unfold CutS.goOn
    by_cases c : j < n
    · right
      simp only [if_neg (aN_pos c)]
      refine ⟨by omega, 4 * (n - itN F l st n (m + 1)) + 4, by rw [h3]; omega, .p3 (m + 1) rfl (h2.store hf hm h3 h4 c rfl (h7 c) rfl) (by simp only []; omega)⟩
    · left
      have c2 : j = n := by omega
      subst c2
      have e1 : aN j j = 0 := aN_end (Nat.le_refl _)
      simp only [e1, if_true]
      refine ⟨trivial, m + 1, h2.row.store hlt, h3, fun t ht => ?_, by simp only []; omega, fun _ => h2.head, rfl⟩
      by_cases e : t = m
      · subst e
        exact ⟨hlt, by rw [lnk_same hlt hm, h3, e1], by omega⟩
      · obtain ⟨g1, g2, g3⟩ := h2.old t (by omega)
        have up := itN_lt (fun t ht => (h2.old t ht).2.2) (show t < m by omega)
        exact ⟨g1, by rw [lnk_store hlt g1 (by omega)]; exact g2, g3⟩
end
end Go.Proofs.Ytciohnfbjaglbaa
