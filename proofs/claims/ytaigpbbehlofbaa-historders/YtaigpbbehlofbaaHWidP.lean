/- How many calls are on their way at one time, at most: by a sweep over what is sorted, and by counting. -/
import Derived.Test.YtaigpbbehlofbaaHSmall
namespace Go.Proofs.Ytaigpbbehlofbaa
open Go.RowKit

def begB (s : Sp) : Bool := decide (s.to < 0) || decide (s.fr ≤ s.to)
def endB (s : Sp) : Bool := decide (0 ≤ s.to) && decide (s.fr ≤ s.to)
def begs (l : List Sp) : List Int := (l.filter begB).map (fun s => s.fr)
def ens (l : List Sp) : List Int := (l.filter endB).map (fun s => s.to)
def atB (f : Int) (s : Sp) : Bool := decide (s.fr ≤ f) && (decide (s.to < 0) || decide (f ≤ s.to))
def leB (f x : Int) : Bool := decide (x ≤ f)
def ltB (f x : Int) : Bool := decide (x < f)

theorem at_count (l : List Sp) (f : Int) : l.countP (atB f) + (ens l).countP (ltB f) = (begs l).countP (leB f) := by
  induction l with
  | nil => rfl
  | cons s r ih =>
    have e1 : (ens (s :: r)).countP (ltB f) = (ens r).countP (ltB f) + (if endB s && ltB f s.to then 1 else 0) := by
      unfold ens
      by_cases h : endB s = true
      · simp [h, List.countP_cons]
      · simp [h]
    have e2 : (begs (s :: r)).countP (leB f) = (begs r).countP (leB f) + (if begB s && leB f s.fr then 1 else 0) := by
      unfold begs
      by_cases h : begB s = true
      · simp [h, List.countP_cons]
      · simp [h]
    rw [e1, e2, List.countP_cons]
    have e3 : (if atB f s = true then 1 else 0) + (if (endB s && ltB f s.to) = true then 1 else 0) = (if (begB s && leB f s.fr) = true then 1 else 0) := by
      unfold atB endB begB ltB leB
      by_cases h1 : s.fr ≤ f <;> by_cases h2 : s.to < 0 <;> by_cases h3 : f ≤ s.to <;> by_cases h4 : s.fr ≤ s.to <;> by_cases h5 : s.to < f <;> by_cases h6 : 0 ≤ s.to <;> simp [h1, h2, h3, h4, h5, h6] <;> omega
    omega

/-- The greatest of what f tells of a list's elements. -/
def wOf (g : Int → Nat) (l : List Int) : Nat := l.foldl (fun m b => max m (g b)) 0
theorem wOf_snoc (g : Int → Nat) (l : List Int) (b : Int) : wOf g (l ++ [b]) = max (wOf g l) (g b) := by simp [wOf]
theorem wOf_from (g : Int → Nat) (l : List Int) : ∀ m, (∀ b ∈ l, g b ≤ l.foldl (fun m b => max m (g b)) m) ∧ m ≤ l.foldl (fun m b => max m (g b)) m ∧ (l.foldl (fun m b => max m (g b)) m = m ∨ ∃ b ∈ l, l.foldl (fun m b => max m (g b)) m = g b) := by
  induction l with
  | nil => exact fun m => ⟨fun b hb => by simp at hb, Nat.le_refl _, .inl rfl⟩
  | cons a r ih =>
    intro m
    obtain ⟨i1, i2, i3⟩ := ih (max m (g a))
    refine ⟨fun b hb => ?_, ?_, ?_⟩
    · rcases List.mem_cons.1 hb with rfl | q
      · show g b ≤ List.foldl _ (max m (g b)) r
        omega
      · exact i1 b q
    · show m ≤ List.foldl _ (max m (g a)) r
      omega
    · rcases i3 with q | ⟨b, hb, q⟩
      · by_cases c : g a ≤ m
        · exact .inl (by show List.foldl _ (max m (g a)) r = m; omega)
        · exact .inr ⟨a, by simp, by show List.foldl _ (max m (g a)) r = g a; omega⟩
      · exact .inr ⟨b, by simp [hb], q⟩
theorem wOf_le (g : Int → Nat) (l : List Int) (b : Int) (hb : b ∈ l) : g b ≤ wOf g l := (wOf_from g l 0).1 b hb
theorem wOf_is (g : Int → Nat) (l : List Int) : wOf g l = 0 ∨ ∃ b ∈ l, wOf g l = g b := (wOf_from g l 0).2.2

/-- In a rising list those that are not above something stand first. -/
def Rises (l : List Int) : Prop := ∀ (i j : Nat) (a b : Int), i ≤ j → l[i]? = some a → l[j]? = some b → a ≤ b
theorem Rises.tail {a : Int} {l : List Int} (h : Rises (a :: l)) : Rises l := fun i j x y hij hx hy => h (i + 1) (j + 1) x y (by omega) (by simpa using hx) (by simpa using hy)
theorem rises_count (p : Int → Bool) (hp : ∀ a b, a ≤ b → p b = true → p a = true) (l : List Int) (h : Rises l) : ∀ (i : Nat) (a : Int), l[i]? = some a → (p a = true ↔ i < l.countP p) := by
  induction l with
  | nil => exact fun i a e => by simp at e
  | cons x r ih =>
    intro i a e
    by_cases px : p x = true
    · rw [List.countP_cons_of_pos px]
      cases i with
      | zero =>
        simp at e
        subst e
        simp [px]
      | succ i =>
        have := ih h.tail i a (by simpa using e)
        rw [this]
        omega
    · rw [List.countP_cons_of_neg px]
      have hz : r.countP p = 0 := by
        rw [List.countP_eq_zero]
        intro b hb pb
        obtain ⟨j, hj⟩ := List.mem_iff_getElem?.1 hb
        exact px (hp x b (h 0 (j + 1) x b (by omega) rfl (by simpa using hj)) pb)
      rw [hz]
      constructor
      · intro pa
        exact absurd (hp x a (h 0 i x a (by omega) rfl e) pa) px
      · intro hh
        omega
theorem leB_mono (f a b : Int) (h : a ≤ b) (hb : leB f b = true) : leB f a = true := by simp [leB] at *; omega
theorem ltB_mono (f a b : Int) (h : a ≤ b) (hb : ltB f b = true) : ltB f a = true := by simp [ltB] at *; omega

theorem ens_le (l : List Sp) (f : Int) : (ens l).countP (ltB f) ≤ (begs l).countP (ltB f) := by
  induction l with
  | nil => exact Nat.le_refl _
  | cons s r ih =>
    have e1 : (ens (s :: r)).countP (ltB f) = (ens r).countP (ltB f) + (if endB s && ltB f s.to then 1 else 0) := by
      unfold ens
      by_cases h : endB s = true
      · simp [h, List.countP_cons]
      · simp [h]
    have e2 : (begs (s :: r)).countP (ltB f) = (begs r).countP (ltB f) + (if begB s && ltB f s.fr then 1 else 0) := by
      unfold begs
      by_cases h : begB s = true
      · simp [h, List.countP_cons]
      · simp [h]
    rw [e1, e2]
    have e3 : (if (endB s && ltB f s.to) = true then 1 else 0) ≤ (if (begB s && ltB f s.fr) = true then 1 else 0) := by
      unfold endB begB ltB
      by_cases h1 : s.fr < f <;> by_cases h2 : s.to < 0 <;> by_cases h4 : s.fr ≤ s.to <;> by_cases h5 : s.to < f <;> by_cases h6 : 0 ≤ s.to <;> simp [h1, h2, h4, h5, h6] <;> omega
    omega
theorem begs_snoc (l : List Sp) (s : Sp) : begs (l ++ [s]) = begs l ++ (if begB s then [s.fr] else []) := by
  unfold begs
  rw [List.filter_append, List.map_append]
  by_cases h : begB s = true
  · simp [h]
  · simp [h]
theorem ens_snoc (l : List Sp) (s : Sp) : ens (l ++ [s]) = ens l ++ (if endB s then [s.to] else []) := by
  unfold ens
  rw [List.filter_append, List.map_append]
  by_cases h : endB s = true
  · simp [h]
  · simp [h]
theorem begs_len (l : List Sp) : (begs l).length ≤ l.length := by unfold begs; rw [List.length_map]; exact List.length_filter_le _ _
theorem ens_len (l : List Sp) : (ens l).length ≤ l.length := by unfold ens; rw [List.length_map]; exact List.length_filter_le _ _
/-- Ahead of a begin, in what was sorted, stand at least as many begins as ends. -/
theorem over_le (l : List Sp) (bs es : List Int) (hb : bs.Perm (begs l)) (he : es.Perm (ens l)) (h : Rises bs) (i : Nat) (b : Int) (hi : bs[i]? = some b) : es.countP (ltB b) ≤ i := by
  have h1 := ens_le l b
  rw [← hb.countP_eq, ← he.countP_eq] at h1
  have h2 := rises_count (ltB b) (ltB_mono b) bs h i b hi
  have h3 : ¬ i < bs.countP (ltB b) := fun x => by have := h2.2 x; simp [ltB] at this
  omega
theorem over_next (bs es : List Int) (h : Rises bs) (i : Nat) (a b : Int) (ha : bs[i]? = some a) (hb : bs[i + 1]? = some b) : es.countP (ltB a) ≤ es.countP (ltB b) := by
  have := h i (i + 1) a b (by omega) ha hb
  exact List.countP_mono_left (fun x _ hx => by simp [ltB] at *; omega)
/-- The sweep: what stands behind k begins. -/
def sweep (e : Int → Nat) (bs : List Int) : Nat → Nat
  | 0 => 0
  | k + 1 => max (sweep e bs k) (k + 1 - e (bs.getD k 0))
theorem sweep_le (e : Int → Nat) (bs : List Int) (w : Nat) (h : ∀ (i : Nat) (b : Int), bs[i]? = some b → i + 1 - e b ≤ w) : ∀ k, k ≤ bs.length → sweep e bs k ≤ w := by
  intro k
  induction k with
  | zero => intro _; exact Nat.zero_le _
  | succ k ih =>
    intro hk
    have h1 := ih (by omega)
    have h2 := h k (bs.getD k 0) (by rw [List.getD_eq_getElem?_getD, List.getElem?_eq_getElem (show k < bs.length by omega)]; rfl)
    show max _ _ ≤ w
    omega
theorem sweep_ge (e : Int → Nat) (bs : List Int) (i : Nat) (b : Int) (hi : bs[i]? = some b) : ∀ k, i < k → i + 1 - e b ≤ sweep e bs k := by
  intro k
  induction k with
  | zero => intro h; omega
  | succ k ih =>
    intro hk
    show _ ≤ max (sweep e bs k) (k + 1 - e (bs.getD k 0))
    by_cases c : i = k
    · subst c
      have : bs.getD i 0 = b := by rw [List.getD_eq_getElem?_getD, hi]; rfl
      rw [this]
      omega
    · have := ih (by omega)
      omega
theorem sweep_is (e : Int → Nat) (bs : List Int) (h : Rises bs) : sweep e bs bs.length = wOf (fun f => bs.countP (leB f) - e f) bs := by
  apply Nat.le_antisymm
  · refine sweep_le e bs _ (fun i b hi => ?_) _ (Nat.le_refl _)
    have h1 := wOf_le (fun f => bs.countP (leB f) - e f) bs b (List.mem_of_getElem? hi)
    have h2 := (rises_count (leB b) (leB_mono b) bs h i b hi).1 (by simp [leB])
    omega
  · rcases wOf_is (fun f => bs.countP (leB f) - e f) bs with q | ⟨b, hb, q⟩
    · omega
    · rw [q]
      obtain ⟨p, hp⟩ := List.mem_iff_getElem?.1 hb
      have c1 := (rises_count (leB b) (leB_mono b) bs h p b hp).1 (by simp [leB])
      obtain ⟨c, hc⟩ : ∃ c, c = bs.countP (leB b) := ⟨_, rfl⟩
      have hcl : c ≤ bs.length := by rw [hc]; exact List.countP_le_length
      obtain ⟨z, hz⟩ : ∃ z, bs[c - 1]? = some z := ⟨bs[c - 1]'(by omega), List.getElem?_eq_getElem _⟩
      have z1 : z ≤ b := by
        have := (rises_count (leB b) (leB_mono b) bs h (c - 1) z hz).2 (by omega)
        simpa [leB] using this
      have z2 : b ≤ z := h p (c - 1) b z (by omega) hp hz
      have hzb : z = b := by omega
      subst hzb
      have := sweep_ge e bs (c - 1) z hz bs.length (by omega)
      omega
theorem wOf_perm (g : Int → Nat) {a b : List Int} (h : a.Perm b) : wOf g a = wOf g b := by
  apply Nat.le_antisymm
  · rcases wOf_is g a with q | ⟨x, hx, q⟩
    · omega
    · rw [q]; exact wOf_le g b x (h.mem_iff.1 hx)
  · rcases wOf_is g b with q | ⟨x, hx, q⟩
    · omega
    · rw [q]; exact wOf_le g a x (h.mem_iff.2 hx)
/-- The sweep over what was sorted is the count at each begin. -/
theorem width_is (l : List Sp) (bs es : List Int) (hb : bs.Perm (begs l)) (he : es.Perm (ens l)) (h : Rises bs) : sweep (fun f => es.countP (ltB f)) bs bs.length = wOf (fun f => l.countP (atB f)) (begs l) := by
  rw [sweep_is _ _ h]
  have e1 : (fun f => bs.countP (leB f) - es.countP (ltB f)) = fun f => l.countP (atB f) := by
    funext f
    have := at_count l f
    rw [hb.countP_eq, he.countP_eq]
    omega
  rw [e1]
  exact wOf_perm _ hb
end Go.Proofs.Ytaigpbbehlofbaa
