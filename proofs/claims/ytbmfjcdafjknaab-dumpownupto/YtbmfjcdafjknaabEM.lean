/- Decode, pure. -/
import Derived.Test.YtbmfjcdafjknaabEd
import Derived.Test.YtbmfjcdafjknaabEt
import Derived.WalkMore
import Derived.Laws.BitsAllLaws
namespace Go.Proofs.Ytbmfjcdafjknaab
open Go.RowKit
set_option linter.unusedVariables false

def mayS (c p : Nat) : Bool := (decide (p = 0) || decide (c ≠ 0)) && (decide (p < 9) || decide (c ≤ 1))
/-- A number at the left, from a place on: what came of it, the error, how many bytes were passed. -/
def rdN : List Nat → Nat → Nat → Nat × Nat × Nat
  | [], _, a => (a, 270, 0)
  | c :: t, p, a => if mayS c p then (if c < 128 then (a + c % 128 * 128 ^ p, 0, 1) else ((rdN t (p + 1) (a + c % 128 * 128 ^ p)).1, (rdN t (p + 1) (a + c % 128 * 128 ^ p)).2.1, (rdN t (p + 1) (a + c % 128 * 128 ^ p)).2.2 + 1)) else (a, 271, 0)
def lim (p : Nat) : Nat := 2 ^ (64 - 7 * p)
theorem lim_succ : ∀ p, p < 9 → lim p = 128 * lim (p + 1) := by decide
theorem lim_big : ∀ p, p < 9 → 256 ≤ lim p := by decide
theorem lim9 : lim 9 = 2 := by decide
theorem lim0 : lim 0 = 18446744073709551616 := by decide
theorem rdN_num (n : Nat) : ∀ (t : List Nat) (p a : Nat), p ≤ 9 → n < lim p → (p = 0 ∨ n ≠ 0) → rdN (numB n ++ t) p a = (a + n * 128 ^ p, 0, (numB n).length) := by
  induction n using Nat.strongRecOn with
  | _ n ih =>
    intro t p a hp hn h0
    by_cases c : n < 128
    · rw [numB_small c]
      have hm : mayS n p = true := by
        unfold mayS
        simp only [Bool.and_eq_true, Bool.or_eq_true, decide_eq_true_eq]
        refine ⟨h0, ?_⟩
        by_cases q : p < 9
        · exact .inl q
        · have : p = 9 := by omega
          subst this
          rw [lim9] at hn
          exact .inr (by omega)
      show rdN (n :: t) p a = _
      rw [rdN, if_pos hm, if_pos c, Nat.mod_eq_of_lt c]
      rfl
    · rw [numB_great c]
      have hp9 : p < 9 := by
        by_cases q : p < 9
        · exact q
        · have : p = 9 := by omega
          subst this
          rw [lim9] at hn
          omega
      have hm : mayS (n % 128 + 128) p = true := by
        unfold mayS
        simp only [Bool.and_eq_true, Bool.or_eq_true, decide_eq_true_eq]
        exact ⟨.inr (by omega), .inl hp9⟩
      have hl := lim_succ p hp9
      have q := ih (n / 128) (by omega) t (p + 1) (a + n % 128 * 128 ^ p) (by omega) (by omega) (.inr (by omega))
      show rdN ((n % 128 + 128) :: (numB (n / 128) ++ t)) p a = _
      have e1 : (n % 128 + 128) % 128 = n % 128 := by omega
      rw [rdN, if_pos hm, if_neg (by omega), e1, q]
      simp only [List.length_cons, Prod.mk.injEq, and_true]
      rw [Nat.pow_succ]
      have e2 : n / 128 * (128 ^ p * 128) = n / 128 * 128 * 128 ^ p := by rw [Nat.mul_comm (128 ^ p) 128, ← Nat.mul_assoc]
      rw [e2, Nat.add_assoc, ← Nat.add_mul]
      have e3 : n % 128 + n / 128 * 128 = n := by omega
      rw [e3]
theorem rdN_back (l : List Nat) : ∀ (p a : Nat), p ≤ 9 → small8 l → (rdN l p a).2.1 = 0 → ∃ m, (rdN l p a).1 = a + m * 128 ^ p ∧ l = numB m ++ l.drop (rdN l p a).2.2 ∧ (rdN l p a).2.2 = (numB m).length ∧ (p = 0 ∨ m ≠ 0) ∧ m < lim p := by
  induction l with
  | nil => intro p a _ _ h; simp [rdN] at h
  | cons c t ih =>
    intro p a hp hs h
    by_cases hm : mayS c p = true
    · have hm2 := hm
      unfold mayS at hm2
      simp only [Bool.and_eq_true, Bool.or_eq_true, decide_eq_true_eq] at hm2
      by_cases hc : c < 128
      · have e : rdN (c :: t) p a = (a + c % 128 * 128 ^ p, 0, 1) := by rw [rdN, if_pos hm, if_pos hc]
        rw [e]
        refine ⟨c, by rw [Nat.mod_eq_of_lt hc], by rw [numB_small hc]; rfl, by rw [numB_small hc]; rfl, hm2.1, ?_⟩
        by_cases q : p < 9
        · have := lim_big p q
          omega
        · have : p = 9 := by omega
          subst this
          rw [lim9]
          omega
      · have hp9 : p < 9 := by omega
        have e : rdN (c :: t) p a = ((rdN t (p + 1) (a + c % 128 * 128 ^ p)).1, (rdN t (p + 1) (a + c % 128 * 128 ^ p)).2.1, (rdN t (p + 1) (a + c % 128 * 128 ^ p)).2.2 + 1) := by rw [rdN, if_pos hm, if_neg hc]
        rw [e] at h ⊢
        have c256 : c < 256 := hs c (by simp)
        obtain ⟨m, h1, h2, h3, h4, h5⟩ := ih (p + 1) (a + c % 128 * 128 ^ p) (by omega) (fun x hx => hs x (by simp [hx])) h
        have hl := lim_succ p hp9
        have hm0 : m ≠ 0 := by omega
        have en : numB (c % 128 + 128 * m) = c :: numB m := by
          rw [numB_great (by omega)]
          have e1 : (c % 128 + 128 * m) % 128 + 128 = c := by omega
          have e2 : (c % 128 + 128 * m) / 128 = m := by omega
          rw [e1, e2]
        refine ⟨c % 128 + 128 * m, ?_, ?_, ?_, .inr (by omega), by omega⟩
        · simp only [h1]
          rw [Nat.pow_succ, Nat.add_mul]
          have e2 : m * (128 ^ p * 128) = 128 * m * 128 ^ p := by rw [Nat.mul_comm (128 ^ p) 128, ← Nat.mul_assoc, Nat.mul_comm m 128]
          rw [e2, Nat.add_assoc]
        · rw [en]
          simp only [List.drop_succ_cons, List.cons_append]
          rw [← h2]
        · rw [en]
          simp only [List.length_cons, h3]
    · rw [rdN, if_neg hm] at h
      simp at h
/-- Is a difference none that a key may have behind one? -/
def badK : Option Nat → Nat → Bool
  | none, _ => false
  | some l, k => decide (k = 0) || decide (18446744073709551615 - l < k)
/-- The next pair: it, the error, the place then. -/
def rdPr (bs : List Nat) (i : Nat) (last : Option Nat) : (Nat × Nat) × Nat × Nat :=
  if (rdN (bs.drop i) 0 0).2.1 ≠ 0 then ((0, 0), (rdN (bs.drop i) 0 0).2.1, i + (rdN (bs.drop i) 0 0).2.2)
  else if badK last (rdN (bs.drop i) 0 0).1 then ((0, 0), 271, i)
  else if (rdN (bs.drop (i + (rdN (bs.drop i) 0 0).2.2)) 0 0).2.1 ≠ 0 then ((0, 0), (rdN (bs.drop (i + (rdN (bs.drop i) 0 0).2.2)) 0 0).2.1, i + (rdN (bs.drop i) 0 0).2.2 + (rdN (bs.drop (i + (rdN (bs.drop i) 0 0).2.2)) 0 0).2.2)
  else (((rdN (bs.drop i) 0 0).1 + last.getD 0, (rdN (bs.drop (i + (rdN (bs.drop i) 0 0).2.2)) 0 0).1), 0, i + (rdN (bs.drop i) 0 0).2.2 + (rdN (bs.drop (i + (rdN (bs.drop i) 0 0).2.2)) 0 0).2.2)
def lastK (l : List (Nat × Nat)) : Option Nat := l.getLast?.map (fun x => x.1)
/-- So many pairs behind some. -/
def rdPs (bs : List Nat) : Nat → Nat → List (Nat × Nat) → List (Nat × Nat) × Nat × Nat
  | 0, i, l => (l, 0, i)
  | m + 1, i, l => if (rdPr bs i (lastK l)).2.1 ≠ 0 then ([], (rdPr bs i (lastK l)).2.1, (rdPr bs i (lastK l)).2.2) else rdPs bs m (rdPr bs i (lastK l)).2.2 (l ++ [(rdPr bs i (lastK l)).1])
/-- How many there are, and these. -/
def rdC (bs : List Nat) (i : Nat) : List (Nat × Nat) × Nat × Nat :=
  if (rdN (bs.drop i) 0 0).2.1 ≠ 0 then ([], (rdN (bs.drop i) 0 0).2.1, i + (rdN (bs.drop i) 0 0).2.2) else rdPs bs (rdN (bs.drop i) 0 0).1 (i + (rdN (bs.drop i) 0 0).2.2) []
/-- The mark: the error, the place. -/
def rdM (bs : List Nat) : Nat → Nat × Nat
  | 0 => (0, 4)
  | k + 1 => match bs[3 - k]? with
    | none => (270, 3 - k)
    | some c => if some c = markB[3 - k]? then rdM bs k else (271, 3 - k)
/-- The sum. -/
def rdS (bs : List Nat) (i : Nat) : Nat × Nat := if bs.length - i < 4 then (270, bs.length) else if (bs.drop i).take 4 = sum4 (sumF (bs.take i)) then (0, i + 4) else (271, i)
/-- All of it: pairs, the error, the place. -/
def rdA (bs : List Nat) : List (Nat × Nat) × Nat × Nat :=
  if (rdM bs 4).1 ≠ 0 then ([], rdM bs 4)
  else if (rdC bs 4).2.1 ≠ 0 then ([], (rdC bs 4).2)
  else if (rdS bs (rdC bs 4).2.2).1 ≠ 0 then ([], rdS bs (rdC bs 4).2.2)
  else if (rdS bs (rdC bs 4).2.2).2 ≠ bs.length then ([], 272, (rdS bs (rdC bs 4).2.2).2)
  else ((rdC bs 4).1, 0, 0)
/-- Pairs written behind a key. -/
def encS : Nat → List (Nat × Nat) → List Nat
  | _, [] => []
  | last, (k, v) :: t => numB (k - last) ++ numB v ++ encS k t
theorem encS_all (l : List (Nat × Nat)) : ∀ i, i ≤ l.length → encI l i ++ encS (aheadAt l i) (l.drop i) = encS 0 l := by
  intro i
  induction i with
  | zero => intro _; simp [encI, aheadAt]
  | succ i ih =>
    intro hi
    obtain ⟨⟨k, v⟩, hg⟩ : ∃ x, l[i]? = some x := ⟨l[i]'(by omega), List.getElem?_eq_getElem _⟩
    rw [← ih (by omega), encI_add l i k v hg]
    have : l.drop i = (k, v) :: l.drop (i + 1) := by
      obtain ⟨hlt, e⟩ := List.getElem?_eq_some_iff.1 hg
      rw [List.drop_eq_getElem_cons hlt, e]
    rw [this]
    simp [encS, aheadAt, hg]
end Go.Proofs.Ytbmfjcdafjknaab
/- Decode takes just what Encode writes. -/
namespace Go.Proofs.Ytbmfjcdafjknaab
open Go.RowKit
set_option linter.unusedVariables false

theorem riseB_of_pair {l : List (Nat × Nat)} (h : l.Pairwise (fun a b => a.1 < b.1)) : riseB l = true := (riseB_iff l).2 (fun i x y hx hy => by
  obtain ⟨h1, e1⟩ := List.getElem?_eq_some_iff.1 hx
  obtain ⟨h2, e2⟩ := List.getElem?_eq_some_iff.1 hy
  have := List.pairwise_iff_getElem.1 h i (i + 1) h1 h2 (by omega)
  rw [e1, e2] at this
  exact this)
theorem lastK_nil : lastK [] = none := rfl
theorem lastK_add (f : List (Nat × Nat)) (x : Nat × Nat) : lastK (f ++ [x]) = some x.1 := by simp [lastK]
theorem drop_add (bs : List Nat) (i : Nat) (a t : List Nat) (h : bs.drop i = a ++ t) : bs.drop (i + a.length) = t := by
  rw [← List.drop_drop, h, List.drop_append, List.drop_length]
  simp
theorem key_of {f : List (Nat × Nat)} {x : Nat × Nat} (hp : (f ++ [x]).Pairwise (fun a b => a.1 < b.1)) : badK (lastK f) (x.1 - (lastK f).getD 0) = true → 18446744073709551616 ≤ x.1 := by
  rcases List.eq_nil_or_concat f with rfl | ⟨g, y, rfl⟩
  · simp [lastK_nil, badK]
  · rw [List.concat_eq_append] at *
    rw [lastK_add]
    intro h
    rw [List.pairwise_append] at hp
    have := hp.2.2 y (by simp) x (by simp)
    simp only [badK, Option.getD_some, Bool.or_eq_true, decide_eq_true_eq] at h
    omega
theorem last_le {f : List (Nat × Nat)} {x : Nat × Nat} (hp : (f ++ [x]).Pairwise (fun a b => a.1 < b.1)) : (lastK f).getD 0 ≤ x.1 := by
  rcases List.eq_nil_or_concat f with rfl | ⟨g, y, rfl⟩
  · simp [lastK_nil]
  · rw [List.concat_eq_append] at *
    rw [lastK_add]
    rw [List.pairwise_append] at hp
    have := hp.2.2 y (by simp) x (by simp)
    simp
    omega
theorem rdPs_enc (bs : List Nat) : ∀ (r f : List (Nat × Nat)) (i : Nat) (t : List Nat), bs.drop i = encS ((lastK f).getD 0) r ++ t → (f ++ r).Pairwise (fun a b => a.1 < b.1) → small64 (f ++ r) → rdPs bs r.length i f = (f ++ r, 0, i + (encS ((lastK f).getD 0) r).length) := by
  intro r
  induction r with
  | nil => intro f i t _ _ _; simp [rdPs, encS]
  | cons x r ih =>
    obtain ⟨k, v⟩ := x
    intro f i t h hp hs
    have hs' : small64 ((f ++ [(k, v)]) ++ r) := by simpa using hs
    have hp' : ((f ++ [(k, v)]) ++ r).Pairwise (fun a b => a.1 < b.1) := by simpa using hp
    have hp2 : (f ++ [(k, v)]).Pairwise (fun a b => a.1 < b.1) := (List.pairwise_append.1 hp').1
    have hk := hs (k, v) (by simp)
    have hl := last_le hp2
    have hb : badK (lastK f) (k - (lastK f).getD 0) = false := by
      cases e : badK (lastK f) (k - (lastK f).getD 0) with
      | false => rfl
      | true => have := key_of hp2 e; omega
    simp only [encS, List.append_assoc] at h
    have r1 : rdN (bs.drop i) 0 0 = (k - (lastK f).getD 0, 0, (numB (k - (lastK f).getD 0)).length) := by
      rw [h, rdN_num _ _ 0 0 (by omega) (by rw [lim0]; omega) (.inl rfl)]
      simp
    have h2 := drop_add bs i _ _ h
    have r2 : rdN (bs.drop (i + (numB (k - (lastK f).getD 0)).length)) 0 0 = (v, 0, (numB v).length) := by
      rw [h2, rdN_num _ _ 0 0 (by omega) (by rw [lim0]; omega) (.inl rfl)]
      simp
    have h3 := drop_add bs _ _ _ h2
    have e : rdPr bs i (lastK f) = ((k, v), 0, i + (numB (k - (lastK f).getD 0)).length + (numB v).length) := by
      unfold rdPr
      rw [r1]
      simp only [ne_eq, not_true, if_false, hb, r2, Bool.false_eq_true]
      rw [Nat.sub_add_cancel hl]
    have q := ih (f ++ [(k, v)]) (i + (numB (k - (lastK f).getD 0)).length + (numB v).length) t (by rw [lastK_add]; exact h3) hp' hs'
    rw [List.length_cons, rdPs, e]
    simp only [ne_eq, not_true, if_false]
    rw [q, lastK_add]
    simp [encS, Nat.add_assoc]
theorem rdPr_back {bs : List Nat} {i : Nat} {last : Option Nat} (hs : small8 bs) (hi : i ≤ bs.length) (hl : ∀ y, last = some y → y < 18446744073709551616) (h : (rdPr bs i last).2.1 = 0) :
    ∃ k v, (rdPr bs i last).1 = (k, v) ∧ bs.drop i = numB (k - last.getD 0) ++ numB v ++ bs.drop (rdPr bs i last).2.2 ∧ i ≤ (rdPr bs i last).2.2 ∧ (rdPr bs i last).2.2 ≤ bs.length ∧ k < 18446744073709551616 ∧ v < 18446744073709551616 ∧ ∀ y, last = some y → y < k := by
  have sd : ∀ j, small8 (bs.drop j) := fun j x hx => hs x (List.mem_of_mem_drop hx)
  by_cases h1 : (rdN (bs.drop i) 0 0).2.1 = 0
  · obtain ⟨m, a1, a2, a3, a4, a5⟩ := rdN_back (bs.drop i) 0 0 (by omega) (sd i) h1
    by_cases hb : badK last (rdN (bs.drop i) 0 0).1 = true
    · unfold rdPr at h; rw [if_neg (by simpa using h1), if_pos hb] at h; simp at h
    · by_cases h2 : (rdN (bs.drop (i + (rdN (bs.drop i) 0 0).2.2)) 0 0).2.1 = 0
      · obtain ⟨v, b1, b2, b3, b4, b5⟩ := rdN_back _ 0 0 (by omega) (sd _) h2
        have e : rdPr bs i last = (((rdN (bs.drop i) 0 0).1 + last.getD 0, (rdN (bs.drop (i + (rdN (bs.drop i) 0 0).2.2)) 0 0).1), 0, i + (rdN (bs.drop i) 0 0).2.2 + (rdN (bs.drop (i + (rdN (bs.drop i) 0 0).2.2)) 0 0).2.2) := by
          unfold rdPr
          rw [if_neg (by simpa using h1), if_neg hb, if_neg (by simpa using h2)]
        have n1 : (rdN (bs.drop i) 0 0).1 = m := by rw [a1]; simp
        have n2 : (rdN (bs.drop (i + (rdN (bs.drop i) 0 0).2.2)) 0 0).1 = v := by rw [b1]; simp
        have l1 := congrArg List.length a2
        have l2 := congrArg List.length b2
        simp only [List.length_append, List.length_drop] at l1 l2
        have hm1 : 1 ≤ (numB m).length := List.length_pos_iff.2 (numB_ne m)
        have hv1 : 1 ≤ (numB v).length := List.length_pos_iff.2 (numB_ne v)
        rw [lim0] at a5 b5
        rw [e]
        rw [n1] at hb ⊢
        rw [n2]
        refine ⟨m + last.getD 0, v, rfl, ?_, by simp only; omega, by simp only; omega, ?_, b5, ?_⟩
        · rw [Nat.add_sub_cancel]
          simp only
          rw [List.append_assoc]
          have d1 : bs.drop i = numB m ++ bs.drop (i + (rdN (bs.drop i) 0 0).2.2) := by
            have q := a2
            rw [List.drop_drop] at q
            exact q
          have d2 : bs.drop (i + (rdN (bs.drop i) 0 0).2.2) = numB v ++ bs.drop (i + (rdN (bs.drop i) 0 0).2.2 + (rdN (bs.drop (i + (rdN (bs.drop i) 0 0).2.2)) 0 0).2.2) := by
            have q := b2
            rw [List.drop_drop] at q
            exact q
          rw [← d2]
          exact d1
        · cases last with
          | none => simpa using a5
          | some y =>
            simp only [badK, Bool.or_eq_true, decide_eq_true_eq, not_or] at hb
            have := hl y rfl
            simp only [Option.getD_some]
            omega
        · intro y hy
          subst hy
          simp only [badK, Bool.or_eq_true, decide_eq_true_eq, not_or] at hb
          simp only [Option.getD_some]
          omega
      · unfold rdPr at h; rw [if_neg (by simpa using h1), if_neg hb, if_pos (by simpa using h2)] at h; exact absurd h h2
  · unfold rdPr at h; rw [if_pos (by simpa using h1)] at h; exact absurd h h1
theorem pair_add {f : List (Nat × Nat)} {x : Nat × Nat} (hp : f.Pairwise (fun a b => a.1 < b.1)) (h : ∀ y, lastK f = some y → y < x.1) : (f ++ [x]).Pairwise (fun a b => a.1 < b.1) := by
  rcases List.eq_nil_or_concat f with rfl | ⟨g, y, rfl⟩
  · simp
  · rw [List.concat_eq_append] at *
    have hy := h y.1 (lastK_add g y)
    rw [List.pairwise_append]
    refine ⟨hp, by simp, fun a ha b hb => ?_⟩
    simp at hb
    subst hb
    rcases List.mem_append.1 ha with q | q
    · have := (List.pairwise_append.1 hp).2.2 a q y (by simp)
      omega
    · simp at q
      subst q
      exact hy
theorem last_small {f : List (Nat × Nat)} (hs : small64 f) : ∀ y, lastK f = some y → y < 18446744073709551616 := by
  intro y h
  rcases List.eq_nil_or_concat f with rfl | ⟨g, x, rfl⟩
  · simp [lastK_nil] at h
  · rw [List.concat_eq_append] at *
    rw [lastK_add] at h
    injection h with h
    subst h
    exact (hs x (by simp)).1
theorem rdPs_back (bs : List Nat) (hb : small8 bs) : ∀ (m i : Nat) (f : List (Nat × Nat)), i ≤ bs.length → f.Pairwise (fun a b => a.1 < b.1) → small64 f → (rdPs bs m i f).2.1 = 0 →
    ∃ r, (rdPs bs m i f).1 = f ++ r ∧ r.length = m ∧ bs.drop i = encS ((lastK f).getD 0) r ++ bs.drop (rdPs bs m i f).2.2 ∧ i ≤ (rdPs bs m i f).2.2 ∧ (rdPs bs m i f).2.2 ≤ bs.length ∧ (f ++ r).Pairwise (fun a b => a.1 < b.1) ∧ small64 (f ++ r) := by
  intro m
  induction m with
  | zero => intro i f hi hp hs _; exact ⟨[], by simp [rdPs], rfl, by simp [rdPs, encS], by simp [rdPs], by simpa [rdPs] using hi, by simpa using hp, by simpa using hs⟩
  | succ m ih =>
    intro i f hi hp hs h
    by_cases h1 : (rdPr bs i (lastK f)).2.1 = 0
    · have e : rdPs bs (m + 1) i f = rdPs bs m (rdPr bs i (lastK f)).2.2 (f ++ [(rdPr bs i (lastK f)).1]) := by
        rw [rdPs, if_neg (by simpa using h1)]
      rw [e] at h ⊢
      obtain ⟨k, v, a1, a2, a3, a4, a5, a6, a7⟩ := rdPr_back hb hi (last_small hs) h1
      rw [a1] at h ⊢
      have hp' : (f ++ [(k, v)]).Pairwise (fun a b => a.1 < b.1) := pair_add hp a7
      have hs' : small64 (f ++ [(k, v)]) := by
        intro x hx
        rcases List.mem_append.1 hx with q | q
        · exact hs x q
        · simp at q; subst q; exact ⟨a5, a6⟩
      obtain ⟨r, b1, b2, b3, b4, b5, b6, b7⟩ := ih _ _ a4 hp' hs' h
      refine ⟨(k, v) :: r, by rw [b1]; simp, by simp [b2], ?_, by omega, b5, by simpa using b6, by simpa using b7⟩
      rw [lastK_add] at b3
      rw [a2, b3]
      simp [encS]
    · rw [rdPs, if_pos (by simpa using h1)] at h
      exact absurd h h1
theorem rdM_iff (bs : List Nat) : (rdM bs 4).1 = 0 → bs.take 4 = markB := by
  match bs with
  | [] => simp [rdM]
  | [a] => simp only [rdM, markB]; intro h; revert h; simp; split <;> simp
  | [a, b] => simp only [rdM, markB]; intro h; revert h; simp; split <;> (try split) <;> simp
  | [a, b, c] => simp only [rdM, markB]; intro h; revert h; simp; split <;> (try split) <;> (try split) <;> simp
  | a :: b :: c :: d :: t => simp only [rdM, markB]; intro h; revert h; simp; split <;> (try split) <;> (try split) <;> (try split) <;> simp_all
theorem rdM_mark (t : List Nat) : rdM (markB ++ t) 4 = (0, 4) := by
  simp [rdM, markB]
theorem enc_dec {bs : List Nat} (hb : small8 bs) (h : (rdA bs).2.1 = 0) : riseB (rdA bs).1 = true ∧ small64 (rdA bs).1 ∧ encL (rdA bs).1 = bs := by
  unfold rdA at h ⊢
  by_cases h1 : (rdM bs 4).1 = 0
  · rw [if_neg (by simpa using h1)] at h ⊢
    by_cases h2 : (rdC bs 4).2.1 = 0
    · rw [if_neg (by simpa using h2)] at h ⊢
      by_cases h3 : (rdS bs (rdC bs 4).2.2).1 = 0
      · rw [if_neg (by simpa using h3)] at h ⊢
        by_cases h4 : (rdS bs (rdC bs 4).2.2).2 = bs.length
        · rw [if_neg (by simpa using h4)]
          simp only
          have m4 := rdM_iff bs h1
          have l4 : 4 ≤ bs.length := by have := congrArg List.length m4; simp [markB] at this; omega
          by_cases c0 : (rdN (bs.drop 4) 0 0).2.1 = 0
          · have ec : rdC bs 4 = rdPs bs (rdN (bs.drop 4) 0 0).1 (4 + (rdN (bs.drop 4) 0 0).2.2) [] := by unfold rdC; rw [if_neg (by simpa using c0)]
            rw [ec] at h2 h3 h4 ⊢
            obtain ⟨n, a1, a2, a3, a4, a5⟩ := rdN_back (bs.drop 4) 0 0 (by omega) (fun x hx => hb x (List.mem_of_mem_drop hx)) c0
            have n1 : (rdN (bs.drop 4) 0 0).1 = n := by rw [a1]; simp
            have l1 := congrArg List.length a2
            simp only [List.length_append, List.length_drop] at l1
            rw [n1] at h2 h3 h4 ⊢
            have hn1 : 1 ≤ (numB n).length := List.length_pos_iff.2 (numB_ne n)
            obtain ⟨r, b1, b2, b3, b4, b5, b6, b7⟩ := rdPs_back bs hb n (4 + (rdN (bs.drop 4) 0 0).2.2) [] (by omega) (by simp) (by intro x hx; simp at hx) h2
            generalize hJ : (rdPs bs n (4 + (rdN (bs.drop 4) 0 0).2.2) []).2.2 = j at *
            rw [b1]
            simp only [List.nil_append] at *
            refine ⟨(riseB_of_pair b6), b7, ?_⟩
            have d1 : bs.drop 4 = numB n ++ bs.drop (4 + (rdN (bs.drop 4) 0 0).2.2) := by
              have q := a2
              rw [List.drop_drop] at q
              exact q
            rw [lastK_nil] at b3
            simp only [Option.getD_none] at b3
            have eH : encH r r.length = bs.take j := by
              have w : bs = (markB ++ numB n ++ encS 0 r) ++ bs.drop j := by
                conv => lhs; rw [← List.take_append_drop 4 bs, m4, d1, b3]
                simp
              have lw : (markB ++ numB n ++ encS 0 r).length = j := by
                have := congrArg List.length w
                simp only [List.length_append, List.length_drop] at this ⊢
                omega
              unfold encH
              have q := encS_all r r.length (Nat.le_refl _)
              rw [List.drop_length] at q
              simp only [encS, List.append_nil] at q
              rw [q, b2]
              conv => rhs; rw [w]
              rw [← lw, List.take_append_of_le_length (Nat.le_refl _), List.take_length]
            unfold encL
            rw [eH]
            unfold rdS at h3 h4
            by_cases s1 : bs.length - j < 4
            · rw [if_pos s1] at h3; simp at h3
            · rw [if_neg s1] at h3 h4
              by_cases s2 : (bs.drop j).take 4 = sum4 (sumF (bs.take j))
              · rw [if_pos s2] at h4
                simp only at h4
                have : (bs.drop j).take 4 = bs.drop j := List.take_of_length_le (by simp; omega)
                rw [← s2, this, List.take_append_drop]
              · rw [if_neg s2] at h3; simp at h3
          · unfold rdC at h2; rw [if_pos (by simpa using c0)] at h2; exact absurd h2 c0
        · rw [if_pos (by simpa using h4)] at h; simp at h
      · rw [if_pos (by simpa using h3)] at h; exact absurd h h3
    · rw [if_pos (by simpa using h2)] at h; exact absurd h h2
  · rw [if_pos (by simpa using h1)] at h; exact absurd h h1
theorem dec_enc {l : List (Nat × Nat)} (hr : riseB l = true) (hs : small64 l) (hl : l.length ≤ 10000000) : rdA (encL l) = (l, 0, 0) := by
  have e : encL l = markB ++ (numB l.length ++ (encS 0 l ++ sum4 (sumF (encH l l.length)))) := by
    have q := encS_all l l.length (Nat.le_refl _)
    rw [List.drop_length] at q
    simp only [encS, List.append_nil] at q
    conv => lhs; unfold encL encH
    rw [q]
    simp [encH, q]
  have hM : rdM (encL l) 4 = (0, 4) := by rw [e]; exact rdM_mark _
  have d4 : (encL l).drop 4 = numB l.length ++ (encS 0 l ++ sum4 (sumF (encH l l.length))) := by rw [e]; rfl
  have r1 : rdN ((encL l).drop 4) 0 0 = (l.length, 0, (numB l.length).length) := by
    rw [d4, rdN_num _ _ 0 0 (by omega) (by rw [lim0]; omega) (.inl rfl)]
    simp
  have d5 := drop_add _ _ _ _ d4
  have hp := riseB_pair hr
  have r2 := rdPs_enc (encL l) l [] (4 + (numB l.length).length) _ d5 (by simpa using hp) (by simpa using hs)
  have hC : rdC (encL l) 4 = (l, 0, 4 + (numB l.length).length + (encS 0 l).length) := by
    unfold rdC
    rw [r1]
    simp only [ne_eq, not_true, if_false]
    rw [r2]
    simp [lastK_nil]
  have d6 := drop_add _ _ _ _ d5
  have eH : encH l l.length = (encL l).take (4 + (numB l.length).length + (encS 0 l).length) := by
    have q := encS_all l l.length (Nat.le_refl _)
    rw [List.drop_length] at q
    simp only [encS, List.append_nil] at q
    unfold encL
    have hlen : (encH l l.length).length = 4 + (numB l.length).length + (encS 0 l).length := by
      unfold encH
      rw [q]
      simp [markB]
      omega
    rw [← hlen, List.take_append_of_le_length (Nat.le_refl _), List.take_length]
  have hlen : (encL l).length = 4 + (numB l.length).length + (encS 0 l).length + 4 := by
    rw [e]
    simp [markB, sum4]
    omega
  have hS : rdS (encL l) (4 + (numB l.length).length + (encS 0 l).length) = (0, 4 + (numB l.length).length + (encS 0 l).length + 4) := by
    unfold rdS
    rw [if_neg (by omega), ← eH, d6, if_pos (by simp [sum4])]
  unfold rdA
  rw [hM, hC]
  simp only [ne_eq, not_true, if_false, hS, hlen]
end Go.Proofs.Ytbmfjcdafjknaab
/- The reader of bytes: at its end; a byte that may stand; a number. -/
namespace Go.Proofs.Ytbmfjcdafjknaab
open Go.RowKit
set_option linter.unusedVariables false

theorem chg_drewL {F : Nat → Prop} {a b : World} (h : Chg F a b) (n : Nat) : Chg F a (b.drewN n) := ⟨h.os, h.tape, h.output, h.size, h.block⟩
/-- Where bytes lie, if there are any. -/
def pB (bs : List Nat) (p : Option Addr) : Option Addr := if bs = [] then none else p
theorem BytesAt.chgB {F : Nat → Prop} {W W' : World} {p : Option Addr} {l : List Nat} (h : BytesAt W p l) (c : Chg F W W') (hn : ∀ b o, pB l p = some ⟨b, o, none⟩ → ¬ F b) : BytesAt W' p l := by
  by_cases e : l = []
  · exact .inl e
  · exact h.chg c (fun b o hp => hn b o (by unfold pB; rw [if_neg e]; exact hp))
theorem BytesAt.ltB {W : World} {p : Option Addr} {l : List Nat} (h : BytesAt W p l) : ∀ b o, pB l p = some ⟨b, o, none⟩ → b < W.heap.size := by
  intro b o e
  rcases h with rfl | ⟨bk, off, rfl, hb, _⟩
  · simp [pB] at e
  · unfold pB at e
    split at e
    · cases e
    · injection e with e
      injection e with e
      omega
/-- A reader: its bytes, and where it stands. -/
structure Rd (W : World) (R : Nat) (p : Option Addr) (bs : List Nat) (c i : Nat) : Prop where
  blk : W.heap[R]? = some (.cells #[.slice p bs.length c, .int .i64 (i : Int)] 70 (0, 0))
  hb : BytesAt W p bs
  hi : i ≤ bs.length
  hn : bs.length ≤ 1000000000
  ne : ∀ b o, pB bs p = some ⟨b, o, none⟩ → b ≠ R
theorem Rd.c0 {W : World} {R : Nat} {p : Option Addr} {bs : List Nat} {c i : Nat} (h : Rd W R p bs c i) : W.cell? ⟨R, 0, none⟩ = some (.slice p bs.length c) := by rw [cell_of h.blk]; rfl
theorem Rd.c1 {W : World} {R : Nat} {p : Option Addr} {bs : List Nat} {c i : Nat} (h : Rd W R p bs c i) : W.cell? ⟨R, 1, none⟩ = some (.int .i64 (i : Int)) := by rw [cell_of h.blk]; rfl
theorem Rd.free {W : World} {R : Nat} {p : Option Addr} {bs : List Nat} {c i : Nat} (h : Rd W R p bs c i) : W.frozen? ⟨R, 1, none⟩ = false := free_of h.blk 1
theorem Rd.lt {W : World} {R : Nat} {p : Option Addr} {bs : List Nat} {c i : Nat} (h : Rd W R p bs c i) : R < W.heap.size := lt_of h.blk
theorem Rd.on {W X : World} {R : Nat} {p : Option Addr} {bs : List Nat} {c i : Nat} {F : Nat → Prop} (h : Rd W R p bs c i) (hX : Chg F W X) (hR : ¬ F R) (hp : ∀ b o, pB bs p = some ⟨b, o, none⟩ → ¬ F b) : Rd X R p bs c i :=
  ⟨(hX.block R h.lt hR).trans h.blk, h.hb.chgB hX hp, h.hi, h.hn, h.ne⟩
theorem Rd.set {W X : World} {R : Nat} {p : Option Addr} {bs : List Nat} {c i : Nat} (h : Rd W R p bs c i) (hX : Chg (fun _ => False) W X) (j : Nat) (hj : j ≤ bs.length) : Rd (X.setCell ⟨R, 1, none⟩ (.int .i64 (j : Int))) R p bs c j ∧ Chg (fun k => k = R) W (X.setCell ⟨R, 1, none⟩ (.int .i64 (j : Int))) := by
  have h2 := h.on hX (fun x => x) (fun _ _ _ x => x)
  have hc : Chg (fun k => k = R) W (X.setCell ⟨R, 1, none⟩ (.int .i64 (j : Int))) := Chg.setCell (F := fun k => k = R) (p := ⟨R, 1, none⟩) (hX.mono (fun _ _ x => x.elim)) (fun _ => rfl) _
  refine ⟨⟨?_, h.hb.chgB hc (fun b o e x => h.ne b o e x), hj, h.hn, h.ne⟩, hc⟩
  rw [set_of h2.blk]
  rfl
def atOf (w : World) (R : Nat) : Nat := (intOf ((w.cell? ⟨R, 1, none⟩).getD (.int .i64 0))).toNat
theorem Rd.at {W : World} {R : Nat} {p : Option Addr} {bs : List Nat} {c i : Nat} (h : Rd W R p bs c i) : atOf W R = i := by
  unfold atOf
  rw [h.c1]
  simp [intOf]
theorem at_end {W : World} {R : Nat} {p : Option Addr} {bs : List Nat} {c i : Nat} (H : Rd W R p bs c i) : Calls Try.prog 48 #[.pointer (some ⟨R, 0, none⟩)] W fun e W' => e = .returned (.bool (decide (i = bs.length))) ∧ Chg (fun _ => False) W W' := by
  have c0 := H.c0
  have c1 := H.c1
  clear H
  have hz : ((i : Int) == (bs.length : Int)) = decide (i = bs.length) := by
    by_cases h : i = bs.length
    · subst h; simp
    · simp [h]; omega
  go_enter Try.func48, Try.ntmps48
  go_wp2_with fail
  go_quiet (fail)
  go_wp2_with fail
  go_ret
  refine ⟨?_, ?_⟩
  · simp
  · repeat' (first | refine Chg.setCell ?_ (fun h => absurd h (Nat.lt_irrefl _)) _ | refine Chg.alloc ?_ _ | refine chg_drewL ?_ _ | refine Chg.drew ?_ | exact Chg.refl _ _)
theorem may_stand (q n : Nat) (w : World) : Calls Try.prog 56 #[.int .u8 (q : Int), .int .i64 (n : Int)] w fun e w' => e = .returned (.bool (mayS q n)) ∧ w' = w := by
  unfold mayS
  by_cases h1 : n = 0
  · have e1 : ((n : Int) == 0) = true := by simp [h1]
    by_cases h2 : n < 9
    · have e2 : decide ((n : Int) < 9) = true := by simp; omega
      go_enter Try.func56, Try.ntmps56
      go_wp2_with fail
      go_ret
      exact ⟨by simp [h1], rfl⟩
    · exact absurd h1 (by omega)
  · have e1 : ((n : Int) == 0) = false := by simp [h1]
    by_cases h3 : q = 0
    · have e3 : ((q : Int) != 0) = false := by simp [h3]
      go_enter Try.func56, Try.ntmps56
      go_wp2_with fail
      go_ret
      exact ⟨by simp [h1, h3], rfl⟩
    · have e3 : ((q : Int) != 0) = true := by simp [h3]
      by_cases h2 : n < 9
      · have e2 : decide ((n : Int) < 9) = true := by simp; omega
        go_enter Try.func56, Try.ntmps56
        go_wp2_with fail
        go_ret
        exact ⟨by simp [h1, h2, h3], rfl⟩
      · have e2 : decide ((n : Int) < 9) = false := by simp; omega
        by_cases h4 : q ≤ 1
        · have e4 : decide ((q : Int) ≤ 1) = true := by simp; omega
          go_enter Try.func56, Try.ntmps56
          go_wp2_with fail
          go_ret
          exact ⟨by simp [h1, h2, h3, h4], rfl⟩
        · have e4 : decide ((q : Int) ≤ 1) = false := by simp; omega
          go_enter Try.func56, Try.ntmps56
          go_wp2_with fail
          go_ret
          exact ⟨by simp [h1, h2, h3, h4], rfl⟩
end Go.Proofs.Ytbmfjcdafjknaab
/- The reader's number. -/
namespace Go.Proofs.Ytbmfjcdafjknaab
open Go.RowKit Go.Shelf
set_option linter.unusedVariables false

def add3 (k : Nat) (r : Nat × Nat × Nat) : Nat × Nat × Nat := (r.1, r.2.1, r.2.2 + k)
theorem rdN_may {q k a : Nat} {t : List Nat} (h : mayS q k = false) : rdN (q :: t) k a = (a, 271, 0) := by rw [rdN, if_neg (by simp [h])]
theorem rdN_end {q k a : Nat} {t : List Nat} (h : mayS q k = true) (hq : q < 128) : rdN (q :: t) k a = (a + q % 128 * 128 ^ k, 0, 1) := by rw [rdN, if_pos h, if_pos hq]
theorem rdN_more {q k a : Nat} {t : List Nat} (h : mayS q k = true) (hq : ¬ q < 128) : rdN (q :: t) k a = add3 1 (rdN t (k + 1) (a + q % 128 * 128 ^ k)) := by rw [rdN, if_pos h, if_neg hq]; rfl
theorem drop_at {bs : List Nat} {i q : Nat} (h : bs[i]? = some q) : bs.drop i = q :: bs.drop (i + 1) := by
  obtain ⟨hlt, e⟩ := List.getElem?_eq_some_iff.1 h
  rw [List.drop_eq_getElem_cons hlt, e]
/-- What stays while a number is read. -/
structure NI (W wr : World) (R : Nat) (p : Option Addr) (bs : List Nat) (c i k a : Nat) : Prop where
  lt : a < 128 ^ k
  eq : rdN (bs.drop i) 0 0 = add3 k (rdN (bs.drop (i + k)) k a)
  rd : Rd wr R p bs c (i + k)
  ch : Chg (fun j => j = R) W wr
theorem NI.more {W wr X : World} {R : Nat} {p : Option Addr} {bs : List Nat} {c i k a q m : Nat} (h : NI W wr R p bs c i k a) (hmk : m = i + k) (hq : bs[i + k]? = some q) (hm : mayS q k = true) (h1 : ¬ q < 128) (hX : Chg (fun _ => False) wr X) : NI W (X.setCell ⟨R, 1, none⟩ (.int .i64 ((m : Int) + 1))) R p bs c i (k + 1) (a + q % 128 * 128 ^ k) := by
  subst hmk
  have hlt := (List.getElem?_eq_some_iff.1 hq).1
  rw [show (((i + k : Nat) : Int) + 1) = ((i + k + 1 : Nat) : Int) by omega]
  obtain ⟨h2, h3⟩ := h.rd.set hX (i + k + 1) (by omega)
  refine ⟨?_, ?_, h2, h.ch.trans h3 (fun _ _ x => x) (fun _ _ x => x)⟩
  · have := h.lt
    rw [Nat.pow_succ]
    have e : q % 128 ≤ 127 := by omega
    have := Nat.mul_le_mul_right (128 ^ k) e
    omega
  · rw [h.eq, drop_at hq, rdN_more hm h1]
    simp [add3, Nat.add_assoc, Nat.add_comm 1 k]
theorem NI.fin {W wr X : World} {R : Nat} {p : Option Addr} {bs : List Nat} {c i k a q m : Nat} (h : NI W wr R p bs c i k a) (hmk : m = i + k) (hq : bs[i + k]? = some q) (hm : mayS q k = true) (h1 : q < 128) (hX : Chg (fun _ => False) wr X) : rdN (bs.drop i) 0 0 = (a + q % 128 * 128 ^ k, 0, k + 1) ∧ Rd (X.setCell ⟨R, 1, none⟩ (.int .i64 ((m : Int) + 1))) R p bs c (i + (k + 1)) ∧ Chg (fun j => j = R) W (X.setCell ⟨R, 1, none⟩ (.int .i64 ((m : Int) + 1))) := by
  subst hmk
  have hlt := (List.getElem?_eq_some_iff.1 hq).1
  rw [show (((i + k : Nat) : Int) + 1) = ((i + k + 1 : Nat) : Int) by omega]
  obtain ⟨h2, h3⟩ := h.rd.set hX (i + k + 1) (by omega)
  refine ⟨?_, h2, h.ch.trans h3 (fun _ _ x => x) (fun _ _ x => x)⟩
  rw [h.eq, drop_at hq, rdN_end hm h1]
  simp [add3, Nat.add_comm]
theorem NI.bad {W wr X : World} {R : Nat} {p : Option Addr} {bs : List Nat} {c i k a q : Nat} (h : NI W wr R p bs c i k a) (hq : bs[i + k]? = some q) (hm : mayS q k = false) (hX : Chg (fun _ => False) wr X) : rdN (bs.drop i) 0 0 = (a, 271, k) ∧ Rd X R p bs c (i + k) ∧ Chg (fun j => j = R) W X := by
  refine ⟨?_, h.rd.on hX (fun x => x) (fun _ _ _ x => x), h.ch.trans hX (fun _ _ x => x) (fun _ _ x => x.elim)⟩
  rw [h.eq, drop_at hq, rdN_may hm]
  simp [add3]
theorem NI.short {W wr X : World} {R : Nat} {p : Option Addr} {bs : List Nat} {c i k a : Nat} (h : NI W wr R p bs c i k a) (hq : i + k = bs.length) (hX : Chg (fun _ => False) wr X) : rdN (bs.drop i) 0 0 = (a, 270, k) ∧ Rd X R p bs c (i + k) ∧ Chg (fun j => j = R) W X := by
  refine ⟨?_, h.rd.on hX (fun x => x) (fun _ _ _ x => x), h.ch.trans hX (fun _ _ x => x) (fun _ _ x => x.elim)⟩
  rw [h.eq, List.drop_eq_nil_of_le (by omega)]
  simp [add3, rdN]
theorem or_shift {a q k : Nat} (ha : a < 128 ^ k) (hk : k ≤ 9) (hm : mayS q k = true) : bits .or .u64 (a : Int) (IntKind.u64.wrap ((q : Int) % 128 * 2 ^ (7 * k))) = ((a + q % 128 * 128 ^ k : Nat) : Int) := by
  have p7 : 2 ^ (7 * k) = 128 ^ k := by rw [Nat.pow_mul]
  unfold mayS at hm
  simp only [Bool.and_eq_true, Bool.or_eq_true, decide_eq_true_eq] at hm
  have hb : q % 128 * 128 ^ k < 18446744073709551616 ∧ 128 ^ k ≤ 9223372036854775808 := by
    by_cases h9 : k < 9
    · have h8 : 128 ^ k ≤ 128 ^ 8 := Nat.pow_le_pow_right (by decide) (by omega)
      have := Nat.mul_le_mul (show q % 128 ≤ 127 by omega) h8
      omega
    · have : k = 9 := by omega
      subst this
      have : q ≤ 1 := by omega
      have e : (128 : Nat) ^ 9 = 9223372036854775808 := by decide
      rw [e]
      omega
  have e1 : ((q : Int) % 128 * 2 ^ (7 * k)) = ((q % 128 * 128 ^ k : Nat) : Int) := by
    rw [← p7]
    simp [Int.natCast_pow]
  rw [e1, IntKind.wrap_u64, Int.emod_eq_of_lt (by omega) (by omega), u64_or_nat _ _ (by omega) hb.1, Nat.or_comm, nat_join (7 * k) _ _ (by rw [← p7]; exact Nat.mul_mod_left _ _) (by rw [p7]; exact ha), Nat.add_comm]
set_option maxRecDepth 100000 in
set_option maxHeartbeats 4000000 in
theorem rd_number {W : World} {R : Nat} {p : Option Addr} {bs : List Nat} {c i : Nat} (H : Rd W R p bs c i) :
    Calls Try.prog 53 #[.pointer (some ⟨R, 0, none⟩)] W fun e W' => e = .returned (.tuple #[.int .u64 ((rdN (bs.drop i) 0 0).1 : Int), .int .i64 ((rdN (bs.drop i) 0 0).2.1 : Int)]) ∧ Rd W' R p bs c (i + (rdN (bs.drop i) 0 0).2.2) ∧ Chg (fun j => j = R) W W' := by
  have c1 := H.c1
  have hn := H.hn
  have hi := H.hi
  have HH := keepH H
  clear H
  go_enter Try.func53, Try.ntmps53
  go_wp2_with fail
  go_step3
  go_wp2_with fail
  go_quiet (fail)
  go_wp2_with fail
  go_step3
  go_wp2_with fail
  go_loopw [4, 6] (fun n e wr => ∃ k a : Nat, n = .int .u64 (a : Int) ∧ e = .int .i64 0 ∧ k ≤ 9 ∧ i + k ≤ bs.length ∧ Hid (NI W wr R p bs c i k a)) (fun _ _ w => bs.length - atOf w R)
  case atStart => exact ⟨0, 0, rfl, rfl, by omega, by omega, keepH ⟨by simp, by simp [add3], HH.out.on (by repeat' (first | refine Chg.alloc ?_ _ | refine chg_drewL ?_ _ | refine Chg.drew ?_ | exact Chg.refl _ _)) (fun x => x) (fun _ _ _ x => x), Chg.mono (F := fun _ => False) (by repeat' (first | refine Chg.alloc ?_ _ | refine chg_drewL ?_ _ | refine Chg.drew ?_ | exact Chg.refl _ _)) (fun _ _ x => x.elim)⟩⟩
  case round =>
    obtain ⟨k, a, rfl, rfl, hk, hik, HX⟩ := hrel
    have c0 := HX.out.rd.c0
    have c1 := HX.out.rd.c1
    have f1 := HX.out.rd.free
    have HE := keepH (fun X (h : Chg (fun _ => False) wr X) => at_end (HX.out.rd.on h (fun x => x) (fun _ _ _ x => x)))
    obtain ⟨m, hm⟩ : ∃ m, m = i + k := ⟨_, rfl⟩
    have hsub : ((m : Int) - (i : Int)) = (k : Int) := by omega
    have HC1 := keepH (fun (X : World) (h : Chg (fun _ => False) wr X) => (HX.out.rd.on h (fun x => x) (fun _ _ _ x => x)).c1)
    have HF1 := keepH (fun (X : World) (h : Chg (fun _ => False) wr X) => (HX.out.rd.on h (fun x => x) (fun _ _ _ x => x)).free)
    rw [← hm] at HE c1 HC1
    have HMK := keepH hm
    by_cases he : m = bs.length
    · rw [decide_eq_true he] at HE
      have HQ := keepH he
      clear he hm
      go_wp2_with (first | (go_at_call 48; refine (HE.out _ (by repeat' (first | refine Chg.alloc ?_ _ | refine chg_drewL ?_ _ | refine Chg.drew ?_ | exact Chg.refl _ _))).mono ?_; clear HE; rintro e W3 ⟨rfl, hC⟩; have HC := keepH hC; clear hC))
      obtain ⟨q1, q2, q3⟩ := HX.out.short (by rw [← HMK.out]; exact HQ.out) HC.out
      rw [Exit.noGoto_ret]
      go_ret2
      rw [q1]
      exact ⟨rfl, q2, q3⟩
    · rw [decide_eq_false he] at HE
      have hlt : m < bs.length := by omega
      obtain ⟨q, hq⟩ : ∃ q, bs[m]? = some q := ⟨bs[m]'hlt, List.getElem?_eq_getElem _⟩
      obtain ⟨bk, off, rfl, hbk, hcs⟩ := HX.out.rd.hb.resolve_left (by intro e; subst e; simp at hq)
      obtain ⟨hq8, d0⟩ := hcs _ _ hq
      have HQ := keepH hq
      have HM := keepH (fun w => may_stand q k w)
      obtain ⟨b, hb⟩ : ∃ b, b = mayS q k := ⟨_, rfl⟩
      rw [← hb] at HM
      have HB := keepH hb.symm
      have HD0 := keepH d0
      have hix : (m : Int) < (bs.length : Int) := by omega
      clear hb hq hcs he hm d0
      cases b
      · go_wp2_with (first | (go_at_call 48; refine (HE.out _ (by repeat' (first | refine Chg.alloc ?_ _ | refine chg_drewL ?_ _ | refine Chg.drew ?_ | exact Chg.refl _ _))).mono ?_; clear HE; rintro e W3 ⟨rfl, hC⟩; have HC := keepH hC; clear hC; have c0 := cell_chg HC.out c0 (fun x => x); have c1 := HC1.out _ HC.out; have d0 := cell_chg HC.out HD0.out (fun x => x)))
        go_quiet (first | (go_at_call 56; refine (HM.out _).mono ?_; rintro x y ⟨rfl, rfl⟩; exact ⟨rfl, _, rfl⟩))
        go_wp2_with fail
        obtain ⟨q1, q2, q3⟩ := HX.out.bad (X := W3.drewN nq) (by rw [← HMK.out]; exact HQ.out) HB.out (chg_drewL HC.out _)
        rw [Exit.noGoto_ret]
        go_ret2
        rw [q1]
        exact ⟨rfl, q2, q3⟩
      · by_cases h7 : q < 128
        · have t7 : (q : Int) < 128 := by omega
          go_wp2_with (first | (go_at_call 48; refine (HE.out _ (by repeat' (first | refine Chg.alloc ?_ _ | refine chg_drewL ?_ _ | refine Chg.drew ?_ | exact Chg.refl _ _))).mono ?_; clear HE; rintro e W3 ⟨rfl, hC⟩; have HC := keepH hC; clear hC; have c0 := cell_chg HC.out c0 (fun x => x); have c1 := HC1.out _ HC.out; have f1 := HF1.out _ HC.out; have d0 := cell_chg HC.out HD0.out (fun x => x)))
          go_quiet (first | (go_at_call 56; refine (HM.out _).mono ?_; rintro x y ⟨rfl, rfl⟩; exact ⟨rfl, _, rfl⟩))
          go_wp2_with fail
          go_quiet (fail)
          go_wp2_with fail
          obtain ⟨q1, q2, q3⟩ := HX.out.fin HMK.out (by rw [← HMK.out]; exact HQ.out) HB.out h7 (chg_drewL HC.out _)
          rw [Exit.noGoto_ret]
          go_ret2
          rw [q1]
          exact ⟨by rw [or_shift HX.out.lt hk HB.out]; rfl, q2, q3⟩
        · have t7 : ¬ (q : Int) < 128 := by omega
          go_wp2_with (first | (go_at_call 48; refine (HE.out _ (by repeat' (first | refine Chg.alloc ?_ _ | refine chg_drewL ?_ _ | refine Chg.drew ?_ | exact Chg.refl _ _))).mono ?_; clear HE; rintro e W3 ⟨rfl, hC⟩; have HC := keepH hC; clear hC; have c0 := cell_chg HC.out c0 (fun x => x); have c1 := HC1.out _ HC.out; have f1 := HF1.out _ HC.out; have d0 := cell_chg HC.out HD0.out (fun x => x)))
          go_quiet (first | (go_at_call 56; refine (HM.out _).mono ?_; rintro x y ⟨rfl, rfl⟩; exact ⟨rfl, _, rfl⟩))
          go_wp2_with fail
          go_quiet (fail)
          go_wp2_with fail
          have HO := keepH (or_shift HX.out.lt hk HB.out)
          have HY := keepH (fun n => HX.out.more HMK.out (by rw [← HMK.out]; exact HQ.out) HB.out h7 (chg_drewL HC.out n))
          have hk9 : k + 1 ≤ 9 := by
            have z := HB.out
            unfold mayS at z
            simp only [Bool.and_eq_true, Bool.or_eq_true, decide_eq_true_eq] at z
            omega
          have hmk := HMK.out
          go_roundw
          case rel => exact ⟨k + 1, a + q % 128 * 128 ^ k, by rw [HO.out], rfl, hk9, by omega, keepH (HY.out _)⟩
          case measure =>
            rw [(HY.out _).rd.at, HX.out.rd.at]
            omega
end Go.Proofs.Ytbmfjcdafjknaab
