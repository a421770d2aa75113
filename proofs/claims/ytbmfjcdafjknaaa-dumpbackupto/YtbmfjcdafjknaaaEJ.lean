/- Decode, pure. -/
import Derived.Test.YtbmfjcdafjknaaaEd
namespace Go.Proofs.Ytbmfjcdafjknaaa
open Go.RowKit
set_option linter.unusedVariables false

def mayS (c p : Nat) : Bool := (decide (p = 0) || decide (c ≠ 0)) && (decide (p < 9) || decide (c ≤ 1))
/-- A number at the left, from a place on: what came of it, the error, how many bytes were passed. -/
def rdN : List Nat → Nat → Nat → Nat × Nat × Nat
  | [], _, a => (a, 270, 0)
  | c :: t, p, a => if mayS c p then (if c < 128 then (a + c % 128 * 128 ^ p, 0, 1) else ((rdN t (p + 1) (a + c % 128 * 128 ^ p)).1, (rdN t (p + 1) (a + c % 128 * 128 ^ p)).2.1, (rdN t (p + 1) (a + c % 128 * 128 ^ p)).2.2 + 1)) else (a, 271, 0)
def lim (p : Nat) : Nat := 2 ^ (64 - 7 * p)
theorem lim_succ : ∀ p, p < 9 → lim p = 128 * lim (p + 1) := by decide
theorem lim_big : ∀ p, p < 9 → 256 ≤ lim p := by decide
theorem lim9 : lim 9 = 2 := by decide
theorem lim0 : lim 0 = 18446744073709551616 := by decide
theorem rdN_num (n : Nat) : ∀ (t : List Nat) (p a : Nat), p ≤ 9 → n < lim p → (p = 0 ∨ n ≠ 0) → rdN (numB n ++ t) p a = (a + n * 128 ^ p, 0, (numB n).length) := by
  induction n using Nat.strongRecOn with
  | _ n ih =>
    intro t p a hp hn h0
    by_cases c : n < 128
    · rw [numB_small c]
      have hm : mayS n p = true := by
        unfold mayS
        simp only [Bool.and_eq_true, Bool.or_eq_true, decide_eq_true_eq]
        refine ⟨h0, ?_⟩
        by_cases q : p < 9
        · exact .inl q
        · have : p = 9 := by omega
          subst this
          rw [lim9] at hn
          exact .inr (by omega)
      show rdN (n :: t) p a = _
      rw [rdN, if_pos hm, if_pos c, Nat.mod_eq_of_lt c]
      rfl
    · rw [numB_great c]
      have hp9 : p < 9 := by
        by_cases q : p < 9
        · exact q
        · have : p = 9 := by omega
          subst this
          rw [lim9] at hn
          omega
      have hm : mayS (n % 128 + 128) p = true := by
        unfold mayS
        simp only [Bool.and_eq_true, Bool.or_eq_true, decide_eq_true_eq]
        exact ⟨.inr (by omega), .inl hp9⟩
      have hl := lim_succ p hp9
      have q := ih (n / 128) (by omega) t (p + 1) (a + n % 128 * 128 ^ p) (by omega) (by omega) (.inr (by omega))
      show rdN ((n % 128 + 128) :: (numB (n / 128) ++ t)) p a = _
      have e1 : (n % 128 + 128) % 128 = n % 128 := by omega
      rw [rdN, if_pos hm, if_neg (by omega), e1, q]
      simp only [List.length_cons, Prod.mk.injEq, and_true]
      rw [Nat.pow_succ]
      have e2 : n / 128 * (128 ^ p * 128) = n / 128 * 128 * 128 ^ p := by rw [Nat.mul_comm (128 ^ p) 128, ← Nat.mul_assoc]
      rw [e2, Nat.add_assoc, ← Nat.add_mul]
      have e3 : n % 128 + n / 128 * 128 = n := by omega
      rw [e3]
theorem rdN_back (l : List Nat) : ∀ (p a : Nat), p ≤ 9 → small8 l → (rdN l p a).2.1 = 0 → ∃ m, (rdN l p a).1 = a + m * 128 ^ p ∧ l = numB m ++ l.drop (rdN l p a).2.2 ∧ (rdN l p a).2.2 = (numB m).length ∧ (p = 0 ∨ m ≠ 0) ∧ m < lim p := by
  induction l with
  | nil => intro p a _ _ h; simp [rdN] at h
  | cons c t ih =>
    intro p a hp hs h
    by_cases hm : mayS c p = true
    · have hm2 := hm
      unfold mayS at hm2
      simp only [Bool.and_eq_true, Bool.or_eq_true, decide_eq_true_eq] at hm2
      by_cases hc : c < 128
      · have e : rdN (c :: t) p a = (a + c % 128 * 128 ^ p, 0, 1) := by rw [rdN, if_pos hm, if_pos hc]
        rw [e]
        refine ⟨c, by rw [Nat.mod_eq_of_lt hc], by rw [numB_small hc]; rfl, by rw [numB_small hc]; rfl, hm2.1, ?_⟩
        by_cases q : p < 9
        · have := lim_big p q
          omega
        · have : p = 9 := by omega
          subst this
          rw [lim9]
          omega
      · have hp9 : p < 9 := by omega
        have e : rdN (c :: t) p a = ((rdN t (p + 1) (a + c % 128 * 128 ^ p)).1, (rdN t (p + 1) (a + c % 128 * 128 ^ p)).2.1, (rdN t (p + 1) (a + c % 128 * 128 ^ p)).2.2 + 1) := by rw [rdN, if_pos hm, if_neg hc]
        rw [e] at h ⊢
        have c256 : c < 256 := hs c (by simp)
        obtain ⟨m, h1, h2, h3, h4, h5⟩ := ih (p + 1) (a + c % 128 * 128 ^ p) (by omega) (fun x hx => hs x (by simp [hx])) h
        have hl := lim_succ p hp9
        have hm0 : m ≠ 0 := by omega
        have en : numB (c % 128 + 128 * m) = c :: numB m := by
          rw [numB_great (by omega)]
          have e1 : (c % 128 + 128 * m) % 128 + 128 = c := by omega
          have e2 : (c % 128 + 128 * m) / 128 = m := by omega
          rw [e1, e2]
        refine ⟨c % 128 + 128 * m, ?_, ?_, ?_, .inr (by omega), by omega⟩
        · simp only [h1]
          rw [Nat.pow_succ, Nat.add_mul]
          have e2 : m * (128 ^ p * 128) = 128 * m * 128 ^ p := by rw [Nat.mul_comm (128 ^ p) 128, ← Nat.mul_assoc, Nat.mul_comm m 128]
          rw [e2, Nat.add_assoc]
        · rw [en]
          simp only [List.drop_succ_cons, List.cons_append]
          rw [← h2]
        · rw [en]
          simp only [List.length_cons, h3]
    · rw [rdN, if_neg hm] at h
      simp at h
/-- Is a difference none that a key may have behind one? -/
def badK : Option Nat → Nat → Bool
  | none, _ => false
  | some l, k => decide (k = 0) || decide (18446744073709551615 - l < k)
/-- The next pair: it, the error, the place then. -/
def rdPr (bs : List Nat) (i : Nat) (last : Option Nat) : (Nat × Nat) × Nat × Nat :=
  if (rdN (bs.drop i) 0 0).2.1 ≠ 0 then ((0, 0), (rdN (bs.drop i) 0 0).2.1, i + (rdN (bs.drop i) 0 0).2.2)
  else if badK last (rdN (bs.drop i) 0 0).1 then ((0, 0), 271, i)
  else if (rdN (bs.drop (i + (rdN (bs.drop i) 0 0).2.2)) 0 0).2.1 ≠ 0 then ((0, 0), (rdN (bs.drop (i + (rdN (bs.drop i) 0 0).2.2)) 0 0).2.1, i + (rdN (bs.drop i) 0 0).2.2 + (rdN (bs.drop (i + (rdN (bs.drop i) 0 0).2.2)) 0 0).2.2)
  else (((rdN (bs.drop i) 0 0).1 + last.getD 0, (rdN (bs.drop (i + (rdN (bs.drop i) 0 0).2.2)) 0 0).1), 0, i + (rdN (bs.drop i) 0 0).2.2 + (rdN (bs.drop (i + (rdN (bs.drop i) 0 0).2.2)) 0 0).2.2)
def lastK (l : List (Nat × Nat)) : Option Nat := l.getLast?.map (fun x => x.1)
/-- So many pairs behind some. -/
def rdPs (bs : List Nat) : Nat → Nat → List (Nat × Nat) → List (Nat × Nat) × Nat × Nat
  | 0, i, l => (l, 0, i)
  | m + 1, i, l => if (rdPr bs i (lastK l)).2.1 ≠ 0 then ([], (rdPr bs i (lastK l)).2.1, (rdPr bs i (lastK l)).2.2) else rdPs bs m (rdPr bs i (lastK l)).2.2 (l ++ [(rdPr bs i (lastK l)).1])
/-- How many there are, and these. -/
def rdC (bs : List Nat) (i : Nat) : List (Nat × Nat) × Nat × Nat :=
  if (rdN (bs.drop i) 0 0).2.1 ≠ 0 then ([], (rdN (bs.drop i) 0 0).2.1, i + (rdN (bs.drop i) 0 0).2.2) else rdPs bs (rdN (bs.drop i) 0 0).1 (i + (rdN (bs.drop i) 0 0).2.2) []
/-- The mark: the error, the place. -/
def rdM (bs : List Nat) : Nat → Nat × Nat
  | 0 => (0, 4)
  | k + 1 => match bs[3 - k]? with
    | none => (270, 3 - k)
    | some c => if some c = markB[3 - k]? then rdM bs k else (271, 3 - k)
/-- The sum. -/
def rdS (bs : List Nat) (i : Nat) : Nat × Nat := if bs.length - i < 4 then (270, bs.length) else if (bs.drop i).take 4 = sum4 (sumF (bs.take i)) then (0, i + 4) else (271, i)
/-- All of it: pairs, the error, the place. -/
def rdA (bs : List Nat) : List (Nat × Nat) × Nat × Nat :=
  if (rdM bs 4).1 ≠ 0 then ([], rdM bs 4)
  else if (rdC bs 4).2.1 ≠ 0 then ([], (rdC bs 4).2)
  else if (rdS bs (rdC bs 4).2.2).1 ≠ 0 then ([], rdS bs (rdC bs 4).2.2)
  else if (rdS bs (rdC bs 4).2.2).2 ≠ bs.length then ([], 272, (rdS bs (rdC bs 4).2.2).2)
  else ((rdC bs 4).1, 0, 0)
/-- Pairs written behind a key. -/
def encS : Nat → List (Nat × Nat) → List Nat
  | _, [] => []
  | last, (k, v) :: t => numB (k - last) ++ numB v ++ encS k t
theorem encS_all (l : List (Nat × Nat)) : ∀ i, i ≤ l.length → encI l i ++ encS (aheadAt l i) (l.drop i) = encS 0 l := by
  intro i
  induction i with
  | zero => intro _; simp [encI, aheadAt]
  | succ i ih =>
    intro hi
    obtain ⟨⟨k, v⟩, hg⟩ : ∃ x, l[i]? = some x := ⟨l[i]'(by omega), List.getElem?_eq_getElem _⟩
    rw [← ih (by omega), encI_add l i k v hg]
    have : l.drop i = (k, v) :: l.drop (i + 1) := by
      obtain ⟨hlt, e⟩ := List.getElem?_eq_some_iff.1 hg
      rw [List.drop_eq_getElem_cons hlt, e]
    rw [this]
    simp [encS, aheadAt, hg]
end Go.Proofs.Ytbmfjcdafjknaaa
