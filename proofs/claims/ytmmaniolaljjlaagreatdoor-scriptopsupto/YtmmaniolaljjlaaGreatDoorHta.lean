/- Numbers as texts, there and back; a text cut at a byte. Pure. -/
import Derived.Lib.ItoaMem
import Derived.Lib.ItoaLen
import Derived.Lib.AtoiAll
import Derived.Lib.Bytealg
import Derived.Lib.Split
import Derived.Lib.SplitLaws
namespace Go.Proofs.YtmmaniolaljjlaaGreatDoor
open Go.Lib
set_option linter.unusedVariables false

def noB (b : UInt8) (l : List UInt8) : Prop := ∀ x ∈ l, x ≠ b
theorem noB.append {b : UInt8} {l r : List UInt8} (h : noB b l) (h' : noB b r) : noB b (l ++ r) := fun x hx => by
  rcases List.mem_append.mp hx with hx | hx
  · exact h x hx
  · exact h' x hx
theorem noB.cons {b c : UInt8} {r : List UInt8} (h : c ≠ b) (h' : noB b r) : noB b (c :: r) := fun x hx => by
  rcases List.mem_cons.mp hx with rfl | hx
  · exact h
  · exact h' x hx
theorem noB_nil (b : UInt8) : noB b [] := fun x h => by simp at h
theorem ix_at {b : UInt8} {a r : List UInt8} (h : noB b a) : indexByte (a ++ b :: r) b = (a.length : Int) := by
  induction a with
  | nil => simp [indexByte]
  | cons x t ih =>
    have hx := h x (by simp)
    have h2 := ih (fun y hy => h y (by simp [hy]))
    simp only [List.cons_append, indexByte, h2]
    rw [if_neg (by simpa using hx), if_neg (by simp)]
    simp
theorem ix_none {b : UInt8} {a : List UInt8} (h : noB b a) : indexByte a b = -1 := by
  induction a with
  | nil => rfl
  | cons x t ih =>
    have hx := h x (by simp)
    simp [indexByte, hx, ih (fun y hy => h y (by simp [hy]))]
theorem ix_cases (b : UInt8) (l : List UInt8) : noB b l ∨ (∃ a r, noB b a ∧ l = a ++ b :: r) := by
  induction l with
  | nil => exact Or.inl (noB_nil b)
  | cons x t ih =>
    by_cases hx : x = b
    · subst hx
      exact Or.inr ⟨[], t, noB_nil _, rfl⟩
    · rcases ih with h1 | ⟨a, r, ha, rfl⟩
      · exact Or.inl (h1.cons hx)
      · exact Or.inr ⟨x :: a, r, ha.cons hx, rfl⟩

theorem p10_append : ∀ (l r : List UInt8) (acc : Nat), parseUint10 acc (l ++ r) = (match parseUint10 acc l with | .ok a => parseUint10 a r | .syntax => .syntax | .range => .range)
  | [], r, acc => by simp [parseUint10]
  | c :: t, r, acc => by
    simp only [List.cons_append, parseUint10]
    split
    · split
      · rfl
      · split
        · rfl
        · exact p10_append t r _
    · rfl
theorem p10_dec (u : Nat) (h : u < 18446744073709551616) : parseUint10 0 (decDigits u) = .ok u := by
  induction u using Nat.strongRecOn with
  | _ u ih =>
    rw [decDigits]
    split
    · rename_i h10
      have e : (UInt8.ofNat (48 + u)).toNat = 48 + u := by simp [UInt8.toNat_ofNat']; omega
      simp only [parseUint10, e]
      rw [if_pos (by omega), if_neg (by omega), if_neg (by omega)]
      congr 1; omega
    · rename_i h10
      have e : (UInt8.ofNat (48 + u % 10)).toNat = 48 + u % 10 := by simp [UInt8.toNat_ofNat']; omega
      rw [p10_append, ih (u / 10) (by omega) (by omega)]
      simp only [parseUint10, e]
      rw [if_pos (by omega), if_neg (by omega), if_neg (by omega)]
      congr 1; omega
theorem dec_ne (u : Nat) : decDigits u ≠ [] := by
  rw [decDigits]; split <;> simp
theorem dec_digit (u : Nat) : ∀ x ∈ decDigits u, 48 ≤ x.toNat ∧ x.toNat ≤ 57 := by
  induction u using Nat.strongRecOn with
  | _ u ih =>
    intro x hx
    rw [decDigits] at hx
    split at hx
    · rename_i h
      simp only [List.mem_singleton] at hx
      subst hx
      simp [UInt8.toNat_ofNat']; omega
    · rename_i h
      rcases List.mem_append.mp hx with hx | hx
      · exact ih (u / 10) (by omega) x hx
      · simp only [List.mem_singleton] at hx
        subst hx
        simp [UInt8.toNat_ofNat']; omega
theorem mag_dec (u : Nat) (h : u < 18446744073709551616) : parseMag (decDigits u) = .ok u := by
  unfold parseMag
  rw [if_neg (dec_ne u)]
  exact p10_dec u h
theorem atoi_itoa (n : Int) (h0 : -9223372036854775808 ≤ n) (h1 : n < 9223372036854775808) : atoiAll (itoa n) = .ok n := by
  by_cases hn : n < 0
  · obtain ⟨u, rfl⟩ : ∃ u : Nat, n = -(u : Int) := ⟨n.natAbs, by omega⟩
    rw [itoa_neg u (by omega)]
    unfold atoiAll
    simp only
    rw [if_pos (Or.inr (by decide)), mag_dec u (by omega)]
    simp only
    rw [if_neg (by simp), if_neg (by omega), if_pos (by decide)]
  · obtain ⟨u, rfl⟩ : ∃ u : Nat, n = (u : Int) := ⟨n.toNat, by omega⟩
    rw [itoa_nonneg]
    have hm := mag_dec u (by omega)
    have hd := dec_digit u
    cases hc : decDigits u with
    | nil => exact absurd hc (dec_ne u)
    | cons c r =>
      rw [hc] at hm hd
      have := hd c (by simp)
      unfold atoiAll
      simp only
      rw [if_neg (by omega), hm]
      simp only
      rw [if_neg (by omega), if_neg (by omega), if_neg (by omega)]
theorem itoa_byte (n : Int) : ∀ x ∈ itoa n, x.toNat = 45 ∨ (48 ≤ x.toNat ∧ x.toNat ≤ 57) := by
  intro x hx
  unfold itoa at hx
  split at hx
  · rcases List.mem_cons.mp hx with rfl | hx
    · exact Or.inl (by decide)
    · exact Or.inr (dec_digit _ x hx)
  · exact Or.inr (dec_digit _ x hx)
theorem itoa_no (n : Int) (b : UInt8) (hb : b.toNat = 32 ∨ b.toNat = 10) : noB b (itoa n) := by
  intro x hx e
  subst e
  have := itoa_byte n x hx
  omega
theorem itoa_dash (n : Int) : itoa n ≠ [45] := by
  unfold itoa
  split
  · intro h
    injection h with _ h
    exact dec_ne _ h
  · intro h
    have := dec_digit n.toNat 45 (by rw [h]; simp)
    revert this; decide

theorem ix_sub (l : List UInt8) (c : UInt8) : index l [c] = indexByte l c := by
  induction l with
  | nil => rfl
  | cons x t ih =>
    simp only [index, indexByte, ih]
    by_cases h : x = c
    · subst h; simp [List.isPrefixOf]
    · have h' : (c == x) = false := by simpa using fun e => h e.symm
      simp [List.isPrefixOf, h, h']
/-- a text of four pieces, cut at its blanks -/
theorem split4 {a b c d : List UInt8} (ha : noB 32 a) (hb : noB 32 b) (hc : noB 32 c) (hd : noB 32 d) : split (a ++ 32 :: (b ++ 32 :: (c ++ 32 :: d))) [32] = [a, b, c, d] := by
  have cnt : count (a ++ 32 :: (b ++ 32 :: (c ++ 32 :: d))) [32] = 3 := by
    rw [count_one]
    have z : ∀ l : List UInt8, noB 32 l → l.count 32 = 0 := fun l h => List.count_eq_zero.mpr (fun hm => h 32 hm rfl)
    simp [List.count_append, z a ha, z b hb, z c hc, z d hd]
  have step : ∀ (k : Nat) (x r : List UInt8), noB 32 x → splitK [32] 0 (k + 1) (x ++ 32 :: r) = x :: splitK [32] 0 k r := by
    intro k x r hx
    rw [splitK, ix_sub, ix_at hx, if_neg (by simp)]
    congr 1
    · simp
    · congr 1
      have e : (x.length : Int).toNat + ([32] : List UInt8).length = x.length + 1 := by simp
      rw [e]
      rw [show x ++ 32 :: r = (x ++ [(32 : UInt8)]) ++ r by simp, List.drop_left' (by simp)]
  unfold split
  rw [cnt, step _ _ _ ha, step _ _ _ hb, step _ _ _ hc]
  rfl
end Go.Proofs.YtmmaniolaljjlaaGreatDoor
