/- Plain numbers: what the bit by bit way back computes; the other number of an odd one. -/
import Derived.Test.YtoopbacnnkmpbabNum
namespace Go.Proofs.Ytoopbacnnkmpbab

def hiN (y m : Nat) : Nat := y / 2 ^ m * 2 ^ m
def bitN (x k : Nat) : Nat := x / 2 ^ k % 2

theorem bitN_eq (x k : Nat) : bitN x k = (x.testBit k).toNat := by
  unfold bitN
  rw [Nat.testBit_eq_decide_div_mod_eq]
  rcases Nat.mod_two_eq_zero_or_one (x / 2 ^ k) with h | h <;> simp [h]
theorem bitN_lt (x k : Nat) : bitN x k < 2 := Nat.mod_lt _ (by decide)
theorem hiN_lt {y : Nat} (m : Nat) (h : y < 18446744073709551616) : hiN y m < 18446744073709551616 :=
  Nat.lt_of_le_of_lt (Nat.div_mul_le_self _ _) h
theorem hiN_64 {y : Nat} (h : y < 18446744073709551616) : hiN y 64 = 0 := by
  unfold hiN
  rw [Nat.div_eq_of_lt (by simpa using h), Nat.zero_mul]
theorem hiN_0 (y : Nat) : hiN y 0 = y := by simp [hiN]
theorem hiN_step (y k : Nat) : hiN y k = hiN y (k + 1) + bitN y k * 2 ^ k := by
  unfold hiN bitN
  have h : y / 2 ^ (k + 1) = y / 2 ^ k / 2 := by rw [Nat.pow_succ, Nat.div_div_eq_div_mul]
  have e := Nat.div_add_mod (y / 2 ^ k) 2
  rw [h]
  calc y / 2 ^ k * 2 ^ k = (2 * (y / 2 ^ k / 2) + y / 2 ^ k % 2) * 2 ^ k := by rw [e]
    _ = _ := by rw [Nat.add_mul, Nat.pow_succ, Nat.mul_comm 2 (y / 2 ^ k / 2), Nat.mul_assoc, Nat.mul_comm 2 (2 ^ k)]
theorem hiN_or (y k : Nat) : hiN y (k + 1) ||| bitN y k * 2 ^ k = hiN y k := by
  rw [nat_join (k + 1) (hiN y (k + 1)) (bitN y k * 2 ^ k) (by unfold hiN; exact Nat.mul_mod_left _ _), hiN_step y k]
  have := bitN_lt y k
  rw [Nat.pow_succ, Nat.mul_comm (2 ^ k) 2]
  exact Nat.mul_lt_mul_of_pos_right this (Nat.pow_pos (by decide))
theorem hiN_bit (y m j : Nat) (h : m ≤ j) : bitN (hiN y m) j = bitN y j := by
  unfold bitN hiN
  obtain ⟨d, rfl⟩ := Nat.exists_eq_add_of_le h
  rw [Nat.pow_add, ← Nat.div_div_eq_div_mul, Nat.mul_div_cancel _ (Nat.pow_pos (by decide)), ← Nat.div_div_eq_div_mul]
theorem bit_back {x : Nat} (s k : Nat) (hs : 64 ≤ 3 * s) (h : x < 18446744073709551616) : bitN x k ^^^ bitN (unfoldN x s) (k + s) = bitN (unfoldN x s) k := by
  have e : (foldN (unfoldN x s) s).testBit k = x.testBit k := by rw [fold_unfold s hs h]
  rw [foldN_bit] at e
  rw [bitN_eq, bitN_eq, bitN_eq, ← e]
  cases (unfoldN x s).testBit k <;> cases (unfoldN x s).testBit (k + s) <;> rfl
theorem bit_last {x : Nat} (s k : Nat) (hs : 64 ≤ 3 * s) (h : x < 18446744073709551616) (hk : 64 ≤ k + s) : bitN x k = bitN (unfoldN x s) k := by
  have e : (foldN (unfoldN x s) s).testBit k = x.testBit k := by rw [fold_unfold s hs h]
  rw [foldN_bit, high_bit (unfoldN_lt s h) (k + s) hk] at e
  rw [bitN_eq, bitN_eq, ← e]
  simp

theorem other_0 {c x k : Nat} (hx : c * x % 2 ^ k = 1) (hb : c * x / 2 ^ k % 2 = 0) : c * x % 2 ^ (k + 1) = 1 := by
  rw [Nat.mod_pow_succ, hx, hb, Nat.mul_zero]
theorem other_1 {c x k : Nat} (hc : c % 2 = 1) (hx : c * x % 2 ^ k = 1) (hb : c * x / 2 ^ k % 2 = 1) : c * (x + 2 ^ k) % 2 ^ (k + 1) = 1 := by
  rw [Nat.mod_pow_succ, Nat.mul_add, Nat.add_mul_mod_self_right, hx, Nat.add_mul_div_right _ _ (Nat.pow_pos (by decide))]
  have : (c * x / 2 ^ k + c) % 2 = 0 := by omega
  rw [this, Nat.mul_zero]
theorem other_lt {x k : Nat} (h : x < 2 ^ k) : x + 2 ^ k < 2 ^ (k + 1) := by rw [Nat.pow_succ]; omega
theorem other_or {x k : Nat} (h : x < 2 ^ k) : x ||| 2 ^ k = x + 2 ^ k := by
  rw [Nat.or_comm, nat_join k (2 ^ k) x (Nat.mod_self _) h, Nat.add_comm]
theorem other_one {c x i : Nat} (hx : c * x % 18446744073709551616 = 1) (hi : c * i % 18446744073709551616 = 1) (lx : x < 18446744073709551616) (li : i < 18446744073709551616) : x = i := by
  have a : c * x * i % 18446744073709551616 = i := by rw [Nat.mul_mod, hx, Nat.one_mul, Nat.mod_mod, Nat.mod_eq_of_lt li]
  have b : c * i * x % 18446744073709551616 = x := by rw [Nat.mul_mod, hi, Nat.one_mul, Nat.mod_mod, Nat.mod_eq_of_lt lx]
  rw [show c * x * i = c * i * x by rw [Nat.mul_assoc, Nat.mul_comm x i, ← Nat.mul_assoc]] at a
  omega
theorem low_bit (a k : Nat) (hk : k < 64) : a % 18446744073709551616 / 2 ^ k % 2 = a / 2 ^ k % 2 := by
  have h : (a % 2 ^ 64).testBit k = a.testBit k := by rw [Nat.testBit_mod_two_pow]; simp [hk]
  have e := bitN_eq (a % 2 ^ 64) k
  rw [h, ← bitN_eq] at e
  exact e
end Go.Proofs.Ytoopbacnnkmpbab
