/- Plain numbers: digits joined to a number, and back. -/
import Derived.Laws.BitsAllLaws
import Derived.Test.YtmhflmjhphhppabDigF
namespace Go.Proofs.Ytmhflmjhphhppab

def topN (k : Nat) : Int := if k = 10 then 15 else 63
def rv (zs : Nat → Int) : Nat → Int
  | 0 => 0
  | k + 1 => rv zs k * 64 + zs k
def hv (zs : Nat → Int) (k : Nat) : Int := if k = 11 then rv zs 10 * 16 + zs 10 else rv zs k * 2 ^ (64 - 6 * k)
def Good (zs : Nat → Int) (k : Nat) : Prop := ∀ j, j < k → 0 ≤ zs j ∧ zs j ≤ topN j

theorem good_succ {zs : Nat → Int} {k : Nat} (h : Good zs k) (z0 : 0 ≤ zs k) (z1 : zs k ≤ topN k) : Good zs (k + 1) := fun j hj => by
  by_cases e : j = k
  · subst e; exact ⟨z0, z1⟩
  · exact h j (by omega)
theorem rv_bd (zs : Nat → Int) (k : Nat) (hk : k ≤ 10) (h : Good zs k) : 0 ≤ rv zs k ∧ rv zs k + 1 ≤ 2 ^ (6 * k) := by
  induction k with
  | zero => exact ⟨Int.le_refl 0, Int.le_refl 1⟩
  | succ k ih =>
    have i := ih (by omega) (fun j hj => h j (by omega))
    have z := h k (by omega)
    have t : topN k = 63 := by unfold topN; rw [if_neg (by omega)]
    have e : (2 : Int) ^ (6 * (k + 1)) = 64 * 2 ^ (6 * k) := by rw [Nat.mul_add, Int.pow_add]; omega
    rw [e]
    simp only [rv]
    omega
theorem hv_bd (zs : Nat → Int) (k : Nat) (hk : k ≤ 10) (h : Good zs k) : 0 ≤ hv zs k ∧ hv zs k + 2 ^ (64 - 6 * k) ≤ 18446744073709551616 := by
  have b := rv_bd zs k hk h
  have p : (0 : Int) < 2 ^ (64 - 6 * k) := Int.pow_pos (by decide)
  have e : (2 : Int) ^ (6 * k) * 2 ^ (64 - 6 * k) = 18446744073709551616 := by
    rw [← Int.pow_add, show 6 * k + (64 - 6 * k) = 64 by omega]; decide
  unfold hv
  rw [if_neg (by omega)]
  refine ⟨Int.mul_nonneg b.1 (by omega), ?_⟩
  have := Int.mul_le_mul_of_nonneg_right b.2 (show (0 : Int) ≤ 2 ^ (64 - 6 * k) by omega)
  rw [e, Int.add_mul, Int.one_mul] at this
  exact this
theorem hv_step (zs : Nat → Int) (k : Nat) (hk : k < 10) : hv zs (k + 1) = hv zs k + zs k * 2 ^ (58 - 6 * k) := by
  unfold hv
  rw [if_neg (by omega), if_neg (by omega), show 64 - 6 * (k + 1) = 58 - 6 * k by omega, show 64 - 6 * k = 6 + (58 - 6 * k) by omega, Int.pow_add]
  simp only [rv]
  generalize (2 : Int) ^ (58 - 6 * k) = p
  rw [Int.add_mul, show ((2 : Int) ^ 6) = 64 from rfl, Int.mul_assoc]
theorem int_join (i : Nat) (a b : Int) (a0 : 0 ≤ a) (b0 : 0 ≤ b) (b1 : b < 2 ^ i) (ha : a.toNat % 2 ^ i = 0) (hs : a + b < 18446744073709551616) : bits .or .u64 a b = a + b := by
  have b2 : b.toNat < 2 ^ i := by
    have : (b.toNat : Int) < ((2 ^ i : Nat) : Int) := by rw [Int.toNat_of_nonneg b0]; simpa using b1
    omega
  rw [u64_or a b a0 (by omega) b0 (by omega), nat_join i _ _ ha b2]
  omega
theorem hv_mod (zs : Nat → Int) (k : Nat) (hk : k ≤ 10) (h : Good zs k) : (hv zs k).toNat % 2 ^ (64 - 6 * k) = 0 := by
  have b := rv_bd zs k hk h
  unfold hv
  rw [if_neg (by omega)]
  obtain ⟨r, hr⟩ := Int.eq_ofNat_of_zero_le b.1
  rw [hr]
  have e : ((r : Int) * 2 ^ (64 - 6 * k)).toNat = r * 2 ^ (64 - 6 * k) := by
    have : ((r : Int) * 2 ^ (64 - 6 * k)) = ((r * 2 ^ (64 - 6 * k) : Nat) : Int) := by simp
    rw [this]; rfl
  rw [e]
  exact Nat.mul_mod_left _ _
theorem or_dig (zs : Nat → Int) (k : Nat) (hk : k < 10) (h : Good zs k) (z0 : 0 ≤ zs k) (z1 : zs k ≤ 63) : bits .or .u64 (hv zs k) (IntKind.u64.wrap (zs k * 2 ^ (58 - 6 * k))) = hv zs (k + 1) := by
  have b := hv_bd zs k (by omega) h
  have p : (0 : Int) < 2 ^ (58 - 6 * k) := Int.pow_pos (by decide)
  have e : (2 : Int) ^ (64 - 6 * k) = 64 * 2 ^ (58 - 6 * k) := by rw [show 64 - 6 * k = 6 + (58 - 6 * k) by omega, Int.pow_add]; rfl
  have m0 : 0 ≤ zs k * 2 ^ (58 - 6 * k) := Int.mul_nonneg z0 (by omega)
  have m1 : zs k * 2 ^ (58 - 6 * k) ≤ 63 * 2 ^ (58 - 6 * k) := Int.mul_le_mul_of_nonneg_right z1 (by omega)
  have m2 : zs k * 2 ^ (58 - 6 * k) < 2 ^ (64 - 6 * k) := by rw [e]; omega
  have wr : IntKind.u64.wrap (zs k * 2 ^ (58 - 6 * k)) = zs k * 2 ^ (58 - 6 * k) := by rw [IntKind.wrap_u64]; omega
  rw [wr, int_join (64 - 6 * k) _ _ b.1 m0 m2 (hv_mod zs k (by omega) h) (by omega), hv_step zs k hk]
theorem or_last (zs : Nat → Int) (h : Good zs 10) (z0 : 0 ≤ zs 10) (z1 : zs 10 ≤ 15) : bits .or .u64 (hv zs 10) (zs 10) = hv zs 11 := by
  have b := hv_bd zs 10 (by omega) h
  rw [int_join 4 _ _ b.1 z0 (by omega) (hv_mod zs 10 (by omega) h) (by simp at b; omega)]
  unfold hv
  rw [if_neg (by omega), if_pos rfl, show (2 : Int) ^ (64 - 6 * 10) = 16 from rfl]
theorem dig_at (h : Int) (j : Nat) (hj : j < 10) (p : Int) (hp : p = 2 ^ (58 - 6 * j)) : dig h (j : Int) = h / p % 64 := by
  unfold dig
  rw [if_neg (by omega), if_neg (by omega), if_neg (by omega), show (58 - 6 * (j : Int)).toNat = 58 - 6 * j by omega, hp]
theorem dig_10 (h : Int) : dig h ((10 : Nat) : Int) = h % 16 := by
  unfold dig
  rw [if_neg (by omega), if_neg (by omega), if_pos (by omega)]
theorem rv_dig (h : Int) (h0 : 0 ≤ h) (h1 : h < 18446744073709551616) (k : Nat) (hk : k ≤ 10) : rv (fun j => dig h (j : Int)) k = h / 2 ^ (64 - 6 * k) := by
  induction k with
  | zero =>
    show 0 = h / 2 ^ 64
    rw [Int.ediv_eq_zero_of_lt h0 (by simpa using h1)]
  | succ k ih =>
    simp only [rv]
    rw [ih (by omega), dig_at h k (by omega) _ rfl, show 64 - 6 * (k + 1) = 58 - 6 * k by omega, show 64 - 6 * k = (58 - 6 * k) + 6 by omega, Int.pow_add, ← Int.ediv_ediv_of_nonneg (Int.pow_nonneg (by decide)), show ((2 : Int) ^ 6) = 64 from rfl]
    generalize h / 2 ^ (58 - 6 * k) = q
    omega
theorem hv_dig (h : Int) (h0 : 0 ≤ h) (h1 : h < 18446744073709551616) : hv (fun j => dig h (j : Int)) 11 = h := by
  have r := rv_dig h h0 h1 10 (by omega)
  have d := dig_10 h
  unfold hv
  rw [if_pos rfl, r, show (2 : Int) ^ (64 - 6 * 10) = 16 from rfl]
  show h / 16 * 16 + dig h ((10 : Nat) : Int) = h
  omega
theorem good_dig (h : Int) (h0 : 0 ≤ h) : Good (fun j => dig h (j : Int)) 11 := fun j hj => by
  have b := dig_bd h (j : Int) h0
  refine ⟨b.1, ?_⟩
  unfold topN
  split
  · rename_i e
    subst e
    show dig h ((10 : Nat) : Int) ≤ 15
    have := dig_10 h
    omega
  · exact b.2
end Go.Proofs.Ytmhflmjhphhppab
