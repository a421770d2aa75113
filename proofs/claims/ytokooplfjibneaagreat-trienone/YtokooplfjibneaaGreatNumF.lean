/- Plain numbers: mixing a key and mixing it back, with no program in sight. -/
import Derived.Laws.BitsAllLaws
namespace Go.Proofs.YtokooplfjibneaaGreat

def two64 : Nat := 18446744073709551616
def mulN (y c : Nat) : Nat := y * c % 18446744073709551616
def foldN (x s : Nat) : Nat := x ^^^ x / 2 ^ s
def unfoldN (x s : Nat) : Nat := x ^^^ x / 2 ^ s ^^^ x / 2 ^ (2 * s)
def mixN (v : Nat) : Nat := foldN (mulN (foldN (mulN (foldN v 30) 13787848793156543929) 27) 10723151780598845931) 31
def backN (h : Nat) : Nat := unfoldN (mulN (unfoldN (mulN (unfoldN h 31) 3573116690164977347) 27) 10871156337175269513) 30

theorem mulN_lt (y c : Nat) : mulN y c < 18446744073709551616 := Nat.mod_lt _ (by decide)
theorem foldN_lt {x : Nat} (s : Nat) (h : x < 18446744073709551616) : foldN x s < 18446744073709551616 :=
  Nat.xor_lt_two_pow (n := 64) h (Nat.lt_of_le_of_lt (Nat.div_le_self _ _) h)
theorem unfoldN_lt {x : Nat} (s : Nat) (h : x < 18446744073709551616) : unfoldN x s < 18446744073709551616 :=
  Nat.xor_lt_two_pow (n := 64) (Nat.xor_lt_two_pow (n := 64) h (Nat.lt_of_le_of_lt (Nat.div_le_self _ _) h)) (Nat.lt_of_le_of_lt (Nat.div_le_self _ _) h)
theorem mixN_lt {v : Nat} : mixN v < 18446744073709551616 := foldN_lt _ (mulN_lt _ _)
theorem backN_lt {v : Nat} : backN v < 18446744073709551616 := unfoldN_lt _ (mulN_lt _ _)

theorem foldN_bit (x s i : Nat) : (foldN x s).testBit i = (x.testBit i ^^ x.testBit (i + s)) := by
  simp [foldN, Nat.testBit_xor, Nat.testBit_div_two_pow]
theorem unfoldN_bit (x s i : Nat) : (unfoldN x s).testBit i = ((x.testBit i ^^ x.testBit (i + s)) ^^ x.testBit (i + 2 * s)) := by
  simp [unfoldN, Nat.testBit_xor, Nat.testBit_div_two_pow]
theorem high_bit {x : Nat} (h : x < 18446744073709551616) (i : Nat) (hi : 64 ≤ i) : x.testBit i = false :=
  Nat.testBit_lt_two_pow (Nat.lt_of_lt_of_le h (by rw [show 18446744073709551616 = 2 ^ 64 from rfl]; exact Nat.pow_le_pow_right (by decide) hi))
theorem unfold_fold {x : Nat} (s : Nat) (hs : 64 ≤ 3 * s) (h : x < 18446744073709551616) : unfoldN (foldN x s) s = x := by
  apply Nat.eq_of_testBit_eq
  intro i
  rw [unfoldN_bit, foldN_bit, foldN_bit, foldN_bit, show i + s + s = i + 2 * s by omega, high_bit h (i + 2 * s + s) (by omega)]
  cases x.testBit i <;> cases x.testBit (i + s) <;> cases x.testBit (i + 2 * s) <;> rfl
theorem fold_unfold {x : Nat} (s : Nat) (hs : 64 ≤ 3 * s) (h : x < 18446744073709551616) : foldN (unfoldN x s) s = x := by
  apply Nat.eq_of_testBit_eq
  intro i
  rw [foldN_bit, unfoldN_bit, unfoldN_bit, show i + s + s = i + 2 * s by omega, high_bit h (i + s + 2 * s) (by omega)]
  cases x.testBit i <;> cases x.testBit (i + s) <;> cases x.testBit (i + 2 * s) <;> rfl
theorem mulN_mulN {y c d : Nat} (h : c * d % 18446744073709551616 = 1) (hy : y < 18446744073709551616) : mulN (mulN y c) d = y := by
  unfold mulN
  rw [Nat.mod_mul_mod, Nat.mul_assoc, Nat.mul_mod, h, Nat.mul_one, Nat.mod_mod, Nat.mod_eq_of_lt hy]
theorem back_mix {v : Nat} (h : v < 18446744073709551616) : backN (mixN v) = v := by
  unfold backN mixN
  rw [unfold_fold 31 (by decide) (mulN_lt _ _), mulN_mulN (by decide) (foldN_lt _ (mulN_lt _ _)), unfold_fold 27 (by decide) (mulN_lt _ _), mulN_mulN (by decide) (foldN_lt _ h), unfold_fold 30 (by decide) h]
theorem mix_back {v : Nat} (h : v < 18446744073709551616) : mixN (backN v) = v := by
  unfold backN mixN
  rw [fold_unfold 30 (by decide) (mulN_lt _ _), mulN_mulN (by decide) (unfoldN_lt _ (mulN_lt _ _)), fold_unfold 27 (by decide) (mulN_lt _ _), mulN_mulN (by decide) (unfoldN_lt _ h), fold_unfold 31 (by decide) h]
end Go.Proofs.YtokooplfjibneaaGreat
