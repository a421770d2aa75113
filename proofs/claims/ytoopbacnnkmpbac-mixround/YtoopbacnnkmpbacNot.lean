/- Plain numbers: the other bits of a number. -/
import Derived.Test.YtoopbacnnkmpbacNum4
import Derived.Laws.Bits64
namespace Go.Proofs.Ytoopbacnnkmpbac
def notN (v : Nat) : Nat := 18446744073709551616 - (v + 1)
theorem notN_lt {v : Nat} (h : v < 18446744073709551616) : notN v < 18446744073709551616 := by unfold notN; omega
theorem not_ones {v : Nat} (h : v < 18446744073709551616) : onesN v + onesN (notN v) = 64 := by
  unfold onesN
  have e : bitsum (notN v).testBit 64 = bitsum (fun i => !v.testBit i) 64 := bitsum_congr 64 fun i hi => by
    unfold notN
    rw [show (18446744073709551616 : Nat) = 2 ^ 64 from rfl, Nat.testBit_two_pow_sub_succ (by simpa using h)]
    simp [hi]
  rw [e]
  exact bitsum_not _ 64
theorem not_int {v : Nat} (h : v < 18446744073709551616) : bits .xor .u64 IntKind.u64.max (v : Int) = ((notN v : Nat) : Int) := by
  rw [show IntKind.u64.max = ((18446744073709551615 : Nat) : Int) from rfl, bits_xor_u64_nat _ _ (by decide) h]
  congr 1
  refine eq_of_bits (Nat.xor_lt_two_pow (n := 64) (by decide) h) (notN_lt h) fun i hi => ?_
  unfold notN
  rw [show (18446744073709551616 : Nat) = 2 ^ 64 from rfl, Nat.testBit_two_pow_sub_succ (by simpa using h), Nat.testBit_xor, show (18446744073709551615 : Nat) = 2 ^ 64 - 1 from rfl, Nat.testBit_two_pow_sub_one]
  simp [hi]
end Go.Proofs.Ytoopbacnnkmpbac
