/- Contracts of mixing and of mixing back: each function returns what its plain function says, and leaves the world as it was. -/
import Derived.Test.YtmhflmjhphhppabDigF
import Derived.Test.YtmhflmjhphhppabNumF
import Derived.Deep.QuietTactic
import Derived.BigQuiet
import Derived.WalkSmall
namespace Go.Proofs.Ytmhflmjhphhppab
open Go.RowKit

theorem xor_nat (a b : Int) (c : Nat) (h0 : 0 ≤ a) (h1 : a < 18446744073709551616) (g0 : 0 ≤ b) (g1 : b < 18446744073709551616) (h : a.toNat ^^^ b.toNat = c) : bits .xor .u64 a b = (c : Int) := by
  rw [u64_xor a b h0 h1 g0 g1, h]
theorem divs (x : Int) (s : Nat) (h0 : 0 ≤ x) : (x / 2 ^ s).toNat = x.toNat / 2 ^ s := by
  obtain ⟨n, rfl⟩ := Int.eq_ofNat_of_zero_le h0
  have : ((n : Int) / 2 ^ s) = ((n / 2 ^ s : Nat) : Int) := by simp
  rw [this]
  rfl
theorem fold_int (x s : Int) (h0 : 0 ≤ x) (h1 : x < 18446744073709551616) : bits .xor .u64 x (x / 2 ^ s.toNat) = ((foldN x.toNat s.toNat : Nat) : Int) := by
  have q := div_pow_le x s.toNat h0
  exact xor_nat _ _ _ h0 h1 q.1 (by omega) (by rw [divs x _ h0]; rfl)

set_option maxHeartbeats 400000 in
theorem fold_any (x s : Int) (w : World) (h0 : 0 ≤ x) (h1 : x < 18446744073709551616) (s0 : 0 ≤ s) (s1 : s < 64) :
    Calls Try.prog 80 #[.int .u64 x, .int .i64 s] w fun e w' => e = .returned (.int .u64 ((foldN x.toNat s.toNat : Nat) : Int)) ∧ w' = w := by
  have r := fold_int x s h0 h1
  go_enter Try.func80, Try.ntmps80
  go_wp2
  go_ret
  exact ⟨rfl, rfl⟩
theorem fold_nat (x : Nat) (k : Nat) (s : Int) (w : World) (h1 : x < 18446744073709551616) (hs : s = (k : Int)) (hk : k < 64) :
    Calls Try.prog 80 #[.int .u64 (x : Int), .int .i64 s] w fun e w' => e = .returned (.int .u64 ((foldN x k : Nat) : Int)) ∧ w' = w := by
  subst hs
  have c := fold_any (x : Int) (k : Int) w (by omega) (by omega) (by omega) (by omega)
  rw [Int.toNat_natCast, Int.toNat_natCast] at c
  exact c
theorem mul_1 (y : Nat) : IntKind.u64.wrap ((y : Int) * 13787848793156543929) = ((mulN y 13787848793156543929 : Nat) : Int) := by
  rw [IntKind.wrap_u64]
  unfold mulN
  omega
theorem mul_2 (y : Nat) : IntKind.u64.wrap ((y : Int) * 10723151780598845931) = ((mulN y 10723151780598845931 : Nat) : Int) := by
  rw [IntKind.wrap_u64]
  unfold mulN
  omega
theorem mul_3 (y : Nat) : IntKind.u64.wrap ((y : Int) * 3573116690164977347) = ((mulN y 3573116690164977347 : Nat) : Int) := by
  rw [IntKind.wrap_u64]
  unfold mulN
  omega
theorem mul_4 (y : Nat) : IntKind.u64.wrap ((y : Int) * 10871156337175269513) = ((mulN y 10871156337175269513 : Nat) : Int) := by
  rw [IntKind.wrap_u64]
  unfold mulN
  omega

set_option maxHeartbeats 400000 in
theorem mix_nat (v : Nat) (w : World) (h1 : v < 18446744073709551616) :
    Calls Try.prog 50 #[.int .u64 (v : Int)] w fun e w' => e = .returned (.int .u64 ((mixN v : Nat) : Int)) ∧ w' = w := by
  have m1 := mul_1
  have m2 := mul_2
  go_enter Try.func50, Try.ntmps50
  go_wp2_with fail
  refine (fold_nat v 30 30 _ h1 rfl (by decide)).mono ?_
  rintro e w' ⟨rfl, rfl⟩
  go_wp2_with fail
  refine (fold_nat _ 27 27 _ (mulN_lt _ _) rfl (by decide)).mono ?_
  rintro e w' ⟨rfl, rfl⟩
  go_wp2_with fail
  refine (fold_nat _ 31 31 _ (mulN_lt _ _) rfl (by decide)).mono ?_
  rintro e w' ⟨rfl, rfl⟩
  go_wp2
  go_ret
  exact ⟨oneI (by unfold mixN; rfl), rfl⟩
theorem mix_any (v : Int) (w : World) (h0 : 0 ≤ v) (h1 : v < 18446744073709551616) :
    Calls Try.prog 50 #[.int .u64 v] w fun e w' => e = .returned (.int .u64 ((mixN v.toNat : Nat) : Int)) ∧ w' = w := by
  obtain ⟨n, rfl⟩ := Int.eq_ofNat_of_zero_le h0
  exact mix_nat n w (by omega)
end Go.Proofs.Ytmhflmjhphhppab
