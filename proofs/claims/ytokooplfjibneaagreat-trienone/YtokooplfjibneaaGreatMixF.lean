/- Contracts of mixing and of mixing back: each function returns what its plain function says, and leaves the world as it was. -/
import Derived.Test.YtokooplfjibneaaGreatDigF
import Derived.Test.YtokooplfjibneaaGreatNumF
import Derived.Deep.QuietTactic
import Derived.BigQuiet
import Derived.WalkSmall
namespace Go.Proofs.YtokooplfjibneaaGreat
open Go.RowKit

theorem xor_nat (a b : Int) (c : Nat) (h0 : 0 ≤ a) (h1 : a < 18446744073709551616) (g0 : 0 ≤ b) (g1 : b < 18446744073709551616) (h : a.toNat ^^^ b.toNat = c) : bits .xor .u64 a b = (c : Int) := by
  rw [u64_xor a b h0 h1 g0 g1, h]
theorem divs (x : Int) (s : Nat) (h0 : 0 ≤ x) : (x / 2 ^ s).toNat = x.toNat / 2 ^ s := by
  obtain ⟨n, rfl⟩ := Int.eq_ofNat_of_zero_le h0
  have : ((n : Int) / 2 ^ s) = ((n / 2 ^ s : Nat) : Int) := by simp
  rw [this]
  rfl
theorem fold_int (x s : Int) (h0 : 0 ≤ x) (h1 : x < 18446744073709551616) : bits .xor .u64 x (x / 2 ^ s.toNat) = ((foldN x.toNat s.toNat : Nat) : Int) := by
  have q := div_pow_le x s.toNat h0
  exact xor_nat _ _ _ h0 h1 q.1 (by omega) (by rw [divs x _ h0]; rfl)

set_option maxHeartbeats 400000 in
theorem fold_any (x s : Int) (w : World) (h0 : 0 ≤ x) (h1 : x < 18446744073709551616) (s0 : 0 ≤ s) (s1 : s < 64) :
    Calls Tryz.prog 32 #[.int .u64 x, .int .i64 s] w fun e w' => e = .returned (.int .u64 ((foldN x.toNat s.toNat : Nat) : Int)) ∧ w' = w := by
  have r := fold_int x s h0 h1
  go_enter Tryz.func32, Tryz.ntmps32
  go_wp2
  go_ret
  exact ⟨rfl, rfl⟩
set_option maxHeartbeats 400000 in
theorem unfold_any (x s : Int) (w : World) (h0 : 0 ≤ x) (h1 : x < 18446744073709551616) (s0 : 0 ≤ s) (s1 : s < 32) :
    Calls Tryz.prog 31 #[.int .u64 x, .int .i64 s] w fun e w' => e = .returned (.int .u64 ((unfoldN x.toNat s.toNat : Nat) : Int)) ∧ Below w.heap.size w w' := by
  have r := fold_int x s h0 h1
  have q := div_pow_le x (2 * s).toNat h0
  have f := foldN_lt s.toNat (show x.toNat < 18446744073709551616 by omega)
  have r2 : bits .xor .u64 ((foldN x.toNat s.toNat : Nat) : Int) (x / 2 ^ (2 * s).toNat) = ((unfoldN x.toNat s.toNat : Nat) : Int) :=
    xor_nat _ _ _ (by omega) (by omega) q.1 (by omega) (by rw [divs x _ h0, show (2 * s).toNat = 2 * s.toNat by omega]; rfl)
  clear f
  have t2 : 2 * s < 64 := by omega
  go_enter Tryz.func31, Tryz.ntmps31
  go_wp2
  go_quiet (fail)
  go_wp2
  go_ret
  exact ⟨rfl, below_drewN (Below.refl _ _) _⟩

theorem fold_nat (x : Nat) (k : Nat) (s : Int) (w : World) (h1 : x < 18446744073709551616) (hs : s = (k : Int)) (hk : k < 64) :
    Calls Tryz.prog 32 #[.int .u64 (x : Int), .int .i64 s] w fun e w' => e = .returned (.int .u64 ((foldN x k : Nat) : Int)) ∧ w' = w := by
  subst hs
  have c := fold_any (x : Int) (k : Int) w (by omega) (by omega) (by omega) (by omega)
  rw [Int.toNat_natCast, Int.toNat_natCast] at c
  exact c
theorem unfold_nat (x : Nat) (k : Nat) (s : Int) (w : World) (h1 : x < 18446744073709551616) (hs : s = (k : Int)) (hk : k < 32) :
    Calls Tryz.prog 31 #[.int .u64 (x : Int), .int .i64 s] w fun e w' => e = .returned (.int .u64 ((unfoldN x k : Nat) : Int)) ∧ Below w.heap.size w w' := by
  subst hs
  have c := unfold_any (x : Int) (k : Int) w (by omega) (by omega) (by omega) (by omega)
  rw [Int.toNat_natCast, Int.toNat_natCast] at c
  exact c

theorem mul_1 (y : Nat) : IntKind.u64.wrap ((y : Int) * 13787848793156543929) = ((mulN y 13787848793156543929 : Nat) : Int) := by
  rw [IntKind.wrap_u64]
  unfold mulN
  omega
theorem mul_2 (y : Nat) : IntKind.u64.wrap ((y : Int) * 10723151780598845931) = ((mulN y 10723151780598845931 : Nat) : Int) := by
  rw [IntKind.wrap_u64]
  unfold mulN
  omega
theorem mul_3 (y : Nat) : IntKind.u64.wrap ((y : Int) * 3573116690164977347) = ((mulN y 3573116690164977347 : Nat) : Int) := by
  rw [IntKind.wrap_u64]
  unfold mulN
  omega
theorem mul_4 (y : Nat) : IntKind.u64.wrap ((y : Int) * 10871156337175269513) = ((mulN y 10871156337175269513 : Nat) : Int) := by
  rw [IntKind.wrap_u64]
  unfold mulN
  omega

set_option maxHeartbeats 400000 in
theorem mix_nat (v : Nat) (w : World) (h1 : v < 18446744073709551616) :
    Calls Tryz.prog 18 #[.int .u64 (v : Int)] w fun e w' => e = .returned (.int .u64 ((mixN v : Nat) : Int)) ∧ w' = w := by
  have m1 := mul_1
  have m2 := mul_2
  go_enter Tryz.func18, Tryz.ntmps18
  go_wp2_with fail
  refine (fold_nat v 30 30 _ h1 rfl (by decide)).mono ?_
  rintro e w' ⟨rfl, rfl⟩
  go_wp2_with fail
  refine (fold_nat _ 27 27 _ (mulN_lt _ _) rfl (by decide)).mono ?_
  rintro e w' ⟨rfl, rfl⟩
  go_wp2_with fail
  refine (fold_nat _ 31 31 _ (mulN_lt _ _) rfl (by decide)).mono ?_
  rintro e w' ⟨rfl, rfl⟩
  go_wp2
  go_ret
  exact ⟨oneI (by unfold mixN; rfl), rfl⟩
set_option maxHeartbeats 400000 in
theorem back_nat (v : Nat) (w : World) (h1 : v < 18446744073709551616) :
    Calls Tryz.prog 17 #[.int .u64 (v : Int)] w fun e w' => e = .returned (.int .u64 ((backN v : Nat) : Int)) ∧ Below w.heap.size w w' := by
  have m1 := mul_3
  have m2 := mul_4
  go_enter Tryz.func17, Tryz.ntmps17
  go_wp2_with fail
  refine (unfold_nat v 31 31 _ h1 rfl (by decide)).mono ?_
  rintro e w1 ⟨rfl, b1⟩
  go_wp2_with fail
  refine (unfold_nat _ 27 27 _ (mulN_lt _ _) rfl (by decide)).mono ?_
  rintro e w2 ⟨rfl, b2⟩
  go_wp2_with fail
  refine (unfold_nat _ 30 30 _ (mulN_lt _ _) rfl (by decide)).mono ?_
  rintro e w3 ⟨rfl, b3⟩
  go_wp2
  go_ret
  exact ⟨oneI (by unfold backN; rfl), (b1.trans (b2.mono b1.size)).trans (b3.mono (Nat.le_trans b1.size b2.size))⟩
theorem mix_any (v : Int) (w : World) (h0 : 0 ≤ v) (h1 : v < 18446744073709551616) :
    Calls Tryz.prog 18 #[.int .u64 v] w fun e w' => e = .returned (.int .u64 ((mixN v.toNat : Nat) : Int)) ∧ w' = w := by
  obtain ⟨n, rfl⟩ := Int.eq_ofNat_of_zero_le h0
  exact mix_nat n w (by omega)
theorem back_any (v : Int) (w : World) (h0 : 0 ≤ v) (h1 : v < 18446744073709551616) :
    Calls Tryz.prog 17 #[.int .u64 v] w fun e w' => e = .returned (.int .u64 ((backN v.toNat : Nat) : Int)) ∧ Below w.heap.size w w' := by
  obtain ⟨n, rfl⟩ := Int.eq_ofNat_of_zero_le h0
  exact back_nat n w (by omega)
end Go.Proofs.YtokooplfjibneaaGreat
