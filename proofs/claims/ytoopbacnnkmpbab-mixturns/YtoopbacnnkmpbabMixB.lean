/- Contracts of the bit by bit way back. -/
import Derived.Test.YtoopbacnnkmpbabMixA
import Derived.Test.YtoopbacnnkmpbabNum2
namespace Go.Proofs.Ytoopbacnnkmpbab
open Go.RowKit
theorem and1 (x k : Nat) (h : x < 18446744073709551616) : bits .and .u64 ((x : Int) / 2 ^ k) 1 = ((bitN x k : Nat) : Int) := by
  have e : ((x : Int) / 2 ^ k) = ((x / 2 ^ k : Nat) : Int) := by simp
  have l : x / 2 ^ k < 18446744073709551616 := Nat.lt_of_le_of_lt (Nat.div_le_self _ _) h
  rw [e, show (1 : Int) = ((1 : Nat) : Int) from rfl, u64_and_nat _ _ l (by decide), nat_mask1]
  rfl
theorem shl_bit (b k : Nat) (hb : b < 2) (hk : k < 64) : IntKind.u64.wrap ((b : Int) * 2 ^ k) = ((b * 2 ^ k : Nat) : Int) := by
  have e : ((b : Int) * 2 ^ k) = ((b * 2 ^ k : Nat) : Int) := by simp
  have p : 2 ^ k ≤ 2 ^ 63 := Nat.pow_le_pow_right (by decide) (by omega)
  have q : b * 2 ^ k ≤ 1 * 2 ^ k := Nat.mul_le_mul_right _ (by omega)
  rw [e, IntKind.wrap_u64]
  omega
theorem up_or (y k : Nat) (hy : y < 18446744073709551616) (hk : k < 64) : bits .or .u64 ((hiN y (k + 1) : Nat) : Int) (IntKind.u64.wrap (((bitN y k : Nat) : Int) * 2 ^ k)) = ((hiN y k : Nat) : Int) := by
  have b := bitN_lt y k
  have p : 2 ^ k ≤ 2 ^ 63 := Nat.pow_le_pow_right (by decide) (by omega)
  have q : bitN y k * 2 ^ k ≤ 1 * 2 ^ k := Nat.mul_le_mul_right _ (by omega)
  rw [shl_bit _ k b hk, u64_or_nat _ _ (hiN_lt _ hy) (by omega), hiN_or]
theorem up_1 (x s k : Nat) (h1 : x < 18446744073709551616) (s0 : 64 ≤ 3 * s) (hk : k < 64) :
    bits .or .u64 ((hiN (unfoldN x s) (k + 1) : Nat) : Int) (IntKind.u64.wrap (bits .xor .u64 (bits .and .u64 ((x : Int) / 2 ^ k) 1) (bits .and .u64 (((hiN (unfoldN x s) (k + 1) : Nat) : Int) / 2 ^ (k + s)) 1) * 2 ^ k)) = ((hiN (unfoldN x s) k : Nat) : Int) := by
  have b1 := bitN_lt x k
  have b2 := bitN_lt (unfoldN x s) (k + s)
  have l := unfoldN_lt s h1
  rw [and1 x k h1, and1 _ (k + s) (hiN_lt _ l), hiN_bit _ _ _ (by omega), bits_xor_u64_nat _ _ (by omega) (by omega), bit_back s k s0 h1, up_or _ _ l hk]
theorem up_2 (x s k : Nat) (h1 : x < 18446744073709551616) (s0 : 64 ≤ 3 * s) (hk : k < 64) (hs : 64 ≤ k + s) :
    bits .or .u64 ((hiN (unfoldN x s) (k + 1) : Nat) : Int) (IntKind.u64.wrap (bits .and .u64 ((x : Int) / 2 ^ k) 1 * 2 ^ k)) = ((hiN (unfoldN x s) k : Nat) : Int) := by
  rw [and1 x k h1, bit_last s k s0 h1 hs, up_or _ _ (unfoldN_lt s h1) hk]

set_option maxHeartbeats 1000000 in
theorem unshift_nat (x s : Nat) (w : World) (h1 : x < 18446744073709551616) (s0 : 64 ≤ 3 * s) (s1 : s < 64) :
    Calls Try.prog 35 #[.int .u64 (x : Int), .int .i64 (s : Int)] w fun e w' => e = .returned (.int .u64 ((unfoldN x s : Nat) : Int)) ∧ w' = w := by
  go_enter Try.func35, Try.ntmps35
  go_wp2
  go_loop [5, 6] (fun o i => ∃ m : Nat, m ≤ 64 ∧ i = .int .i64 ((m : Int) - 1) ∧ o = .int .u64 ((hiN (unfoldN x s) m : Nat) : Int)) (fun _ i => (intOf i + 1).toNat)
  case atStart => exact ⟨64, by omega, rfl, by rw [hiN_64 (unfoldN_lt s h1)]; rfl⟩
  case round =>
    obtain ⟨m, hm, rfl, rfl⟩ := hrel
    by_cases hz : m = 0
    · subst hz
      go_wp2
      go_ret
      exact ⟨oneI (by rw [hiN_0]), rfl⟩
    · obtain ⟨k, rfl⟩ : ∃ k, m = k + 1 := ⟨m - 1, by omega⟩
      have ek : ((k + 1 : Nat) : Int) - 1 = (k : Int) := by omega
      rw [ek]
      clear ek
      by_cases hc : k + s < 64
      · go_wp2
        go_round
        case rel => exact ⟨k, by omega, rfl, congrArg (Value.int .u64) (up_1 x s k h1 s0 (by omega))⟩
        case measure => simp [intOf]
      · go_wp2
        go_round
        case rel => exact ⟨k, by omega, rfl, congrArg (Value.int .u64) (up_2 x s k h1 s0 (by omega) (by omega))⟩
        case measure => simp [intOf]

def addP (x k : Nat) : Nat := x + 2 ^ k
theorem or_bit (x k : Nat) (h : x < 2 ^ k) (hk : k < 64) : bits .or .u64 (x : Int) (IntKind.u64.wrap (2 ^ k)) = ((addP x k : Nat) : Int) := by
  have p : 2 ^ k ≤ 2 ^ 63 := Nat.pow_le_pow_right (by decide) (by omega)
  have e := shl_bit 1 k (by decide) hk
  rw [show (((1 : Nat) : Int) * 2 ^ k) = 2 ^ k by simp, Nat.one_mul] at e
  rw [e, u64_or_nat _ _ (by omega) (by omega), other_or h]
  rfl
theorem odd_bit (c x k : Nat) (hk : k < 64) : bits .and .u64 (IntKind.u64.wrap ((c : Int) * (x : Int)) / 2 ^ k) 1 = ((bitN (c * x) k : Nat) : Int) := by
  have e : IntKind.u64.wrap ((c : Int) * (x : Int)) = ((c * x % 18446744073709551616 : Nat) : Int) := by
    rw [IntKind.wrap_u64]; simp
  rw [e, and1 _ k (Nat.mod_lt _ (by decide))]
  unfold bitN
  rw [low_bit (c * x) k hk]
set_option maxHeartbeats 1000000 in
theorem other_nat (c i : Nat) (w : World) (hc : c % 2 = 1) (hi : c * i % 18446744073709551616 = 1) (li : i < 18446744073709551616) :
    Calls Try.prog 36 #[.int .u64 (c : Int)] w fun e w' => e = .returned (.int .u64 (i : Int)) ∧ w' = w := by
  have HI : Hid (c * i % 18446744073709551616 = 1) := hi
  have HC : Hid (c % 2 = 1) := hc
  clear hi hc
  go_enter Try.func36, Try.ntmps36
  go_wp2
  go_loop [3, 4] (fun o j => ∃ k x : Nat, 1 ≤ k ∧ k ≤ 64 ∧ j = .int .i64 (k : Int) ∧ o = .int .u64 (x : Int) ∧ x < 2 ^ k ∧ c * x % 2 ^ k = 1) (fun _ j => 64 - (intOf j).toNat)
  case atStart => exact ⟨1, 1, by omega, by omega, rfl, rfl, by decide, by rw [Nat.mul_one]; exact HC.out⟩
  case round =>
    obtain ⟨k, x, hk1, hk2, rfl, rfl, hx, hm⟩ := hrel
    have HM : Hid (c * x % 2 ^ k = 1) := hm
    clear hm
    by_cases hlt : k < 64
    · have o1 := odd_bit c x k hlt
      have o2 := or_bit x k hx hlt
      by_cases hb : bitN (c * x) k = 1
      · have g : (((bitN (c * x) k : Nat) : Int) == 1) = true := by rw [hb]; rfl
        have HB : Hid (bitN (c * x) k = 1) := hb
        clear hb
        go_wp2
        go_round
        case rel => exact ⟨k + 1, addP x k, by omega, by omega, by go_num, rfl, other_lt hx, other_1 HC.out HM.out HB.out⟩
        case measure => simp [intOf]; omega
      · have g : (((bitN (c * x) k : Nat) : Int) == 1) = false := beq_eq_false_iff_ne.2 (by omega)
        have HB : Hid (bitN (c * x) k = 0) := by show _ = _; have := bitN_lt (c * x) k; omega
        clear hb
        go_wp2
        go_round
        case rel => exact ⟨k + 1, x, by omega, by omega, by go_num, rfl, Nat.lt_of_lt_of_le hx (Nat.pow_le_pow_right (by decide) (by omega)), other_0 HM.out HB.out⟩
        case measure => simp [intOf]; omega
    · obtain rfl : k = 64 := by omega
      go_wp2
      go_ret
      exact ⟨oneI (by rw [other_one HM.out HI.out hx li]), rfl⟩

theorem other_a (w : World) : Calls Try.prog 36 #[.int .u64 10723151780598845931] w fun e w' => e = .returned (.int .u64 3573116690164977347) ∧ w' = w :=
  other_nat 10723151780598845931 3573116690164977347 w (by decide) (by decide) (by decide)
theorem other_b (w : World) : Calls Try.prog 36 #[.int .u64 13787848793156543929] w fun e w' => e = .returned (.int .u64 10871156337175269513) ∧ w' = w :=
  other_nat 13787848793156543929 10871156337175269513 w (by decide) (by decide) (by decide)
theorem unshift_c (x k : Nat) (s : Int) (w : World) (hs : s = (k : Int)) (h1 : x < 18446744073709551616) (s0 : 64 ≤ 3 * k) (s1 : k < 64) :
    Calls Try.prog 35 #[.int .u64 (x : Int), .int .i64 s] w fun e w' => e = .returned (.int .u64 ((unfoldN x k : Nat) : Int)) ∧ w' = w := by
  subst hs
  exact unshift_nat x k w h1 s0 s1

set_option maxHeartbeats 400000 in
theorem refBack_nat (v : Nat) (w : World) (h1 : v < 18446744073709551616) :
    Calls Try.prog 16 #[.int .u64 (v : Int)] w fun e w' => e = .returned (.int .u64 ((backN v : Nat) : Int)) ∧ w' = w := by
  have m1 := mul_3
  have m2 := mul_4
  go_enter Try.func16, Try.ntmps16
  go_wp2_with fail
  refine (unshift_c v 31 31 _ rfl h1 (by decide) (by decide)).mono ?_
  rintro e w' ⟨rfl, rfl⟩
  go_wp2_with fail
  refine (other_a _).mono ?_
  rintro e w' ⟨rfl, rfl⟩
  go_wp2_with fail
  refine (unshift_c _ 27 27 _ rfl (mulN_lt _ _) (by decide) (by decide)).mono ?_
  rintro e w' ⟨rfl, rfl⟩
  go_wp2_with fail
  refine (other_b _).mono ?_
  rintro e w' ⟨rfl, rfl⟩
  go_wp2_with fail
  refine (unshift_c _ 30 30 _ rfl (mulN_lt _ _) (by decide) (by decide)).mono ?_
  rintro e w' ⟨rfl, rfl⟩
  go_wp2
  go_ret
  exact ⟨oneI (by unfold backN; rfl), rfl⟩

theorem xs (x s : Nat) (p : Int) (h : x < 18446744073709551616) (hp : p = 2 ^ s) : bits .xor .u64 (x : Int) ((x : Int) / p) = ((foldN x s : Nat) : Int) := by
  subst hp
  have e := fold_int (x : Int) (s : Int) (by omega) (by omega)
  rwa [Int.toNat_natCast, Int.toNat_natCast] at e
set_option maxHeartbeats 400000 in
theorem refMix_nat (v : Nat) (w : World) (h1 : v < 18446744073709551616) :
    Calls Try.prog 14 #[.int .u64 (v : Int)] w fun e w' => e = .returned (.int .u64 ((mixN v : Nat) : Int)) ∧ w' = w := by
  go_enter Try.func14, Try.ntmps14
  go_wp2
  go_ret
  exact ⟨oneI (by rw [xs v 30 1073741824 h1 (by decide), mul_1, xs _ 27 134217728 (mulN_lt _ _) (by decide), mul_2, xs _ 31 2147483648 (mulN_lt _ _) (by decide)]; unfold mixN; rfl), rfl⟩
end Go.Proofs.Ytoopbacnnkmpbab
