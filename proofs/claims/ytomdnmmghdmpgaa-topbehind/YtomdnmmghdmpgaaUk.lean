/- bits.Len, the next power of two, xorshift. -/
import Derived.Test.YtomdnmmghdmpgaaUj
namespace Go.Proofs.Ytomdnmmghdmpgaa
open Go.RowKit Go.Lib
set_option linter.unusedVariables false

theorem len64_s {n : Nat} (hn : n < 65536) (W : World) : Calls Try.prog 50 #[.int .u64 (n : Int)] W fun e W' => (∃ k : Nat, e = .returned (.int .i64 (k : Int)) ∧ n < 2 ^ k ∧ (1 ≤ n → 2 ^ k ≤ 2 * n) ∧ k ≤ 16) ∧ W' = W := by
  by_cases h : n < 256
  · refine (len64_a h W).mono ?_
    rintro e w ⟨⟨k, rfl, h1, h2, h3⟩, rfl⟩
    exact ⟨⟨k, rfl, h1, h2, by omega⟩, rfl⟩
  · exact len64_b hn (by omega) W
theorem wu64 (n : Nat) (hn : n < 18446744073709551616) : IntKind.u64.wrap (n : Int) = (n : Int) := by unfold IntKind.wrap; simp [IntKind.bits, IntKind.signed]; omega
set_option maxRecDepth 100000 in
theorem len_s {n : Nat} (hn : n < 65536) (W : World) : Calls Try.prog 37 #[.int .u64 (n : Int)] W fun e W' => (∃ k : Nat, e = .returned (.int .i64 (k : Int)) ∧ n < 2 ^ k ∧ (1 ≤ n → 2 ^ k ≤ 2 * n) ∧ k ≤ 16) ∧ W' = W := by
  have w1 := wu64 n (by omega)
  go_enter Try.func37, Try.ntmps37
  go_wp2_with fail
  refine (len64_s hn _).mono ?_
  rintro e W' ⟨⟨k, rfl, hk⟩, rfl⟩
  have HK := keepH hk
  clear hk
  go_wp2_with fail
  exact bodyPost_ret (results_tmp rfl _ _ _) rfl ⟨⟨k, rfl, HK.out.1, HK.out.2.1, HK.out.2.2⟩, rfl⟩
set_option maxRecDepth 100000 in
theorem npot_s {n : Nat} (hn : n < 65536) (h1 : 1 ≤ n) (W : World) : Calls Try.prog 61 #[.int .i64 (n : Int)] W fun e W' => (∃ p : Nat, e = .returned (.int .u64 (p : Int)) ∧ n < p ∧ p ≤ 2 * n) ∧ W' = W := by
  have w1 := wu64 n (by omega)
  go_enter Try.func61, Try.ntmps61
  go_wp2_with fail
  refine (len_s hn _).mono ?_
  rintro e W' ⟨⟨k, rfl, hk⟩, rfl⟩
  obtain ⟨p, hp⟩ : ∃ p, p = 2 ^ k := ⟨_, rfl⟩
  have HP : Hid (n < p ∧ p ≤ 2 * n) := by rw [hp]; exact ⟨hk.1, hk.2.1 h1⟩
  have k1 : (k : Int) < 64 := by omega
  have k0 : (0 : Int) ≤ (k : Int) := by omega
  have e1 : ((2 : Int) ^ k) = (p : Int) := by rw [hp]; simp
  have w2 := wu64 p (by have := HP.out; omega)
  clear hk hp
  go_wp2_with fail
  exact bodyPost_ret (results_tmp rfl _ _ _) rfl ⟨⟨p, rfl, HP.out.1, HP.out.2⟩, rfl⟩
end Go.Proofs.Ytomdnmmghdmpgaa
