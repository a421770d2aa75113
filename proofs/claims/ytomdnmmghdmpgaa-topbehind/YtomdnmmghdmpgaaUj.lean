/- bits.Len of small numbers. -/
import Derived.Test.YtomdnmmghdmpgaaUi
import Derived.Lib.Tables
namespace Go.Proofs.Ytomdnmmghdmpgaa
open Go.RowKit Go.Lib
set_option linter.unusedVariables false

theorem len8_small : ∀ x : Fin 256, x.val < 2 ^ (len8 (x.val : Int)).toNat ∧ (1 ≤ x.val → 2 ^ (len8 (x.val : Int)).toNat ≤ 2 * x.val) ∧ 0 ≤ len8 (x.val : Int) ∧ len8 (x.val : Int) ≤ 8 := by decide +kernel
theorem len8_is {x : Nat} (h : x < 256) : ∃ k : Nat, len8 (x : Int) = (k : Int) ∧ x < 2 ^ k ∧ (1 ≤ x → 2 ^ k ≤ 2 * x) ∧ k ≤ 8 := by
  obtain ⟨h1, h2, h3, h4⟩ := len8_small ⟨x, h⟩
  exact ⟨(len8 (x : Int)).toNat, by simp only at h3; omega, h1, h2, by simp only at h4; omega⟩
set_option maxRecDepth 100000 in
set_option maxHeartbeats 4000000 in
theorem len64_a {n : Nat} (hn : n < 256) (W : World) : Calls Try.prog 50 #[.int .u64 (n : Int)] W fun e W' => (∃ k : Nat, e = .returned (.int .i64 (k : Int)) ∧ n < 2 ^ k ∧ (1 ≤ n → 2 ^ k ≤ 2 * n) ∧ k ≤ 8) ∧ W' = W := by
  obtain ⟨k, hk, hp⟩ := len8_is hn
  have HP := keepH hp
  have t1 : ¬ (4294967296 : Int) ≤ (n : Int) := by omega
  have t2 : ¬ (65536 : Int) ≤ (n : Int) := by omega
  have t3 : ¬ (256 : Int) ≤ (n : Int) := by omega
  have z0 : (0 : Int) ≤ (n : Int) := by omega
  have z1 : (n : Int) ≤ 255 := by omega
  have w8 : IntKind.u8.wrap (n : Int) = (n : Int) := by unfold IntKind.wrap; simp [IntKind.bits, IntKind.signed]; omega
  have wk : IntKind.i64.wrap (k : Int) = (k : Int) := by rw [IntKind.wrap_i64]; have := hp.2.2; omega
  clear hp
  go_enter Try.func50, Try.ntmps50
  go_wp2_with fail
  exact bodyPost_ret (results_tmp rfl _ _ _) rfl ⟨⟨k, rfl, HP.out.1, HP.out.2.1, HP.out.2.2⟩, rfl⟩
theorem two_mul_pow {m n k : Nat} (hm : m = n / 256) (h1 : m < 2 ^ k) (h2 : 2 ^ k ≤ 2 * m) : n < 2 ^ (k + 8) ∧ 2 ^ (k + 8) ≤ 2 * n := by
  have e : 2 ^ (k + 8) = 2 ^ k * 256 := by rw [Nat.pow_add]
  rw [e]
  omega
set_option maxRecDepth 100000 in
set_option maxHeartbeats 4000000 in
theorem len64_b {n : Nat} (hn : n < 65536) (hn2 : 256 ≤ n) (W : World) : Calls Try.prog 50 #[.int .u64 (n : Int)] W fun e W' => (∃ k : Nat, e = .returned (.int .i64 (k : Int)) ∧ n < 2 ^ k ∧ (1 ≤ n → 2 ^ k ≤ 2 * n) ∧ k ≤ 16) ∧ W' = W := by
  obtain ⟨m, hm⟩ : ∃ m, m = n / 256 := ⟨_, rfl⟩
  obtain ⟨k, hk, hp⟩ := len8_is (x := m) (by omega)
  obtain ⟨k8, hk8⟩ : ∃ k8, k8 = k + 8 := ⟨_, rfl⟩
  have HP : Hid (n < 2 ^ k8 ∧ 2 ^ k8 ≤ 2 * n ∧ k8 ≤ 16) := by
    have := two_mul_pow hm hp.1 (hp.2.1 (by omega))
    rw [hk8]
    exact ⟨this.1, this.2, by omega⟩
  have t1 : ¬ (4294967296 : Int) ≤ (n : Int) := by omega
  have t2 : ¬ (65536 : Int) ≤ (n : Int) := by omega
  have t3 : (256 : Int) ≤ (n : Int) := by omega
  have z0 : (0 : Int) ≤ (m : Int) := by omega
  have z1 : (m : Int) ≤ 255 := by omega
  have d1 : (n : Int) / 256 = (m : Int) := by omega
  have w8 : IntKind.u8.wrap (m : Int) = (m : Int) := by unfold IntKind.wrap; simp [IntKind.bits, IntKind.signed]; omega
  have wk : IntKind.i64.wrap (k : Int) = (k : Int) := by rw [IntKind.wrap_i64]; have := hp.2.2; omega
  have wk8 : IntKind.i64.wrap (8 + (k : Int)) = (k8 : Int) := by rw [IntKind.wrap_i64]; have := hp.2.2; omega
  clear hp hm hk8
  go_enter Try.func50, Try.ntmps50
  go_wp2_with fail
  exact bodyPost_ret (results_tmp rfl _ _ _) rfl ⟨⟨k8, rfl, HP.out.1, fun _ => HP.out.2.1, HP.out.2.2⟩, rfl⟩
end Go.Proofs.Ytomdnmmghdmpgaa
