/- Contracts of turning and of counting ones: each function returns what its plain function says, and leaves the world as it was. -/
import Derived.Test.YtoopbacnnkmpbabMixA
import Derived.Test.YtoopbacnnkmpbabNum5
namespace Go.Proofs.Ytoopbacnnkmpbab
open Go.RowKit

theorem and_63w (l : Int) : bits .and .u64 (IntKind.u64.wrap l) 63 = l % 64 := by
  rw [IntKind.wrap_u64, and_63 _ (by omega) (by omega)]
  omega
theorem rot_int (v : Nat) (s : Nat) (h : v < 18446744073709551616) : bits .or .u64 (IntKind.u64.wrap ((v : Int) * 2 ^ s)) ((v : Int) / 2 ^ (64 - s)) = ((rotN v s : Nat) : Int) := by
  have e1 : IntKind.u64.wrap ((v : Int) * 2 ^ s) = ((v * 2 ^ s % 18446744073709551616 : Nat) : Int) := by
    rw [IntKind.wrap_u64]; simp
  have e2 : ((v : Int) / 2 ^ (64 - s)) = ((v / 2 ^ (64 - s) : Nat) : Int) := by simp
  rw [e1, e2, u64_or_nat _ _ (Nat.mod_lt _ (by decide)) (Nat.lt_of_le_of_lt (Nat.div_le_self _ _) h)]
  rfl
set_option maxHeartbeats 400000 in
theorem rot_nat (v : Nat) (l : Int) (w : World) (h1 : v < 18446744073709551616) :
    Calls Try.prog 39 #[.int .u64 (v : Int), .int .i64 l] w fun e w' => e = .returned (.int .u64 ((rotN v (l % 64).toNat : Nat) : Int)) ∧ w' = w := by
  have r := and_63w l
  have p0 : 0 ≤ l % 64 := by omega
  have p1 : l % 64 < 64 := by omega
  go_enter Try.func39, Try.ntmps39
  go_wp2
  go_ret
  exact ⟨oneI (by rw [show (64 - l % 64).toNat = 64 - (l % 64).toNat by omega]; exact rot_int v _ h1), rfl⟩
set_option maxHeartbeats 400000 in
theorem turn_nat (v : Nat) (l : Int) (w : World) (h1 : v < 18446744073709551616) :
    Calls Try.prog 28 #[.int .u64 (v : Int), .int .i64 l] w fun e w' => e = .returned (.int .u64 ((rotN v (l % 64).toNat : Nat) : Int)) ∧ w' = w := by
  go_enter Try.func28, Try.ntmps28
  go_wp2_with fail
  refine (rot_nat v l _ h1).mono ?_
  rintro e w' ⟨rfl, rfl⟩
  go_wp2
  go_ret
  exact ⟨rfl, rfl⟩

theorem c_p1 (v : Nat) (h : v < 18446744073709551616) : IntKind.u64.wrap (bits .and .u64 ((v : Int) / 2) 6148914691236517205 + bits .and .u64 (v : Int) 6148914691236517205) = ((p1 8 v : Nat) : Int) := by
  have e : ((v : Int) / 2) = ((v / 2 : Nat) : Int) := by simp
  rw [e, show (6148914691236517205 : Int) = ((6148914691236517205 : Nat) : Int) from rfl, u64_and_nat _ _ (by omega) (by decide), u64_and_nat _ _ h (by decide), IntKind.wrap_u64]
  have a1 := Nat.and_le_right (n := v / 2) (m := 6148914691236517205)
  have a2 := Nat.and_le_right (n := v) (m := 6148914691236517205)
  unfold p1
  rw [mask55]
  omega
theorem c_p2 (v : Nat) (h : v < 18446744073709551616) : IntKind.u64.wrap (bits .and .u64 ((v : Int) / 4) 3689348814741910323 + bits .and .u64 (v : Int) 3689348814741910323) = ((p2 8 v : Nat) : Int) := by
  have e : ((v : Int) / 4) = ((v / 4 : Nat) : Int) := by simp
  rw [e, show (3689348814741910323 : Int) = ((3689348814741910323 : Nat) : Int) from rfl, u64_and_nat _ _ (by omega) (by decide), u64_and_nat _ _ h (by decide), IntKind.wrap_u64]
  have a1 := Nat.and_le_right (n := v / 4) (m := 3689348814741910323)
  have a2 := Nat.and_le_right (n := v) (m := 3689348814741910323)
  unfold p2
  rw [mask33]
  omega
theorem p2_small (x : Nat) : p2 8 x ≤ 7378697629483820646 := by
  have a1 := Nat.and_le_right (n := x / 4) (m := 3689348814741910323)
  have a2 := Nat.and_le_right (n := x) (m := 3689348814741910323)
  unfold p2
  rw [mask33]
  omega
theorem p1_small (x : Nat) : p1 8 x ≤ 12297829382473034410 := by
  have a1 := Nat.and_le_right (n := x / 2) (m := 6148914691236517205)
  have a2 := Nat.and_le_right (n := x) (m := 6148914691236517205)
  unfold p1
  rw [mask55]
  omega
theorem c_p3 (v : Nat) (h : v ≤ 7378697629483820646) : bits .and .u64 (IntKind.u64.wrap ((v : Int) / 16 + (v : Int))) 1085102592571150095 = ((p3 8 v : Nat) : Int) := by
  have e : IntKind.u64.wrap ((v : Int) / 16 + (v : Int)) = ((v / 16 + v : Nat) : Int) := by rw [IntKind.wrap_u64]; omega
  rw [e, show (1085102592571150095 : Int) = ((1085102592571150095 : Nat) : Int) from rfl, u64_and_nat _ _ (by omega) (by decide)]
  unfold p3
  rw [mask0f]
theorem c_add (x y : Nat) (q : Int) (k : Nat) (hq : q = (k : Int)) (hy : y = x + x / k) (h : y < 1152921504606846976) : IntKind.u64.wrap ((x : Int) + (x : Int) / q) = (y : Int) := by
  subst hq
  have e : ((x : Int) / (k : Int)) = ((x / k : Nat) : Int) := by simp
  rw [e, IntKind.wrap_u64]
  omega
theorem c_last (t o : Nat) (h : t < 1152921504606846976) (ho : t % 128 = o) : bits .and .i64 (t : Int) 127 = (o : Int) := by
  have a : (BitVec.ofInt 64 (t : Int)).toNat = t := by
    rw [BitVec.ofInt_natCast, BitVec.toNat_ofNat]; exact Nat.mod_eq_of_lt (by omega)
  have b : (BitVec.ofInt 64 (127 : Int)).toNat = 127 := by decide
  show IntKind.i64.wrap ((BitVec.ofInt 64 (t : Int) &&& BitVec.ofInt 64 127).toNat : Int) = _
  rw [BitVec.toNat_and, a, b, show t &&& 127 = t % 128 from Nat.and_two_pow_sub_one_eq_mod t 7, ho, IntKind.wrap_i64]
  omega
set_option maxHeartbeats 1000000 in
theorem cnt_nat (v : Nat) (w : World) (h1 : v < 18446744073709551616) :
    Calls Try.prog 40 #[.int .u64 (v : Int)] w fun e w' => e = .returned (.int .i64 ((onesN v : Nat) : Int)) ∧ w' = w := by
  obtain ⟨x1, e1⟩ : ∃ x, x = p1 8 v := ⟨_, rfl⟩
  obtain ⟨x2, e2⟩ : ∃ x, x = p2 8 x1 := ⟨_, rfl⟩
  obtain ⟨x3, e3⟩ : ∃ x, x = p3 8 x2 := ⟨_, rfl⟩
  obtain ⟨y, e4⟩ : ∃ y, y = x3 + x3 / 256 := ⟨_, rfl⟩
  obtain ⟨z, e5⟩ : ∃ z, z = y + y / 65536 := ⟨_, rfl⟩
  obtain ⟨t, e6⟩ : ∃ t, t = z + z / 4294967296 := ⟨_, rfl⟩
  have P := pop_all v x3 y z t h1 (by rw [e3, e2, e1]) e4 e5 e6
  have s1 := p1_small v
  have s2 := p2_small x1
  have r1 := c_p1 v h1
  rw [← e1] at r1 s1
  have r2 := c_p2 x1 (by omega)
  rw [← e2] at r2 s2
  have r3 := c_p3 x2 s2
  rw [← e3] at r3
  have r4 := c_add x3 y 256 256 rfl e4 P.2.2.1
  have r5 := c_add y z 65536 65536 rfl e5 P.2.2.2.1
  have r6 := c_add z t 4294967296 4294967296 rfl e6 P.2.2.2.2
  have r7 := c_last t (onesN v) P.2.2.2.2 P.1
  have t1 : (t : Int) < 1152921504606846976 := by omega
  clear e1 e2 e3 e4 e5 e6 P s1 s2
  go_enter Try.func40, Try.ntmps40
  go_wp2
  go_ret
  exact ⟨rfl, rfl⟩
set_option maxHeartbeats 400000 in
theorem ones_nat (v : Nat) (w : World) (h1 : v < 18446744073709551616) :
    Calls Try.prog 30 #[.int .u64 (v : Int)] w fun e w' => e = .returned (.int .i64 ((onesN v : Nat) : Int)) ∧ w' = w := by
  go_enter Try.func30, Try.ntmps30
  go_wp2_with fail
  refine (cnt_nat v _ h1).mono ?_
  rintro e w' ⟨rfl, rfl⟩
  go_wp2
  go_ret
  exact ⟨rfl, rfl⟩
end Go.Proofs.Ytoopbacnnkmpbab
