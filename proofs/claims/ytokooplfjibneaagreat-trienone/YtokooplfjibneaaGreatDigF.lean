/- Contracts of the digits of a mixed key: each function returns what its plain function says, and leaves the world as it was. -/
import Derived.Test.YtokooplfjibneaaGreatFr
import Derived.WalkKit
import Derived.WalkLawsBesides
import Derived.OpenShut
import Derived.Laws.BitsAllLaws
namespace Go.Proofs.YtokooplfjibneaaGreat
open Go.RowKit

def dig (h l : Int) : Int := if l < 0 then 0 else if 10 < l then 0 else if l = 10 then h % 16 else h / 2 ^ (58 - 6 * l).toNat % 64

theorem oneI {p : IntKind} {a b : Int} (h : a = b) : Ending.returned (.int p a) = .returned (.int p b) := by rw [h]
theorem twoI {p q : IntKind} {a b c d : Int} (h : a = c) (g : b = d) : Ending.returned (.tuple #[.int p a, .int q b]) = .returned (.tuple #[.int p c, .int q d]) := by rw [h, g]

theorem and_63 (h : Int) (h1 : 0 ≤ h) (h2 : h < 18446744073709551616) : bits .and .u64 h 63 = h % 64 := by
  rw [u64_and _ _ h1 h2 (by omega) (by omega), show (63 : Int).toNat = 63 from rfl, nat_mask6]
  omega
theorem and_15 (h : Int) (h1 : 0 ≤ h) (h2 : h < 18446744073709551616) : bits .and .u64 h 15 = h % 16 := by
  rw [u64_and _ _ h1 h2 (by omega) (by omega), show (15 : Int).toNat = 15 from rfl, nat_mask4]
  omega
theorem div_pow_le (h : Int) (k : Nat) (h0 : 0 ≤ h) : 0 ≤ h / 2 ^ k ∧ h / 2 ^ k ≤ h := by
  have p : (0 : Int) < 2 ^ k := Int.pow_pos (by decide)
  exact ⟨Int.ediv_nonneg h0 (by omega), Int.ediv_le_self _ h0⟩
theorem dig_bd (h l : Int) (h0 : 0 ≤ h) : 0 ≤ dig h l ∧ dig h l ≤ 63 := by
  unfold dig
  split
  · omega
  · split
    · omega
    · split
      · omega
      · have := div_pow_le h (58 - 6 * l).toNat h0
        omega

set_option maxHeartbeats 400000 in
theorem place_any (l : Int) (w : World) (h0 : 0 ≤ l) (h1 : l < 10) :
    Calls Tryz.prog 60 #[.int .i64 l] w fun e w' => e = .returned (.tuple #[.int .i64 (58 - 6 * l), .int .i64 63]) ∧ w' = w := by
  have c : (l == 10) = false := beq_eq_false_iff_ne.2 (by omega)
  go_enter Tryz.func60, Tryz.ntmps60
  go_wp2
  go_ret2
  exact ⟨twoI (by omega) rfl, rfl⟩
theorem place_last (w : World) : Calls Tryz.prog 60 #[.int .i64 10] w fun e w' => e = .returned (.tuple #[.int .i64 0, .int .i64 15]) ∧ w' = w := by
  go_enter Tryz.func60, Tryz.ntmps60
  go_wp2
  go_ret2
  exact ⟨rfl, rfl⟩

set_option maxHeartbeats 400000 in
theorem digit_any (h l : Int) (w : World) (h0 : 0 ≤ h) (h1 : h < 18446744073709551616) (l0 : -9223372036854775808 ≤ l) (l1 : l ≤ 9223372036854775807) :
    Calls Tryz.prog 49 #[.int .u64 h, .int .i64 l] w fun e w' => e = .returned (.int .i64 (dig h l)) ∧ w' = w := by
  by_cases d1 : l < 0
  · go_enter Tryz.func49, Tryz.ntmps49
    go_wp2
    go_ret
    exact ⟨oneI (by unfold dig; rw [if_pos d1]), rfl⟩
  · by_cases d2 : 10 < l
    · go_enter Tryz.func49, Tryz.ntmps49
      go_wp2
      go_ret
      exact ⟨oneI (by unfold dig; rw [if_neg (by omega), if_pos d2]), rfl⟩
    · by_cases d3 : l = 10
      · subst d3
        have o := and_15 h h0 h1
        go_enter Tryz.func49, Tryz.ntmps49
        go_wp2_with fail
        refine (place_last _).mono ?_
        rintro e w' ⟨rfl, rfl⟩
        go_wp2
        go_ret
        exact ⟨oneI (by unfold dig; rw [if_neg (by omega), if_neg (by omega), if_pos rfl]), rfl⟩
      · have q := div_pow_le h (58 - 6 * l).toNat h0
        have o := and_63 (h / 2 ^ (58 - 6 * l).toNat) q.1 (by omega)
        go_enter Tryz.func49, Tryz.ntmps49
        go_wp2_with fail
        refine (place_any l _ (by omega) (by omega)).mono ?_
        rintro e w' ⟨rfl, rfl⟩
        go_wp2
        go_ret
        exact ⟨oneI (by unfold dig; rw [if_neg (by omega), if_neg (by omega), if_neg d3]), rfl⟩

end Go.Proofs.YtokooplfjibneaaGreat
