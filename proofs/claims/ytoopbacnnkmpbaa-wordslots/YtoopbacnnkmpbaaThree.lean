/- Contracts of the functions on slots: each returns what its plain function says; the world behind has new blocks alone. -/
import Derived.Test.YtoopbacnnkmpbaaChecked
import Derived.WalkKit
import Derived.WalkLawsBesides
import Derived.OpenShut
import Derived.Laws.BitsAllLaws
import Derived.Test.YtoopbacnnkmpbaaTwo
namespace Go.Proofs.Ytoopbacnnkmpbaa
open Go.RowKit

def packW (k g s : Int) : Int := if 3 < k then 0 else if 1048576 ≤ g then 0 else if 1099511627776 < s then 0 else k + g * 4 + s * 4194304
def packE (k g s : Int) : Int := if 3 < k then 2 else if 1048576 ≤ g then 2 else if 1099511627776 < s then 2 else 0

theorem or_pack (k g : Int) (h1 : 0 ≤ k) (h2 : k < 4) (h3 : 0 ≤ g) (h4 : g < 1048576) : bits .or .u64 k (g * 4) = k + g * 4 := by
  rw [u64_or _ _ (by omega) (by omega) (by omega) (by omega), Nat.or_comm, nat_join 2 (g * 4).toNat k.toNat (by omega) (by omega)]
  omega
theorem or_pack2 (k s : Int) (h1 : 0 ≤ k) (h2 : k < 4194304) (h3 : 0 ≤ s) (h4 : s ≤ 1099511627776) : bits .or .u64 k (s * 4194304) = k + s * 4194304 := by
  rw [u64_or _ _ (by omega) (by omega) (by omega) (by omega), Nat.or_comm, nat_join 22 (s * 4194304).toNat k.toNat (by omega) (by omega)]
  omega
theorem and_3 (h : Int) (h1 : 0 ≤ h) (h2 : h < 18446744073709551616) : bits .and .u64 h 3 = h % 4 := by
  rw [u64_and _ _ h1 h2 (by omega) (by omega), show (3 : Int).toNat = 3 from rfl, nat_mask2]
  omega
theorem and_20 (h : Int) (h1 : 0 ≤ h) (h2 : h < 18446744073709551616) : bits .and .u64 h 1048575 = h % 1048576 := by
  rw [u64_and _ _ h1 h2 (by omega) (by omega), show (1048575 : Int).toNat = 1048575 from rfl, nat_mask20]
  omega

set_option maxHeartbeats 400000 in
theorem pack_any (k g s : Int) (w : World) (h1 : 0 ≤ k) (h2 : k < 256) (h3 : 0 ≤ g) (h4 : g < 18446744073709551616) (h5 : 0 ≤ s) (h6 : s < 18446744073709551616) :
    Calls Try.prog 12 #[.agg #[.int .u8 k, .int .u64 g, .int .u64 s]] w fun e w' => e = .returned (.tuple #[.int .u64 (packW k g s), .int .i64 (packE k g s)]) ∧ w' = w.alloc (.cells #[.int .u8 k, .int .u64 g, .int .u64 s] 33) := by
  by_cases c1 : 3 < k
  · go_enter Try.func12, Try.ntmps12
    go_wp2
    go_ret2
    exact ⟨twoInts (by unfold packW; (repeat' split) <;> omega) (by unfold packE; (repeat' split) <;> omega), rfl⟩
  · by_cases c2 : 1048576 ≤ g
    · go_enter Try.func12, Try.ntmps12
      go_wp2
      go_ret2
      exact ⟨twoInts (by unfold packW; (repeat' split) <;> omega) (by unfold packE; (repeat' split) <;> omega), rfl⟩
    · by_cases c3 : 1099511627776 < s
      · go_enter Try.func12, Try.ntmps12
        go_wp2
        go_ret2
        exact ⟨twoInts (by unfold packW; (repeat' split) <;> omega) (by unfold packE; (repeat' split) <;> omega), rfl⟩
      · have o1 := or_pack k g h1 (by omega) h3 (by omega)
        have o2 := or_pack2 (k + g * 4) s (by omega) (by omega) h5 (by omega)
        go_enter Try.func12, Try.ntmps12
        go_wp2
        go_ret2
        exact ⟨twoInts (by unfold packW; (repeat' split) <;> omega) (by unfold packE; (repeat' split) <;> omega), rfl⟩

set_option maxHeartbeats 400000 in
theorem word_any (k g s : Int) (w : World) (h1 : 0 ≤ k) (h2 : k < 4) (h3 : 0 ≤ g) (h4 : g < 1048576) (h5 : 0 ≤ s) (h6 : s ≤ 1099511627776) :
    Calls Try.prog 20 #[.agg #[.int .u8 k, .int .u64 g, .int .u64 s]] w fun e w' => e = .returned (.int .u64 (k + g * 4 + s * 4194304)) ∧ w' = w.alloc (.cells #[.int .u8 k, .int .u64 g, .int .u64 s] 33) := by
  go_enter Try.func20, Try.ntmps20
  go_wp2
  go_ret
  exact ⟨oneInt (by omega), rfl⟩

set_option maxHeartbeats 400000 in
theorem refPack_any (k g s : Int) (w : World) (h1 : 0 ≤ k) (h2 : k < 256) (h3 : 0 ≤ g) (h4 : g < 18446744073709551616) (h5 : 0 ≤ s) (h6 : s < 18446744073709551616) :
    Calls Try.prog 13 #[.agg #[.int .u8 k, .int .u64 g, .int .u64 s]] w fun e w' => e = .returned (.tuple #[.int .u64 (packW k g s), .int .i64 (packE k g s)]) ∧
      (w' = w.alloc (.cells #[.int .u8 k, .int .u64 g, .int .u64 s] 33) ∨ w' = (w.alloc (.cells #[.int .u8 k, .int .u64 g, .int .u64 s] 33)).alloc (.cells #[.int .u8 k, .int .u64 g, .int .u64 s] 33)) := by
  by_cases c1 : 3 < k
  · go_enter Try.func13, Try.ntmps13
    go_wp2
    go_ret2
    exact ⟨twoInts (by unfold packW; (repeat' split) <;> omega) (by unfold packE; (repeat' split) <;> omega), .inl rfl⟩
  · by_cases c2 : 1048576 ≤ g
    · go_enter Try.func13, Try.ntmps13
      go_wp2
      go_ret2
      exact ⟨twoInts (by unfold packW; (repeat' split) <;> omega) (by unfold packE; (repeat' split) <;> omega), .inl rfl⟩
    · by_cases c3 : 1099511627776 < s
      · go_enter Try.func13, Try.ntmps13
        go_wp2
        go_ret2
        exact ⟨twoInts (by unfold packW; (repeat' split) <;> omega) (by unfold packE; (repeat' split) <;> omega), .inl rfl⟩
      · go_enter Try.func13, Try.ntmps13
        go_wp2_with fail
        refine (word_any k g s _ (by omega) (by omega) (by omega) (by omega) (by omega) (by omega)).mono ?_
        rintro e w' ⟨rfl, rfl⟩
        go_wp2
        go_ret2
        exact ⟨twoInts (by unfold packW; (repeat' split) <;> omega) (by unfold packE; (repeat' split) <;> omega), .inr rfl⟩

set_option maxHeartbeats 400000 in
theorem unpack_any (h : Int) (w : World) (h1 : 0 ≤ h) (h2 : h < 18446744073709551616) :
    Calls Try.prog 14 #[.int .u64 h] w fun e w' => e = .returned (.agg #[.int .u8 (h % 4), .int .u64 (h / 4 % 1048576), .int .u64 (h / 4194304)]) ∧ w' = w.alloc (.cells #[.int .u8 (h % 4), .int .u64 (h / 4 % 1048576), .int .u64 (h / 4194304)] 33) := by
  have o1 := and_3 h h1 h2
  have o2 := and_20 (h / 4) (by omega) (by omega)
  have o3 : h % 4 % 256 = h % 4 := by omega
  go_enter Try.func14, Try.ntmps14
  go_wp2
  exact bodyPost_ret (v := .agg #[.int .u8 (h % 4), .int .u64 (h / 4 % 1048576), .int .u64 (h / 4194304)]) (by simp [results, Try.results14, go_sem]) rfl ⟨rfl, rfl⟩

set_option maxHeartbeats 400000 in
theorem refUnpack_any (h : Int) (w : World) (h1 : 0 ≤ h) (h2 : h < 18446744073709551616) :
    Calls Try.prog 15 #[.int .u64 h] w fun e w' => e = .returned (.agg #[.int .u8 (h % 4), .int .u64 (h / 4 % 1048576), .int .u64 (h / 4194304)]) ∧ w' = w.alloc (.cells #[.int .u8 (h % 4), .int .u64 (h / 4 % 1048576), .int .u64 (h / 4194304)] 33) := by
  have o3 : h % 4 % 256 = h % 4 := by omega
  have o4 : h / 4 / 1048576 = h / 4194304 := by omega
  go_enter Try.func15, Try.ntmps15
  go_wp2
  exact bodyPost_ret (v := .agg #[.int .u8 (h % 4), .int .u64 (h / 4 % 1048576), .int .u64 (h / 4194304)]) (by simp [results, Try.results15, go_sem]) rfl ⟨rfl, rfl⟩
end Go.Proofs.Ytoopbacnnkmpbaa
