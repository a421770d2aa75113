/- The words of slots and handles. -/
import Derived.Laws.BitsAllLaws
import Derived.OpenShut
import Derived.Test.YtlgkioaomcobdaaGreatNils
namespace Go.Proofs.YtlgkioaomcobdaaGreat
open Go.RowKit Go.Shelf
set_option linter.unusedVariables false

def handleW (s g : Int) : Int := if s < 0 then 0 else if 256 ≤ s then 0 else if 1048576 ≤ g then 0 else s + 1 + g * 65536
def handleE (s g : Int) : Int := if s < 0 then 2 else if 256 ≤ s then 2 else if 1048576 ≤ g then 2 else 0
def unS (h : Int) : Int := if h % 65536 = 0 then 0 else if 256 < h % 65536 then 0 else if 1048576 ≤ h / 65536 then 0 else h % 65536 - 1
def unG (h : Int) : Int := if h % 65536 = 0 then 0 else if 256 < h % 65536 then 0 else if 1048576 ≤ h / 65536 then 0 else h / 65536
def unE (h : Int) : Int := if h % 65536 = 0 then 33 else if 256 < h % 65536 then 33 else if 1048576 ≤ h / 65536 then 33 else 0
theorem or_handle (s g : Int) (h1 : 0 ≤ s) (h2 : s < 256) (h3 : 0 ≤ g) (h4 : g < 1048576) : bits .or .u64 (s + 1) (g * 65536) = s + 1 + g * 65536 := by
  rw [u64_or _ _ (by omega) (by omega) (by omega) (by omega), Nat.or_comm, nat_join 16 (g * 65536).toNat (s + 1).toNat (by omega) (by omega)]
  omega
theorem and_handle (h : Int) (h1 : 0 ≤ h) (h2 : h < 18446744073709551616) : bits .and .u64 h 65535 = h % 65536 := by
  rw [u64_and _ _ h1 h2 (by omega) (by omega), show (65535 : Int).toNat = 65535 from rfl, nat_mask16]
  omega
theorem oneInt {p : IntKind} {a b : Int} (h : a = b) : Ending.returned (.int p a) = .returned (.int p b) := by rw [h]
theorem twoInts {p q : IntKind} {a b c d : Int} (h : a = c) (g : b = d) : Ending.returned (.tuple #[.int p a, .int q b]) = .returned (.tuple #[.int p c, .int q d]) := by rw [h, g]
theorem threeInts {p q r : IntKind} {a b c d x y : Int} (h : a = c) (g : b = d) (k : x = y) : Ending.returned (.tuple #[.int p a, .int q b, .int r x]) = .returned (.tuple #[.int p c, .int q d, .int r y]) := by rw [h, g, k]
set_option maxHeartbeats 400000 in
theorem handle_any (s g : Int) (w : World) (h0 : -9223372036854775808 ≤ s) (h1 : s < 9223372036854775808) (h3 : 0 ≤ g) (h4 : g < 18446744073709551616) :
    Calls Tryz.prog 27 #[.int .i64 s, .int .u64 g] w fun e w' => e = .returned (.tuple #[.int .u64 (handleW s g), .int .i64 (handleE s g)]) ∧ w' = w := by
  by_cases c1 : s < 0
  · go_enter Tryz.func27, Tryz.ntmps27
    go_wp2_with fail
    go_ret2
    exact ⟨twoInts (by unfold handleW; (repeat' split) <;> omega) (by unfold handleE; (repeat' split) <;> omega), rfl⟩
  · by_cases c2 : 256 ≤ s
    · go_enter Tryz.func27, Tryz.ntmps27
      go_wp2_with fail
      go_ret2
      exact ⟨twoInts (by unfold handleW; (repeat' split) <;> omega) (by unfold handleE; (repeat' split) <;> omega), rfl⟩
    · by_cases c3 : 1048576 ≤ g
      · go_enter Tryz.func27, Tryz.ntmps27
        go_wp2_with fail
        go_ret2
        exact ⟨twoInts (by unfold handleW; (repeat' split) <;> omega) (by unfold handleE; (repeat' split) <;> omega), rfl⟩
      · have ho := or_handle s g (by omega) (by omega) h3 (by omega)
        go_enter Tryz.func27, Tryz.ntmps27
        go_wp2_with fail
        go_ret2
        exact ⟨twoInts (by unfold handleW; (repeat' split) <;> omega) (by unfold handleE; (repeat' split) <;> omega), rfl⟩
set_option maxHeartbeats 400000 in
theorem unhandle_any (h : Int) (w : World) (h1 : 0 ≤ h) (h2 : h < 18446744073709551616) :
    Calls Tryz.prog 45 #[.int .u64 h] w fun e w' => e = .returned (.tuple #[.int .i64 (unS h), .int .u64 (unG h), .int .i64 (unE h)]) ∧ w' = w := by
  have ha := and_handle h h1 h2
  by_cases c1 : h % 65536 = 0
  · have g1 : (h % 65536 == 0) = true := by simp [c1]
    have H : Hid (h % 65536 = 0) := c1
    clear c1
    go_enter Tryz.func45, Tryz.ntmps45
    go_wp2_with fail
    go_ret3
    exact ⟨threeInts (by have := H.out; unfold unS; (repeat' split) <;> omega) (by have := H.out; unfold unG; (repeat' split) <;> omega) (by have := H.out; unfold unE; (repeat' split) <;> omega), rfl⟩
  · have g1 : (h % 65536 == 0) = false := by simp [c1]
    by_cases c2 : 256 < h % 65536
    · go_enter Tryz.func45, Tryz.ntmps45
      go_wp2_with fail
      go_ret3
      exact ⟨threeInts (by unfold unS; (repeat' split) <;> omega) (by unfold unG; (repeat' split) <;> omega) (by unfold unE; (repeat' split) <;> omega), rfl⟩
    · by_cases c3 : 1048576 ≤ h / 65536
      · go_enter Tryz.func45, Tryz.ntmps45
        go_wp2_with fail
        go_ret3
        exact ⟨threeInts (by unfold unS; (repeat' split) <;> omega) (by unfold unG; (repeat' split) <;> omega) (by unfold unE; (repeat' split) <;> omega), rfl⟩
      · go_enter Tryz.func45, Tryz.ntmps45
        go_wp2_with fail
        go_ret3
        exact ⟨threeInts (by unfold unS; (repeat' split) <;> omega) (by unfold unG; (repeat' split) <;> omega) (by unfold unE; (repeat' split) <;> omega), rfl⟩
def packW (k g s : Int) : Int := if 3 < k then 0 else if 1048576 ≤ g then 0 else if 1099511627776 < s then 0 else k + g * 4 + s * 4194304
def packE (k g s : Int) : Int := if 3 < k then 2 else if 1048576 ≤ g then 2 else if 1099511627776 < s then 2 else 0
theorem or_pack (k g : Int) (h1 : 0 ≤ k) (h2 : k < 4) (h3 : 0 ≤ g) (h4 : g < 1048576) : bits .or .u64 k (g * 4) = k + g * 4 := by
  rw [u64_or _ _ (by omega) (by omega) (by omega) (by omega), Nat.or_comm, nat_join 2 (g * 4).toNat k.toNat (by omega) (by omega)]
  omega
theorem or_pack2 (k s : Int) (h1 : 0 ≤ k) (h2 : k < 4194304) (h3 : 0 ≤ s) (h4 : s ≤ 1099511627776) : bits .or .u64 k (s * 4194304) = k + s * 4194304 := by
  rw [u64_or _ _ (by omega) (by omega) (by omega) (by omega), Nat.or_comm, nat_join 22 (s * 4194304).toNat k.toNat (by omega) (by omega)]
  omega
theorem and_3 (h : Int) (h1 : 0 ≤ h) (h2 : h < 18446744073709551616) : bits .and .u64 h 3 = h % 4 := by
  rw [u64_and _ _ h1 h2 (by omega) (by omega), show (3 : Int).toNat = 3 from rfl, nat_mask2]
  omega
theorem and_20 (h : Int) (h1 : 0 ≤ h) (h2 : h < 18446744073709551616) : bits .and .u64 h 1048575 = h % 1048576 := by
  rw [u64_and _ _ h1 h2 (by omega) (by omega), show (1048575 : Int).toNat = 1048575 from rfl, nat_mask20]
  omega
set_option maxHeartbeats 400000 in
theorem pack_any (k g s : Int) (w : World) (h1 : 0 ≤ k) (h2 : k < 256) (h3 : 0 ≤ g) (h4 : g < 18446744073709551616) (h5 : 0 ≤ s) (h6 : s < 18446744073709551616) :
    Calls Tryz.prog 105 #[.agg #[.int .u8 k, .int .u64 g, .int .u64 s]] w fun e w' => e = .returned (.tuple #[.int .u64 (packW k g s), .int .i64 (packE k g s)]) ∧ w' = w.alloc (.cells #[.int .u8 k, .int .u64 g, .int .u64 s] 46) := by
  by_cases c1 : 3 < k
  · go_enter Tryz.func105, Tryz.ntmps105
    go_wp2_with fail
    go_ret2
    exact ⟨twoInts (by unfold packW; (repeat' split) <;> omega) (by unfold packE; (repeat' split) <;> omega), rfl⟩
  · by_cases c2 : 1048576 ≤ g
    · go_enter Tryz.func105, Tryz.ntmps105
      go_wp2_with fail
      go_ret2
      exact ⟨twoInts (by unfold packW; (repeat' split) <;> omega) (by unfold packE; (repeat' split) <;> omega), rfl⟩
    · by_cases c3 : 1099511627776 < s
      · go_enter Tryz.func105, Tryz.ntmps105
        go_wp2_with fail
        go_ret2
        exact ⟨twoInts (by unfold packW; (repeat' split) <;> omega) (by unfold packE; (repeat' split) <;> omega), rfl⟩
      · have o1 := or_pack k g h1 (by omega) h3 (by omega)
        have o2 := or_pack2 (k + g * 4) s (by omega) (by omega) h5 (by omega)
        go_enter Tryz.func105, Tryz.ntmps105
        go_wp2_with fail
        go_ret2
        exact ⟨twoInts (by unfold packW; (repeat' split) <;> omega) (by unfold packE; (repeat' split) <;> omega), rfl⟩
set_option maxHeartbeats 400000 in
theorem unpack_any (h : Int) (w : World) (h1 : 0 ≤ h) (h2 : h < 18446744073709551616) :
    Calls Tryz.prog 39 #[.int .u64 h] w fun e w' => e = .returned (.agg #[.int .u8 (h % 4), .int .u64 (h / 4 % 1048576), .int .u64 (h / 4194304)]) ∧ w' = w.alloc (.cells #[.int .u8 (h % 4), .int .u64 (h / 4 % 1048576), .int .u64 (h / 4194304)] 46) := by
  have o1 := and_3 h h1 h2
  have o2 := and_20 (h / 4) (by omega) (by omega)
  have o3 : h % 4 % 256 = h % 4 := by omega
  go_enter Tryz.func39, Tryz.ntmps39
  go_wp2_with fail
  exact bodyPost_ret (v := .agg #[.int .u8 (h % 4), .int .u64 (h / 4 % 1048576), .int .u64 (h / 4194304)]) (by simp [results, Tryz.results39, go_sem]) rfl ⟨rfl, rfl⟩
set_option maxHeartbeats 400000 in
theorem refUnhandle_any (h : Int) (w : World) (h1 : 0 ≤ h) (h2 : h < 18446744073709551616) :
    Calls Tryz.prog 30 #[.int .u64 h] w fun e w' => e = .returned (.tuple #[.int .i64 (unS h), .int .u64 (unG h), .int .i64 (unE h)]) ∧ w' = w := by
  by_cases c1 : h % 65536 < 1
  · go_enter Tryz.func30, Tryz.ntmps30
    go_wp2_with fail
    go_ret3
    exact ⟨threeInts (by unfold unS; (repeat' split) <;> omega) (by unfold unG; (repeat' split) <;> omega) (by unfold unE; (repeat' split) <;> omega), rfl⟩
  · by_cases c2 : 256 < h % 65536
    · go_enter Tryz.func30, Tryz.ntmps30
      go_wp2_with fail
      go_ret3
      exact ⟨threeInts (by unfold unS; (repeat' split) <;> omega) (by unfold unG; (repeat' split) <;> omega) (by unfold unE; (repeat' split) <;> omega), rfl⟩
    · by_cases c3 : 1048576 ≤ h / 65536
      · go_enter Tryz.func30, Tryz.ntmps30
        go_wp2_with fail
        go_ret3
        exact ⟨threeInts (by unfold unS; (repeat' split) <;> omega) (by unfold unG; (repeat' split) <;> omega) (by unfold unE; (repeat' split) <;> omega), rfl⟩
      · go_enter Tryz.func30, Tryz.ntmps30
        go_wp2_with fail
        go_ret3
        exact ⟨threeInts (by unfold unS; (repeat' split) <;> omega) (by unfold unG; (repeat' split) <;> omega) (by unfold unE; (repeat' split) <;> omega), rfl⟩
set_option maxHeartbeats 400000 in
theorem refUnpack_any (h : Int) (w : World) (h1 : 0 ≤ h) (h2 : h < 18446744073709551616) :
    Calls Tryz.prog 17 #[.int .u64 h] w fun e w' => e = .returned (.agg #[.int .u8 (h % 4), .int .u64 (h / 4 % 1048576), .int .u64 (h / 4194304)]) ∧ w' = w.alloc (.cells #[.int .u8 (h % 4), .int .u64 (h / 4 % 1048576), .int .u64 (h / 4194304)] 46) := by
  have o3 : h % 4 % 256 = h % 4 := by omega
  have o4 : h / 4 / 1048576 = h / 4194304 := by omega
  go_enter Tryz.func17, Tryz.ntmps17
  go_wp2_with fail
  exact bodyPost_ret (v := .agg #[.int .u8 (h % 4), .int .u64 (h / 4 % 1048576), .int .u64 (h / 4194304)]) (by simp [results, Tryz.results17, go_sem]) rfl ⟨rfl, rfl⟩
end Go.Proofs.YtlgkioaomcobdaaGreat
