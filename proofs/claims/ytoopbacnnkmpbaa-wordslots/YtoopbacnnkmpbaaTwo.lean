/- Contracts of the functions on handles: each returns what its plain function says, and leaves the world as it was. -/
import Derived.Test.YtoopbacnnkmpbaaChecked
import Derived.WalkKit
import Derived.WalkLawsBesides
import Derived.OpenShut
import Derived.Laws.BitsAllLaws
namespace Go.Proofs.Ytoopbacnnkmpbaa
open Go.RowKit

def handleW (s g : Int) : Int := if s < 0 then 0 else if 256 ≤ s then 0 else if 1048576 ≤ g then 0 else s + 1 + g * 65536
def handleE (s g : Int) : Int := if s < 0 then 2 else if 256 ≤ s then 2 else if 1048576 ≤ g then 2 else 0
def unS (h : Int) : Int := if h % 65536 = 0 then 0 else if 256 < h % 65536 then 0 else if 1048576 ≤ h / 65536 then 0 else h % 65536 - 1
def unG (h : Int) : Int := if h % 65536 = 0 then 0 else if 256 < h % 65536 then 0 else if 1048576 ≤ h / 65536 then 0 else h / 65536
def unE (h : Int) : Int := if h % 65536 = 0 then 33 else if 256 < h % 65536 then 33 else if 1048576 ≤ h / 65536 then 33 else 0

theorem or_handle (s g : Int) (h1 : 0 ≤ s) (h2 : s < 256) (h3 : 0 ≤ g) (h4 : g < 1048576) : bits .or .u64 (s + 1) (g * 65536) = s + 1 + g * 65536 := by
  rw [u64_or _ _ (by omega) (by omega) (by omega) (by omega), Nat.or_comm, nat_join 16 (g * 65536).toNat (s + 1).toNat (by omega) (by omega)]
  omega
theorem and_handle (h : Int) (h1 : 0 ≤ h) (h2 : h < 18446744073709551616) : bits .and .u64 h 65535 = h % 65536 := by
  rw [u64_and _ _ h1 h2 (by omega) (by omega), show (65535 : Int).toNat = 65535 from rfl, nat_mask16]
  omega

theorem keep {p : Prop} (h : p) : Hid p := h

theorem oneInt {p : IntKind} {a b : Int} (h : a = b) : Ending.returned (.int p a) = .returned (.int p b) := by rw [h]
theorem twoInts {p q : IntKind} {a b c d : Int} (h : a = c) (g : b = d) : Ending.returned (.tuple #[.int p a, .int q b]) = .returned (.tuple #[.int p c, .int q d]) := by rw [h, g]
theorem threeInts {p q r : IntKind} {a b c d x y : Int} (h : a = c) (g : b = d) (k : x = y) : Ending.returned (.tuple #[.int p a, .int q b, .int r x]) = .returned (.tuple #[.int p c, .int q d, .int r y]) := by rw [h, g, k]

set_option maxHeartbeats 400000 in
theorem handle_any (s g : Int) (w : World) (h0 : -9223372036854775808 ≤ s) (h1 : s < 9223372036854775808) (h3 : 0 ≤ g) (h4 : g < 18446744073709551616) :
    Calls Try.prog 16 #[.int .i64 s, .int .u64 g] w fun e w' => e = .returned (.tuple #[.int .u64 (handleW s g), .int .i64 (handleE s g)]) ∧ w' = w := by
  by_cases c1 : s < 0
  · go_enter Try.func16, Try.ntmps16
    go_wp2
    go_ret2
    exact ⟨twoInts (by unfold handleW; (repeat' split) <;> omega) (by unfold handleE; (repeat' split) <;> omega), rfl⟩
  · by_cases c2 : 256 ≤ s
    · go_enter Try.func16, Try.ntmps16
      go_wp2
      go_ret2
      exact ⟨twoInts (by unfold handleW; (repeat' split) <;> omega) (by unfold handleE; (repeat' split) <;> omega), rfl⟩
    · by_cases c3 : 1048576 ≤ g
      · go_enter Try.func16, Try.ntmps16
        go_wp2
        go_ret2
        exact ⟨twoInts (by unfold handleW; (repeat' split) <;> omega) (by unfold handleE; (repeat' split) <;> omega), rfl⟩
      · have ho := or_handle s g (by omega) (by omega) h3 (by omega)
        go_enter Try.func16, Try.ntmps16
        go_wp2
        go_ret2
        exact ⟨twoInts (by unfold handleW; (repeat' split) <;> omega) (by unfold handleE; (repeat' split) <;> omega), rfl⟩

set_option maxHeartbeats 400000 in
theorem refHandle_any (s g : Int) (w : World) (h0 : -9223372036854775808 ≤ s) (h1 : s < 9223372036854775808) (h3 : 0 ≤ g) (h4 : g < 18446744073709551616) :
    Calls Try.prog 17 #[.int .i64 s, .int .u64 g] w fun e w' => e = .returned (.tuple #[.int .u64 (handleW s g), .int .i64 (handleE s g)]) ∧ w' = w := by
  by_cases c1 : s < 0
  · go_enter Try.func17, Try.ntmps17
    go_wp2
    go_ret2
    exact ⟨twoInts (by unfold handleW; (repeat' split) <;> omega) (by unfold handleE; (repeat' split) <;> omega), rfl⟩
  · by_cases c2 : 256 ≤ s
    · go_enter Try.func17, Try.ntmps17
      go_wp2
      go_ret2
      exact ⟨twoInts (by unfold handleW; (repeat' split) <;> omega) (by unfold handleE; (repeat' split) <;> omega), rfl⟩
    · by_cases c3 : 1048576 ≤ g
      · go_enter Try.func17, Try.ntmps17
        go_wp2
        go_ret2
        exact ⟨twoInts (by unfold handleW; (repeat' split) <;> omega) (by unfold handleE; (repeat' split) <;> omega), rfl⟩
      · go_enter Try.func17, Try.ntmps17
        go_wp2
        go_ret2
        exact ⟨twoInts (by unfold handleW; (repeat' split) <;> omega) (by unfold handleE; (repeat' split) <;> omega), rfl⟩

set_option maxHeartbeats 400000 in
theorem unhandle_any (h : Int) (w : World) (h1 : 0 ≤ h) (h2 : h < 18446744073709551616) :
    Calls Try.prog 18 #[.int .u64 h] w fun e w' => e = .returned (.tuple #[.int .i64 (unS h), .int .u64 (unG h), .int .i64 (unE h)]) ∧ w' = w := by
  have ha := and_handle h h1 h2
  by_cases c1 : h % 65536 = 0
  · have g1 : (h % 65536 == 0) = true := by simp [c1]
    have H : Hid (h % 65536 = 0) := c1
    clear c1
    go_enter Try.func18, Try.ntmps18
    go_wp2
    go_ret3
    exact ⟨threeInts (by have := H.out; unfold unS; (repeat' split) <;> omega) (by have := H.out; unfold unG; (repeat' split) <;> omega) (by have := H.out; unfold unE; (repeat' split) <;> omega), rfl⟩
  · have g1 : (h % 65536 == 0) = false := by simp [c1]
    by_cases c2 : 256 < h % 65536
    · go_enter Try.func18, Try.ntmps18
      go_wp2
      go_ret3
      exact ⟨threeInts (by unfold unS; (repeat' split) <;> omega) (by unfold unG; (repeat' split) <;> omega) (by unfold unE; (repeat' split) <;> omega), rfl⟩
    · by_cases c3 : 1048576 ≤ h / 65536
      · go_enter Try.func18, Try.ntmps18
        go_wp2
        go_ret3
        exact ⟨threeInts (by unfold unS; (repeat' split) <;> omega) (by unfold unG; (repeat' split) <;> omega) (by unfold unE; (repeat' split) <;> omega), rfl⟩
      · go_enter Try.func18, Try.ntmps18
        go_wp2
        go_ret3
        exact ⟨threeInts (by unfold unS; (repeat' split) <;> omega) (by unfold unG; (repeat' split) <;> omega) (by unfold unE; (repeat' split) <;> omega), rfl⟩

set_option maxHeartbeats 400000 in
theorem refUnhandle_any (h : Int) (w : World) (h1 : 0 ≤ h) (h2 : h < 18446744073709551616) :
    Calls Try.prog 19 #[.int .u64 h] w fun e w' => e = .returned (.tuple #[.int .i64 (unS h), .int .u64 (unG h), .int .i64 (unE h)]) ∧ w' = w := by
  by_cases c1 : h % 65536 < 1
  · go_enter Try.func19, Try.ntmps19
    go_wp2
    go_ret3
    exact ⟨threeInts (by unfold unS; (repeat' split) <;> omega) (by unfold unG; (repeat' split) <;> omega) (by unfold unE; (repeat' split) <;> omega), rfl⟩
  · by_cases c2 : 256 < h % 65536
    · go_enter Try.func19, Try.ntmps19
      go_wp2
      go_ret3
      exact ⟨threeInts (by unfold unS; (repeat' split) <;> omega) (by unfold unG; (repeat' split) <;> omega) (by unfold unE; (repeat' split) <;> omega), rfl⟩
    · by_cases c3 : 1048576 ≤ h / 65536
      · go_enter Try.func19, Try.ntmps19
        go_wp2
        go_ret3
        exact ⟨threeInts (by unfold unS; (repeat' split) <;> omega) (by unfold unG; (repeat' split) <;> omega) (by unfold unE; (repeat' split) <;> omega), rfl⟩
      · go_enter Try.func19, Try.ntmps19
        go_wp2
        go_ret3
        exact ⟨threeInts (by unfold unS; (repeat' split) <;> omega) (by unfold unG; (repeat' split) <;> omega) (by unfold unE; (repeat' split) <;> omega), rfl⟩
end Go.Proofs.Ytoopbacnnkmpbaa
