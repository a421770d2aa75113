/- Contracts of package word's numbers: Child, Split, Pack, Unpack, the document's Pack: each returns what its plain function says; the world behind has new blocks alone. -/
import Derived.Test.YtoldkjlcfgpnoaaDoorWf
import Derived.Test.YtoldkjlcfgpnoaaDoorWp
import Derived.WalkLawsBesides
import Derived.OpenShut
import Derived.Laws.BitsAllLaws
namespace Go.Proofs.YtoldkjlcfgpnoaaDoor
open Go.RowKit
set_option linter.unusedVariables false

theorem keep {p : Prop} (h : p) : Hid p := h
def childW (k a : Int) : Int := if a = 0 ∨ 4611686018427387904 < a then 0 else if k = 1 then 2 * a + 1 else if k = 2 then 2 * a else 0
def childE (k a : Int) : Int := if a = 0 then (if k = 0 then 0 else 2) else if 4611686018427387904 < a then 2 else if k = 1 then 0 else if k = 2 then 0 else 2
def splitK (v : Int) : Int := if v = 0 then 0 else if v % 2 = 1 then 1 else 2

theorem ret2 {p q : IntKind} {a b c d : Int} (h : a = c) (g : b = d) : Ending.returned (.tuple #[.int p a, .int q b]) = .returned (.tuple #[.int p c, .int q d]) := by rw [h, g]

set_option maxHeartbeats 400000 in
theorem child_any (k a : Int) (w : World) (ha : 0 ≤ a) (hb : a < 18446744073709551616) :
    Calls Tryd.prog 10 #[.int .u8 k, .int .u64 a] w fun e w' => e = .returned (.tuple #[.int .u64 (childW k a), .int .i64 (childE k a)]) ∧ w' = w := by
  by_cases h0 : k = 0
  · subst h0
    by_cases h1 : a = 0
    · subst h1
      go_enter Tryd.func10, Tryd.ntmps10
      go_wp2
      go_ret2
      exact ⟨ret2 (by unfold childW; (repeat' split) <;> omega) (by unfold childE; (repeat' split) <;> omega), rfl⟩
    · have g1 : (a == 0) = false := by simp [h1]
      by_cases h2 : 4611686018427387904 < a
      · go_enter Tryd.func10, Tryd.ntmps10
        go_wp2
        go_ret2
        exact ⟨ret2 (by unfold childW; (repeat' split) <;> omega) (by unfold childE; (repeat' split) <;> omega), rfl⟩
      · go_enter Tryd.func10, Tryd.ntmps10
        go_wp2
        go_ret2
        exact ⟨ret2 (by unfold childW; (repeat' split) <;> omega) (by unfold childE; (repeat' split) <;> omega), rfl⟩
  · have g0 : (k == 0) = false := by simp [h0]
    by_cases h1 : a = 0
    · subst h1
      go_enter Tryd.func10, Tryd.ntmps10
      go_wp2
      go_ret2
      exact ⟨ret2 (by unfold childW; (repeat' split) <;> omega) (by unfold childE; (repeat' split) <;> omega), rfl⟩
    · have g1 : (a == 0) = false := by simp [h1]
      by_cases h2 : 4611686018427387904 < a
      · go_enter Tryd.func10, Tryd.ntmps10
        go_wp2
        go_ret2
        exact ⟨ret2 (by unfold childW; (repeat' split) <;> omega) (by unfold childE; (repeat' split) <;> omega), rfl⟩
      · by_cases h3 : k = 1
        · subst h3
          go_enter Tryd.func10, Tryd.ntmps10
          go_wp2
          go_ret2
          exact ⟨ret2 (by unfold childW; (repeat' split) <;> omega) (by unfold childE; (repeat' split) <;> omega), rfl⟩
        · have g3 : (k == 1) = false := by simp [h3]
          by_cases h4 : k = 2
          · subst h4
            go_enter Tryd.func10, Tryd.ntmps10
            go_wp2
            go_ret2
            exact ⟨ret2 (by unfold childW; (repeat' split) <;> omega) (by unfold childE; (repeat' split) <;> omega), rfl⟩
          · have g4 : (k == 2) = false := by simp [h4]
            go_enter Tryd.func10, Tryd.ntmps10
            go_wp2
            go_ret2
            exact ⟨ret2 (by unfold childW; (repeat' split) <;> omega) (by unfold childE; (repeat' split) <;> omega), rfl⟩

set_option maxHeartbeats 400000 in
theorem split_any (v : Int) (w : World) (ha : 0 ≤ v) (hb : v < 18446744073709551616) :
    Calls Tryd.prog 11 #[.int .u64 v] w fun e w' => e = .returned (.tuple #[.int .u8 (splitK v), .int .u64 (v / 2)]) ∧ w' = w := by
  by_cases h1 : v = 0
  · subst h1
    go_enter Tryd.func11, Tryd.ntmps11
    go_wp2
    go_ret2
    exact ⟨ret2 (by unfold splitK; (repeat' split) <;> omega) (by omega), rfl⟩
  · have g1 : (v == 0) = false := by simp [h1]
    by_cases h2 : v % 2 = 1
    · have g2 : (v % 2 == 1) = true := by simp [h2]
      have H : Hid (v % 2 = 1) := h2
      clear h2
      go_enter Tryd.func11, Tryd.ntmps11
      go_wp2
      go_ret2
      exact ⟨ret2 (by have := H.out; unfold splitK; (repeat' split) <;> omega) (by omega), rfl⟩
    · have g2 : (v % 2 == 1) = false := by simp [h2]
      go_enter Tryd.func11, Tryd.ntmps11
      go_wp2
      go_ret2
      exact ⟨ret2 (by unfold splitK; (repeat' split) <;> omega) (by omega), rfl⟩

theorem live_any (w : World) : Calls Tryd.prog 7 #[] w fun e w' => e = .returned (.bool true) ∧ w' = w := by
  go_enter Tryd.func7, Tryd.ntmps7
  go_wp2
  go_ret
  exact ⟨rfl, rfl⟩

theorem oneInt {p : IntKind} {a b : Int} (h : a = b) : Ending.returned (.int p a) = .returned (.int p b) := by rw [h]
theorem twoInts {p q : IntKind} {a b c d : Int} (h : a = c) (g : b = d) : Ending.returned (.tuple #[.int p a, .int q b]) = .returned (.tuple #[.int p c, .int q d]) := by rw [h, g]
theorem threeInts {p q r : IntKind} {a b c d x y : Int} (h : a = c) (g : b = d) (k : x = y) : Ending.returned (.tuple #[.int p a, .int q b, .int r x]) = .returned (.tuple #[.int p c, .int q d, .int r y]) := by rw [h, g, k]

def packW (k g s : Int) : Int := if 3 < k then 0 else if 1048576 ≤ g then 0 else if 1099511627776 < s then 0 else k + g * 4 + s * 4194304
def packE (k g s : Int) : Int := if 3 < k then 2 else if 1048576 ≤ g then 2 else if 1099511627776 < s then 2 else 0

theorem or_pack (k g : Int) (h1 : 0 ≤ k) (h2 : k < 4) (h3 : 0 ≤ g) (h4 : g < 1048576) : bits .or .u64 k (g * 4) = k + g * 4 := by
  rw [u64_or _ _ (by omega) (by omega) (by omega) (by omega), Nat.or_comm, nat_join 2 (g * 4).toNat k.toNat (by omega) (by omega)]
  omega
theorem or_pack2 (k s : Int) (h1 : 0 ≤ k) (h2 : k < 4194304) (h3 : 0 ≤ s) (h4 : s ≤ 1099511627776) : bits .or .u64 k (s * 4194304) = k + s * 4194304 := by
  rw [u64_or _ _ (by omega) (by omega) (by omega) (by omega), Nat.or_comm, nat_join 22 (s * 4194304).toNat k.toNat (by omega) (by omega)]
  omega
theorem and_3 (h : Int) (h1 : 0 ≤ h) (h2 : h < 18446744073709551616) : bits .and .u64 h 3 = h % 4 := by
  rw [u64_and _ _ h1 h2 (by omega) (by omega), show (3 : Int).toNat = 3 from rfl, nat_mask2]
  omega
theorem and_20 (h : Int) (h1 : 0 ≤ h) (h2 : h < 18446744073709551616) : bits .and .u64 h 1048575 = h % 1048576 := by
  rw [u64_and _ _ h1 h2 (by omega) (by omega), show (1048575 : Int).toNat = 1048575 from rfl, nat_mask20]
  omega

set_option maxHeartbeats 400000 in
theorem pack_any (k g s : Int) (w : World) (h1 : 0 ≤ k) (h2 : k < 256) (h3 : 0 ≤ g) (h4 : g < 18446744073709551616) (h5 : 0 ≤ s) (h6 : s < 18446744073709551616) :
    Calls Tryd.prog 12 #[.agg #[.int .u8 k, .int .u64 g, .int .u64 s]] w fun e w' => e = .returned (.tuple #[.int .u64 (packW k g s), .int .i64 (packE k g s)]) ∧ w' = w.alloc (.cells #[.int .u8 k, .int .u64 g, .int .u64 s] 25) := by
  by_cases c1 : 3 < k
  · go_enter Tryd.func12, Tryd.ntmps12
    go_wp2
    go_ret2
    exact ⟨twoInts (by unfold packW; (repeat' split) <;> omega) (by unfold packE; (repeat' split) <;> omega), rfl⟩
  · by_cases c2 : 1048576 ≤ g
    · go_enter Tryd.func12, Tryd.ntmps12
      go_wp2
      go_ret2
      exact ⟨twoInts (by unfold packW; (repeat' split) <;> omega) (by unfold packE; (repeat' split) <;> omega), rfl⟩
    · by_cases c3 : 1099511627776 < s
      · go_enter Tryd.func12, Tryd.ntmps12
        go_wp2
        go_ret2
        exact ⟨twoInts (by unfold packW; (repeat' split) <;> omega) (by unfold packE; (repeat' split) <;> omega), rfl⟩
      · have o1 := or_pack k g h1 (by omega) h3 (by omega)
        have o2 := or_pack2 (k + g * 4) s (by omega) (by omega) h5 (by omega)
        go_enter Tryd.func12, Tryd.ntmps12
        go_wp2
        go_ret2
        exact ⟨twoInts (by unfold packW; (repeat' split) <;> omega) (by unfold packE; (repeat' split) <;> omega), rfl⟩

set_option maxHeartbeats 400000 in
theorem word_any (k g s : Int) (w : World) (h1 : 0 ≤ k) (h2 : k < 4) (h3 : 0 ≤ g) (h4 : g < 1048576) (h5 : 0 ≤ s) (h6 : s ≤ 1099511627776) :
    Calls Tryd.prog 23 #[.agg #[.int .u8 k, .int .u64 g, .int .u64 s]] w fun e w' => e = .returned (.int .u64 (k + g * 4 + s * 4194304)) ∧ w' = w.alloc (.cells #[.int .u8 k, .int .u64 g, .int .u64 s] 25) := by
  go_enter Tryd.func23, Tryd.ntmps23
  go_wp2
  go_ret
  exact ⟨oneInt (by omega), rfl⟩

set_option maxHeartbeats 400000 in
theorem refPack_any (k g s : Int) (w : World) (h1 : 0 ≤ k) (h2 : k < 256) (h3 : 0 ≤ g) (h4 : g < 18446744073709551616) (h5 : 0 ≤ s) (h6 : s < 18446744073709551616) :
    Calls Tryd.prog 18 #[.agg #[.int .u8 k, .int .u64 g, .int .u64 s]] w fun e w' => e = .returned (.tuple #[.int .u64 (packW k g s), .int .i64 (packE k g s)]) ∧
      (w' = w.alloc (.cells #[.int .u8 k, .int .u64 g, .int .u64 s] 25) ∨ w' = (w.alloc (.cells #[.int .u8 k, .int .u64 g, .int .u64 s] 25)).alloc (.cells #[.int .u8 k, .int .u64 g, .int .u64 s] 25)) := by
  by_cases c1 : 3 < k
  · go_enter Tryd.func18, Tryd.ntmps18
    go_wp2
    go_ret2
    exact ⟨twoInts (by unfold packW; (repeat' split) <;> omega) (by unfold packE; (repeat' split) <;> omega), .inl rfl⟩
  · by_cases c2 : 1048576 ≤ g
    · go_enter Tryd.func18, Tryd.ntmps18
      go_wp2
      go_ret2
      exact ⟨twoInts (by unfold packW; (repeat' split) <;> omega) (by unfold packE; (repeat' split) <;> omega), .inl rfl⟩
    · by_cases c3 : 1099511627776 < s
      · go_enter Tryd.func18, Tryd.ntmps18
        go_wp2
        go_ret2
        exact ⟨twoInts (by unfold packW; (repeat' split) <;> omega) (by unfold packE; (repeat' split) <;> omega), .inl rfl⟩
      · go_enter Tryd.func18, Tryd.ntmps18
        go_wp2_with fail
        refine (word_any k g s _ (by omega) (by omega) (by omega) (by omega) (by omega) (by omega)).mono ?_
        rintro e w' ⟨rfl, rfl⟩
        go_wp2
        go_ret2
        exact ⟨twoInts (by unfold packW; (repeat' split) <;> omega) (by unfold packE; (repeat' split) <;> omega), .inr rfl⟩

set_option maxHeartbeats 400000 in
theorem unpack_any (h : Int) (w : World) (h1 : 0 ≤ h) (h2 : h < 18446744073709551616) :
    Calls Tryd.prog 13 #[.int .u64 h] w fun e w' => e = .returned (.agg #[.int .u8 (h % 4), .int .u64 (h / 4 % 1048576), .int .u64 (h / 4194304)]) ∧ w' = w.alloc (.cells #[.int .u8 (h % 4), .int .u64 (h / 4 % 1048576), .int .u64 (h / 4194304)] 25) := by
  have o1 := and_3 h h1 h2
  have o2 := and_20 (h / 4) (by omega) (by omega)
  have o3 : h % 4 % 256 = h % 4 := by omega
  go_enter Tryd.func13, Tryd.ntmps13
  go_wp2
  exact bodyPost_ret (v := .agg #[.int .u8 (h % 4), .int .u64 (h / 4 % 1048576), .int .u64 (h / 4194304)]) (by simp [results, Tryd.results13, go_sem]) rfl ⟨rfl, rfl⟩

end Go.Proofs.YtoldkjlcfgpnoaaDoor
