/- Lists that were handed in, looked at again; lists too short or too long; the reference of Join. -/
import Derived.Test.YtoopbacnnkmpbabHand
import Derived.Test.YtoopbacnnkmpbabJoin
namespace Go.Proofs.Ytoopbacnnkmpbab
open Go.RowKit Go.Shelf

set_option maxHeartbeats 1000000 in
theorem same_zero (p q : Option Addr) (c d : Nat) (w : World) : Calls Try.prog 19 #[.slice p 0 c, .slice q 0 d] w fun e W' => e = .returned (.bool true) ∧ W' = w := by
  go_enter Try.func19, Try.ntmps19
  go_wp2
  go_loop [5] (fun i => i = .int .i64 0) (fun _ => 0)
  case atStart => exact rfl
  case round =>
    obtain rfl := hrel
    go_wp2
    go_ret
    exact ⟨rfl, rfl⟩

set_option maxHeartbeats 1000000 in
theorem kept_some (g b off n c : Nat) (zs : Nat → Int) (w : World) (hn : n ≤ 17592186043904) (hh : Handed w g n zs) (hu : ∀ j, j < n → w.cell? ⟨b, off + j, none⟩ = some (.int .i64 (zs j))) :
    Calls Try.prog 27 #[.slice (some ⟨g, 0, none⟩) n (n + 9), .slice (some ⟨b, off, none⟩) n c] w fun e W' => e = .returned (.bool true) ∧ Below w.heap.size w W' := by
  have HH := keepH hh
  have HU := keepH hu
  clear hh hu
  go_enter Try.func27, Try.ntmps27
  go_wp2_with fail
  refine (same_any g 0 b off n (n + 9) c zs _ (by omega) (fun j hj => by rw [Nat.zero_add]; exact HH.out.1 j hj) HU.out).mono ?_
  rintro e w1 ⟨rfl, l1⟩
  have H1 : Hid (∀ j, j < 9 → w1.cell? ⟨g, n + j, none⟩ = some (.int .i64 (-700 - (j : Int)))) := fun j hj => by
    have e := HH.out.2 j hj
    have hg : g < w.heap.size := by
      by_cases c : g < w.heap.size
      · exact c
      · simp [World.cell?, Array.getElem?_eq_none (show w.heap.size ≤ g by omega)] at e
    exact (l1.cell (p := ⟨g, n + j, none⟩) hg).trans e
  go_wp2
  go_loop [6] (fun i => ∃ m : Nat, m ≤ 9 ∧ i = .int .i64 ((n : Int) + (m : Int))) (fun i => n + 9 - (intOf i).toNat)
  case atStart => exact ⟨0, by omega, by simp⟩
  case round =>
    obtain ⟨m, hm, rfl⟩ := hrel
    by_cases hlt : m < 9
    · have x1 := H1.out m hlt
      have e1 : ((-700 - (m : Int)) != (-700 - ((n : Int) + (m : Int)) + (n : Int))) = false := by
        rw [show (-700 - ((n : Int) + (m : Int)) + (n : Int)) = -700 - (m : Int) by omega]; simp
      have i1 : (n : Int) + (m : Int) < (n : Int) + 9 := by omega
      go_wp2
      go_round
      case rel => exact ⟨m + 1, by omega, by go_num⟩
      case measure => simp [intOf]; omega
    · obtain rfl : m = 9 := by omega
      go_wp2
      go_ret
      exact ⟨rfl, l1⟩

set_option maxHeartbeats 1000000 in
theorem kept_zero (g : Nat) (p : Option Addr) (c : Nat) (zs : Nat → Int) (w : World) (hh : Handed w g 0 zs) :
    Calls Try.prog 27 #[.slice (some ⟨g, 0, none⟩) 0 9, .slice p 0 c] w fun e W' => e = .returned (.bool true) ∧ W' = w := by
  have HH := keepH hh
  clear hh
  go_enter Try.func27, Try.ntmps27
  go_wp2_with fail
  refine (same_zero _ _ _ _ _).mono ?_
  rintro e w1 ⟨rfl, rfl⟩
  go_wp2
  go_loop [6] (fun i => ∃ m : Nat, m ≤ 9 ∧ i = .int .i64 (m : Int)) (fun i => 9 - (intOf i).toNat)
  case atStart => exact ⟨0, by omega, rfl⟩
  case round =>
    obtain ⟨m, hm, rfl⟩ := hrel
    by_cases hlt : m < 9
    · have x1 := HH.out.2 m hlt
      rw [Nat.zero_add] at x1
      have i1 : (m : Int) < 9 := by omega
      go_wp2
      go_round
      case rel => exact ⟨m + 1, by omega, by go_num⟩
      case measure => simp [intOf]; omega
    · obtain rfl : m = 9 := by omega
      go_wp2
      go_ret
      exact ⟨rfl, rfl⟩

set_option maxHeartbeats 400000 in
theorem join_short (p : Option Addr) (n c : Nat) (w : World) (hn : ¬ n = 11) : Calls Try.prog 25 #[.slice p n c] w fun e W' => e = .returned (.tuple #[.int .u64 0, .bool false]) ∧ W' = w := by
  have h : ((n : Int) != 11) = true := bne_iff_ne.2 (by omega)
  go_enter Try.func25, Try.ntmps25
  go_wp2
  go_ret2
  exact ⟨rfl, rfl⟩
set_option maxHeartbeats 400000 in
theorem refJoin_short (p : Option Addr) (n c : Nat) (w : World) (hn : ¬ n = 11) : Calls Try.prog 26 #[.slice p n c] w fun e W' => e = .returned (.tuple #[.int .u64 0, .bool false]) ∧ W' = w := by
  have h : ((n : Int) != 11) = true := bne_iff_ne.2 (by omega)
  go_enter Try.func26, Try.ntmps26
  go_wp2
  go_ret2
  exact ⟨rfl, rfl⟩

theorem rv_last (zs : Nat → Int) (h : Good zs 10) : 0 ≤ rv zs 10 ∧ rv zs 10 < 1152921504606846976 := by
  have b := rv_bd zs 10 (by omega) h
  simp at b
  omega
theorem rv_small (zs : Nat → Int) (k : Nat) (hk : k < 10) (h : Good zs k) : 0 ≤ rv zs k ∧ rv zs k < 18014398509481984 := by
  have b := rv_bd zs k (by omega) h
  have p : (2 : Int) ^ (6 * k) ≤ 2 ^ 54 := by
    have := Nat.pow_le_pow_right (show 0 < 2 by decide) (show 6 * k ≤ 54 by omega)
    have e : ((2 ^ (6 * k) : Nat) : Int) ≤ ((2 ^ 54 : Nat) : Int) := by omega
    simpa using e
  simp at p
  omega

set_option maxHeartbeats 2000000 in
theorem refJoin_any (g o c : Nat) (zs : Nat → Int) (w : World) (hu : ∀ j, j < 11 → w.cell? ⟨g, o + j, none⟩ = some (.int .i64 (zs j))) (hb : ∀ j, j < 11 → -9223372036854775808 ≤ zs j ∧ zs j ≤ 9223372036854775807) :
    Calls Try.prog 26 #[.slice (some ⟨g, o, none⟩) 11 c] w fun e W' => Joined zs e ∧ W' = w := by
  have HU := keepH hu
  have HB := keepH hb
  clear hu hb
  go_enter Try.func26, Try.ntmps26
  go_wp2
  go_loop [4, 5] (fun h i => ∃ k : Nat, k ≤ 11 ∧ i = .int .i64 (k : Int) ∧ (k ≤ 10 ∧ h = .int .u64 (rv zs k) ∨ k = 11 ∧ h = .int .u64 (hv zs 11)) ∧ Hid (Good zs k)) (fun _ i => 11 - (intOf i).toNat)
  case atStart => exact ⟨0, by omega, rfl, .inl ⟨by omega, rfl⟩, fun j hj => by omega⟩
  case round =>
    obtain ⟨k, hk, rfl, ⟨hk2, rfl⟩ | ⟨rfl, rfl⟩, HG⟩ := hrel
    · have x1 := HU.out k (by omega)
      have x2 := HB.out k (by omega)
      have i1 : (k : Int) < 11 := by omega
      by_cases z0 : zs k < 0
      · go_wp2
        go_ret2
        exact ⟨.inr ⟨rfl, fun hg => by have := hg k (by omega); omega⟩, rfl⟩
      · by_cases z1 : 63 < zs k
        · go_wp2
          go_ret2
          exact ⟨.inr ⟨rfl, fun hg => by
            have := hg k (by omega)
            unfold topN at this
            split at this <;> omega⟩, rfl⟩
        · by_cases h10 : k = 10
          · subst h10
            by_cases z2 : 15 < zs 10
            · go_wp2
              go_ret2
              exact ⟨.inr ⟨rfl, fun hg => by have := hg 10 (by omega); rw [top_ten] at this; omega⟩, rfl⟩
            · have b := rv_last zs HG.out
              go_wp2
              exact ⟨⟨11, by omega, rfl, .inr ⟨rfl, rfl⟩, good_succ HG.out (by omega) (by rw [top_ten]; omega)⟩, by simp [intOf]⟩
          · have b := rv_small zs k (by omega) HG.out
            have g1 : ((k : Int) == 10) = false := beq_eq_false_iff_ne.2 (by omega)
            go_wp2
            exact ⟨⟨k + 1, by omega, by go_num, .inl ⟨by omega, rfl⟩, good_succ HG.out (by omega) (by rw [top_lt h10]; omega)⟩, by simp [intOf]; omega⟩
    · go_wp2
      go_ret2
      exact ⟨.inl ⟨rfl, HG.out⟩, rfl⟩
end Go.Proofs.Ytoopbacnnkmpbab
